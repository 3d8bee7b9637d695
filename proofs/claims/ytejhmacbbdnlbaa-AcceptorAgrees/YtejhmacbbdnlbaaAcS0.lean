/-
  What is prepared, or accepted, may be.
-/
import Derived.Test.YtejhmacbbdnlbaaAcP
import Derived.Test.YtejhmacbbdnlbaaAcQ
namespace Go.Proofs.Ytejhmacbbdnlbaa.Ac
open Go.ChangeShapes Go.WideShapes Go.ChangeAt Go.RowKit
theorem okA_parts {p : Int} {ls : List Acd} (h : okA p ls = true) : inC p = true ∧ ls.length ≤ 256 ∧ idle ls = false ∧ ∀ x ∈ ls, okX p x = true := by
  unfold okA at h
  simp only [Bool.and_eq_true, decide_eq_true_iff, Bool.not_eq_true'] at h
  exact ⟨h.1.1.1, h.1.1.2, h.1.2, List.all_eq_true.1 h.2⟩
theorem okA_of {p : Int} {ls : List Acd} (h1 : inC p = true) (h2 : ls.length ≤ 256) (h3 : idle ls = false) (h4 : ∀ x ∈ ls, okX p x = true) : okA p ls = true := by
  unfold okA
  rw [h1, decide_eq_true h2, h3, List.all_eq_true.2 h4]
  rfl
theorem okX_mono {p r : Int} {x : Acd} (h : okX p x = true) (hp : p ≤ r) : okX r x = true := by
  unfold okX at h ⊢
  by_cases hb : x.b = 0
  · rw [if_pos hb] at h ⊢; exact h
  · rw [if_neg hb] at h ⊢
    rw [Bool.and_eq_true, inB_iff] at h ⊢
    exact ⟨⟨h.1.1, by omega⟩, h.2⟩
theorem prepE_zero {p : Int} {ls : List Acd} {b f : Int} (h : prepE p ls b f = 0) : okA p ls = true ∧ inB b 1 2147483647 = true ∧ inB f 1 257 = true ∧ p ≤ b := by
  unfold prepE at h
  by_cases h1 : okA p ls = true
  · rw [if_pos h1] at h
    by_cases h2 : (inB b 1 2147483647 && inB f 1 257) = true
    · rw [if_pos h2] at h
      by_cases h3 : b < p
      · rw [if_pos h3] at h; omega
      · rw [Bool.and_eq_true] at h2
        exact ⟨h1, h2.1, h2.2, by omega⟩
    · rw [if_neg h2] at h; omega
  · rw [if_neg h1] at h; omega
theorem accE_zero {p : Int} {ls : List Acd} {b s : Int} {d : Dl} (h : accE p ls b s d = 0) : okA p ls = true ∧ inB b 1 2147483647 = true ∧ inB s 1 256 = true ∧ okD d = true ∧ p ≤ b := by
  unfold accE at h
  by_cases h1 : okA p ls = true
  · rw [if_pos h1] at h
    by_cases h2 : (inB b 1 2147483647 && inB s 1 256 && okD d) = true
    · rw [if_pos h2] at h
      by_cases h3 : b < p
      · rw [if_pos h3] at h; omega
      · rw [Bool.and_eq_true, Bool.and_eq_true] at h2
        exact ⟨h1, h2.1.1, h2.1.2, h2.2, by omega⟩
    · rw [if_neg h2] at h; omega
  · rw [if_neg h1] at h; omega
theorem okA_prep {p : Int} {ls : List Acd} (h : okA p ls = true) (b f : Int) : okA (prepP p ls b f) (prepL p ls) = true := by
  unfold prepP prepL
  rw [if_pos h, if_pos h]
  by_cases he : prepE p ls b f = 0
  · rw [if_pos he]
    obtain ⟨-, hb, -, hpb⟩ := prepE_zero he
    rw [inB_iff] at hb
    obtain ⟨h1, h2, h3, h4⟩ := okA_parts h
    exact okA_of ((inB_iff _ _ _).2 ⟨by omega, hb.2⟩) h2 h3 fun x hx => okX_mono (h4 x hx) hpb
  · rw [if_neg he]; exact h
theorem okX_zero (p : Int) : okX p acd0 = true := by
  unfold okX
  rw [if_pos (show acd0.b = 0 from rfl)]
  exact (eqD_iff _ _).2 rfl
theorem mem_getD {ls : List Acd} {i : Nat} (h : i < ls.length) : ls.getD i acd0 ∈ ls := by
  rw [List.getD_eq_getElem?_getD, List.getElem?_eq_getElem h]
  exact List.getElem_mem h
theorem okA_put {p : Int} {ls : List Acd} (h : okA p ls = true) {b : Int} {m : Nat} {d : Dl} (hb : inB b 1 2147483647 = true) (hm : m + 1 ≤ 256) (hd : okD d = true) (hpb : p ≤ b) : okA b (putS ls (m + 1) ⟨b, d⟩) = true := by
  rw [inB_iff] at hb
  obtain ⟨h1, h2, h3, h4⟩ := okA_parts h
  have hlen := putS_len ls m ⟨b, d⟩
  have hx : okX b ⟨b, d⟩ = true := by
    unfold okX
    rw [if_neg (show ¬ (⟨b, d⟩ : Acd).b = 0 from by show ¬ b = 0; omega), hd, (inB_iff b 1 b).2 ⟨hb.1, Int.le_refl _⟩]
    rfl
  refine okA_of ((inB_iff _ _ _).2 ⟨by omega, hb.2⟩) (by omega) ?_ fun x hxm => ?_
  · cases hi : idle (putS ls (m + 1) ⟨b, d⟩) with
    | false => rfl
    | true =>
      unfold idle at hi
      rw [Bool.and_eq_true, decide_eq_true_iff, decide_eq_true_iff, putS_get _ _ _ _ (by omega)] at hi
      by_cases e : (putS ls (m + 1) ⟨b, d⟩).length - 1 = m
      · rw [if_pos e] at hi
        have : b = 0 := hi.2
        omega
      · rw [if_neg e] at hi
        have hle : (putS ls (m + 1) ⟨b, d⟩).length = ls.length := by omega
        rw [hle] at hi
        have : idle ls = true := by unfold idle; rw [decide_eq_true (by omega : 0 < ls.length), decide_eq_true hi.2]; rfl
        rw [h3] at this
        cases this
  · obtain ⟨i, hi, rfl⟩ := List.mem_iff_getElem.1 hxm
    have hg := putS_get ls m i ⟨b, d⟩ (by omega)
    rw [List.getD_eq_getElem?_getD, List.getElem?_eq_getElem hi] at hg
    have hg' : (putS ls (m + 1) ⟨b, d⟩)[i] = if i = m then ⟨b, d⟩ else ls.getD i acd0 := hg
    rw [hg']
    by_cases e : i = m
    · rw [if_pos e]; exact hx
    · rw [if_neg e]
      by_cases hil : i < ls.length
      · exact okX_mono (h4 _ (mem_getD hil)) hpb
      · rw [List.getD_eq_getElem?_getD, List.getElem?_eq_none (by omega)]
        exact okX_zero b
theorem okA_acc {p : Int} {ls : List Acd} (h : okA p ls = true) (b s : Int) (d : Dl) : okA (accP p ls b s d) (accL p ls b s d) = true := by
  unfold accP accL
  rw [if_pos h, if_pos h]
  by_cases he : accE p ls b s d = 0
  · rw [if_pos he, if_pos he]
    obtain ⟨-, hb, hs, hd, hpb⟩ := accE_zero he
    rw [inB_iff] at hs
    have := okA_put h (m := (s - 1).toNat) hb (by omega) hd hpb
    rw [show (s - 1).toNat + 1 = s.toNat by omega] at this
    exact this
  · rw [if_neg he, if_neg he]; exact h
theorem rpr_same {p : Int} {ls : List Acd} (h : okA p ls = true) (b f : Int) : rprE p b f = prepE p ls b f := by
  unfold rprE prepE
  rw [if_pos h]
theorem rpa_same {p : Int} {ls : List Acd} (h : okA p ls = true) (b s : Int) (d : Dl) : rprA p b s d = accE p ls b s d := by
  unfold rprA accE
  rw [if_pos h]
theorem eqS_self (p : Int) (ls : List Acd) : eqS p p ls ls = true := (eqS_iff _ _ _ _).2 ⟨rfl, rfl⟩
theorem eqL_self (ls : List Acd) : eqL ls ls = true := (eqL_iff _ _).2 rfl
def B3 (w : World) (b T : Nat) (v0 v1 v2 : Value) : Prop := w.heap[b]? = some (.cells #[v0, v1, v2] T (0, 0))
theorem B3.lt {w : World} {b T : Nat} {v0 v1 v2 : Value} (h : B3 w b T v0 v1 v2) : b < w.heap.size := (Array.getElem?_eq_some_iff.1 h).1
theorem B3.kept {w : World} {b T : Nat} {v0 v1 v2 : Value} (h : B3 w b T v0 v1 v2) {w' : World} (e : w'.heap[b]? = w.heap[b]?) : B3 w' b T v0 v1 v2 := e.trans h
theorem B3.below {w : World} {b T : Nat} {v0 v1 v2 : Value} (h : B3 w b T v0 v1 v2) {w' : World} (hb : Below w.heap.size w w') : B3 w' b T v0 v1 v2 := h.kept (hb.block b h.lt)
theorem B3.new (w : World) (T : Nat) (v0 v1 v2 : Value) : B3 (w.alloc (.cells #[v0, v1, v2] T)) w.heap.size T v0 v1 v2 := heap_alloc_new w _
theorem B3.cells {w : World} {b T : Nat} {v0 v1 v2 : Value} (h : B3 w b T v0 v1 v2) : w.cell? ⟨b, 0, none⟩ = some v0 ∧ w.cell? ⟨b, 1, none⟩ = some v1 ∧ w.cell? ⟨b, 2, none⟩ = some v2 := by
  unfold World.cell?
  refine ⟨?_, ?_, ?_⟩
  · rw [show w.heap[(⟨b, 0, none⟩ : Addr).block]? = _ from h]; rfl
  · rw [show w.heap[(⟨b, 1, none⟩ : Addr).block]? = _ from h]; rfl
  · rw [show w.heap[(⟨b, 2, none⟩ : Addr).block]? = _ from h]; rfl
theorem B3.frz {w : World} {b T : Nat} {v0 v1 v2 : Value} (h : B3 w b T v0 v1 v2) : w.frozen? ⟨b, 0, none⟩ = false ∧ w.frozen? ⟨b, 1, none⟩ = false ∧ w.frozen? ⟨b, 2, none⟩ = false := by
  unfold World.frozen?
  refine ⟨?_, ?_, ?_⟩
  · rw [show w.heap[(⟨b, 0, none⟩ : Addr).block]? = _ from h]; rfl
  · rw [show w.heap[(⟨b, 1, none⟩ : Addr).block]? = _ from h]; rfl
  · rw [show w.heap[(⟨b, 2, none⟩ : Addr).block]? = _ from h]; rfl
def set3 (w : World) (b : Nat) (u0 u1 u2 : Value) : World := (((w.setCell ⟨b, 0, none⟩ u0).setCell ⟨b, 1, none⟩ u1).setCell ⟨b, 2, none⟩ u2)
theorem B3.set {w : World} {b T : Nat} {v0 v1 v2 : Value} (h : B3 w b T v0 v1 v2) (u0 u1 u2 : Value) : B3 (set3 w b u0 u1 u2) b T u0 u1 u2 := by
  unfold set3
  have h0 := heap_setCell_same w b 0 _ _ u0 h
  have h1 := heap_setCell_same (w.setCell ⟨b, 0, none⟩ u0) b 1 _ _ u1 h0
  have h2 := heap_setCell_same ((w.setCell ⟨b, 0, none⟩ u0).setCell ⟨b, 1, none⟩ u1) b 2 _ _ u2 h1
  unfold B3
  rw [h2]
  simp
theorem B3.put0 {w : World} {b T : Nat} {v0 v1 v2 : Value} (h : B3 w b T v0 v1 v2) (u : Value) : B3 (w.setCell ⟨b, 0, none⟩ u) b T u v1 v2 := heap_setCell_same w b 0 _ _ u h
theorem B3.put1 {w : World} {b T : Nat} {v0 v1 v2 : Value} (h : B3 w b T v0 v1 v2) (u : Value) : B3 (w.setCell ⟨b, 1, none⟩ u) b T v0 u v2 := heap_setCell_same w b 1 _ _ u h
theorem B3.put2 {w : World} {b T : Nat} {v0 v1 v2 : Value} (h : B3 w b T v0 v1 v2) (u : Value) : B3 (w.setCell ⟨b, 2, none⟩ u) b T v0 v1 u := heap_setCell_same w b 2 _ _ u h
theorem B3.else {w : World} {b T : Nat} {v0 v1 v2 : Value} (h : B3 w b T v0 v1 v2) {c i : Nat} (u : Value) (hne : b ≠ c) : B3 (w.setCell ⟨c, i, none⟩ u) b T v0 v1 v2 := h.kept (heap_setCell_other _ ⟨c, i, none⟩ b _ hne)
theorem set3_else {w : World} {b k : Nat} (u0 u1 u2 : Value) (h : k ≠ b) : (set3 w b u0 u1 u2).heap[k]? = w.heap[k]? := by
  unfold set3
  rw [heap_setCell_other _ ⟨b, 2, none⟩ k _ h, heap_setCell_other _ ⟨b, 1, none⟩ k _ h, heap_setCell_other _ ⟨b, 0, none⟩ k _ h]
theorem set3_below {N : Nat} {w0 w : World} {b : Nat} (h : Below N w0 w) (hb : N ≤ b) (u0 u1 u2 : Value) : Below N w0 (set3 w b u0 u1 u2) := (((h.setCell (p := ⟨b, 0, none⟩) hb _).setCell (p := ⟨b, 1, none⟩) hb _).setCell (p := ⟨b, 2, none⟩) hb _)
end Go.Proofs.Ytejhmacbbdnlbaa.Ac
