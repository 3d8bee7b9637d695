/-
  The theorem of turns.
-/
import Derived.Test.YtpolehfkjpbofaaTaH
namespace Go.Proofs.Ytpolehfkjpbofaa.Ta
open Go.ChangeShapes Go.WideShapes Go.ChangeAt Go.RowKit
open Go.Conc (G solo rcase scase)
/-- a slice of integers that came in: nil, or a row of cells -/
def IsRow (k : IntKind) (w : World) (a : Option Addr) (len cap : Nat) (zs : List Int) : Prop :=
  (a = none ∧ len = 0 ∧ cap = 0 ∧ zs = []) ∨
  ∃ x, a = some x ∧ len ≤ cap ∧ cap ≤ maxLen ∧ zs.length = cap ∧ (∀ i, i < zs.length → w.cell? (x.add i) = some (.int k (zs.getD i 0))) ∧ ∀ n ∈ zs, (Lit.int k n).wf = true
/-- bytes, as they lie -/
def TurnAt (w : World) (a : Option Addr) (len : Nat) : Prop :=
  len ≤ maxLen ∧ (len = 0 ∨ ∃ (b off : Nat) (f : Nat → Nat), a = some ⟨b, off, none⟩ ∧ b < w.heap.size ∧ ∀ i, i < len → w.cell? ⟨b, off + i, none⟩ = some (.int .u8 (f i : Int)) ∧ f i ≤ 255)
theorem addr_add2 (b off i : Nat) : (⟨b, off, none⟩ : Addr).add i = ⟨b, off + i, none⟩ := by
  by_cases h : i = 0
  · subst h; simp [Addr.add]
  · simp [Addr.add, h]
theorem isRow_turn {w : World} {a : Option Addr} {len cap : Nat} {zs : List Int} (h : IsRow .u8 w a len cap zs) : TurnAt w a len := by
  rcases h with ⟨rfl, rfl, rfl, _⟩ | ⟨x, rfl, hl, hm, hz, hcell, hwz⟩
  · exact ⟨Nat.zero_le _, .inl rfl⟩
  · refine ⟨by omega, ?_⟩
    by_cases h0 : len = 0
    · exact .inl h0
    · obtain ⟨b, off, spot⟩ := x
      have h1 := hcell 0 (by omega)
      have hspot : spot = none := by simpa [Addr.add] using World.cell?_spot h1
      subst hspot
      refine .inr ⟨b, off, fun i => (zs.getD i 0).toNat, rfl, World.block_lt_of_cell? w ⟨b, off + 0, none⟩ (by rw [addr_add2] at h1; exact h1), fun i hi => ?_⟩
      have hi' : i < zs.length := by omega
      have hw := hwz (zs.getD i 0) (by rw [List.getD_eq_getElem?_getD, List.getElem?_eq_getElem hi']; exact List.getElem_mem hi')
      simp [Lit.wf] at hw
      have e5 : IntKind.u8.min = 0 := rfl
      have e6 : IntKind.u8.max = 255 := rfl
      have e := hcell i hi'
      rw [addr_add2] at e
      have e2 : ((zs.getD i 0).toNat : Int) = zs.getD i 0 := by simp only [List.getD_eq_getElem?_getD] at *; omega
      refine ⟨?_, ?_⟩
      · show w.cell? ⟨b, off + i, none⟩ = some (.int .u8 ((zs.getD i 0).toNat : Int))
        rw [e2]; exact e
      · show (zs.getD i 0).toNat ≤ 255
        simp only [List.getD_eq_getElem?_getD] at *; omega
/-- who waits, and how long yet -/
def Fair (ws : List Int) (t k : Nat) : Prop := ws.length = k ∧ ∀ j, j < k → 0 ≤ ws.getD j 0 ∧ ∀ x, x < k → (t + x) % k = j → ws.getD j 0 + (x : Int) < (k : Int)
theorem fair_zero (k : Nat) : Fair (List.replicate k 0) 0 k := ⟨by simp, fun j hj => ⟨by simp [hj], fun x hx _ => by simp [hj]; omega⟩⟩
theorem Fair.lt {ws : List Int} {t k : Nat} (h : Fair ws t k) (ht : t < k) {j : Nat} (hj : j < k) : ws.getD j 0 < (k : Int) := by
  obtain ⟨x, hx, e⟩ := all_met ht hj
  have := (h.2 j hj).2 x hx e
  omega
def newW (ws cs : List Int) (pt : Int) (k : Nat) : List Int := (List.range k).map fun j => if 0 < cs.getD j 0 ∧ (j : Int) ≠ pt then ws.getD j 0 + 1 else 0
theorem newW_len (ws cs : List Int) (pt : Int) (k : Nat) : (newW ws cs pt k).length = k := by simp [newW]
theorem newW_get {ws cs : List Int} {pt : Int} {k j : Nat} (hj : j < k) : (newW ws cs pt k).getD j 0 = if 0 < cs.getD j 0 ∧ (j : Int) ≠ pt then ws.getD j 0 + 1 else 0 := by simp [newW, hj]
theorem fair_step {ws : List Int} {P : List (List Int)} {t k : Nat} (h : Fair ws t k) (hl : P.length = k) (ht : t < k) : Fair (newW ws (cntsP P) (nextS P t).2.2.1 k) (nextS P t).2.1 k := by
  refine ⟨newW_len _ _ _ _, fun j hj => ?_⟩
  rw [newW_get hj]
  have hc : (cntsP P).getD j 0 = ((P.getD j []).length : Int) := cntsP_get P (by omega)
  split
  · rename_i hh
    have hne : P.getD j [] ≠ [] := fun e => by rw [hc, e] at hh; simp at hh
    refine ⟨by have := (h.2 j hj).1; omega, fun x hx e => ?_⟩
    unfold nextS at e hh
    cases hf : fndS P t P.length 0 with
    | none => exact absurd (fndS_all (by omega) hf j (by omega)) hne
    | some d =>
      rw [hf] at e hh
      simp only [hl] at e hh
      obtain ⟨_, h2, h3, h4⟩ := fndS_some hf
      rw [hl] at h2 h3 h4
      have e1 : (t + (d + 1 + x)) % k = j := by
        have : ((t + d) % k + 1) % k = (t + d + 1) % k := by rw [Nat.mod_add_mod]
        rw [this, Nat.mod_add_mod] at e
        rw [← e]
        congr 1
        omega
      rcases Nat.lt_or_ge (d + 1 + x) k with hy | hy
      · have := (h.2 j hj).2 _ hy e1
        omega
      · have e2 : (t + (d + 1 + x - k)) % k = j := by
          rw [← e1, show t + (d + 1 + x) = t + (d + 1 + x - k) + k by omega, Nat.add_mod_right]
        rcases Nat.lt_or_ge (d + 1 + x - k) d with hz | hz
        · exact absurd (by rw [← e2]; exact h4 _ (Nat.zero_le _) hz) hne
        · have e3 : d + 1 + x - k = d := by omega
          rw [e3] at e2
          exact absurd (by rw [e2]) hh.2
  · exact ⟨Int.le_refl _, fun x hx _ => by omega⟩
theorem putS_len (P : List (List Int)) (R : Nat) (pipe n : Int) : (putS P R pipe n).1.length = P.length := by
  unfold putS; split <;> (try split) <;> simp
theorem nextS_len (P : List (List Int)) (t : Nat) : (nextS P t).1.length = P.length := by
  unfold nextS; split <;> simp
theorem nextS_turn {P : List (List Int)} {t : Nat} (ht : t < P.length) : (nextS P t).2.1 < P.length := by
  unfold nextS; split
  · exact ht
  · exact Nat.mod_lt _ (by omega)
theorem nextS_ok {P : List (List Int)} {t j : Nat} (ht : t < P.length) (hj : j < P.length) (h : 0 < (cntsP P).getD j 0) : (nextS P t).2.2.2.2 = 0 := by
  unfold nextS
  cases hf : fndS P t P.length 0 with
  | none =>
    have := fndS_all ht hf j hj
    rw [cntsP_get P hj, this] at h
    simp at h
  | some d => rfl
/-- the first so many of one list, then of another -/
def mix2 (a b : List Int) (i : Nat) : List Int := a.take i ++ b.drop i
theorem mix2_zero (a b : List Int) : mix2 a b 0 = b := by simp [mix2]
theorem mix2_all (a b : List Int) (h : a.length = b.length) : mix2 a b a.length = a := by
  have e : b.drop a.length = [] := List.drop_of_length_le (by omega)
  unfold mix2
  rw [e, List.take_length, List.append_nil]
theorem mix2_get {a b : List Int} {i : Nat} (h : a.length = b.length) (hi : i < a.length) : (mix2 a b i)[i]? = some (b.getD i 0) := by
  unfold mix2
  rw [List.getElem?_append_right (by simp; omega)]
  simp only [List.length_take, List.getElem?_drop]
  rw [show i + (i - min i a.length) = i by omega]
  simp [show i < b.length by omega]
theorem mix2_set {a b : List Int} {i : Nat} (h : a.length = b.length) (hi : i < a.length) : (mix2 a b i).set i (a.getD i 0) = mix2 a b (i + 1) := by
  apply List.ext_getElem?
  intro j
  unfold mix2
  rw [List.getElem?_set]
  by_cases e : i = j
  · subst e
    rw [if_pos rfl]
    grind
  · simp only [e, if_false, List.getElem?_append, List.length_take, List.getElem?_take, List.getElem?_drop]
    grind
/-- a block alone was written -/
structure Only (g : Nat) (w w' : World) : Prop where
  os : w'.os = w.os
  tape : w'.tape = w.tape
  output : w'.output = w.output
  size : w'.heap.size = w.heap.size
  block : ∀ b, b ≠ g → w'.heap[b]? = w.heap[b]?
theorem Only.refl (g : Nat) (w : World) : Only g w w := ⟨rfl, rfl, rfl, rfl, fun _ _ => rfl⟩
theorem Only.set {g i : Nat} {w w' : World} (h : Only g w w') (v : Value) : Only g w (w'.setCell ⟨g, i, none⟩ v) :=
  ⟨h.os, h.tape, h.output, by unfold World.setCell; simpa using h.size, fun b hb => (heap_setCell_other w' ⟨g, i, none⟩ b v hb).trans (h.block b hb)⟩
theorem Only.below {B g : Nat} {w w' : World} (h : Only g w w') (hg : B ≤ g) : Below B w w' := ⟨h.os, h.tape, h.output, Nat.le_of_eq h.size.symm, fun k hk => h.block k (by omega)⟩
theorem TapG.only {B : Nat} {w w' : World} {p : Nat} {P : List (List Int)} {R t g : Nat} {cs : List Nat} (h : TapG B w p P R t g cs) {gw : Nat} {l : List Value} (hr : Rw w gw 3 l) (ho : Only gw w w') : TapG B w' p P R t g cs := by
  unfold Rw at hr
  refine ⟨h.bp, h.bg, h.bc, h.nd, h.len, h.box.kept (ho.block _ fun e => ?_), (ho.block _ fun e => ?_).trans h.row, fun i c hc => ?_⟩
  · subst e; have := h.box; unfold Bx2 at this; rw [hr] at this; simp at this
  · subst e; have := h.row; unfold Rw at this; rw [hr] at this; simp at this
  · obtain ⟨s, r, hh⟩ := h.chs i c hc
    exact ⟨s, r, (ho.block _ fun e => by subst e; rw [hr] at hh; simp at hh).trans hh⟩
theorem cell_block {w w' : World} {b i : Nat} (h : w'.heap[b]? = w.heap[b]?) : w'.cell? ⟨b, i, none⟩ = w.cell? ⟨b, i, none⟩ := by
  unfold World.cell?; rw [show w'.heap[(⟨b, i, none⟩ : Addr).block]? = _ from h]
theorem KpT.cell {p : Nat} {w w' : World} (h : KpT p w w') {b i : Nat} {v : Value} (hb : b ≠ p) (hc : w.cell? ⟨b, i, none⟩ = some v) : w'.cell? ⟨b, i, none⟩ = some v := by
  have hc' := hc
  unfold World.cell? at hc'
  split at hc'
  · rename_i c e f hh
    rw [cell_block (w := w) (w' := w') ((h b _ hh hb (fun _ _ _ _ _ _ => by simp)).trans hh.symm)]
    exact hc
  · cases hc'
theorem KpT.rw {p : Nat} {w w' : World} (h : KpT p w w') {g T : Nat} {l : List Value} (hg : g ≠ p) (hr : Rw w g T l) : Rw w' g T l := h g _ hr hg (fun _ _ _ _ _ _ => by simp)
theorem Rw.below {w w' : World} {g T : Nat} {l : List Value} (h : Rw w g T l) (hb : Below w.heap.size w w') : Rw w' g T l := (hb.block g h.lt).trans h
theorem TapAt.apart {B : Nat} {w : World} {p : Nat} {P : List (List Int)} {R t : Nat} (h : TapAt B w p P R t) {g T : Nat} {l : List Value} (hr : Rw w g T l) (hT : T ≠ 53) : g ≠ p := by
  obtain ⟨_, _, h⟩ := h
  intro e
  subst e
  have := h.box
  unfold Bx2 at this
  unfold Rw at hr
  rw [hr] at this
  simp at this
  exact hT this.2
theorem TapAt.only {B : Nat} {w w' : World} {p : Nat} {P : List (List Int)} {R t : Nat} (h : TapAt B w p P R t) {gw : Nat} {l : List Value} (hr : Rw w gw 3 l) (ho : Only gw w w') : TapAt B w' p P R t := by
  obtain ⟨g, cs, h⟩ := h
  exact ⟨g, cs, h.only hr ho⟩
end Go.Proofs.Ytpolehfkjpbofaa.Ta
