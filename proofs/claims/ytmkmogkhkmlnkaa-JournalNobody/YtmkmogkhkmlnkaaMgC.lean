/-
  The contract of FrameDecodes: at all bytes it returns true, and writes nothing that was there.
  The contracts of the functions that tell whether lists of numbers, of texts, of bytes are alike.
  Facts on a world in which one block is written and others grow.
  Bytes that are no data's.
  The contracts of putSum and four: a sum's four bytes, the highest first.
-/
import Derived.Test.YtmkmogkhkmlnkaaMgB
import Derived.Deep.RegionHeld3
import Derived.Deep.QuietTactic
import Derived.Test.YtmkmogkhkmlnkaaMgA
import Derived.RegionTactic
import Derived.ChangeAlike
import Derived.Deep.RegionLaw
import Derived.Laws.AppendOwn
namespace Go.Proofs.Ytmkmogkhkmlnkaa.Fr
open Go.ChangeShapes Go.WideShapes Go.ChangeAt Go.RowKit
theorem RowAt.cells {w : World} {x : Addr} {len cap : Nat} {cs : List Value} (h : RowAt w (Option.some x) len cap cs) : ∀ j u, cs[j]? = Option.some u → w.cell? (x.add j) = Option.some u := by
  intro j u hj
  have hlt : j < cs.length := (List.getElem?_eq_some_iff.1 hj).1
  rw [h.1] at hlt
  obtain ⟨b, off, e, hc⟩ := h.some (by omega)
  obtain rfl := Option.some.inj e
  rw [addr_add, hc j hlt]
  exact hj
theorem noData_at (w : World) : DataAt w noData [] [] := ⟨_, _, _, _, _, _, rfl, rowAt_nil w, rowAt_nil w, by simp, by simp⟩
theorem noData_at2 (w : World) : DataAt w (.agg #[.slice none 0 0, .slice none 0 0]) [] [] := noData_at w
theorem dec_same {w1 w2 : World} {l : List UInt8} {v1 v2 : Value} {c1 c2 : Nat} (h1 : DecIs w1 l v1 c1) (h2 : DecIs w2 l v2 c2) :
    c1 = c2 ∧ ((v1 = noData ∧ v2 = noData) ∨ ∃ nums texts, DataAt w1 v1 nums texts ∧ DataAt w2 v2 nums texts) := by
  rcases h1 with ⟨a1, b1, d1⟩ | ⟨a1, b1, d1, e1⟩ | ⟨a1, d1, nums, texts, e1, f1, g1⟩ <;> rcases h2 with ⟨a2, b2, d2⟩ | ⟨a2, b2, d2, e2⟩ | ⟨a2, d2, nums2, texts2, e2, f2, g2⟩
  · exact ⟨by rw [d1, d2], .inl ⟨b1, b2⟩⟩
  · omega
  · omega
  · omega
  · exact ⟨by rw [d1, d2], .inl ⟨b1, b2⟩⟩
  · exact absurd g2 (e1 _ _ f2)
  · omega
  · exact absurd g1 (e2 _ _ f1)
  · rw [g1] at g2
    obtain ⟨rfl, rfl⟩ := bytesL_inj g2
    exact ⟨by rw [d1, d2], .inr ⟨_, _, e1, e2⟩⟩
end Go.Proofs.Ytmkmogkhkmlnkaa.Fr
namespace Go.Proofs.Ytmkmogkhkmlnkaa.Fr
open Go.ChangeShapes Go.WideShapes Go.ChangeAt Go.RowKit
theorem str_ne {x y : ByteArray} (h : ¬ x = y) : (x.toList == y.toList) = false := by
  rw [ByteArray.toList_eq, ByteArray.toList_eq]
  exact beq_eq_false_iff_ne.2 fun e => h (bytes_ext e)
theorem take_ext {α : Type} {l m : List α} (d : α) {k : Nat} (h : l.take k = m.take k) (hk : k < l.length) (hm : k < m.length) (e : l.getD k d = m.getD k d) : l.take (k + 1) = m.take (k + 1) := by
  rw [List.take_succ_eq_append_getElem hk, List.take_succ_eq_append_getElem hm, h]
  rw [List.getD_eq_getElem?_getD, List.getElem?_eq_getElem hk, List.getD_eq_getElem?_getD, List.getElem?_eq_getElem hm] at e
  simp at e
  rw [e]
set_option maxHeartbeats 4000000 in
theorem ints_any (a : Option Addr) (n1 c1 : Nat) (b : Option Addr) (n2 c2 : Nat) (l m : List Int) (w : World) (h1 : RowAt w a n1 c1 (cellsI l)) (h2 : RowAt w b n2 c2 (cellsI m)) :
    Calls Try.prog 50 #[.slice a n1 c1, .slice b n2 c2] w fun e w' => Below w.heap.size w w' ∧ ∃ q : Bool, e = .returned (.bool q) ∧ (q = true ↔ l = m) := by
  have hl : l.length = n1 := by simpa [cellsI] using h1.1
  have hm : m.length = n2 := by simpa [cellsI] using h2.1
  have hx : n1 ≤ maxLen := Nat.le_trans h1.2.1 h1.2.2.1
  have hy : n2 ≤ maxLen := Nat.le_trans h2.2.1 h2.2.2.1
  unfold maxLen at hx hy
  have H1 : Hid (RowAt w a n1 c1 (cellsI l)) := h1
  have H2 : Hid (RowAt w b n2 c2 (cellsI m)) := h2
  clear h1 h2
  by_cases hn : n1 = n2
  · subst hn
    go_enter Try.func50, Try.ntmps50
    go_wp2
    go_loopw [5] (fun i wr => ∃ k : Nat, k ≤ n1 ∧ i = .int .i64 k ∧ Hid (l.take k = m.take k) ∧ Below w.heap.size w wr) (fun i _ => n1 - (intOf i).toNat)
    case atStart => exact ⟨0, Nat.zero_le _, rfl, by show _ = _; simp, Below.refl _ _⟩
    case round =>
      obtain ⟨k, hk, rfl, hT, hbel⟩ := hrel
      by_cases hlt : k < n1
      · obtain ⟨p, off, rfl, hcell⟩ := (H1.out.below hbel).some (by omega)
        obtain ⟨p2, off2, rfl, hcell2⟩ := (H2.out.below hbel).some (by omega)
        have hc := hcell k hlt
        have hc2 := hcell2 k hlt
        rw [cellsI_get l k (by omega)] at hc
        rw [cellsI_get m k (by omega)] at hc2
        clear hcell hcell2
        have hi0 : (0 : Int) ≤ (k : Int) := by omega
        have hi1 : (k : Int) < (n1 : Int) := by omega
        have HE : Hid (l.getD k 0 = m.getD k 0 → l.take (k + 1) = m.take (k + 1)) := fun e => take_ext 0 hT.out (by omega) (by omega) e
        have HNE : Hid (l = m → l.getD k 0 = m.getD k 0) := fun e => by rw [e]
        generalize l.getD k 0 = x at *
        generalize m.getD k 0 = y at *
        have hd : Below w.heap.size w wr.drew := hbel.drew
        have hs := hbel.size
        by_cases hxy : x = y
        · subst hxy
          have HE2 : Hid (l.take (k + 1) = m.take (k + 1)) := HE.out rfl
          go_wp2
          go_region
          all_goals go_wp2
          all_goals exact ⟨⟨k + 1, by omega, by go_num, HE2.out, hd⟩, by simp [intOf]; omega⟩
        · go_wp2
          go_region
          all_goals go_wp2
          all_goals go_ret
          all_goals exact ⟨hd, _, rfl, by simp only [Bool.false_eq_true, false_iff]; exact fun e => hxy (HNE.out e)⟩
      · go_wp2
        go_ret
        refine ⟨hbel, _, rfl, ?_⟩
        have e := hT.out
        rw [List.take_of_length_le (by omega), List.take_of_length_le (by omega)] at e
        simp [e]
  · have hne : ((n1 : Int) != (n2 : Int)) = true := by simp; omega
    go_enter Try.func50, Try.ntmps50
    go_wp2
    go_ret
    refine ⟨Below.refl _ _, _, rfl, ?_⟩
    simp only [Bool.false_eq_true, false_iff]
    intro e
    rw [e] at hl
    omega
set_option maxHeartbeats 4000000 in
theorem strings_any (a : Option Addr) (n1 c1 : Nat) (b : Option Addr) (n2 c2 : Nat) (l m : List ByteArray) (w : World) (h1 : RowAt w a n1 c1 (cellsT l)) (h2 : RowAt w b n2 c2 (cellsT m)) :
    Calls Try.prog 51 #[.slice a n1 c1, .slice b n2 c2] w fun e w' => Below w.heap.size w w' ∧ ∃ q : Bool, e = .returned (.bool q) ∧ (q = true ↔ l = m) := by
  have hl : l.length = n1 := by simpa [cellsT] using h1.1
  have hm : m.length = n2 := by simpa [cellsT] using h2.1
  have hx : n1 ≤ maxLen := Nat.le_trans h1.2.1 h1.2.2.1
  have hy : n2 ≤ maxLen := Nat.le_trans h2.2.1 h2.2.2.1
  unfold maxLen at hx hy
  have H1 : Hid (RowAt w a n1 c1 (cellsT l)) := h1
  have H2 : Hid (RowAt w b n2 c2 (cellsT m)) := h2
  clear h1 h2
  by_cases hn : n1 = n2
  · subst hn
    go_enter Try.func51, Try.ntmps51
    go_wp2
    go_loopw [5] (fun i wr => ∃ k : Nat, k ≤ n1 ∧ i = .int .i64 k ∧ Hid (l.take k = m.take k) ∧ Below w.heap.size w wr) (fun i _ => n1 - (intOf i).toNat)
    case atStart => exact ⟨0, Nat.zero_le _, rfl, by show _ = _; simp, Below.refl _ _⟩
    case round =>
      obtain ⟨k, hk, rfl, hT, hbel⟩ := hrel
      by_cases hlt : k < n1
      · obtain ⟨p, off, rfl, hcell⟩ := (H1.out.below hbel).some (by omega)
        obtain ⟨p2, off2, rfl, hcell2⟩ := (H2.out.below hbel).some (by omega)
        have hc := hcell k hlt
        have hc2 := hcell2 k hlt
        rw [cellsT_get l k (by omega)] at hc
        rw [cellsT_get m k (by omega)] at hc2
        clear hcell hcell2
        have hi0 : (0 : Int) ≤ (k : Int) := by omega
        have hi1 : (k : Int) < (n1 : Int) := by omega
        have HE : Hid (l.getD k ByteArray.empty = m.getD k ByteArray.empty → l.take (k + 1) = m.take (k + 1)) := fun e => take_ext ByteArray.empty hT.out (by omega) (by omega) e
        have HNE : Hid (l = m → l.getD k ByteArray.empty = m.getD k ByteArray.empty) := fun e => by rw [e]
        generalize l.getD k ByteArray.empty = x at *
        generalize m.getD k ByteArray.empty = y at *
        have hd : Below w.heap.size w wr.drew := hbel.drew
        have hs := hbel.size
        by_cases hxy : x = y
        · subst hxy
          have HE2 : Hid (l.take (k + 1) = m.take (k + 1)) := HE.out rfl
          go_wp2
          go_region
          all_goals go_wp2
          all_goals exact ⟨⟨k + 1, by omega, by go_num, HE2.out, hd⟩, by simp [intOf]; omega⟩
        · have hxy2 : (x.toList == y.toList) = false := str_ne hxy
          go_wp2
          go_region
          all_goals go_wp2
          all_goals go_ret
          all_goals exact ⟨hd, _, rfl, by simp only [Bool.false_eq_true, false_iff]; exact fun e => hxy (HNE.out e)⟩
      · go_wp2
        go_ret
        refine ⟨hbel, _, rfl, ?_⟩
        have e := hT.out
        rw [List.take_of_length_le (by omega), List.take_of_length_le (by omega)] at e
        simp [e]
  · have hne : ((n1 : Int) != (n2 : Int)) = true := by simp; omega
    go_enter Try.func51, Try.ntmps51
    go_wp2
    go_ret
    refine ⟨Below.refl _ _, _, rfl, ?_⟩
    simp only [Bool.false_eq_true, false_iff]
    intro e
    rw [e] at hl
    omega
set_option maxHeartbeats 4000000 in
theorem equalB_any (a : Option Addr) (n1 c1 : Nat) (b : Option Addr) (n2 c2 : Nat) (l m : List UInt8) (w : World) (h1 : RowAt w a n1 c1 (cellsB l)) (h2 : RowAt w b n2 c2 (cellsB m)) :
    Calls Try.prog 59 #[.slice a n1 c1, .slice b n2 c2] w fun e w' => Below w.heap.size w w' ∧ ∃ q : Bool, e = .returned (.bool q) ∧ (q = true ↔ l = m) := by
  have hl : l.length = n1 := by simpa [cellsB] using h1.1
  have hm : m.length = n2 := by simpa [cellsB] using h2.1
  have hx : n1 ≤ maxLen := Nat.le_trans h1.2.1 h1.2.2.1
  have hy : n2 ≤ maxLen := Nat.le_trans h2.2.1 h2.2.2.1
  unfold maxLen at hx hy
  have H1 : Hid (RowAt w a n1 c1 (cellsB l)) := h1
  have H2 : Hid (RowAt w b n2 c2 (cellsB m)) := h2
  clear h1 h2
  by_cases hn : n1 = n2
  · subst hn
    go_enter Try.func59, Try.ntmps59
    go_wp2
    go_loopw [13] (fun i wr => ∃ k : Nat, k ≤ n1 ∧ i = .int .i64 k ∧ Hid (l.take k = m.take k) ∧ Below w.heap.size w wr) (fun i _ => n1 - (intOf i).toNat)
    case atStart => exact ⟨0, Nat.zero_le _, rfl, by show _ = _; simp, Below.refl _ _⟩
    case round =>
      obtain ⟨k, hk, rfl, hT, hbel⟩ := hrel
      by_cases hlt : k < n1
      · obtain ⟨p, off, rfl, hcell⟩ := (H1.out.below hbel).some (by omega)
        obtain ⟨p2, off2, rfl, hcell2⟩ := (H2.out.below hbel).some (by omega)
        have hc := hcell k hlt
        have hc2 := hcell2 k hlt
        rw [cellsB_get l k (by omega)] at hc
        rw [cellsB_get m k (by omega)] at hc2
        clear hcell hcell2
        have hi0 : (0 : Int) ≤ (k : Int) := by omega
        have hi1 : (k : Int) < (n1 : Int) := by omega
        have HE : Hid (l.getD k 0 = m.getD k 0 → l.take (k + 1) = m.take (k + 1)) := fun e => take_ext 0 hT.out (by omega) (by omega) e
        have HNE : Hid (l = m → l.getD k 0 = m.getD k 0) := fun e => by rw [e]
        generalize l.getD k 0 = x at *
        generalize m.getD k 0 = y at *
        have hd : Below w.heap.size w wr.drew := hbel.drew
        have hs := hbel.size
        by_cases hxy : x = y
        · subst hxy
          have HE2 : Hid (l.take (k + 1) = m.take (k + 1)) := HE.out rfl
          go_wp2
          go_region
          all_goals go_wp2
          all_goals exact ⟨⟨k + 1, by omega, by go_num, HE2.out, hd⟩, by simp [intOf]; omega⟩
        · have hxy2 : ¬ ((x.toNat : Nat) : Int) = ((y.toNat : Nat) : Int) := fun h => hxy (UInt8.toNat_inj.1 (by omega))
          go_wp2
          go_region
          all_goals go_wp2
          all_goals go_ret
          all_goals exact ⟨hd, _, rfl, by simp only [Bool.false_eq_true, false_iff]; exact fun e => hxy (HNE.out e)⟩
      · go_wp2
        go_ret
        refine ⟨hbel, _, rfl, ?_⟩
        have e := hT.out
        rw [List.take_of_length_le (by omega), List.take_of_length_le (by omega)] at e
        simp [e]
  · have hne : ((n1 : Int) != (n2 : Int)) = true := by simp; omega
    go_enter Try.func59, Try.ntmps59
    go_wp2
    go_ret
    refine ⟨Below.refl _ _, _, rfl, ?_⟩
    simp only [Bool.false_eq_true, false_iff]
    intro e
    rw [e] at hl
    omega
set_option maxHeartbeats 4000000 in
theorem refSame_any (v v2 : Value) (nums nums2 : List Int) (texts texts2 : List ByteArray) (w : World) (h : DataAt w v nums texts) (h' : DataAt w v2 nums2 texts2) :
    Calls Try.prog 35 #[v, v2] w fun e w' => Below w.heap.size w w' ∧ ∃ q : Bool, e = .returned (.bool q) ∧ (q = true ↔ nums = nums2 ∧ texts = texts2) := by
  obtain ⟨a1, n1, c1, a2, n2, c2, rfl, h1, h2, h3, h4⟩ := h
  obtain ⟨a3, n3, c3, a4, n4, c4, rfl, h5, h6, h7, h8⟩ := h'
  have H1 : Hid (RowAt w a1 n1 c1 (cellsI nums)) := h1
  have H2 : Hid (RowAt w a2 n2 c2 (cellsT texts)) := h2
  have H3 : Hid (RowAt w a3 n3 c3 (cellsI nums2)) := h5
  have H4 : Hid (RowAt w a4 n4 c4 (cellsT texts2)) := h6
  clear h1 h2 h5 h6 h3 h4 h7 h8
  have B0 : Below w.heap.size w ((w.alloc (.cells #[.slice a1 n1 c1, .slice a2 n2 c2] 38)).alloc (.cells #[.slice a3 n3 c3, .slice a4 n4 c4] 38)) := ((Below.refl _ _).alloc (Nat.le_refl _) _).alloc (by simp) _
  go_enter Try.func35, Try.ntmps35
  go_wp2_with fail
  generalize hw1 : (w.alloc (.cells #[.slice a1 n1 c1, .slice a2 n2 c2] 38)).alloc (.cells #[.slice a3 n3 c3, .slice a4 n4 c4] 38) = w1 at *
  have hc0 : w1.cell? ⟨w.heap.size, 1, none⟩ = some (.slice a2 n2 c2) := by rw [← hw1]; simp
  have hc1 : w1.cell? ⟨w.heap.size + 1, 1, none⟩ = some (.slice a4 n4 c4) := by rw [← hw1]; simp
  have hs1 : w.heap.size + 2 = w1.heap.size := by rw [← hw1]; simp
  clear hw1
  refine (ints_any _ _ _ _ _ _ nums nums2 _ (H1.out.below B0) (H3.out.below B0)).mono ?_
  rintro e w2 ⟨hb2, q1, rfl, hq1⟩
  have hc2 : w2.cell? ⟨w.heap.size, 1, none⟩ = some (.slice a2 n2 c2) := (hb2.cell (p := ⟨w.heap.size, 1, none⟩) (by show w.heap.size < _; omega)).trans hc0
  have hc3 : w2.cell? ⟨w.heap.size + 1, 1, none⟩ = some (.slice a4 n4 c4) := (hb2.cell (p := ⟨w.heap.size + 1, 1, none⟩) (by show w.heap.size + 1 < _; omega)).trans hc1
  have B2 := B0.trans (hb2.mono (by omega))
  have HQ : Hid (q1 = true ↔ nums = nums2) := hq1
  clear hq1
  cases q1 with
  | false =>
    go_wp2
    go_ret
    refine ⟨B2, _, rfl, ?_⟩
    have := HQ.out
    simp only [Bool.false_eq_true, false_iff] at this ⊢
    exact fun h => this h.1
  | true =>
    have HE1 : Hid (nums = nums2) := HQ.out.1 rfl
    go_wp2_with fail
    refine (strings_any _ _ _ _ _ _ texts texts2 _ (H2.out.below B2) (H4.out.below B2)).mono ?_
    rintro e w3 ⟨hb3, q2, rfl, hq2⟩
    have HQ2 : Hid (q2 = true ↔ texts = texts2) := hq2
    clear hq2
    go_wp2
    go_ret
    refine ⟨B2.trans (hb3.mono (by have := hb2.size; omega)), _, rfl, ?_⟩
    have e1 := HE1.out
    rw [HQ2.out]
    exact ⟨fun h => ⟨e1, h⟩, fun h => h.2⟩
end Go.Proofs.Ytmkmogkhkmlnkaa.Fr
namespace Go.Proofs.Ytmkmogkhkmlnkaa.Fr
open Go.ChangeShapes Go.WideShapes Go.ChangeAt Go.RowKit
/-- nothing below B but block D has turned -/
def BB (D B : Nat) (w w' : World) : Prop :=
  (w'.os = w.os ∧ w'.tape = w.tape ∧ w'.output = w.output) ∧ w.heap.size ≤ w'.heap.size ∧ ∀ k, k < B → k ≠ D → w'.heap[k]? = w.heap[k]?
theorem BB.os {D B : Nat} {w w' : World} (h : BB D B w w') : w'.os = w.os := h.1.1
theorem BB.tape {D B : Nat} {w w' : World} (h : BB D B w w') : w'.tape = w.tape := h.1.2.1
theorem BB.output {D B : Nat} {w w' : World} (h : BB D B w w') : w'.output = w.output := h.1.2.2
theorem BB.size {D B : Nat} {w w' : World} (h : BB D B w w') : w.heap.size ≤ w'.heap.size := h.2.1
theorem BB.block {D B : Nat} {w w' : World} (h : BB D B w w') : ∀ k, k < B → k ≠ D → w'.heap[k]? = w.heap[k]? := h.2.2
theorem BB.refl (D B : Nat) (w : World) : BB D B w w := ⟨⟨rfl, rfl, rfl⟩, Nat.le_refl _, fun _ _ _ => rfl⟩
theorem BB.trans {D B : Nat} {a b c : World} (h : BB D B a b) (k : BB D B b c) : BB D B a c :=
  ⟨⟨k.os.trans h.os, k.tape.trans h.tape, k.output.trans h.output⟩, Nat.le_trans h.size k.size, fun i hi hd => (k.block i hi hd).trans (h.block i hi hd)⟩
theorem BB.of_below {D B B' : Nat} {a b : World} (h : Below B' a b) (hB : B ≤ B') : BB D B a b := ⟨⟨h.os, h.tape, h.output⟩, h.size, fun i hi _ => h.block i (Nat.lt_of_lt_of_le hi hB)⟩
theorem BB.mono {D B B' : Nat} {a b : World} (h : BB D B' a b) (hB : B ≤ B') : BB D B a b := ⟨⟨h.os, h.tape, h.output⟩, h.size, fun i hi hd => h.block i (Nat.lt_of_lt_of_le hi hB) hd⟩
theorem BB.grown {D B : Nat} {a b : World} {row : Option Nat} (h : a.grownBy b row) (hB : B ≤ a.heap.size) (hr : ∀ k, row = some k → B ≤ k) : BB D B a b :=
  ⟨⟨h.os, h.tape, h.output⟩, h.size, fun i hi _ => h.block i (by omega) (fun e => by have := hr i e.symm; omega)⟩
theorem BB.setCell (D B : Nat) (a : World) (p : Addr) (v : Value) (hp : p.block = D) : BB D B a (a.setCell p v) :=
  ⟨⟨rfl, rfl, rfl⟩, by simp, fun i _ hd => Below.heap_setCell _ _ _ _ (by omega)⟩
theorem BB.below {D B : Nat} {a b : World} (h : BB D B a b) (hD : D < B) : Below D a b := ⟨h.os, h.tape, h.output, h.size, fun i hi => h.block i (by omega) (by omega)⟩
theorem RowAt.bb {D : Nat} {w w' : World} {a : Option Addr} {len cap : Nat} {cs : List Value} (h : RowAt w a len cap cs) (hb : BB D w.heap.size w w') (hne : ∀ x, a = Option.some x → x.block ≠ D) : RowAt w' a len cap cs := by
  refine ⟨h.1, h.2.1, h.2.2.1, ?_⟩
  rcases h.2.2.2 with h0 | ⟨b, off, e, hc⟩
  · exact .inl h0
  · refine .inr ⟨b, off, e, fun i hi => ?_⟩
    have hl : i < cs.length := by rw [h.1]; exact hi
    have hx := hc i hi
    rw [List.getElem?_eq_getElem hl] at hx
    have hlt : b < w.heap.size := World.block_lt_of_cell? w ⟨b, off + i, none⟩ hx
    exact (World.cell?_of_block (hb.block b hlt (hne _ e))).trans (hc i hi)
/-- block D holds x and y, and nothing else below has turned -/
def DF (w2 : World) (D : Nat) (wr : World) (x y : Value) : Prop :=
  BB D w2.heap.size w2 wr ∧ (wr.cell? ⟨D, 0, none⟩ = some x ∧ wr.cell? ⟨D, 1, none⟩ = some y) ∧ wr.frozen? ⟨D, 0, none⟩ = false ∧ wr.frozen? ⟨D, 1, none⟩ = false
theorem DF.block {w2 : World} {D : Nat} {wr w' : World} {x y : Value} (h : DF w2 D wr x y) (hb : BB D w2.heap.size wr w') (hD : w'.heap[D]? = wr.heap[D]?) : DF w2 D w' x y := by
  obtain ⟨h1, ⟨h2, h3⟩, h4, h5⟩ := h
  exact ⟨h1.trans hb, ⟨(World.cell?_of_block hD).trans h2, (World.cell?_of_block hD).trans h3⟩, (World.frozen?_of_block hD).trans h4, (World.frozen?_of_block hD).trans h5⟩
theorem DF.below {w2 : World} {D : Nat} {wr w' : World} {x y : Value} (h : DF w2 D wr x y) (hD : D < w2.heap.size) (hb : Below wr.heap.size wr w') : DF w2 D w' x y :=
  h.block (BB.of_below hb h.1.size) (hb.block D (Nat.lt_of_lt_of_le hD h.1.size))
theorem DF.grown {w2 : World} {D : Nat} {wr w' : World} {x y : Value} {row : Option Nat} (h : DF w2 D wr x y) (hD : D < w2.heap.size) (hg : wr.grownBy w' row) (hr : ∀ k, row = some k → w2.heap.size ≤ k) : DF w2 D w' x y :=
  h.block (BB.grown hg h.1.size hr) (hg.block D (Nat.lt_of_lt_of_le hD h.1.size) (fun e => by have := hr D e.symm; omega))
theorem DF.set0 {w2 : World} {D : Nat} {wr : World} {x y : Value} (h : DF w2 D wr x y) (u : Value) : DF w2 D (wr.setCell ⟨D, 0, none⟩ u) u y := by
  obtain ⟨h1, ⟨h2, h3⟩, h4, h5⟩ := h
  refine ⟨h1.trans (BB.setCell _ _ _ _ _ rfl), ⟨World.cell?_setCell_same _ _ _ h2, ?_⟩, (World.frozen?_setCell _ _ _ _).trans h4, (World.frozen?_setCell _ _ _ _).trans h5⟩
  rw [World.cell?_setCell_other _ _ _ _ (by intro h; simpa using congrArg Addr.off h)]; exact h3
theorem DF.set1 {w2 : World} {D : Nat} {wr : World} {x y : Value} (h : DF w2 D wr x y) (u : Value) : DF w2 D (wr.setCell ⟨D, 1, none⟩ u) x u := by
  obtain ⟨h1, ⟨h2, h3⟩, h4, h5⟩ := h
  refine ⟨h1.trans (BB.setCell _ _ _ _ _ rfl), ⟨?_, World.cell?_setCell_same _ _ _ h3⟩, (World.frozen?_setCell _ _ _ _).trans h4, (World.frozen?_setCell _ _ _ _).trans h5⟩
  rw [World.cell?_setCell_other _ _ _ _ (by intro h; simpa using congrArg Addr.off h)]; exact h2
theorem own_setCell {w : World} {base s n : Nat} {e : TypeId} {v : Value} {xs : List Value} (h : w.ownsRow base e s v n xs) (p : Addr) (hp : p.block < base) (u : Value) : (w.setCell p u).ownsRow base e s v n xs := by
  obtain ⟨hl, h | ⟨g, cap, cur, rfl, hg, hh, r⟩⟩ := h
  · exact ⟨hl, .inl h⟩
  · exact ⟨hl, .inr ⟨g, cap, cur, rfl, hg, (Below.heap_setCell _ _ _ _ (by omega)).trans hh, r⟩⟩
/-- append to a row of one's own, as one step of a region that draws -/
theorem step_append_own {P : Program} {ops : Array Oper} {o : Oper} {a : Act} (w : World) {K : Act → World → Prop} {Q : Exit → Act → World → Prop} {E : Prop} (hgd : o.guard = none) (s x : Operand) (t : TypeId)
    (ho : o.op = .call { callee := .builtin .append, args := #[s, x], argTypes := #[t, t] })
    (base : Nat) (e : TypeId) (i : TypeInfo) (z : Value) (size bytes : Nat) (ht : P.underlying t = some (.slice e)) (hi : P.info? e = some i) (hz : i.zero = some z)
    (hsize : i.size = size) (hby : i.bytes = bytes) (hzs : z.cells.size = size) (hsz : 0 < size)
    (v : Value) (n : Nat) (xs : List Value) (hs : a.eval s = v) (hown : w.ownsRow base e size v n xs)
    (ad : Addr) (m c : Nat) (news : List Value) (hx : a.eval x = .slice (some ad) m c) (hl : news.length = m * size) (hnews : ∀ j u, news[j]? = some u → w.cell? (ad.add j) = some u) (h1 : ∀ u ∈ news, u.oneCell' = true)
    (h63 : n + m ≤ maxLen) (hbytes : (n + m) * bytes ≤ 140737488355328) (hbase : base ≤ w.heap.size)
    (h : ∀ v' w', w'.ownsRow base e size v' (n + m) (xs ++ news) → w.grownBy w' v.ownBlock → (v' = .slice none 0 0 ↔ v = .slice none 0 0 ∧ m = 0) → K (a.put o.dst v') w') :
    if Region.wanted o (yielded ops a.tmps) = true then Oper.wp P o a w K Q else E := by
  have hw : Region.wanted o (yielded ops a.tmps) = true := by simp [Region.wanted, hgd]
  rw [if_pos hw]
  exact wp_append_own w s x t ho base e i z size bytes ht hi hz hsize hby hzs hsz v n xs hs hown ad m c news hx hl hnews h1 h63 hbytes hbase h
end Go.Proofs.Ytmkmogkhkmlnkaa.Fr
namespace Go.Proofs.Ytmkmogkhkmlnkaa.Fr
def NoData (l : List UInt8) : Prop := ∀ nums texts, Fit nums texts → l ≠ bytesL nums texts
end Go.Proofs.Ytmkmogkhkmlnkaa.Fr
namespace Go.Proofs.Ytmkmogkhkmlnkaa.Fr
open Go.ChangeShapes Go.WideShapes Go.ChangeAt Go.RowKit
/-- four bytes, the highest first -/
def fourL (n : Nat) : List UInt8 := [UInt8.ofNat (n / 16777216), UInt8.ofNat (n / 65536), UInt8.ofNat (n / 256), UInt8.ofNat n]
theorem fourL_length (n : Nat) : (fourL n).length = 4 := rfl
theorem fourL_cells (n : Nat) (hn : n < 4294967296) : cellsB (fourL n) = [.int .u8 ((n : Int) / 16777216), .int .u8 ((n : Int) / 65536 % 256), .int .u8 ((n : Int) / 256 % 256), .int .u8 ((n : Int) % 256)] := by
  have e1 : (UInt8.ofNat (n / 16777216)).toNat = n / 16777216 := by simp; omega
  have e2 : (UInt8.ofNat (n / 65536)).toNat = n / 65536 % 256 := by simp
  have e3 : (UInt8.ofNat (n / 256)).toNat = n / 256 % 256 := by simp
  have e4 : (UInt8.ofNat n).toNat = n % 256 := by simp
  simp only [cellsB, fourL, List.map_cons, List.map_nil, e1, e2, e3, e4]
  simp
theorem cells_four (w : World) (cs : Array Value) (t : TypeId) : ∀ j u, cs.toList[j]? = some u → (w.alloc (.cells cs t)).cell? ((⟨w.heap.size, 0, none⟩ : Addr).add j) = some u := by
  intro j u hj
  rw [addr_add, Nat.zero_add]
  unfold World.cell?
  rw [heap_alloc_new]
  simpa using hj
set_option maxHeartbeats 2000000 in
theorem putSum_any (v : Value) (n0 : Nat) (xs : List Value) (n B : Nat) (w : World) (hn : n < 4294967296) (hB : B ≤ w.heap.size) (hown : w.ownsRow B 5 1 v n0 xs) (hn0 : Hid (n0 ≤ 10000)) :
    Calls Try.prog 40 #[v, .int .u32 (n : Int)] w fun e w' => ∃ v', e = .returned v' ∧ w'.ownsRow B 5 1 v' (n0 + 4) (xs ++ cellsB (fourL n)) ∧ Below B w w' := by
  obtain ⟨i0, hi, hz0, hz1, hz2⟩ := info_parts info5
  go_enter Try.func40, Try.ntmps40
  have hm : n0 + 4 ≤ maxLen ∧ (n0 + 4) * 1 ≤ 140737488355328 := by have := hn0.out; unfold maxLen; omega
  have HM : Hid (n0 + 4 ≤ maxLen ∧ (n0 + 4) * 1 ≤ 140737488355328) := hm
  clear hm hn0
  go_wp2_with (at_builtin; refine wpList_append_own _ rfl (.tmp 5) (.tmp 17) 39 rfl B 5 i0 (.int .u8 0) 1 1 Try.underlying39 hi hz0 hz1 hz2 rfl (by decide) _ _ _ rfl (hown.alloc _) ⟨w.heap.size, 0, none⟩ 4 4 [.int .u8 ((n : Int) / 16777216), .int .u8 ((n : Int) / 65536 % 256), .int .u8 ((n : Int) / 256 % 256), .int .u8 ((n : Int) % 256)] rfl rfl (cells_four _ #[.int .u8 ((n : Int) / 16777216), .int .u8 ((n : Int) / 65536 % 256), .int .u8 ((n : Int) / 256 % 256), .int .u8 ((n : Int) % 256)] _) (by intro u hu; simp at hu; rcases hu with rfl | rfl | rfl | rfl <;> rfl) HM.out.1 HM.out.2 (by simp; omega) ?_)
  intro v1 w1 hown1 hgrow _
  go_wp2
  go_returns
  refine ⟨_, rfl, ?_, ((Below.refl _ _).alloc hB _).grown hgrow (by simp; omega) (fun k hk => (hown.lt k hk).1)⟩
  rw [fourL_cells n hn]
  exact hown1
end Go.Proofs.Ytmkmogkhkmlnkaa.Fr
