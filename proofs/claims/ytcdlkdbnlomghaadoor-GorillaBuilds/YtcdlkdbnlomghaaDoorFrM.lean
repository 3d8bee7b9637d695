/-
  The contracts of the functions that tell whether lists of numbers, of texts, of bytes are alike.
-/
import Derived.Test.YtcdlkdbnlomghaaDoorFrD
import Derived.RegionTactic
import Derived.ChangeAlike
namespace Go.Proofs.YtcdlkdbnlomghaaDoor.Fr
open Go.ChangeShapes Go.WideShapes Go.ChangeAt Go.RowKit
theorem str_ne {x y : ByteArray} (h : ¬ x = y) : (x.toList == y.toList) = false := by
  rw [ByteArray.toList_eq, ByteArray.toList_eq]
  exact beq_eq_false_iff_ne.2 fun e => h (bytes_ext e)
theorem take_ext {α : Type} {l m : List α} (d : α) {k : Nat} (h : l.take k = m.take k) (hk : k < l.length) (hm : k < m.length) (e : l.getD k d = m.getD k d) : l.take (k + 1) = m.take (k + 1) := by
  rw [List.take_succ_eq_append_getElem hk, List.take_succ_eq_append_getElem hm, h]
  rw [List.getD_eq_getElem?_getD, List.getElem?_eq_getElem hk, List.getD_eq_getElem?_getD, List.getElem?_eq_getElem hm] at e
  simp at e
  rw [e]
set_option maxHeartbeats 4000000 in
theorem ints_any (a : Option Addr) (n1 c1 : Nat) (b : Option Addr) (n2 c2 : Nat) (l m : List Int) (w : World) (h1 : RowAt w a n1 c1 (cellsI l)) (h2 : RowAt w b n2 c2 (cellsI m)) :
    Calls Tryd.prog 46 #[.slice a n1 c1, .slice b n2 c2] w fun e w' => Below w.heap.size w w' ∧ ∃ q : Bool, e = .returned (.bool q) ∧ (q = true ↔ l = m) := by
  have hl : l.length = n1 := by simpa [cellsI] using h1.1
  have hm : m.length = n2 := by simpa [cellsI] using h2.1
  have hx : n1 ≤ maxLen := Nat.le_trans h1.2.1 h1.2.2.1
  have hy : n2 ≤ maxLen := Nat.le_trans h2.2.1 h2.2.2.1
  unfold maxLen at hx hy
  have H1 : Hid (RowAt w a n1 c1 (cellsI l)) := h1
  have H2 : Hid (RowAt w b n2 c2 (cellsI m)) := h2
  clear h1 h2
  by_cases hn : n1 = n2
  · subst hn
    go_enter Tryd.func46, Tryd.ntmps46
    go_wp2
    go_loopw [5] (fun i wr => ∃ k : Nat, k ≤ n1 ∧ i = .int .i64 k ∧ Hid (l.take k = m.take k) ∧ Below w.heap.size w wr) (fun i _ => n1 - (intOf i).toNat)
    case atStart => exact ⟨0, Nat.zero_le _, rfl, by show _ = _; simp, Below.refl _ _⟩
    case round =>
      obtain ⟨k, hk, rfl, hT, hbel⟩ := hrel
      by_cases hlt : k < n1
      · obtain ⟨p, off, rfl, hcell⟩ := (H1.out.below hbel).some (by omega)
        obtain ⟨p2, off2, rfl, hcell2⟩ := (H2.out.below hbel).some (by omega)
        have hc := hcell k hlt
        have hc2 := hcell2 k hlt
        rw [cellsI_get l k (by omega)] at hc
        rw [cellsI_get m k (by omega)] at hc2
        clear hcell hcell2
        have hi0 : (0 : Int) ≤ (k : Int) := by omega
        have hi1 : (k : Int) < (n1 : Int) := by omega
        have HE : Hid (l.getD k 0 = m.getD k 0 → l.take (k + 1) = m.take (k + 1)) := fun e => take_ext 0 hT.out (by omega) (by omega) e
        have HNE : Hid (l = m → l.getD k 0 = m.getD k 0) := fun e => by rw [e]
        generalize l.getD k 0 = x at *
        generalize m.getD k 0 = y at *
        have hd : Below w.heap.size w wr.drew := hbel.drew
        have hs := hbel.size
        by_cases hxy : x = y
        · subst hxy
          have HE2 : Hid (l.take (k + 1) = m.take (k + 1)) := HE.out rfl
          go_wp2
          go_region
          all_goals go_wp2
          all_goals exact ⟨⟨k + 1, by omega, by go_num, HE2.out, hd⟩, by simp [intOf]; omega⟩
        · go_wp2
          go_region
          all_goals go_wp2
          all_goals go_ret
          all_goals exact ⟨hd, _, rfl, by simp only [Bool.false_eq_true, false_iff]; exact fun e => hxy (HNE.out e)⟩
      · go_wp2
        go_ret
        refine ⟨hbel, _, rfl, ?_⟩
        have e := hT.out
        rw [List.take_of_length_le (by omega), List.take_of_length_le (by omega)] at e
        simp [e]
  · have hne : ((n1 : Int) != (n2 : Int)) = true := by simp; omega
    go_enter Tryd.func46, Tryd.ntmps46
    go_wp2
    go_ret
    refine ⟨Below.refl _ _, _, rfl, ?_⟩
    simp only [Bool.false_eq_true, false_iff]
    intro e
    rw [e] at hl
    omega
set_option maxHeartbeats 4000000 in
theorem strings_any (a : Option Addr) (n1 c1 : Nat) (b : Option Addr) (n2 c2 : Nat) (l m : List ByteArray) (w : World) (h1 : RowAt w a n1 c1 (cellsT l)) (h2 : RowAt w b n2 c2 (cellsT m)) :
    Calls Tryd.prog 47 #[.slice a n1 c1, .slice b n2 c2] w fun e w' => Below w.heap.size w w' ∧ ∃ q : Bool, e = .returned (.bool q) ∧ (q = true ↔ l = m) := by
  have hl : l.length = n1 := by simpa [cellsT] using h1.1
  have hm : m.length = n2 := by simpa [cellsT] using h2.1
  have hx : n1 ≤ maxLen := Nat.le_trans h1.2.1 h1.2.2.1
  have hy : n2 ≤ maxLen := Nat.le_trans h2.2.1 h2.2.2.1
  unfold maxLen at hx hy
  have H1 : Hid (RowAt w a n1 c1 (cellsT l)) := h1
  have H2 : Hid (RowAt w b n2 c2 (cellsT m)) := h2
  clear h1 h2
  by_cases hn : n1 = n2
  · subst hn
    go_enter Tryd.func47, Tryd.ntmps47
    go_wp2
    go_loopw [5] (fun i wr => ∃ k : Nat, k ≤ n1 ∧ i = .int .i64 k ∧ Hid (l.take k = m.take k) ∧ Below w.heap.size w wr) (fun i _ => n1 - (intOf i).toNat)
    case atStart => exact ⟨0, Nat.zero_le _, rfl, by show _ = _; simp, Below.refl _ _⟩
    case round =>
      obtain ⟨k, hk, rfl, hT, hbel⟩ := hrel
      by_cases hlt : k < n1
      · obtain ⟨p, off, rfl, hcell⟩ := (H1.out.below hbel).some (by omega)
        obtain ⟨p2, off2, rfl, hcell2⟩ := (H2.out.below hbel).some (by omega)
        have hc := hcell k hlt
        have hc2 := hcell2 k hlt
        rw [cellsT_get l k (by omega)] at hc
        rw [cellsT_get m k (by omega)] at hc2
        clear hcell hcell2
        have hi0 : (0 : Int) ≤ (k : Int) := by omega
        have hi1 : (k : Int) < (n1 : Int) := by omega
        have HE : Hid (l.getD k ByteArray.empty = m.getD k ByteArray.empty → l.take (k + 1) = m.take (k + 1)) := fun e => take_ext ByteArray.empty hT.out (by omega) (by omega) e
        have HNE : Hid (l = m → l.getD k ByteArray.empty = m.getD k ByteArray.empty) := fun e => by rw [e]
        generalize l.getD k ByteArray.empty = x at *
        generalize m.getD k ByteArray.empty = y at *
        have hd : Below w.heap.size w wr.drew := hbel.drew
        have hs := hbel.size
        by_cases hxy : x = y
        · subst hxy
          have HE2 : Hid (l.take (k + 1) = m.take (k + 1)) := HE.out rfl
          go_wp2
          go_region
          all_goals go_wp2
          all_goals exact ⟨⟨k + 1, by omega, by go_num, HE2.out, hd⟩, by simp [intOf]; omega⟩
        · have hxy2 : (x.toList == y.toList) = false := str_ne hxy
          go_wp2
          go_region
          all_goals go_wp2
          all_goals go_ret
          all_goals exact ⟨hd, _, rfl, by simp only [Bool.false_eq_true, false_iff]; exact fun e => hxy (HNE.out e)⟩
      · go_wp2
        go_ret
        refine ⟨hbel, _, rfl, ?_⟩
        have e := hT.out
        rw [List.take_of_length_le (by omega), List.take_of_length_le (by omega)] at e
        simp [e]
  · have hne : ((n1 : Int) != (n2 : Int)) = true := by simp; omega
    go_enter Tryd.func47, Tryd.ntmps47
    go_wp2
    go_ret
    refine ⟨Below.refl _ _, _, rfl, ?_⟩
    simp only [Bool.false_eq_true, false_iff]
    intro e
    rw [e] at hl
    omega
set_option maxHeartbeats 4000000 in
theorem equalB_any (a : Option Addr) (n1 c1 : Nat) (b : Option Addr) (n2 c2 : Nat) (l m : List UInt8) (w : World) (h1 : RowAt w a n1 c1 (cellsB l)) (h2 : RowAt w b n2 c2 (cellsB m)) :
    Calls Tryd.prog 64 #[.slice a n1 c1, .slice b n2 c2] w fun e w' => Below w.heap.size w w' ∧ ∃ q : Bool, e = .returned (.bool q) ∧ (q = true ↔ l = m) := by
  have hl : l.length = n1 := by simpa [cellsB] using h1.1
  have hm : m.length = n2 := by simpa [cellsB] using h2.1
  have hx : n1 ≤ maxLen := Nat.le_trans h1.2.1 h1.2.2.1
  have hy : n2 ≤ maxLen := Nat.le_trans h2.2.1 h2.2.2.1
  unfold maxLen at hx hy
  have H1 : Hid (RowAt w a n1 c1 (cellsB l)) := h1
  have H2 : Hid (RowAt w b n2 c2 (cellsB m)) := h2
  clear h1 h2
  by_cases hn : n1 = n2
  · subst hn
    go_enter Tryd.func64, Tryd.ntmps64
    go_wp2
    go_loopw [13] (fun i wr => ∃ k : Nat, k ≤ n1 ∧ i = .int .i64 k ∧ Hid (l.take k = m.take k) ∧ Below w.heap.size w wr) (fun i _ => n1 - (intOf i).toNat)
    case atStart => exact ⟨0, Nat.zero_le _, rfl, by show _ = _; simp, Below.refl _ _⟩
    case round =>
      obtain ⟨k, hk, rfl, hT, hbel⟩ := hrel
      by_cases hlt : k < n1
      · obtain ⟨p, off, rfl, hcell⟩ := (H1.out.below hbel).some (by omega)
        obtain ⟨p2, off2, rfl, hcell2⟩ := (H2.out.below hbel).some (by omega)
        have hc := hcell k hlt
        have hc2 := hcell2 k hlt
        rw [cellsB_get l k (by omega)] at hc
        rw [cellsB_get m k (by omega)] at hc2
        clear hcell hcell2
        have hi0 : (0 : Int) ≤ (k : Int) := by omega
        have hi1 : (k : Int) < (n1 : Int) := by omega
        have HE : Hid (l.getD k 0 = m.getD k 0 → l.take (k + 1) = m.take (k + 1)) := fun e => take_ext 0 hT.out (by omega) (by omega) e
        have HNE : Hid (l = m → l.getD k 0 = m.getD k 0) := fun e => by rw [e]
        generalize l.getD k 0 = x at *
        generalize m.getD k 0 = y at *
        have hd : Below w.heap.size w wr.drew := hbel.drew
        have hs := hbel.size
        by_cases hxy : x = y
        · subst hxy
          have HE2 : Hid (l.take (k + 1) = m.take (k + 1)) := HE.out rfl
          go_wp2
          go_region
          all_goals go_wp2
          all_goals exact ⟨⟨k + 1, by omega, by go_num, HE2.out, hd⟩, by simp [intOf]; omega⟩
        · have hxy2 : ¬ ((x.toNat : Nat) : Int) = ((y.toNat : Nat) : Int) := fun h => hxy (UInt8.toNat_inj.1 (by omega))
          go_wp2
          go_region
          all_goals go_wp2
          all_goals go_ret
          all_goals exact ⟨hd, _, rfl, by simp only [Bool.false_eq_true, false_iff]; exact fun e => hxy (HNE.out e)⟩
      · go_wp2
        go_ret
        refine ⟨hbel, _, rfl, ?_⟩
        have e := hT.out
        rw [List.take_of_length_le (by omega), List.take_of_length_le (by omega)] at e
        simp [e]
  · have hne : ((n1 : Int) != (n2 : Int)) = true := by simp; omega
    go_enter Tryd.func64, Tryd.ntmps64
    go_wp2
    go_ret
    refine ⟨Below.refl _ _, _, rfl, ?_⟩
    simp only [Bool.false_eq_true, false_iff]
    intro e
    rw [e] at hl
    omega
set_option maxHeartbeats 4000000 in
theorem refSame_any (v v2 : Value) (nums nums2 : List Int) (texts texts2 : List ByteArray) (w : World) (h : DataAt w v nums texts) (h' : DataAt w v2 nums2 texts2) :
    Calls Tryd.prog 26 #[v, v2] w fun e w' => Below w.heap.size w w' ∧ ∃ q : Bool, e = .returned (.bool q) ∧ (q = true ↔ nums = nums2 ∧ texts = texts2) := by
  obtain ⟨a1, n1, c1, a2, n2, c2, rfl, h1, h2, h3, h4⟩ := h
  obtain ⟨a3, n3, c3, a4, n4, c4, rfl, h5, h6, h7, h8⟩ := h'
  have H1 : Hid (RowAt w a1 n1 c1 (cellsI nums)) := h1
  have H2 : Hid (RowAt w a2 n2 c2 (cellsT texts)) := h2
  have H3 : Hid (RowAt w a3 n3 c3 (cellsI nums2)) := h5
  have H4 : Hid (RowAt w a4 n4 c4 (cellsT texts2)) := h6
  clear h1 h2 h5 h6 h3 h4 h7 h8
  have B0 : Below w.heap.size w ((w.alloc (.cells #[.slice a1 n1 c1, .slice a2 n2 c2] 52)).alloc (.cells #[.slice a3 n3 c3, .slice a4 n4 c4] 52)) := ((Below.refl _ _).alloc (Nat.le_refl _) _).alloc (by simp) _
  go_enter Tryd.func26, Tryd.ntmps26
  go_wp2_with fail
  generalize hw1 : (w.alloc (.cells #[.slice a1 n1 c1, .slice a2 n2 c2] 52)).alloc (.cells #[.slice a3 n3 c3, .slice a4 n4 c4] 52) = w1 at *
  have hc0 : w1.cell? ⟨w.heap.size, 1, none⟩ = some (.slice a2 n2 c2) := by rw [← hw1]; simp
  have hc1 : w1.cell? ⟨w.heap.size + 1, 1, none⟩ = some (.slice a4 n4 c4) := by rw [← hw1]; simp
  have hs1 : w.heap.size + 2 = w1.heap.size := by rw [← hw1]; simp
  clear hw1
  refine (ints_any _ _ _ _ _ _ nums nums2 _ (H1.out.below B0) (H3.out.below B0)).mono ?_
  rintro e w2 ⟨hb2, q1, rfl, hq1⟩
  have hc2 : w2.cell? ⟨w.heap.size, 1, none⟩ = some (.slice a2 n2 c2) := (hb2.cell (p := ⟨w.heap.size, 1, none⟩) (by show w.heap.size < _; omega)).trans hc0
  have hc3 : w2.cell? ⟨w.heap.size + 1, 1, none⟩ = some (.slice a4 n4 c4) := (hb2.cell (p := ⟨w.heap.size + 1, 1, none⟩) (by show w.heap.size + 1 < _; omega)).trans hc1
  have B2 := B0.trans (hb2.mono (by omega))
  have HQ : Hid (q1 = true ↔ nums = nums2) := hq1
  clear hq1
  cases q1 with
  | false =>
    go_wp2
    go_ret
    refine ⟨B2, _, rfl, ?_⟩
    have := HQ.out
    simp only [Bool.false_eq_true, false_iff] at this ⊢
    exact fun h => this h.1
  | true =>
    have HE1 : Hid (nums = nums2) := HQ.out.1 rfl
    go_wp2_with fail
    refine (strings_any _ _ _ _ _ _ texts texts2 _ (H2.out.below B2) (H4.out.below B2)).mono ?_
    rintro e w3 ⟨hb3, q2, rfl, hq2⟩
    have HQ2 : Hid (q2 = true ↔ texts = texts2) := hq2
    clear hq2
    go_wp2
    go_ret
    refine ⟨B2.trans (hb3.mono (by have := hb2.size; omega)), _, rfl, ?_⟩
    have e1 := HE1.out
    rw [HQ2.out]
    exact ⟨fun h => ⟨e1, h⟩, fun h => h.2⟩
end Go.Proofs.YtcdlkdbnlomghaaDoor.Fr
