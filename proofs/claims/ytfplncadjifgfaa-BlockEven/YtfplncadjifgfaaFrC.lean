/-
  The contracts of Encode: data's bytes, new, or that they are too many.
-/
import Derived.Test.YtfplncadjifgfaaFrB
import Derived.Handy
namespace Go.Proofs.Ytfplncadjifgfaa.Fr
open Go.ChangeShapes Go.WideShapes Go.ChangeAt Go.RowKit
theorem getD_mem {α : Type} (l : List α) (d : α) (k : Nat) (h : k < l.length) : l.getD k d ∈ l := by
  rw [List.getD_eq_getElem?_getD, List.getElem?_eq_getElem h, Option.getD_some]; exact List.getElem_mem h
theorem take_getD {α : Type} (l : List α) (d : α) (k : Nat) (h : k < l.length) : l.take (k + 1) = l.take k ++ [l.getD k d] := by
  rw [List.take_succ_eq_append_getElem h, List.getD_eq_getElem?_getD, List.getElem?_eq_getElem h, Option.getD_some]
theorem numsL_take (l : List Int) (k : Nat) (h : k < l.length) : numsL (l.take (k + 1)) = numsL (l.take k) ++ countL (numberN (l.getD k 0)) := by
  rw [take_getD l 0 k h, numsL_snoc]
theorem textsL_take (l : List ByteArray) (k : Nat) (h : k < l.length) : textsL (l.take (k + 1)) = textsL (l.take k) ++ textL (l.getD k ByteArray.empty) := by
  rw [take_getD l ByteArray.empty k h, textsL_snoc]
theorem numsL_le (l : List Int) (k : Nat) : (numsL (l.take k)).length ≤ (numsL l).length := by
  conv => rhs; rw [← List.take_append_drop k l, numsL_append, List.length_append]
  omega
theorem textsL_le (l : List ByteArray) (k : Nat) : (textsL (l.take k)).length ≤ (textsL l).length := by
  conv => rhs; rw [← List.take_append_drop k l, textsL_append, List.length_append]
  omega

/-- behind a call that lays L behind xs: it is laid, or it is too long -/
def PutPost (B : Nat) (w : World) (n0 : Nat) (xs : List Value) (L : List UInt8) (e : Ending) (w' : World) : Prop :=
  Below B w w' ∧ ((∃ v', e = .returned (.tuple #[v', .bool true]) ∧ w'.ownsRow B 5 1 v' (n0 + L.length) (xs ++ cellsB L) ∧ n0 + L.length ≤ 4096) ∨
    (∃ v', e = .returned (.tuple #[v', .bool false]) ∧ 4096 < n0 + L.length))
theorem putPost_ok {B : Nat} {w : World} {n0 : Nat} {xs : List Value} {L : List UInt8} {w' : World} {v' : Value} {q : Bool} (h1 : Below B w w') (hq : q = true) (h2 : w'.ownsRow B 5 1 v' (n0 + L.length) (xs ++ cellsB L)) (h3 : n0 + L.length ≤ 4096) :
    PutPost B w n0 xs L (.returned (.tuple #[v', .bool q])) w' := by subst hq; exact ⟨h1, .inl ⟨_, rfl, h2, h3⟩⟩
theorem putPost_bad {B : Nat} {w : World} {n0 : Nat} {xs : List Value} {L : List UInt8} {w' : World} {v' : Value} {q : Bool} (h1 : Below B w w') (hq : q = false) (h3 : 4096 < n0 + L.length) :
    PutPost B w n0 xs L (.returned (.tuple #[v', .bool q])) w' := by subst hq; exact ⟨h1, .inr ⟨_, rfl, h3⟩⟩

set_option maxHeartbeats 2000000 in
set_option maxRecDepth 20000 in
theorem putNums_any (v : Value) (n0 : Nat) (xs : List Value) (a : Option Addr) (len cap : Nat) (nums : List Int) (B : Nat) (w : World) (hB : B ≤ w.heap.size) (hown : w.ownsRow B 5 1 v n0 xs) (hn : n0 ≤ 4000)
    (hrow : ∀ w', Below B w w' → RowAt w' a len cap (cellsI nums)) (h64 : ∀ x ∈ nums, Is64 x) (L : List UInt8) (hL : Hid (L = countL nums.length ++ numsL nums)) :
    Calls Try.prog 29 #[v, .slice a len cap] w fun e w' => PutPost B w n0 xs L e w' := by
  have hr0 := hrow w (Below.refl _ _)
  have hl : nums.length = len := by simpa [cellsI] using hr0.1
  have hm : len ≤ maxLen := Nat.le_trans hr0.2.1 hr0.2.2.1
  unfold maxLen at hm
  have HR : Hid (∀ w', Below B w w' → RowAt w' a len cap (cellsI nums)) := hrow
  clear hrow hr0
  have hc10 := countL_le10 len (by omega)
  generalize hC : countL len = C at *
  have HC : Hid (countL len = C) := hC
  have HL : Hid (L = C ++ numsL nums) := by show _ = _; rw [hL.out, hl, hC]
  clear hC hL
  go_enter Try.func29, Try.ntmps29
  go_wp2_with (go_at_call 33; refine (putCount_z _ n0 xs _ len B _ (by omega) (by omega) hB hown (by omega)).mono ?_; rintro e w1 ⟨v1, rfl, hown1, hbel1⟩)
  rw [HC.out] at hown1
  go_loopw [0, 15] (fun x i wr => ∃ k : Nat, k ≤ len ∧ i = .int .i64 k ∧ n0 + (C ++ numsL (nums.take k)).length ≤ 4096 ∧ wr.ownsRow B 5 1 x (n0 + (C ++ numsL (nums.take k)).length) (xs ++ cellsB (C ++ numsL (nums.take k))) ∧ Below B w wr) (fun _ i _ => len - (intOf i).toNat)
  case atStart => exact ⟨0, Nat.zero_le _, rfl, by simp [numsL]; omega, by simpa [numsL] using hown1, hbel1⟩
  case round =>
    obtain ⟨k, hk, rfl, hle, hown', hbel⟩ := hrel
    have hs' : B ≤ wr.heap.size := Nat.le_trans hB hbel.size
    by_cases hlt : k < len
    · have hr := HR.out wr hbel
      obtain ⟨b, off, rfl, hcell⟩ := hr.some (by omega)
      have hc := hcell k hlt
      rw [cellsI_get nums k (by omega)] at hc
      have h6 := h64 _ (getD_mem nums 0 k (by omega))
      have HT : Hid (C ++ numsL (nums.take (k + 1)) = (C ++ numsL (nums.take k)) ++ countL (numberN (nums.getD k 0))) := by
        show _ = _
        rw [numsL_take nums k (by omega), List.append_assoc]
      clear hcell hr
      generalize nums.getD k 0 = x at *
      have HE : Hid ((C ++ numsL (nums.take (k + 1))).length = (C ++ numsL (nums.take k)).length + (countL (numberN x)).length) := by
        show _ = _
        rw [HT.out, List.length_append]
      have hX := countL_le10 _ (numberN_lt h6)
      generalize C ++ numsL (nums.take k) = D at *
      go_wp2_with (go_at_call 34; refine (putNumber_any _ _ _ x B _ h6 hs' hown' (by omega)).mono ?_; rintro e w2 ⟨v2, rfl, hown2, hbel2⟩; obtain ⟨a2, cap2, rfl, hrow2, hlow2⟩ := RowAt.of_own hown2)
      · go_returns
        refine putPost_bad (hbel.trans hbel2) rfl ?_
        have h1 := HE.out
        have h2 := numsL_le nums (k + 1)
        rw [HL.out]
        rw [List.length_append] at h1 ⊢
        omega
      · refine ⟨⟨k + 1, by omega, by go_num, ?_, ?_, hbel.trans hbel2⟩, by simp [intOf]; omega⟩
        · rw [HE.out]; omega
        · rw [HT.out, List.length_append, cellsB_append, ← Nat.add_assoc, ← List.append_assoc]
          simpa using hown2
    · go_wp2
      go_returns
      obtain rfl : k = len := by omega
      rw [List.take_of_length_le (by omega), ← HL.out] at hown' hle
      exact putPost_ok hbel rfl hown' hle

theorem strCells_eq (x : ByteArray) : Go.Lib.strCells x = cellsB x.data.toList := by
  simp [Go.Lib.strCells, cellsB]
set_option maxHeartbeats 2000000 in
set_option maxRecDepth 20000 in
theorem putTexts_any (v : Value) (n0 : Nat) (xs : List Value) (a : Option Addr) (len cap : Nat) (texts : List ByteArray) (B : Nat) (w : World) (hB : B ≤ w.heap.size) (hown : w.ownsRow B 5 1 v n0 xs) (hn : n0 ≤ 4096)
    (hrow : ∀ w', Below B w w' → RowAt w' a len cap (cellsT texts)) (h64 : ∀ x ∈ texts, x.size ≤ maxLen) (L : List UInt8) (hL : Hid (L = countL texts.length ++ textsL texts)) :
    Calls Try.prog 30 #[v, .slice a len cap] w fun e w' => PutPost B w n0 xs L e w' := by
  obtain ⟨i0, hi, hz0, hz1, hz2⟩ := info_parts info5
  have hr0 := hrow w (Below.refl _ _)
  have hl : texts.length = len := by simpa [cellsT] using hr0.1
  have hm : len ≤ maxLen := Nat.le_trans hr0.2.1 hr0.2.2.1
  unfold maxLen at hm
  have HR : Hid (∀ w', Below B w w' → RowAt w' a len cap (cellsT texts)) := hrow
  clear hrow hr0
  have hc10 := countL_le10 len (by omega)
  generalize hC : countL len = C at *
  have HC : Hid (countL len = C) := hC
  have HL : Hid (L = C ++ textsL texts) := by show _ = _; rw [hL.out, hl, hC]
  clear hC hL
  go_enter Try.func30, Try.ntmps30
  go_wp2_with (go_at_call 33; refine (putCount_z _ n0 xs _ len B _ (by omega) (by omega) hB hown (by omega)).mono ?_; rintro e w1 ⟨v1, rfl, hown1, hbel1⟩)
  rw [HC.out] at hown1
  go_loopw [0, 15] (fun x i wr => ∃ k : Nat, k ≤ len ∧ i = .int .i64 k ∧ n0 + (C ++ textsL (texts.take k)).length ≤ 4106 ∧ wr.ownsRow B 5 1 x (n0 + (C ++ textsL (texts.take k)).length) (xs ++ cellsB (C ++ textsL (texts.take k))) ∧ Below B w wr) (fun _ i _ => len - (intOf i).toNat)
  case atStart => exact ⟨0, Nat.zero_le _, rfl, by simp [textsL]; omega, by simpa [textsL] using hown1, hbel1⟩
  case round =>
    obtain ⟨k, hk, rfl, hle, hown', hbel⟩ := hrel
    have hs' : B ≤ wr.heap.size := Nat.le_trans hB hbel.size
    by_cases hlt : k < len
    · have hr := HR.out wr hbel
      obtain ⟨b, off, rfl, hcell⟩ := hr.some (by omega)
      have hc := hcell k hlt
      rw [cellsT_get texts k (by omega)] at hc
      have h6 := h64 _ (getD_mem texts ByteArray.empty k (by omega))
      have HT : Hid (C ++ textsL (texts.take (k + 1)) = (C ++ textsL (texts.take k)) ++ textL (texts.getD k ByteArray.empty)) := by
        show _ = _
        rw [textsL_take texts k (by omega), List.append_assoc]
      clear hcell hr
      generalize texts.getD k ByteArray.empty = x at *
      have HE : Hid ((C ++ textsL (texts.take (k + 1))).length = (C ++ textsL (texts.take k)).length + ((countL x.size).length + x.size)) := by
        show _ = _
        rw [HT.out, List.length_append, textL, List.length_append]; simp
      unfold maxLen at h6
      have hX := countL_le10 x.size (by omega)
      have h2 := textsL_le texts (k + 1)
      have HF : Hid (4096 < n0 + (C ++ textsL (texts.take k)).length + ((countL x.size).length + x.size) → 4096 < n0 + L.length) := by
        intro h3
        have h1 := HE.out
        rw [HL.out]
        rw [List.length_append] at h1 ⊢
        omega
      clear h2
      generalize C ++ textsL (texts.take k) = D at *
      by_cases hbig : 4096 < n0 + D.length + ((countL x.size).length + x.size)
      · have hbig' : 4096 < (n0 : Int) + (D.length : Int) + ((countL x.size).length : Int) ∨ (4096 : Int) - ((n0 : Int) + (D.length : Int) + ((countL x.size).length : Int)) < (x.size : Int) := by omega
        rcases hbig' with hb | hb
        all_goals go_wp2_with (go_at_call 33; refine (putCount_z _ _ _ _ x.size B _ (by omega) (by omega) hs' hown' (by omega)).mono ?_; rintro e w2 ⟨v2, rfl, hown2, hbel2⟩; obtain ⟨a2, cap2, rfl, hrow2, hlow2⟩ := RowAt.of_own hown2)
        all_goals go_returns
        all_goals exact putPost_bad (hbel.trans hbel2) rfl (HF.out hbig)
      · have hb1 : ¬ 4096 < (n0 : Int) + (D.length : Int) + ((countL x.size).length : Int) := by omega
        have hb2 : ¬ (4096 : Int) - ((n0 : Int) + (D.length : Int) + ((countL x.size).length : Int)) < (x.size : Int) := by omega
        go_wp2_with (first
          | (go_at_call 33; refine (putCount_z _ _ _ _ x.size B _ (by omega) (by omega) hs' hown' (by omega)).mono ?_; rintro e w2 ⟨v2, rfl, hown2, hbel2⟩; obtain ⟨a2, cap2, rfl, hrow2, hlow2⟩ := RowAt.of_own hown2)
          | (at_builtin; refine Go.Lib.wpList_append_own_string _ rfl (.tmp 35) (.tmp 36) 38 9 rfl B 5 i0 Try.underlying38 Try.underlying9 hi hz0 hz1 hz2 _ _ _ rfl hown2 x rfl (by unfold maxLen; omega) (by omega) (Nat.le_trans hs' hbel2.size) ?_))
        intro v3 w3 hown3 hgrow _
        rw [strCells_eq] at hown3
        go_wp2
        go_roundw
        case rel =>
          refine ⟨k + 1, by omega, by go_num, ?_, ?_, (hbel.trans hbel2).grown hgrow (Nat.le_trans hs' hbel2.size) (fun k hk => (hown2.lt k hk).1)⟩
          · rw [HE.out]; omega
          · rw [HE.out, HT.out, textL]
            simp only [cellsB_append, ← Nat.add_assoc, ← List.append_assoc] at hown3 ⊢
            exact hown3
        case measure => simp [intOf]; omega
    · obtain rfl : k = len := by omega
      rw [List.take_of_length_le (by omega), ← HL.out] at hown' hle
      obtain ⟨a0, cap0, rfl, hrow0, hlow0⟩ := RowAt.of_own hown'
      go_wp2
      go_returns
      by_cases hbig : n0 + L.length ≤ 4096
      · exact putPost_ok hbel (by simp; omega) hown' hbig
      · exact putPost_bad hbel (by simp; omega) (by omega)
end Go.Proofs.Ytfplncadjifgfaa.Fr
