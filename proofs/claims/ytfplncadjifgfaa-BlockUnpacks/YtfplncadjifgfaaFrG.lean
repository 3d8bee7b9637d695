/-
  The contracts of the answer's Bytes and May: data's bytes, or more than 4096 of them where they are too many.
-/
import Derived.Test.YtfplncadjifgfaaFrD
import Derived.Test.YtfplncadjifgfaaFrB2
namespace Go.Proofs.Ytfplncadjifgfaa.Fr
open Go.ChangeShapes Go.WideShapes Go.ChangeAt Go.RowKit
/-- behind Bytes: L itself where it may be, else some bytes that are too many as well -/
def BytPost (B : Nat) (w : World) (L : List UInt8) (e : Ending) (w' : World) : Prop :=
  Below B w w' ∧ ∃ v' L', e = .returned v' ∧ w'.ownsRow B 5 1 v' (List.length L') (cellsB L') ∧ (L.length ≤ 4096 → L' = L) ∧ (4096 < L.length → 4096 < L'.length) ∧ L'.length ≤ 20000
theorem bytesL_nums (nums : List Int) (texts : List ByteArray) (k : Nat) : (countL nums.length ++ numsL (nums.take k)).length ≤ (bytesL nums texts).length := by
  have := numsL_le nums k
  unfold bytesL
  simp only [List.length_append]
  omega
theorem bytesL_texts (nums : List Int) (texts : List ByteArray) (k : Nat) : (countL nums.length ++ numsL nums ++ countL texts.length ++ textsL (texts.take k)).length ≤ (bytesL nums texts).length := by
  have := textsL_le texts k
  unfold bytesL
  simp only [List.length_append]
  omega
theorem bytesL_all (nums : List Int) (texts : List ByteArray) (k : Nat) (h : texts.length ≤ k) : countL nums.length ++ numsL nums ++ countL texts.length ++ textsL (texts.take k) = bytesL nums texts := by
  rw [List.take_of_length_le h]
  unfold bytesL
  simp

theorem own_fix {w : World} {B n : Nat} {v : Value} {l : List UInt8} (h : w.ownsRow B 5 1 v n (cellsB l)) : w.ownsRow B 5 1 v l.length (cellsB l) := by
  have := h.1
  rw [cellsB_length, Nat.mul_one] at this
  rw [this]
  exact h
theorem extract_len (x : ByteArray) (h : (5000 : Int) < (x.size : Int)) : (x.extract 0 5000).data.toList.length = 5000 := by
  simp; omega
set_option maxHeartbeats 8000000 in
set_option maxRecDepth 100000 in
theorem refBytes_any (v : Value) (nums : List Int) (texts : List ByteArray) (w : World) (h : DataAt w v nums texts) (L : List UInt8) (hL : Hid (L = bytesL nums texts)) :
    Calls Try.prog 14 #[v] w fun e w' => BytPost w.heap.size w L e w' := by
  obtain ⟨i0, hi, hz0, hz1, hz2⟩ := info_parts info5
  obtain ⟨a1, n1, c1, a2, n2, c2, rfl, h1, h2, h3, h4⟩ := h
  have hl1 : nums.length = n1 := by simpa [cellsI] using h1.1
  have hl2 : texts.length = n2 := by simpa [cellsT] using h2.1
  have hm1 : n1 ≤ maxLen := Nat.le_trans h1.2.1 h1.2.2.1
  have hm2 : n2 ≤ maxLen := Nat.le_trans h2.2.1 h2.2.2.1
  unfold maxLen at hm1 hm2
  have H1 : Hid (RowAt w a1 n1 c1 (cellsI nums)) := h1
  have H2 : Hid (RowAt w a2 n2 c2 (cellsT texts)) := h2
  clear h1 h2
  have hc1 := countL_le10 n1 (by omega)
  have hc2 := countL_le10 n2 (by omega)
  go_enter Try.func14, Try.ntmps14
  go_wp2_with fail
  have B0 : Below w.heap.size w (w.alloc (.cells #[.slice a1 n1 c1, .slice a2 n2 c2] 27)) := (Below.refl _ _).alloc (Nat.le_refl _) _
  generalize hw1 : w.alloc (.cells #[.slice a1 n1 c1, .slice a2 n2 c2] 27) = w1 at *
  have hb0 : w1.cell? ⟨w.heap.size, 0, none⟩ = some (.slice a1 n1 c1) := by rw [← hw1]; simp
  have hb1 : w1.cell? ⟨w.heap.size, 1, none⟩ = some (.slice a2 n2 c2) := by rw [← hw1]; simp
  have hs1 : w.heap.size < w1.heap.size := by rw [← hw1]; simp
  clear hw1
  refine (refCount_any n1 _ (by omega)).mono ?_
  rintro e w2 ⟨v2, rfl, hown2, hbel2⟩
  have KB : Hid (∀ wr, Below w1.heap.size w1 wr → wr.cell? ⟨w.heap.size, 0, none⟩ = some (.slice a1 n1 c1) ∧ wr.cell? ⟨w.heap.size, 1, none⟩ = some (.slice a2 n2 c2)) := fun wr hb =>
    ⟨(hb.cell (p := ⟨w.heap.size, 0, none⟩) hs1).trans hb0, (hb.cell (p := ⟨w.heap.size, 1, none⟩) hs1).trans hb1⟩
  have KR1 : Hid (∀ wr, Below w1.heap.size w1 wr → RowAt wr a1 n1 c1 (cellsI nums)) := fun wr hb => H1.out.below (B0.trans (hb.mono (by omega)))
  have KR2 : Hid (∀ wr, Below w1.heap.size w1 wr → RowAt wr a2 n2 c2 (cellsT texts)) := fun wr hb => H2.out.below (B0.trans (hb.mono (by omega)))
  have HN : Hid (∀ k, (countL n1 ++ numsL (nums.take k)).length ≤ L.length) := fun k => by rw [hL.out, ← hl1]; exact bytesL_nums nums texts k
  have HT : Hid (∀ k, (countL n1 ++ numsL nums ++ countL n2 ++ textsL (texts.take k)).length ≤ L.length) := fun k => by rw [hL.out, ← hl1, ← hl2]; exact bytesL_texts nums texts k
  have HA : Hid (∀ k, n2 ≤ k → countL n1 ++ numsL nums ++ countL n2 ++ textsL (texts.take k) = L) := fun k hk => by rw [hL.out, ← hl1, ← hl2]; exact bytesL_all nums texts k (by omega)
  clear hb0 hb1
  generalize hC1 : countL n1 = C1 at *
  generalize hC2 : countL n2 = C2 at *
  have HC2 : Hid (countL n2 = C2) := hC2
  clear hC1 hC2
  obtain ⟨a3, cap3, rfl, hrow3, hlow3⟩ := RowAt.of_own hown2
  go_wp2
  go_loopw [3, 4] (fun x i wr => ∃ (k : Nat) (D : List UInt8), k ≤ n1 ∧ i = .int .i64 k ∧ Hid (D = C1 ++ numsL (nums.take k)) ∧ D.length ≤ 5010 ∧ wr.ownsRow w1.heap.size 5 1 x D.length (cellsB D) ∧ Below w1.heap.size w1 wr) (fun _ i _ => n1 - (intOf i).toNat)
  case atStart => exact ⟨0, C1, Nat.zero_le _, rfl, by show _ = _; simp [numsL], by omega, hown2, hbel2⟩
  case round =>
    obtain ⟨k, D, hk, rfl, hD, hle, hown', hbel⟩ := hrel
    have hs' : w1.heap.size ≤ wr.heap.size := hbel.size
    obtain ⟨g0, g1⟩ := KB.out wr hbel
    obtain ⟨a4, cap4, rfl, hrow4, hlow4⟩ := RowAt.of_own hown'
    by_cases hlt : k < n1 ∧ D.length < 5000
    · obtain ⟨hlt, hD5n⟩ := hlt
      have hD5 : ((D.length : Nat) : Int) < 5000 := by omega
      have HLE : Hid (D.length ≤ 5010 ∧ D.length < 5000) := ⟨hle, hD5n⟩
      clear hle hD5n
      have hr := KR1.out wr hbel
      obtain ⟨b, off, rfl, hcell⟩ := hr.some (by omega)
      have hc := hcell k hlt
      rw [cellsI_get nums k (by omega)] at hc
      have h6 := h3 _ (getD_mem nums 0 k (by omega))
      have HT : Hid (D ++ countL (numberN (nums.getD k 0)) = C1 ++ numsL (nums.take (k + 1))) := by
        show _ = _
        rw [numsL_take nums k (by omega), hD.out, List.append_assoc]
      clear hcell hr
      generalize nums.getD k 0 = x at *
      have hX := countL_le10 _ (numberN_lt h6)
      have hp := countL_pos (numberN x)
      go_wp2_with (first
        | (go_at_call 27; refine (refNumber_any _ _ h6).mono ?_; rintro e w5 ⟨v5, rfl, hown5, hbel5⟩; obtain ⟨g, cap, rfl, hg, hg2, hcs⟩ := own_form hown5 hp)
        | (at_builtin; refine wpList_append_own _ rfl (.tmp 23) (.tmp 29) 38 rfl w1.heap.size 5 i0 (.int .u8 0) 1 1 Try.underlying38 hi hz0 hz1 hz2 rfl (by decide) _ _ _ rfl (own_below hown' hbel5) ⟨g, 0, none⟩ _ cap (cellsB (countL (numberN x))) rfl (by rw [cellsB_length, Nat.mul_one]) hcs (one_cellsB _) (by have := HLE.out; unfold maxLen; omega) (by have := HLE.out; omega) (Nat.le_trans hs' hbel5.size) ?_))
      intro v6 w6 hown6 hgrow _
      go_wp2
      go_roundw
      case rel =>
        refine ⟨k + 1, D ++ countL (numberN x), by omega, by go_num, HT.out, by have := HLE.out; rw [List.length_append]; omega, ?_, (hbel.trans (hbel5.mono hs')).grown hgrow (Nat.le_trans hs' hbel5.size) (fun k hk => (hown'.lt k hk).1)⟩
        rw [List.length_append, cellsB_append]
        exact hown6
      case measure => simp [intOf]; omega
    · have hex : k = n1 ∨ (k < n1 ∧ ¬ ((D.length : Nat) : Int) < 5000) := by omega
      have HX : Hid ((k = n1 ∧ D = C1 ++ numsL nums) ∨ (5000 ≤ D.length ∧ 4096 < L.length)) := by
        by_cases hk1 : k = n1
        · left
          refine ⟨hk1, ?_⟩
          rw [hD.out, List.take_of_length_le (by omega)]
        · right
          have h5 := HN.out k
          rw [← hD.out] at h5
          omega
      have HLE : Hid (D.length ≤ 5010) := hle
      clear hle hlt hD HN KR1
      have hp := countL_pos n2
      rw [HC2.out] at hp
      rcases hex with hex | ⟨hex1, hex2⟩
      all_goals
        go_wp2_with (first
          | (go_at_call 26; refine (refCount_any n2 _ (by omega)).mono ?_; rintro e w5 ⟨v5, rfl, hown5, hbel5⟩; rw [HC2.out] at hown5; obtain ⟨g, cap, rfl, hg, hg2, hcs⟩ := own_form hown5 hp)
          | (at_builtin; refine wpList_append_own _ rfl (.tmp 31) (.tmp 35) 38 rfl w1.heap.size 5 i0 (.int .u8 0) 1 1 Try.underlying38 hi hz0 hz1 hz2 rfl (by decide) _ _ _ rfl (own_below hown' hbel5) ⟨g, 0, none⟩ _ cap (cellsB C2) rfl (by rw [cellsB_length, Nat.mul_one]) hcs (one_cellsB _) (by have := HLE.out; unfold maxLen; omega) (by have := HLE.out; omega) (Nat.le_trans hs' hbel5.size) ?_))
        intro v6 w6 hown6 hgrow _
        have hbel6 := (hbel.trans (hbel5.mono hs')).grown hgrow (Nat.le_trans hs' hbel5.size) (fun k hk => (hown'.lt k hk).1)
        rw [← cellsB_append, ← List.length_append] at hown6
        clear hgrow hbel5 hown5 hcs hrow4 hlow4 hown'
        go_wp2
        go_loopw [3, 5] (fun x i wr => ∃ (k : Nat) (D : List UInt8), k ≤ n2 ∧ i = .int .i64 k ∧ Hid (D = C1 ++ numsL nums ++ C2 ++ textsL (texts.take k) ∨ (5000 ≤ D.length ∧ 4096 < L.length)) ∧ Hid (D.length ≤ 11000) ∧ wr.ownsRow w1.heap.size 5 1 x D.length (cellsB D) ∧ Below w1.heap.size w1 wr) (fun _ i _ => n2 - (intOf i).toNat)
        case atStart =>
          refine ⟨0, D ++ C2, Nat.zero_le _, rfl, ?_, ?_, hown6, hbel6⟩
          · rcases HX.out with ⟨_, rfl⟩ | ⟨h5, h6⟩
            · left; simp [textsL]
            · right; rw [List.length_append]; exact ⟨by omega, h6⟩
          · show _ ≤ _
            have := HLE.out
            rw [List.length_append]; omega
        case round =>
          obtain ⟨k, D, hk, rfl, hD, hle, hown', hbel⟩ := hrel
          have hs' : w1.heap.size ≤ wr.heap.size := hbel.size
          obtain ⟨g0, g1⟩ := KB.out wr hbel
          obtain ⟨a4, cap4, rfl, hrow4, hlow4⟩ := RowAt.of_own hown'
          by_cases hlt : k < n2 ∧ D.length < 5000
          · obtain ⟨hlt, hD5n⟩ := hlt
            have hD5 : ((D.length : Nat) : Int) < 5000 := by omega
            have HD5 : Hid (D.length < 5000) := hD5n
            have hr := KR2.out wr hbel
            obtain ⟨b, off, rfl, hcell⟩ := hr.some (by omega)
            have hc := hcell k hlt
            rw [cellsT_get texts k (by omega)] at hc
            have h6 := h4 _ (getD_mem texts ByteArray.empty k (by omega))
            have HE : Hid (D = C1 ++ numsL nums ++ C2 ++ textsL (texts.take k)) := by
              rcases hD.out with h | h
              · exact h
              · omega
            have HT1 : Hid (D ++ textL (texts.getD k ByteArray.empty) = C1 ++ numsL nums ++ C2 ++ textsL (texts.take (k + 1))) := by
              show _ = _
              rw [textsL_take texts k (by omega), HE.out, List.append_assoc]
            have HT2 : Hid ((D ++ textL (texts.getD k ByteArray.empty)).length ≤ L.length) := by
              show _ ≤ _
              rw [HT1.out]; exact HT.out (k + 1)
            clear hcell hr hD5n hD
            generalize texts.getD k ByteArray.empty = x at *
            unfold maxLen at h6
            have hX := countL_le10 x.size (by omega)
            have hp := countL_pos x.size
            by_cases hx5 : (5000 : Int) < (x.size : Int)
            · go_wp2_with (first
                | (go_at_call 26; refine (refCount_any x.size _ (by omega)).mono ?_; rintro e w5 ⟨v5, rfl, hown5, hbel5⟩; obtain ⟨g, cap, rfl, hg, hg2, hcs⟩ := own_form hown5 hp)
                | (at_builtin; refine wpList_append_own _ rfl (.tmp 54) (.tmp 57) 38 rfl w1.heap.size 5 i0 (.int .u8 0) 1 1 Try.underlying38 hi hz0 hz1 hz2 rfl (by decide) _ _ _ rfl (own_below hown' hbel5) ⟨g, 0, none⟩ _ cap (cellsB (countL x.size)) rfl (by rw [cellsB_length, Nat.mul_one]) hcs (one_cellsB _) (by have := HD5.out; unfold maxLen; omega) (by have := HD5.out; omega) (Nat.le_trans hs' hbel5.size) ?_))
              intro v6 w6 hown6 hgrow _
              have hbel6 := (hbel.trans (hbel5.mono hs')).grown hgrow (Nat.le_trans hs' hbel5.size) (fun k hk => (hown'.lt k hk).1)
              rw [← cellsB_append, ← List.length_append] at hown6
              go_wp2_with (at_builtin; refine Go.Lib.wpList_append_own_string _ rfl (.tmp 64) (.tmp 65) 38 9 rfl w1.heap.size 5 i0 Try.underlying38 Try.underlying9 hi hz0 hz1 hz2 _ _ _ rfl hown6 (x.extract 0 5000) rfl (by have := HD5.out; unfold maxLen; rw [List.length_append]; simp; omega) (by have := HD5.out; rw [List.length_append]; simp; omega) hbel6.size ?_)
              intro v7 w7 hown7 hgrow7 _
              rw [strCells_eq, ← cellsB_append] at hown7
              have hown7' := own_fix hown7
              have hbel7 := hbel6.grown hgrow7 hbel6.size (fun k hk => (hown6.lt k hk).1)
              have hy := extract_len x hx5
              have HY : Hid ((x.extract 0 5000).data.toList.length = 5000) := hy
              clear hown7 hy hgrow7
              generalize (x.extract 0 5000).data.toList = y at *
              go_wp2
              go_roundw
              case rel =>
                refine ⟨k + 1, D ++ countL x.size ++ y, by omega, by go_num, ?_, ?_, hown7', hbel7⟩
                · right
                  have h8 := HT2.out
                  rw [textL, List.length_append, List.length_append, Array.length_toList] at h8
                  change D.length + ((countL x.size).length + x.size) ≤ L.length at h8
                  rw [List.length_append, List.length_append, HY.out]
                  omega
                · show _ ≤ _
                  have := HD5.out
                  rw [List.length_append, List.length_append, HY.out]
                  omega
              case measure => simp [intOf]; omega
            · have HX5 : Hid (x.size ≤ 5000) := by show _ ≤ _; omega
              have hx6 : ((x.size : Nat) : Int) ≤ 5000 := by omega
              clear hx5
              go_wp2_with (first
                | (go_at_call 26; refine (refCount_any x.size _ (by omega)).mono ?_; rintro e w5 ⟨v5, rfl, hown5, hbel5⟩; obtain ⟨g, cap, rfl, hg, hg2, hcs⟩ := own_form hown5 hp)
                | (at_builtin; refine wpList_append_own _ rfl (.tmp 54) (.tmp 57) 38 rfl w1.heap.size 5 i0 (.int .u8 0) 1 1 Try.underlying38 hi hz0 hz1 hz2 rfl (by decide) _ _ _ rfl (own_below hown' hbel5) ⟨g, 0, none⟩ _ cap (cellsB (countL x.size)) rfl (by rw [cellsB_length, Nat.mul_one]) hcs (one_cellsB _) (by have := HD5.out; unfold maxLen; omega) (by have := HD5.out; omega) (Nat.le_trans hs' hbel5.size) ?_))
              intro v6 w6 hown6 hgrow _
              have hbel6 := (hbel.trans (hbel5.mono hs')).grown hgrow (Nat.le_trans hs' hbel5.size) (fun k hk => (hown'.lt k hk).1)
              rw [← cellsB_append, ← List.length_append] at hown6
              go_wp2_with (at_builtin; refine Go.Lib.wpList_append_own_string _ rfl (.tmp 64) (.tmp 65) 38 9 rfl w1.heap.size 5 i0 Try.underlying38 Try.underlying9 hi hz0 hz1 hz2 _ _ _ rfl hown6 x rfl (by have := HD5.out; have := HX5.out; unfold maxLen; rw [List.length_append]; omega) (by have := HD5.out; have := HX5.out; rw [List.length_append]; omega) hbel6.size ?_)
              intro v7 w7 hown7 hgrow7 _
              rw [strCells_eq, ← cellsB_append] at hown7
              have hown7' := own_fix hown7
              have hbel7 := hbel6.grown hgrow7 hbel6.size (fun k hk => (hown6.lt k hk).1)
              clear hown7 hgrow7
              go_wp2
              go_roundw
              case rel =>
                refine ⟨k + 1, D ++ countL x.size ++ x.data.toList, by omega, by go_num, ?_, ?_, hown7', hbel7⟩
                · left
                  rw [← HT1.out, textL, List.append_assoc]
                · show _ ≤ _
                  have := HD5.out
                  have := HX5.out
                  rw [List.length_append, List.length_append, Array.length_toList]
                  change D.length + (countL x.size).length + x.size ≤ _
                  omega
              case measure => simp [intOf]; omega
          · have hex' : k = n2 ∨ (k < n2 ∧ ¬ ((D.length : Nat) : Int) < 5000) := by omega
            have HP : Hid ((L.length ≤ 4096 → D = L) ∧ (4096 < L.length → 4096 < D.length)) := by
              rcases hD.out with h | ⟨h5, h6⟩
              · by_cases hk2 : k = n2
                · have : D = L := by rw [h]; exact HA.out k (by omega)
                  exact ⟨fun _ => this, fun h => by rw [this]; exact h⟩
                · have h7 := HT.out k
                  rw [← h] at h7
                  exact ⟨fun _ => by omega, fun _ => by omega⟩
              · exact ⟨fun _ => by omega, fun _ => by omega⟩
            clear hlt hD
            rcases hex' with hex' | ⟨hex1, hex2⟩
            all_goals
              go_wp2
              go_returns
              exact ⟨B0.trans (hbel.mono (by omega)), _, D, rfl, own_mono hown' (by omega), HP.out.1, HP.out.2, by have := hle.out; omega⟩
end Go.Proofs.Ytfplncadjifgfaa.Fr
