/-
  The contracts of numberOf and takeNums: the numbers that bytes begin with, and the bytes behind them.
-/
import Derived.Test.YtgcdelgjbgjofaaI
namespace Go.Proofs.Ytgcdelgjbgjofaa
open Go.ChangeShapes Go.WideShapes Go.ChangeAt Go.RowKit
theorem info3 : (Try.prog.info? 3).map (fun i => (i.zero, i.size, i.bytes)) = some (some (.int .i64 0), 1, 8) := by kernel_rfl
theorem and1_form (n : Nat) (h : n < 18446744073709551616) : bits .and .u64 (n : Int) 1 = ((n % 2 : Nat) : Int) := by
  rw [Go.Lib.u64_and1 _ (by omega) (by omega)]; omega
theorem not_form (n : Nat) (h : n < 9223372036854775808) : bits .xor .u64 IntKind.u64.max (n : Int) = ((18446744073709551615 - n : Nat) : Int) := by
  have e2 : IntKind.u64.max = ((2 ^ 64 - 1 : Nat) : Int) := by decide
  rw [e2, u64_xor_nat _ _ (by decide) (by omega), Go.Lib.xor_ones64 _ (by omega)]
set_option maxHeartbeats 4000000 in
theorem numberOf_any (n : Nat) (w : World) (hn : n < 18446744073709551616) :
    Calls Try.prog 48 #[.int .u64 (n : Int)] w fun e w' => e = .returned (.int .i64 (numberZ n)) ∧ w' = w := by
  have h1 := and1_form n hn
  by_cases h2 : n % 2 = 0
  · have hz : Hid (numberZ n = ((n / 2 : Nat) : Int)) := if_pos h2
    rw [h2] at h1
    go_enter Try.func48, Try.ntmps48
    go_wp2
    go_returns
    exact ⟨ret_int (by rw [hz.out]; omega), rfl⟩
  · have hz : Hid (numberZ n = -1 - ((n / 2 : Nat) : Int)) := if_neg h2
    rw [show n % 2 = 1 from by omega] at h1
    have HNF : Hid (wrap64 (bits .xor .u64 IntKind.u64.max ((n : Int) / 2)) = -1 - ((n / 2 : Nat) : Int)) := by
      show _ = _
      rw [show (n : Int) / 2 = ((n / 2 : Nat) : Int) from by omega, not_form (n / 2) (by omega)]
      unfold wrap64
      omega
    go_enter Try.func48, Try.ntmps48
    go_wp2
    go_returns
    exact ⟨ret_int (by rw [hz.out, HNF.out]), rfl⟩
theorem one_i64 (x : Int) : ∀ u ∈ ([.int .i64 x] : List Value), u.oneCell' = true := by intro u hu; simp at hu; subst hu; rfl
/-- what takeNums answers -/
def NumsPost (w : World) (l : List UInt8) (e : Ending) (w' : World) : Prop := Below w.heap.size w w' ∧
  ((e = .returned (.tuple #[.slice none 0 0, .slice none 0 0, .bool false]) ∧ ∀ (nums : List Int) r, (∀ x ∈ nums, Is64 x) → l ≠ countL nums.length ++ (numsL nums ++ r)) ∨
   ∃ (v : Value) (nums : List Int) (a : Option Addr) (len cap : Nat) (r : List UInt8), e = .returned (.tuple #[v, .slice a len cap, .bool true]) ∧ w'.ownsRow w.heap.size 3 1 v nums.length (cellsI nums) ∧ (∀ x ∈ nums, Is64 x) ∧ l = countL nums.length ++ (numsL nums ++ r) ∧ RowAt w a len cap (cellsB r))
theorem nums_no {l R r : List UInt8} {n k : Nat} {nums : List Int} (h1 : l = countL n ++ R) (h2 : R = numsL nums ++ r) (h3 : nums.length = k) (h4 : k < n) (h5 : NoLead r) :
    ∀ (nums0 : List Int) r0, (∀ x ∈ nums0, Is64 x) → l ≠ countL nums0.length ++ (numsL nums0 ++ r0) := by
  intro nums0 r0 h64 e
  rw [h1] at e
  have e1 := countL_free _ _ _ _ e
  rw [h2] at e1
  have hsp : numsL nums0 ++ r0 = numsL (nums0.take k) ++ (numsL (nums0.drop k) ++ r0) := by
    rw [← List.append_assoc, ← numsL_append, List.take_append_drop]
  have e2 := e1.2
  rw [hsp] at e2
  have e3 := numsL_free nums (nums0.take k) _ _ (by rw [h3, List.length_take]; omega) e2
  have hk : k < nums0.length := by omega
  rw [List.drop_eq_getElem_cons hk, numsL_cons, List.append_assoc] at e3
  exact h5 _ _ (numberN_lt (h64 _ (List.getElem_mem hk))) e3.2
theorem many_no {l : List UInt8} (h : ∀ m r, m < 18446744073709551616 → l = countL m ++ r → r.length < m) (hl : l.length ≤ 6000) :
    ∀ (nums : List Int) r, (∀ x ∈ nums, Is64 x) → l ≠ countL nums.length ++ (numsL nums ++ r) := by
  intro nums r _ e
  have h1 := numsL_len nums
  have h2 := congrArg List.length e
  rw [List.length_append, List.length_append] at h2
  have h3 := h nums.length (numsL nums ++ r) (by omega) e
  rw [List.length_append] at h3
  omega
set_option maxHeartbeats 4000000 in
set_option maxRecDepth 20000 in
theorem takeNums_any (a : Option Addr) (len cap : Nat) (l : List UInt8) (w : World) (h : RowAt w a len cap (cellsB l)) (h6 : Hid (len ≤ 6000)) :
    Calls Try.prog 36 #[.slice a len cap] w fun e w' => NumsPost w l e w' := by
  obtain ⟨i0, hi, hz0, hz1, hz2⟩ := info_parts info3
  have hl : l.length = len := by simpa [cellsB] using h.1
  have HR : Hid (RowAt w a len cap (cellsB l)) := h
  have HLL : Hid (l.length ≤ 6000) := by show _ ≤ _; rw [hl]; exact h6.out
  clear h
  go_enter Try.func36, Try.ntmps36
  go_wp2_with fail
  refine (takeMany_any _ _ _ l _ HR.out).mono ?_
  rintro e w1 ⟨rfl, ⟨rfl, hno⟩ | ⟨n, a1, len1, cap1, R, rfl, hlR, hnl, hrow⟩⟩
  · have HN : Hid (∀ (nums : List Int) r, (∀ x ∈ nums, Is64 x) → l ≠ countL nums.length ++ (numsL nums ++ r)) := many_no hno HLL.out
    clear hno
    go_wp2
    go_returns
    exact ⟨Below.refl _ _, .inl ⟨rfl, HN.out⟩⟩
  · have HlR : Hid (l = countL n ++ R) := hlR
    have HR1 : Hid (RowAt w1 a1 len1 cap1 (cellsB R)) := hrow _ HR.out
    replace hrow := HR1.out
    have hRl : R.length = len1 := by simpa [cellsB] using hrow.1
    have H61 : Hid (R.length ≤ 6000) := by
      show _ ≤ _
      have h1 := HLL.out
      have h2 := congrArg List.length hlR
      rw [List.length_append] at h2
      omega
    have hn6 : ((n : Nat) : Int) ≤ 6000 := by have := H61.out; omega
    clear hlR hrow
    go_wp2
    go_loopw [0, 7, 19] (fun x y i wr => ∃ (k : Nat) (nums : List Int) (a2 : Option Addr) (len2 cap2 : Nat) (r : List UInt8), k ≤ n ∧ i = .int .i64 k ∧ x = .slice a2 len2 cap2 ∧ RowAt w1 a2 len2 cap2 (cellsB r) ∧ wr.ownsRow w1.heap.size 3 1 y k (cellsI nums) ∧ Hid (nums.length = k ∧ R = numsL nums ++ r ∧ ∀ x ∈ nums, Is64 x) ∧ Below w1.heap.size w1 wr) (fun _ _ i _ => n - (intOf i).toNat)
    case atStart =>
      exact ⟨0, [], a1, len1, cap1, R, Nat.zero_le _, rfl, rfl, HR1.out, World.ownsRow_nil _ _ _ _, ⟨rfl, rfl, by simp⟩, Below.refl _ _⟩
    case round =>
      obtain ⟨k, nums, a2, len2, cap2, r, hk, rfl, rfl, hrow2, hown, hN, hbel⟩ := hrel
      have HR2 : Hid (RowAt w1 a2 len2 cap2 (cellsB r)) := hrow2
      have hrl : r.length = len2 := by simpa [cellsB] using hrow2.1
      have hc2 := hrow2.2.1
      have hm2 : len2 ≤ maxLen := Nat.le_trans hrow2.2.1 hrow2.2.2.1
      unfold maxLen at hm2
      clear hrow2
      by_cases hlt : k < n
      · go_wp2_with fail
        refine (lead_any _ _ _ r _ (HR2.out.below hbel)).mono ?_
        rintro e w2 ⟨rfl, m, s, rfl, hL⟩
        obtain ⟨hs1, hs2, hn⟩ := leadIs_le hL
        rw [hrl] at hs1
        have HL : Hid (LeadIs r m s) := hL
        obtain ⟨a', hif, hrow⟩ := slice_from a2 len2 cap2 r s hs1
        have HR3 : Hid (RowAt w1 a' (len2 - s) (cap2 - s) (cellsB (r.drop s))) := hrow _ HR2.out
        clear hrow hL
        by_cases hs0 : s = 0
        · have HN0 : Hid (NoLead r) := by
            rcases HL.out with ⟨_, _, h⟩ | ⟨_, h, _⟩
            · exact h
            · have := countL_pos m; omega
          subst hs0
          go_wp2
          go_returns
          exact ⟨hbel, .inl ⟨rfl, nums_no HlR.out hN.out.2.1 hN.out.1 hlt HN0.out⟩⟩
        · have H1 : Hid (r = countL m ++ r.drop s) := by
            rcases HL.out with ⟨_, h, _⟩ | ⟨_, _, h⟩
            · omega
            · exact h
          have hs0' : ((s : Int) == 0) = false := beq_eq_false_iff_ne.2 (by omega)
          have hs' := hbel.size
          go_wp2_with (first
            | (go_at_call 48; refine (numberOf_any m _ hn).mono ?_; rintro e w3 ⟨rfl, rfl⟩)
            | (at_builtin; refine wpList_append_own _ rfl (.tmp 28) (.tmp 31) 26 rfl w1.heap.size 3 i0 (.int .i64 0) 1 8 Try.underlying26 hi hz0 hz1 hz2 rfl (by decide) _ _ _ rfl (hown.alloc _) ⟨_, 0, none⟩ 1 1 [.int .i64 (numberZ m)] rfl rfl (cell_one_new _ _ _) (one_i64 _) (by unfold maxLen; omega) (by omega) (by simp; omega) ?_))
          intro v4 w4 hown4 hgrow _
          go_wp2
          go_roundw
          case rel =>
            refine ⟨k + 1, nums ++ [numberZ m], a', len2 - s, cap2 - s, r.drop s, by omega, by go_num, rfl, HR3.out, ?_, ⟨?_, ?_, ?_⟩, (hbel.alloc hs' _).grown hgrow (by simp; omega) (fun k hk => (hown.lt k hk).1)⟩
            · rw [cellsI_append]; exact hown4
            · rw [List.length_append, hN.out.1]; rfl
            · rw [numsL_snoc, numberN_Z, List.append_assoc, ← H1.out]; exact hN.out.2.1
            · intro x hx
              rcases List.mem_append.1 hx with hx | hx
              · exact hN.out.2.2 x hx
              · rw [List.mem_singleton.1 hx]; exact numberZ_is hn
          case measure => simp [intOf]; omega
      · go_wp2
        go_returns
        obtain rfl : k = n := by omega
        obtain ⟨hN1, hN2, hN3⟩ := hN.out
        refine ⟨hbel, .inr ⟨_, nums, a2, len2, cap2, r, rfl, by rw [hN1]; exact hown, hN3, by rw [hN1, ← hN2]; exact HlR.out, HR2.out⟩⟩

theorem info9 : (Try.prog.info? 9).map (fun i => (i.zero, i.size, i.bytes)) = some (some (.string ByteArray.empty), 1, 16) := by kernel_rfl
theorem one_str (x : ByteArray) : ∀ u ∈ ([.string x] : List Value), u.oneCell' = true := by intro u hu; simp at hu; subst hu; rfl
/-- what takeTexts answers -/
def TextsPost (w : World) (l : List UInt8) (e : Ending) (w' : World) : Prop := Below w.heap.size w w' ∧
  ((e = .returned (.tuple #[.slice none 0 0, .slice none 0 0, .bool false]) ∧ ∀ (texts : List ByteArray) r, (∀ x ∈ texts, x.size ≤ maxLen) → l ≠ countL texts.length ++ (textsL texts ++ r)) ∨
   ∃ (v : Value) (texts : List ByteArray) (a : Option Addr) (len cap : Nat) (r : List UInt8), e = .returned (.tuple #[v, .slice a len cap, .bool true]) ∧ w'.ownsRow w.heap.size 9 1 v texts.length (cellsT texts) ∧ (∀ x ∈ texts, x.size ≤ maxLen) ∧ l = countL texts.length ++ (textsL texts ++ r) ∧ r.length = len)
theorem texts_no {l R r : List UInt8} {n k : Nat} {texts : List ByteArray} (h1 : l = countL n ++ R) (h2 : R = textsL texts ++ r) (h3 : texts.length = k) (h4 : k < n) (h5 : ∀ m r', m < 18446744073709551616 → r = countL m ++ r' → r'.length < m) :
    ∀ (texts0 : List ByteArray) r0, (∀ x ∈ texts0, x.size ≤ maxLen) → l ≠ countL texts0.length ++ (textsL texts0 ++ r0) := by
  intro texts0 r0 h64 e
  rw [h1] at e
  have e1 := countL_free _ _ _ _ e
  rw [h2] at e1
  have hsp : textsL texts0 ++ r0 = textsL (texts0.take k) ++ (textsL (texts0.drop k) ++ r0) := by
    rw [← List.append_assoc, ← textsL_append, List.take_append_drop]
  have e2 := e1.2
  rw [hsp] at e2
  have e3 := textsL_free texts (texts0.take k) _ _ (by rw [h3, List.length_take]; omega) e2
  have hk : k < texts0.length := by omega
  rw [List.drop_eq_getElem_cons hk, textsL_cons, textL, List.append_assoc, List.append_assoc] at e3
  have h6 := h64 _ (List.getElem_mem hk)
  unfold maxLen at h6
  have h7 := h5 _ _ (by omega) e3.2
  rw [List.length_append, Array.length_toList] at h7
  change texts0[k].size + _ < texts0[k].size at h7
  omega
theorem manyT_no {l : List UInt8} (h : ∀ m r, m < 18446744073709551616 → l = countL m ++ r → r.length < m) (hl : l.length ≤ 6000) :
    ∀ (texts : List ByteArray) r, (∀ x ∈ texts, x.size ≤ maxLen) → l ≠ countL texts.length ++ (textsL texts ++ r) := by
  intro texts r _ e
  have h1 := textsL_len texts
  have h2 := congrArg List.length e
  rw [List.length_append, List.length_append] at h2
  have h3 := h texts.length (textsL texts ++ r) (by omega) e
  rw [List.length_append] at h3
  omega
theorem textL_txt (m : Nat) (R : List UInt8) (h : m ≤ R.length) : textL (txt (R.take m)) ++ R.drop m = countL m ++ R := by
  rw [textL, txt_list, txt_size, List.length_take, Nat.min_eq_left h, List.append_assoc, List.take_append_drop]
set_option maxHeartbeats 4000000 in
set_option maxRecDepth 20000 in
theorem takeTexts_any (a : Option Addr) (len cap : Nat) (l : List UInt8) (w : World) (h : RowAt w a len cap (cellsB l)) (h6 : Hid (len ≤ 6000)) :
    Calls Try.prog 37 #[.slice a len cap] w fun e w' => TextsPost w l e w' := by
  obtain ⟨i0, hi, hz0, hz1, hz2⟩ := info_parts info9
  have hl : l.length = len := by simpa [cellsB] using h.1
  have HR : Hid (RowAt w a len cap (cellsB l)) := h
  have HLL : Hid (l.length ≤ 6000) := by show _ ≤ _; rw [hl]; exact h6.out
  clear h
  go_enter Try.func37, Try.ntmps37
  go_wp2_with fail
  refine (takeMany_any _ _ _ l _ HR.out).mono ?_
  rintro e w1 ⟨rfl, ⟨rfl, hno⟩ | ⟨n, a1, len1, cap1, R, rfl, hlR, hnl, hrow⟩⟩
  · have HN : Hid (∀ (texts : List ByteArray) r, (∀ x ∈ texts, x.size ≤ maxLen) → l ≠ countL texts.length ++ (textsL texts ++ r)) := manyT_no hno HLL.out
    clear hno
    go_wp2
    go_returns
    exact ⟨Below.refl _ _, .inl ⟨rfl, HN.out⟩⟩
  · have HlR : Hid (l = countL n ++ R) := hlR
    have HR1 : Hid (RowAt w1 a1 len1 cap1 (cellsB R)) := hrow _ HR.out
    replace hrow := HR1.out
    have hRl : R.length = len1 := by simpa [cellsB] using hrow.1
    have H61 : Hid (R.length ≤ 6000) := by
      show _ ≤ _
      have h1 := HLL.out
      have h2 := congrArg List.length hlR
      rw [List.length_append] at h2
      omega
    have hn6 : ((n : Nat) : Int) ≤ 6000 := by have := H61.out; omega
    clear hlR hrow
    go_wp2
    go_loopw [0, 6, 7, 18] (fun x q y i wr => ∃ (k : Nat) (texts : List ByteArray) (a2 : Option Addr) (len2 cap2 : Nat) (r : List UInt8), k ≤ n ∧ i = .int .i64 k ∧ x = .slice a2 len2 cap2 ∧ q = .bool true ∧ RowAt w1 a2 len2 cap2 (cellsB r) ∧ wr.ownsRow w1.heap.size 9 1 y k (cellsT texts) ∧ Hid (texts.length = k ∧ R = textsL texts ++ r ∧ ∀ x ∈ texts, x.size ≤ maxLen) ∧ Below w1.heap.size w1 wr) (fun _ _ _ i _ => n - (intOf i).toNat)
    case atStart =>
      exact ⟨0, [], a1, len1, cap1, R, Nat.zero_le _, rfl, rfl, rfl, HR1.out, World.ownsRow_nil _ _ _ _, ⟨rfl, rfl, by simp⟩, Below.refl _ _⟩
    case round =>
      obtain ⟨k, texts, a2, len2, cap2, r, hk, rfl, rfl, rfl, hrow2, hown, hN, hbel⟩ := hrel
      have HR2 : Hid (RowAt w1 a2 len2 cap2 (cellsB r)) := hrow2
      have hrl : r.length = len2 := by simpa [cellsB] using hrow2.1
      clear hrow2
      by_cases hlt : k < n
      · go_wp2_with fail
        refine (takeMany_any _ _ _ r _ (HR2.out.below hbel)).mono ?_
        rintro e w2 ⟨rfl, ⟨rfl, hno⟩ | ⟨m, a3, len3, cap3, r3, rfl, hr3, hnl3, hrow3⟩⟩
        · have HNO : Hid (∀ m r', m < 18446744073709551616 → r = countL m ++ r' → r'.length < m) := hno
          clear hno
          go_wp2
          go_returns
          exact ⟨hbel, .inl ⟨rfl, texts_no HlR.out hN.out.2.1 hN.out.1 hlt HNO.out⟩⟩
        · have HR3 : Hid (RowAt w1 a3 len3 cap3 (cellsB r3)) := hrow3 _ HR2.out
          have hrow4 := HR3.out.below hbel
          have hrl3 : r3.length = len3 := by simpa [cellsB] using hrow4.1
          have hc3 := hrow4.2.1
          have hm3 : len3 ≤ maxLen := Nat.le_trans hrow4.2.1 hrow4.2.2.1
          unfold maxLen at hm3
          have hr5 := hrow4.take m hnl3
          rw [cellsB_take] at hr5
          have ht := text_of hr5
          obtain ⟨a', hif, hrow⟩ := slice_from a3 len3 cap3 r3 m hnl3
          have HR5 : Hid (RowAt w1 a' (len3 - m) (cap3 - m) (cellsB (r3.drop m))) := hrow _ HR3.out
          have HTT : Hid (r = textL (txt (r3.take m)) ++ r3.drop m) := by
            show _ = _
            rw [textL_txt m r3 (by omega)]; exact hr3
          have HSZ : Hid ((txt (r3.take m)).size ≤ maxLen) := by
            show _ ≤ _
            rw [txt_size, List.length_take]; unfold maxLen; omega
          have hif0 : (if cap3 = 0 then a3 else Option.map (fun x => x.add 0) a3) = a3 := by
            split
            · rfl
            · cases a3 with
              | none => rfl
              | some x => simp [Addr.add]
          have hs' := hbel.size
          clear hrow hrow3 hr3 hrow4 hr5
          generalize txt (r3.take m) = X at *
          go_wp2_with (at_builtin; refine wpList_append_own _ rfl (.tmp 28) (.tmp 33) 27 rfl w1.heap.size 9 i0 (.string ByteArray.empty) 1 16 Try.underlying27 hi hz0 hz1 hz2 rfl (by decide) _ _ _ rfl (hown.alloc _) ⟨_, 0, none⟩ 1 1 [.string X] rfl rfl (cell_one_new _ _ _) (one_str _) (by unfold maxLen; omega) (by omega) (by simp; omega) ?_)
          intro v4 w4 hown4 hgrow _
          go_wp2
          go_roundw
          case rel =>
            refine ⟨k + 1, texts ++ [X], a', len3 - m, cap3 - m, r3.drop m, by omega, by go_num, rfl, rfl, HR5.out, ?_, ⟨?_, ?_, ?_⟩, (hbel.alloc hs' _).grown hgrow (by simp; omega) (fun k hk => (hown.lt k hk).1)⟩
            · rw [cellsT_append]; exact hown4
            · rw [List.length_append, hN.out.1]; rfl
            · rw [textsL_snoc, List.append_assoc, ← HTT.out]; exact hN.out.2.1
            · intro x hx
              rcases List.mem_append.1 hx with hx | hx
              · exact hN.out.2.2 x hx
              · rw [List.mem_singleton.1 hx]; exact HSZ.out
          case measure => simp [intOf]; omega
      · go_wp2
        go_returns
        obtain rfl : k = n := by omega
        obtain ⟨hN1, hN2, hN3⟩ := hN.out
        refine ⟨hbel, .inr ⟨_, texts, a2, len2, cap2, r, rfl, by rw [hN1]; exact hown, hN3, by rw [hN1, ← hN2]; exact HlR.out, hrl⟩⟩
end Go.Proofs.Ytgcdelgjbgjofaa
