/-
  The contract of awake; the laws SamplesPuts and SamplesReads.
-/
import Derived.Test.YtppajhjfnlhmaaaSpH
import Derived.Test.YtppajhjfnlhmaaaBkK
namespace Go.Proofs.Ytppajhjfnlhmaaa.Bk
open Go.ChangeShapes Go.WideShapes Go.ChangeAt Go.RowKit
theorem in5 (v : Int) (h : v = 1 ∨ v = 2) : InS (5, v) := ⟨by show (0 : Int) ≤ 5; omega, by show (5 : Int) ≤ 1099511627776; omega, by show -1099511627776 ≤ v; omega, by show v ≤ 1099511627776; omega⟩
theorem put5a : putE [] (5, 1) = 0 ∧ putL [] (5, 1) = [(5, 1)] := by
  have h : putE [] (5, 1) = 0 := putE_ok (in5 1 (by omega)) rfl (by decide)
  exact ⟨h, by rw [putL_yes h]; rfl⟩
theorem put5b : putE [(5, 1)] (5, 2) = 8 := putE_other (x := (5, 1)) (in5 2 (by omega)) rfl (by decide)
set_option maxRecDepth 60000 in
theorem awake_t (w : World) : Calls Try.prog 7 #[] w fun e w' => TruePost w e w' := by
  have H1 : Hid (Calls Try.prog 8 #[.slice none 0 0, .agg #[.int .i64 5, .int .i64 1]] w fun e w' => PutPost 0 [(5, 1)] w e w') := by
    have := put_yes none 0 0 [] 5 1 w (sms_nil w) may_nil
    rw [put5a.1, put5a.2] at this
    exact this
  have H2 : Hid (∀ W a len cap, SmsAt W a len cap [(5, 1)] → Calls Try.prog 8 #[.slice a len cap, .agg #[.int .i64 5, .int .i64 2]] W fun e w' => PutPost 8 (putL [(5, 1)] (5, 2)) W e w') := fun W a len cap h => by
    have := put_yes a len cap [(5, 1)] 5 2 W h ((may_one _).2 (in5 1 (by omega)))
    rw [put5b] at this
    exact this
  go_enter Try.func7, Try.ntmps7
  go_wp2_with (first
    | (go_at_call_of 8 xa; refine (H2.out _ _ _ _ HS.out).mono ?_; rintro e w2 ⟨hb2, ya, yl, yc, rfl, hs⟩; replace HB := Hid.mk9 (below2 HB.out hb2); clear hb2 hs)
    | (go_at_call 8; refine H1.out.mono ?_; rintro e w1 ⟨hb1, xa, xl, xc, rfl, hs⟩; have HB := Hid.mk9 hb1; have HS := Hid.mk9 hs; obtain rfl : 1 = xl := hs.1; clear hb1 hs))
  go_ret
  exact ⟨rfl, HB.out⟩
set_option maxHeartbeats 1000000 in
set_option maxRecDepth 60000 in
theorem samplesPuts_any (a : Option Addr) (len cap : Nat) (ls : List Sm) (x y : Int) (w : World) (h : SmsAt w a len cap ls) :
    Calls Try.prog 3 #[.slice a len cap, .agg #[.int .i64 x, .int .i64 y]] w fun e w' => TruePost w e w' := by
  have hl : ls.length = len := h.1
  have hm : len ≤ maxLen := Nat.le_trans h.2.1 h.2.2.1
  unfold maxLen at hm
  have HL := Hid.mk9 h
  have HX := Hid.mk9 (SmBox.new w x y)
  have HB := Hid.mk9 (below_alloc w (.cells #[.int .i64 x, .int .i64 y] 24))
  clear h
  by_cases hbig : 200 < len
  · have hb' : (200 : Int) < (len : Int) := by omega
    go_enter Try.func3, Try.ntmps3
    go_wp2_with (go_at_call 7; refine (awake_t _).mono ?_; rintro e w1 ⟨rfl, hb1⟩)
    go_ret
    exact ⟨rfl, below2 HB.out hb1⟩
  have hb' : (len : Int) ≤ 200 := by omega
  clear hbig
  by_cases hM : MayS ls
  · obtain ⟨E, L, H1, H2, H3⟩ : ∃ E L, Hid (∀ W, Below w.heap.size w W → Calls Try.prog 8 #[.slice a len cap, .agg #[.int .i64 x, .int .i64 y]] W fun e w' => PutPost E L W e w') ∧ Hid (∀ W, Below w.heap.size w W → Calls Try.prog 10 #[.slice a len cap, .agg #[.int .i64 x, .int .i64 y]] W fun e w' => PutPost E L W e w') ∧ Hid (MayS L) :=
      ⟨putE ls (x, y), putL ls (x, y), fun W hb => put_yes a len cap ls x y W (HL.out.below hb) hM, fun W hb => refPut_yes a len cap ls x y W (HL.out.below hb) hM, putL_may hM⟩
    have HM := Hid.mk9 hM
    clear hM
    go_enter Try.func3, Try.ntmps3
    go_wp2_with (first
      | (go_at_call 8; refine (H1.out _ HB.out).mono ?_; rintro e w1 ⟨hb1, xa, xl, xc, rfl, hs⟩; replace HB := Hid.mk9 (below2 HB.out hb1); replace HX := Hid.mk9 (HX.out.below hb1); have HSx := Hid.mk9 hs; clear hb1 hs)
      | (go_at_call_of 9 cap; refine (mayS_true (HL.out.below HB.out) HM.out).mono ?_; rintro e w2 ⟨rfl, hb1⟩; replace HB := Hid.mk9 (below2 HB.out hb1); replace HX := Hid.mk9 (HX.out.below hb1); replace HSx := Hid.mk9 (HSx.out.below hb1); have q0 := HX.out.c0; have q1 := HX.out.c1; clear hb1)
      | (go_at_call 10; refine (H2.out _ HB.out).mono ?_; rintro e w3 ⟨hb1, ya, yl, yc, rfl, hs⟩; replace HB := Hid.mk9 (below2 HB.out hb1); replace HSx := Hid.mk9 (HSx.out.below hb1); have HSy := Hid.mk9 hs; clear hb1 hs)
      | (go_at_call 11; refine (bool_true (refSameS_any _ _ _ _ _ _ L L _ HSx.out HSy.out) rfl).mono ?_; rintro e w4 ⟨rfl, hb1⟩; replace HB := Hid.mk9 (below2 HB.out hb1); replace HSx := Hid.mk9 (HSx.out.below hb1); clear hb1)
      | (go_at_call_of 9 xa; refine (mayS_true HSx.out H3.out).mono ?_; rintro e w5 ⟨rfl, hb1⟩; replace HB := Hid.mk9 (below2 HB.out hb1); clear hb1)
      | (go_at_call 7; refine (awake_t _).mono ?_; rintro e w6 ⟨rfl, hb1⟩; replace HB := Hid.mk9 (below2 HB.out hb1); clear hb1))
    go_ret
    exact ⟨rfl, HB.out⟩
  · have HM := Hid.mk9 hM
    clear hM
    go_enter Try.func3, Try.ntmps3
    go_wp2_with (first
      | (go_at_call 8; refine (put_no a len cap ls x y _ (HL.out.below HB.out) HM.out).mono ?_; rintro e w1 ⟨rfl, hb1⟩; replace HB := Hid.mk9 (below2 HB.out hb1); clear hb1)
      | (go_at_call 9; refine (mayS_false (HL.out.below HB.out) HM.out).mono ?_; rintro e w2 ⟨rfl, hb1⟩; replace HB := Hid.mk9 (below2 HB.out hb1); clear hb1)
      | (go_at_call 7; refine (awake_t _).mono ?_; rintro e w6 ⟨rfl, hb1⟩; replace HB := Hid.mk9 (below2 HB.out hb1); clear hb1))
    go_ret
    exact ⟨rfl, HB.out⟩
set_option maxHeartbeats 1000000 in
set_option maxRecDepth 60000 in
theorem samplesReads_any (a : Option Addr) (len cap : Nat) (ls : List Sm) (f t : Int) (w : World) (h : SmsAt w a len cap ls) :
    Calls Try.prog 4 #[.slice a len cap, .int .i64 f, .int .i64 t] w fun e w' => TruePost w e w' := by
  have hl : ls.length = len := h.1
  have hm : len ≤ maxLen := Nat.le_trans h.2.1 h.2.2.1
  unfold maxLen at hm
  have HL := Hid.mk9 h
  clear h
  by_cases hbig : 200 < len
  · have hb' : (200 : Int) < (len : Int) := by omega
    go_enter Try.func4, Try.ntmps4
    go_wp2_with (go_at_call 7; refine (awake_t _).mono ?_; rintro e w1 ⟨rfl, hb1⟩)
    go_ret
    exact ⟨rfl, hb1⟩
  have hb' : (len : Int) ≤ 200 := by omega
  clear hbig
  by_cases hM : MayS ls
  · have hm64 : len ≤ 64 := by have := hM.1; omega
    have H1 : Hid (∀ W, Below w.heap.size w W → Calls Try.prog 13 #[.slice a len cap, .int .i64 f, .int .i64 t] W fun e w' => RowPost (rangeP ls f t) W e w') := fun W hb => range_yes a len cap ls f t W (HL.out.below hb) hM
    have H2 : Hid (∀ W, Below w.heap.size w W → Calls Try.prog 14 #[.slice a len cap, .int .i64 f] W fun e w' => RowPost (trimP ls f) W e w') := fun W hb => trim_yes a len cap ls f W (HL.out.below hb) hM
    have H3 : Hid (∀ W, Below w.heap.size w W → Calls Try.prog 16 #[.slice a len cap, .int .i64 f, .int .i64 t] W fun e w' => RowPost (rangeP ls f t) W e w') := fun W hb => refRange_any a len cap ls f t W (HL.out.below hb) hm64
    have H4 : Hid (∀ W, Below w.heap.size w W → Calls Try.prog 17 #[.slice a len cap, .int .i64 f] W fun e w' => RowPost (trimP ls f) W e w') := fun W hb => refTrim_any a len cap ls f W (HL.out.below hb) hm64
    obtain ⟨z1, z2, q, H5, H6⟩ : ∃ z1 z2 q, Hid (Calls Try.prog 12 #[.slice a len cap, .int .i64 f] w fun e w' => Below w.heap.size w w' ∧ e = .returned (.tuple #[.agg #[.int .i64 z1, .int .i64 z2], .bool q])) ∧ Hid (∀ W, Below w.heap.size w W → Calls Try.prog 15 #[.slice a len cap, .int .i64 f] W fun e w' => Below W.heap.size W w' ∧ e = .returned (.tuple #[.agg #[.int .i64 z1, .int .i64 z2], .bool q])) :=
      ⟨_, _, _, Hid.mk9 (get_yes a len cap ls f w HL.out hM), Hid.mk9 (fun W hb => refGet_any a len cap ls f W (HL.out.below hb))⟩
    have HM := Hid.mk9 hM
    clear hM
    generalize rangeP ls f t = R at *
    generalize trimP ls f = T at *
    go_enter Try.func4, Try.ntmps4
    go_upto_region 4 with (go_at_call 12; refine H5.out.mono ?_; rintro e w1 ⟨hb1, rfl⟩)
    have HX := Hid.mk9 (SmBox.new w1 z1 z2)
    have HB := Hid.mk9 (below2 hb1 (below_alloc w1 (.cells #[.int .i64 z1, .int .i64 z2] 24)))
    clear hb1 H5
    generalize w1.alloc (.cells #[.int .i64 z1, .int .i64 z2] 24) = w2 at *
    generalize w1.heap.size = X at *
    go_upto_region 8 with (first
      | (go_at_call 13; refine (H1.out _ HB.out).mono ?_; rintro e w3 ⟨hb1, xa, xl, xc, rfl, hs⟩; replace HB := Hid.mk9 (below2 HB.out hb1); replace HX := Hid.mk9 (HX.out.below hb1); have HSr := Hid.mk9 hs; clear hb1 hs)
      | (go_at_call 14; refine (H2.out _ HB.out).mono ?_; rintro e w4 ⟨hb1, ya, yl, yc, rfl, hs⟩; replace HB := Hid.mk9 (below2 HB.out hb1); replace HX := Hid.mk9 (HX.out.below hb1); replace HSr := Hid.mk9 (HSr.out.below hb1); have HSt := Hid.mk9 hs; clear hb1 hs)
      | (go_at_call 9; refine (mayS_true (HL.out.below HB.out) HM.out).mono ?_; rintro e w5 ⟨rfl, hb1⟩; replace HB := Hid.mk9 (below2 HB.out hb1); replace HX := Hid.mk9 (HX.out.below hb1); replace HSr := Hid.mk9 (HSr.out.below hb1); replace HSt := Hid.mk9 (HSt.out.below hb1); clear hb1)
      | (go_at_call 15; refine (H6.out _ HB.out).mono ?_; rintro e w6 ⟨hb1, rfl⟩; replace HB := Hid.mk9 (below2 HB.out hb1); replace HX := Hid.mk9 (HX.out.below hb1); replace HSr := Hid.mk9 (HSr.out.below hb1); replace HSt := Hid.mk9 (HSt.out.below hb1); clear hb1))
    have hb7 := below_alloc w6 (.cells #[.int .i64 z1, .int .i64 z2] 24)
    have HY := Hid.mk9 (SmBox.new w6 z1 z2)
    replace HB := Hid.mk9 (below2 HB.out hb7)
    replace HX := Hid.mk9 (HX.out.below hb7)
    replace HSr := Hid.mk9 (HSr.out.below hb7)
    replace HSt := Hid.mk9 (HSt.out.below hb7)
    clear hb7
    generalize w6.alloc (.cells #[.int .i64 z1, .int .i64 z2] 24) = w7 at *
    generalize w6.heap.size = Y at *
    have q0 := HX.out.c0
    have q1 := HX.out.c1
    have q2 := HY.out.c0
    have q3 := HY.out.c1
    go_wp2_with (first
      | (go_at_call 16; refine (H3.out _ HB.out).mono ?_; rintro e w8 ⟨hb1, ua, ul, uc, rfl, hs⟩; replace HB := Hid.mk9 (below2 HB.out hb1); replace HSr := Hid.mk9 (HSr.out.below hb1); replace HSt := Hid.mk9 (HSt.out.below hb1); have HSu := Hid.mk9 hs; clear hb1 hs)
      | (go_at_call 17; refine (H4.out _ HB.out).mono ?_; rintro e w9 ⟨hb1, va, vl, vc, rfl, hs⟩; replace HB := Hid.mk9 (below2 HB.out hb1); replace HSt := Hid.mk9 (HSt.out.below hb1); have HSv := Hid.mk9 hs; clear hb1 hs)
      | (go_at_call_of 11 xa; refine (bool_true (refSameS_any _ _ _ _ _ _ R R _ HSr.out HSu.out) rfl).mono ?_; rintro e w10 ⟨rfl, hb1⟩; replace HB := Hid.mk9 (below2 HB.out hb1); replace HSt := Hid.mk9 (HSt.out.below hb1); clear hb1)
      | (go_at_call_of 11 ya; refine (bool_true (refSameS_any _ _ _ _ _ _ T T _ HSt.out HSv.out) rfl).mono ?_; rintro e w11 ⟨rfl, hb1⟩; replace HB := Hid.mk9 (below2 HB.out hb1); clear hb1)
      | (go_at_call 7; refine (awake_t _).mono ?_; rintro e w12 ⟨rfl, hb1⟩; replace HB := Hid.mk9 (below2 HB.out hb1); clear hb1))
    go_ret
    exact ⟨rfl, HB.out⟩
  · have HM := Hid.mk9 hM
    clear hM
    go_enter Try.func4, Try.ntmps4
    go_upto_region 4 with (go_at_call 12; refine (get_no a len cap ls f w HL.out HM.out).mono ?_; rintro e w1 ⟨hb1, rfl⟩)
    have HX : Hid (SmBox (w1.alloc (.cells #[.int .i64 0, .int .i64 0] 24)) w1.heap.size 0 0) := Hid.mk9 (SmBox.new w1 0 0)
    have HB := Hid.mk9 (below2 hb1 (below_alloc w1 (.cells #[.int .i64 0, .int .i64 0] 24)))
    clear hb1
    go_wp2_with (first
      | (go_at_call 13; refine (range_no a len cap ls f t _ (HL.out.below HB.out) HM.out).mono ?_; rintro e w3 ⟨rfl, hb1⟩; replace HB := Hid.mk9 (below2 HB.out hb1); replace HX := Hid.mk9 (HX.out.below hb1); clear hb1)
      | (go_at_call 14; refine (trim_no a len cap ls f _ (HL.out.below HB.out) HM.out).mono ?_; rintro e w4 ⟨rfl, hb1⟩; replace HB := Hid.mk9 (below2 HB.out hb1); replace HX := Hid.mk9 (HX.out.below hb1); clear hb1)
      | (go_at_call 9; refine (mayS_false (HL.out.below HB.out) HM.out).mono ?_; rintro e w5 ⟨rfl, hb1⟩; replace HB := Hid.mk9 (below2 HB.out hb1); replace HX := Hid.mk9 (HX.out.below hb1); have q0 := HX.out.c0; have q1 := HX.out.c1; clear hb1)
      | (go_at_call 7; refine (awake_t _).mono ?_; rintro e w12 ⟨rfl, hb1⟩; replace HB := Hid.mk9 (below2 HB.out hb1); clear hb1))
    go_ret
    exact ⟨rfl, HB.out⟩
end Go.Proofs.Ytppajhjfnlhmaaa.Bk
