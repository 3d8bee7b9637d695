/-
  The contracts of refusal, slices.Grow, slices.Concat and Put.
-/
import Derived.Test.YtppajhjfnlhmaaaSpC
namespace Go.Proofs.Ytppajhjfnlhmaaa.Bk
open Go.ChangeShapes Go.WideShapes Go.ChangeAt Go.RowKit
set_option maxHeartbeats 1000000 in
set_option maxRecDepth 60000 in
theorem refusal_any (a : Option Addr) (len cap : Nat) (ls : List Sm) (x y : Int) (w : World) (h : SmsAt w a len cap ls) (hM : MayS ls) :
    Calls Try.prog 21 #[.slice a len cap, .agg #[.int .i64 x, .int .i64 y]] w fun e w' => e = .returned (.int .i64 (putE ls (x, y))) ∧ Below w.heap.size w w' := by
  have hl : ls.length = len := h.1
  have hm : len ≤ 64 := by have := hM.1; omega
  have HL := Hid.mk9 h
  have b0 := below_alloc w (.cells #[.int .i64 x, .int .i64 y] 24)
  have b1 := below2 b0 (below_alloc _ (.cells #[.int .i64 x, .int .i64 y] 24))
  have HX := Hid.mk9 ((SmBox.new w x y).below (below_alloc _ (.cells #[.int .i64 x, .int .i64 y] 24)))
  have HO : Hid (SmsAt ((w.alloc (.cells #[.int .i64 x, .int .i64 y] 24)).alloc (.cells #[.int .i64 x, .int .i64 y] 24)) (some ⟨w.heap.size + 1, 0, none⟩) 1 1 [(x, y)]) := by
    have := sms_lit (w.alloc (.cells #[.int .i64 x, .int .i64 y] 24)) x y
    rw [show (w.alloc (.cells #[.int .i64 x, .int .i64 y] 24)).heap.size = w.heap.size + 1 from by simp] at this
    exact this
  have HF : Hid (∀ W, Below w.heap.size w W → Calls Try.prog 26 #[.slice a len cap, .int .i64 x] W fun e w' => FindPost (findP ls x) W e w') := fun W hb => find_any a len cap ls x W (h.below hb) ((may_iff ls).1 hM).2.2
  clear h hM
  by_cases hin : InS (x, y)
  · have HC := Hid.mk9 (check_yes HO.out ((may_one _).2 hin))
    have HE7 : Hid (findP ls x = some (x, y) → putE ls (x, y) = 7) := fun h => putE_same hin h
    have HE8 : Hid (∀ z, findP ls x = some z → z ≠ (x, y) → putE ls (x, y) = 8) := fun z h hz => putE_other hin h hz
    have HE6 : Hid (findP ls x = none → 64 ≤ ls.length → putE ls (x, y) = 6) := fun h hz => putE_full hin h hz
    have HE0 : Hid (findP ls x = none → ls.length < 64 → putE ls (x, y) = 0) := fun h hz => putE_ok hin h hz
    clear hin HO
    go_enter Try.func21, Try.ntmps21
    go_upto_region 4 with (go_at_call 20; refine HC.out.mono ?_; rintro e w1 ⟨rfl, hb1⟩)
    have HB := Hid.mk9 (below2 b1 hb1)
    have HX1 := Hid.mk9 (HX.out.below hb1)
    have c0 := HX1.out.c0
    clear hb1 b0 b1 HC HX
    cases hf : findP ls x with
    | none =>
      rw [hf] at HF HE6 HE0
      clear HE7 HE8
      by_cases h64 : 64 ≤ len
      · have HE := Hid.mk9 (HE6.out rfl (by omega))
        have h64' : (64 : Int) ≤ (len : Int) := by omega
        clear HE6 HE0 hf
        go_wp2_with (go_at_call 26; refine (HF.out _ HB.out).mono ?_; rintro e w2 ⟨hb2, rfl⟩; replace HB := Hid.mk9 (below2 HB.out hb2); clear hb2)
        go_ret
        exact ⟨ret_int HE.out.symm, below2 HB.out (below_alloc _ _)⟩
      · have HE := Hid.mk9 (HE0.out rfl (by omega))
        have h64' : decide ((64 : Int) ≤ (len : Int)) = false := by simp; omega
        clear HE6 HE0 hf
        go_wp2_with (go_at_call 26; refine (HF.out _ HB.out).mono ?_; rintro e w2 ⟨hb2, rfl⟩; replace HB := Hid.mk9 (below2 HB.out hb2); clear hb2)
        go_ret
        exact ⟨ret_int HE.out.symm, below2 HB.out (below_alloc _ _)⟩
    | some z =>
      rw [hf] at HF HE7 HE8
      clear HE6 HE0
      obtain ⟨z1, z2⟩ := z
      obtain rfl : z1 = x := (find_mem hf).2
      by_cases hy : z2 = y
      · subst hy
        have HE := Hid.mk9 (HE7.out rfl)
        clear HE7 HE8 hf
        go_wp2_with (go_at_call 26; refine (HF.out _ HB.out).mono ?_; rintro e w2 ⟨hb2, rfl⟩; replace HB := Hid.mk9 (below2 HB.out hb2); replace HX1 := Hid.mk9 (HX1.out.below hb2); have d0 := HX1.out.c0; have d1 := HX1.out.c1; have d2 := HX1.out.lt; clear hb2)
        go_ret
        exact ⟨ret_int HE.out.symm, below2 HB.out (below_alloc _ _)⟩
      · have HE := Hid.mk9 (HE8.out _ rfl fun e => hy (congrArg Prod.snd e))
        clear HE7 HE8 hf
        go_wp2_with (go_at_call 26; refine (HF.out _ HB.out).mono ?_; rintro e w2 ⟨hb2, rfl⟩; replace HB := Hid.mk9 (below2 HB.out hb2); replace HX1 := Hid.mk9 (HX1.out.below hb2); have d0 := HX1.out.c0; have d1 := HX1.out.c1; have d2 := HX1.out.lt; clear hb2)
        go_ret
        exact ⟨ret_int HE.out.symm, below2 HB.out (below_alloc _ _)⟩
  · have HC := Hid.mk9 (check_no HO.out (fun h => hin ((may_one _).1 h)))
    have HE := Hid.mk9 (putE_arg (ls := ls) hin)
    clear hin HO HF
    go_enter Try.func21, Try.ntmps21
    go_wp2_with (go_at_call 20; refine HC.out.mono ?_; rintro e w1 ⟨rfl, hb1⟩)
    go_ret
    exact ⟨ret_int HE.out.symm, below2 b1 hb1⟩
end Go.Proofs.Ytppajhjfnlhmaaa.Bk
