/-
  The contracts of growth, sum, byValue.
-/
import Derived.Test.YthdeemaanndggaaSpA
import Derived.Test.YthdeemaanndggaaToP
namespace Go.Proofs.Ythdeemaanndggaa.Bk
open Go.ChangeShapes Go.WideShapes Go.ChangeAt Go.RowKit
theorem growth_any (a v : Int) (w : World) (ha : -1099511627776 ≤ a ∧ a ≤ 1099511627776) (hv : -1099511627776 ≤ v ∧ v ≤ 1099511627776) : Calls Try.prog 21 #[.int .i64 a, .int .i64 v] w fun e w' => e = .returned (.int .i64 (gr a v)) ∧ Grown w w' := by
  have HG := Hid.mk9 (grown_refl w)
  by_cases h : v < a
  · have HR : Hid (gr a v = max v 0) := by show _ = _; unfold gr; rw [if_pos h]
    clear ha hv
    go_enter Try.func21, Try.ntmps21
    go_wp2
    go_ret
    exact ⟨ret_int HR.out.symm, HG.out⟩
  · have HR : Hid (gr a v = v - a) := by show _ = _; unfold gr; rw [if_neg h]
    have hd : decide (v < a) = false := decide_eq_false h
    have hw : wrap64 (v - a) = v - a := w64_id (by omega) (by omega)
    clear ha hv
    go_enter Try.func21, Try.ntmps21
    go_wp2
    go_ret
    exact ⟨ret_int (by rw [HR.out]), HG.out⟩
def cmpI (x y : Int) : Int := if x < y then -1 else if y < x then 1 else 0
theorem isNaN_any (x : Int) (w : World) : Calls Try.prog 22 #[.int .i64 x] w fun e w' => e = .returned (.bool false) ∧ w' = w := by
  go_enter Try.func22, Try.ntmps22
  go_wp2
  go_ret
  exact ⟨rfl, rfl⟩
set_option maxHeartbeats 1000000 in
theorem cmpInt_any (x y : Int) (w : World) : Calls Try.prog 20 #[.int .i64 x, .int .i64 y] w fun e w' => e = .returned (.int .i64 (cmpI x y)) ∧ w' = w := by
  by_cases h1 : x < y
  · have hc : cmpI x y = -1 := by unfold cmpI; rw [if_pos h1]
    rw [hc]
    go_enter Try.func20, Try.ntmps20
    go_wp2_with (go_at_call 22; refine (isNaN_any _ _).mono ?_; rintro e w' ⟨rfl, rfl⟩)
    go_ret
    exact ⟨rfl, rfl⟩
  · have d1 : decide (x < y) = false := decide_eq_false h1
    by_cases h2 : y < x
    · have hc : cmpI x y = 1 := by unfold cmpI; rw [if_neg h1, if_pos h2]
      rw [hc]
      go_enter Try.func20, Try.ntmps20
      go_wp2_with (go_at_call 22; refine (isNaN_any _ _).mono ?_; rintro e w' ⟨rfl, rfl⟩)
      go_ret
      exact ⟨rfl, rfl⟩
    · have d2 : decide (y < x) = false := decide_eq_false h2
      have hc : cmpI x y = 0 := by unfold cmpI; rw [if_neg h1, if_neg h2]
      rw [hc]
      go_enter Try.func20, Try.ntmps20
      go_wp2_with (go_at_call 22; refine (isNaN_any _ _).mono ?_; rintro e w' ⟨rfl, rfl⟩)
      go_ret
      exact ⟨rfl, rfl⟩
set_option maxRecDepth 60000 in
theorem byValue_any (a b c d : Int) (w : World) : Calls Try.prog 15 #[.agg #[.int .i64 a, .int .i64 b], .agg #[.int .i64 c, .int .i64 d]] w fun e w' => e = .returned (.int .i64 (cmpI b d)) ∧ Grown w w' := by
  have HG : Hid (Grown w ((w.alloc (.cells #[.int .i64 a, .int .i64 b] 32)).alloc (.cells #[.int .i64 c, .int .i64 d] 32))) := grown2 (grown_alloc _ _) (grown_alloc _ _)
  go_enter Try.func15, Try.ntmps15
  go_wp2_with (go_at_call 20; refine (cmpInt_any _ _ _).mono ?_; rintro e w' ⟨rfl, rfl⟩)
  go_ret
  exact ⟨rfl, HG.out⟩
def IntPost (n : Int) (w : World) (e : Ending) (w' : World) : Prop := e = .returned (.int .i64 n) ∧ Below w.heap.size w w'
set_option maxHeartbeats 1000000 in
set_option maxRecDepth 60000 in
theorem sum_any (a : Option Addr) (len cap : Nat) (ls : List Sm) (w : World) (h : SmsAt w a len cap ls) (hM : MayS ls) :
    Calls Try.prog 13 #[.slice a len cap] w fun e w' => IntPost (sumN ls ls.length) w e w' := by
  have hl : ls.length = len := h.1
  have h64 : ls.length ≤ 64 := hM.1
  rw [hl]
  have hm : (len : Int) ≤ 64 := by omega
  have HL : Hid (SmsAt w a len cap ls) := h
  have HI : Hid (∀ k, k ≤ len → -(1099511627776 * (k : Int)) ≤ sumN ls k ∧ sumN ls k ≤ 1099511627776 * (k : Int)) := fun k hk => sumN_in hM k (by omega)
  have HV : Hid (∀ k, k < len → -1099511627776 ≤ vAt ls k ∧ vAt ls k ≤ 1099511627776) := fun k hk => vAt_in hM (by omega)
  clear h hM h64
  go_enter Try.func13, Try.ntmps13
  go_wp2_with fail
  go_loopw [3, 8] (fun s i wr => ∃ (k : Nat) (x : Int), k ≤ len ∧ i = .int .i64 k ∧ s = .int .i64 x ∧ Hid (x = sumN ls k) ∧ Below w.heap.size w wr) (fun _ i _ => len - (intOf i).toNat)
  case atStart => exact ⟨0, 0, Nat.zero_le _, rfl, rfl, rfl, Below.refl _ _⟩
  case round =>
    obtain ⟨k, x, hk, rfl, rfl, hT, hbel⟩ := hrel
    by_cases hlt : k < len
    · obtain ⟨b, off, rfl, hbs, hcell⟩ := (HL.out.below hbel).some (by omega)
      obtain ⟨e0, e1⟩ := hcell k hlt
      clear hcell
      have hk1 : (k : Int) < (len : Int) := by omega
      have hk0 : (0 : Int) ≤ (k : Int) := by omega
      have HN : Hid (x + (ls.getD k sm0).2 = sumN ls (k + 1)) := by show _ = _; rw [hT.out]; rfl
      have hx := HI.out k (by omega)
      rw [← hT.out] at hx
      have hv : -1099511627776 ≤ (ls.getD k sm0).2 ∧ (ls.getD k sm0).2 ≤ 1099511627776 := HV.out k hlt
      generalize ls.getD k sm0 = c at *
      obtain ⟨c1, c2⟩ := c
      simp only at hv
      have hw : wrap64 (x + c2) = x + c2 := w64_id (by omega) (by omega)
      clear hx hv hT
      have HB := Hid.mk9 (below2 hbel (below_alloc wr (.cells #[.int .i64 c1, .int .i64 c2] 32)))
      go_wp2_with fail
      exact ⟨⟨k + 1, x + c2, by omega, by go_num, by rw [hw], HN, HB.out⟩, by simp [intOf]; omega⟩
    · obtain rfl : k = len := by omega
      have HN := Hid.mk9 hT.out
      clear hT HL
      go_wp2_with fail
      go_ret
      exact ⟨ret_int HN.out, hbel⟩
end Go.Proofs.Ythdeemaanndggaa.Bk
