/-
  The contract of compare: which of two lots is the better one.
-/
import Derived.Test.YtcncbjknfcjnmaaGreatDrH
namespace Go.Proofs.YtcncbjknfcjnmaaGreat.Dr
open Go.ChangeShapes Go.WideShapes Go.ChangeAt Go.RowKit
def cmpI (x y : Int) : Int := if x < y then -1 else if y < x then 1 else 0
theorem isNaN_any (x : Int) (w : World) : Calls Tryz.prog 111 #[.int .i64 x] w fun e w' => e = .returned (.bool false) ∧ w' = w := by
  go_enter Tryz.func111, Tryz.ntmps111
  go_wp2
  go_ret
  exact ⟨rfl, rfl⟩
set_option maxHeartbeats 1000000 in
theorem cmpInt_any (x y : Int) (w : World) : Calls Tryz.prog 91 #[.int .i64 x, .int .i64 y] w fun e w' => e = .returned (.int .i64 (cmpI x y)) ∧ w' = w := by
  by_cases h1 : x < y
  · have hc : cmpI x y = -1 := by unfold cmpI; rw [if_pos h1]
    rw [hc]
    go_enter Tryz.func91, Tryz.ntmps91
    go_wp2_with (go_at_call 111; refine (isNaN_any _ _).mono ?_; rintro e w' ⟨rfl, rfl⟩)
    go_ret
    exact ⟨rfl, rfl⟩
  · have d1 : decide (x < y) = false := decide_eq_false h1
    by_cases h2 : y < x
    · have hc : cmpI x y = 1 := by unfold cmpI; rw [if_neg h1, if_pos h2]
      rw [hc]
      go_enter Tryz.func91, Tryz.ntmps91
      go_wp2_with (go_at_call 111; refine (isNaN_any _ _).mono ?_; rintro e w' ⟨rfl, rfl⟩)
      go_ret
      exact ⟨rfl, rfl⟩
    · have d2 : decide (y < x) = false := decide_eq_false h2
      have hc : cmpI x y = 0 := by unfold cmpI; rw [if_neg h1, if_neg h2]
      rw [hc]
      go_enter Tryz.func91, Tryz.ntmps91
      go_wp2_with (go_at_call 111; refine (isNaN_any _ _).mono ?_; rintro e w' ⟨rfl, rfl⟩)
      go_ret
      exact ⟨rfl, rfl⟩
/-- what compare says -/
def cfC (key : Nat) (a b : Ch) : Int :=
  if betterB (costOf key a.1) a.2 (costOf key b.1) b.2 then -1 else if betterB (costOf key b.1) b.2 (costOf key a.1) a.2 then 1 else cmpI a.1 b.1
theorem betterB_in {p q x y : Int} (h1 : 0 ≤ p ∧ p < 1114112) (h2 : 0 ≤ q ∧ q < 1114112) (hx : 1 ≤ x ∧ x ≤ 65536) (hy : 1 ≤ y ∧ y ≤ 65536) : betterB p x q y = decide (p * y < q * x) := by
  have e1 := (costB_iff p).2 ⟨h1.1, by omega⟩
  have e2 := (costB_iff q).2 ⟨h2.1, by omega⟩
  have e3 := (weightB_iff x).2 ⟨hx.1, by omega⟩
  have e4 := (weightB_iff y).2 ⟨hy.1, by omega⟩
  unfold betterB
  rw [e1, e2, e3, e4]
  simp only [Bool.true_and]
theorem betterB_lots (key : Nat) {a b : Ch} (ha : 1 ≤ a.2 ∧ a.2 ≤ 65536) (hb : 1 ≤ b.2 ∧ b.2 ≤ 65536) : betterB (costOf key a.1) a.2 (costOf key b.1) b.2 = decide (costOf key a.1 * b.2 < costOf key b.1 * a.2) :=
  betterB_in (costOf_bound key a.1) (costOf_bound key b.1) ha hb
theorem cfC_lt (key : Nat) {a b : Ch} (ha : 1 ≤ a.2 ∧ a.2 ≤ 65536) (hb : 1 ≤ b.2 ∧ b.2 ≤ 65536) : cfC key a b < 0 ↔ ltC (costOf key) a b := by
  unfold cfC ltC cmpI
  rw [betterB_lots key ha hb, betterB_lots key hb ha]
  generalize costOf key a.1 * b.2 = x
  generalize costOf key b.1 * a.2 = y
  by_cases h1 : x < y
  · simp [h1]
  · by_cases h2 : y < x
    · have : ¬ x = y := by omega
      simp [h1, h2, this]
    · have : x = y := by omega
      simp only [decide_eq_true_eq, if_neg h1, if_neg h2]
      split
      · rename_i h
        simp [this, h]
      · rename_i h
        split <;> (simp [h]; omega)
set_option maxHeartbeats 1000000 in
set_option maxRecDepth 60000 in
theorem compare_any (key : Nat) (a b : Ch) (W : World) : Calls Tryz.prog 164 #[.agg (lotCells key a).toArray, .agg (lotCells key b).toArray] W fun e w' => e = .returned (.int .i64 (cfC key a b)) ∧ Grown W w' := by
  obtain ⟨a1, a2⟩ := a
  obtain ⟨b1, b2⟩ := b
  show Calls Tryz.prog 164 #[.agg #[.int .i64 a1, .int .i64 a2, .int .i64 (costOf key a1)], .agg #[.int .i64 b1, .int .i64 b2, .int .i64 (costOf key b1)]] W _
  have HC : Hid (cfC key (a1, a2) (b1, b2) = if betterB (costOf key a1) a2 (costOf key b1) b2 then -1 else if betterB (costOf key b1) b2 (costOf key a1) a2 then 1 else cmpI a1 b1) := rfl
  generalize costOf key a1 = p at *
  generalize costOf key b1 = q at *
  generalize cfC key (a1, a2) (b1, b2) = r at *
  have HG : Hid (Grown W ((W.alloc (.cells #[.int .i64 a1, .int .i64 a2, .int .i64 p] 185)).alloc (.cells #[.int .i64 b1, .int .i64 b2, .int .i64 q] 185))) := grown2 (grown_alloc _ _) (grown_alloc _ _)
  have hI := fun w => cmpInt_any a1 b1 w
  generalize cmpI a1 b1 = m at *
  have HI : Hid (∀ w : World, Calls Tryz.prog 91 #[.int .i64 a1, .int .i64 b1] w fun e w' => e = .returned (.int .i64 m) ∧ w' = w) := hI
  clear hI
  cases h1 : betterB p a2 q b2 with
  | true =>
    have HR : Hid (r = -1) := by show _ = _; rw [HC.out, h1]; rfl
    clear HC
    go_enter Tryz.func164, Tryz.ntmps164
    go_wp2_with (go_at_call 176; refine (better_any _ _ _ _ _).mono ?_; rintro e w' ⟨rfl, rfl⟩)
    go_ret
    exact ⟨ret_int HR.out.symm, HG.out⟩
  | false =>
    cases h2 : betterB q b2 p a2 with
    | true =>
      have HR : Hid (r = 1) := by show _ = _; rw [HC.out, h1, h2]; rfl
      clear HC
      go_enter Tryz.func164, Tryz.ntmps164
      go_wp2_with (go_at_call 176; refine (better_any _ _ _ _ _).mono ?_; rintro e w' ⟨rfl, rfl⟩)
      go_ret
      exact ⟨ret_int HR.out.symm, HG.out⟩
    | false =>
      have HR : Hid (r = m) := by show _ = _; rw [HC.out, h1, h2]; rfl
      clear HC
      go_enter Tryz.func164, Tryz.ntmps164
      go_wp2_with (first | (go_at_call 91; refine (HI.out _).mono ?_; rintro e w' ⟨rfl, rfl⟩) | (go_at_call 176; refine (better_any _ _ _ _ _).mono ?_; rintro e w' ⟨rfl, rfl⟩))
      go_ret
      exact ⟨ret_int HR.out.symm, HG.out⟩
end Go.Proofs.YtcncbjknfcjnmaaGreat.Dr
