/-
  The contracts of the answer's Cost, of awake, and of the laws NeglogCosts and NeglogFalls.
-/
import Derived.Test.YtlcbnhphbnmlpaaRows
import Derived.Test.YtlcbnhphbnmlpaaPlain
import Derived.Test.YtlcbnhphbnmlpaaA
import Derived.WalkKit
import Derived.ProofKit
import Derived.OpenShut
import Derived.Below
namespace Go.Proofs.Ytlcbnhphbnmlpaa
open Go.ChangeShapes Go.WideShapes Go.ChangeAt Go.RowKit

theorem sq_form' (z : Nat) (h : z ≤ 2147483648) : IntKind.u64.wrap ((IntKind.u64.wrap ((z : Int) * z)).tdiv 2147483648) = ((sqN z : Nat) : Int) := by
  have hs := sq_le h
  rw [sq_wrap z h, Int.tdiv_eq_ediv_of_nonneg (by omega), IntKind.wrap_u64]
  unfold sqN
  omega

set_option maxRecDepth 60000 in
/-- the answer's Cost of a number that is not doubled -/
theorem refCost_high (a : Nat) (w : World) (hl0 : 32768 < a) (hA0 : a ≤ 65536) :
    Calls Try.prog 8 #[.int .i64 (a : Int)] w fun e w' => e = .returned (.int .i64 ((costN a : Nat) : Int)) ∧ w' = w := by
  have HH : Hid (costN a = fAt (a * 32768) 16) := costN_high a (by omega)
  obtain ⟨z, hz⟩ : ∃ z, z = a * 32768 := ⟨_, rfl⟩
  rw [← hz] at HH
  have HZL : Hid (z ≤ 2147483648) := by have : z ≤ 2147483648 := by omega
                                        exact this
  have e1 : ((a : Int) * 32768) = (z : Int) := by omega
  have e2 : (z : Int) ≤ 2147483648 := by omega
  have hl : 32768 < (a : Int) := by omega
  have hA : (a : Int) ≤ 65536 := by omega
  clear hl0 hA0 hz
  go_enter Try.func8, Try.ntmps8
  go_wp2_with fail
  go_loop [3, 4, 5] (fun x f i => ∃ k : Nat, k ≤ 16 ∧ i = .int .i64 k ∧ x = .int .u64 ((zAt z k : Nat) : Int) ∧ f = .int .i64 ((fAt z k : Nat) : Int)) (fun _ _ i => 16 - (intOf i).toNat)
  case atStart => exact ⟨0, Nat.zero_le _, rfl, rfl, rfl⟩
  case round =>
    obtain ⟨k, hk, rfl, rfl, rfl⟩ := hrel
    have h1 := zAt_le HZL.out k
    have h2 := fAt_lt16 z k hk
    have h3 := sq_form' _ h1
    have h4 := sqN_le h1
    have HZ : Hid (zAt z (k + 1) = zS (zAt z k)) := zAt_succ z k
    have HF : Hid (fAt z (k + 1) = fS (zAt z k) (fAt z k)) := fAt_succ z k
    have HE : Hid (k = 16 → fAt z 16 = fAt z k) := fun e => by rw [e]
    generalize zAt z k = x at h1 h3 h4 HZ HF
    generalize fAt z k = f at h2 HF HE
    have HQ : Hid (sqN x = sqN x) := rfl
    generalize hq : sqN x = q at h3 h4 HQ
    have HQ' : Hid (sqN x = q) := hq
    clear hq HQ
    by_cases hlt : k < 16
    · by_cases hlow : q ≤ 1073741824
      · go_wp2_with fail
        go_round
        case rel => exact ⟨k + 1, by omega, by go_num, by rw [HZ.out, zS_low x (by rw [HQ'.out]; exact hlow), HQ'.out]; go_num, by rw [HF.out, fS_low x f (by rw [HQ'.out]; exact hlow)]; go_num⟩
        case measure => simp [intOf]; omega
      · go_wp2_with fail
        go_round
        case rel => exact ⟨k + 1, by omega, by go_num, by rw [HZ.out, zS_high x (by rw [HQ'.out]; omega), HQ'.out], by rw [HF.out, fS_high x f (by rw [HQ'.out]; omega)]; go_num⟩
        case measure => simp [intOf]; omega
    · go_wp2_with fail
      go_ret
      exact ⟨ret_int (by rw [HH.out, HE.out (by omega)]), rfl⟩

set_option maxRecDepth 60000 in
theorem refCost_in (n : Nat) : ∀ (a : Nat) (w : World), 1 ≤ a → a ≤ 65536 → 32768 < a * 2 ^ n →
    Calls Try.prog 8 #[.int .i64 (a : Int)] w fun e w' => e = .returned (.int .i64 ((costN a : Nat) : Int)) ∧ w' = w := by
  induction n with
  | zero =>
    intro a w h1 h2 h3
    exact refCost_high a w (by omega) h2
  | succ n ih =>
    intro a w h1 h2 h3
    by_cases hl : a ≤ 32768
    · have HI := fun w => ih (2 * a) w (by omega) (by omega) (by rw [Nat.pow_succ] at h3; rw [Nat.mul_comm 2 a, Nat.mul_assoc, Nat.mul_comm 2]; exact h3)
      have HL : Hid (costN a = 65536 + costN (2 * a)) := costN_low a h1 hl
      have hb : ((costN (2 * a) : Nat) : Int) < 1114112 := by have := costN_lt (2 * a); omega
      obtain ⟨y, hy⟩ : ∃ y, y = 2 * a := ⟨_, rfl⟩
      rw [← hy] at HI HL hb
      have e1 : (2 * (a : Int)) = (y : Int) := by omega
      have hl' : (a : Int) ≤ 32768 := by omega
      have h1' : 1 ≤ (a : Int) := by omega
      generalize costN y = c at HI HL hb
      have hc0 : 0 ≤ (c : Int) := by omega
      have HI' : Hid (∀ w : World, Calls Try.prog 8 #[.int .i64 (y : Int)] w fun e w' => e = .returned (.int .i64 (c : Int)) ∧ w' = w) := HI
      have HA : Hid (((costN a : Nat) : Int) = 65536 + (c : Int)) := by have h : ((costN a : Nat) : Int) = 65536 + (c : Int) := by have := HL.out; omega
                                                                        exact h
      generalize ((costN a : Nat) : Int) = ca at HA
      generalize (c : Int) = C at HA hc0 hb HI'
      clear hy hl h1 h2 h3 ih HI HL
      generalize (a : Int) = A at e1 hl' h1'
      generalize (y : Int) = Y at e1 HI'
      go_enter Try.func8, Try.ntmps8
      go_wp2_with (go_at_call 8; refine (HI'.out _).mono ?_; rintro e w' ⟨rfl, rfl⟩)
      go_ret
      exact ⟨ret_int HA.out.symm, rfl⟩
    · exact refCost_high a w (by omega) h2

theorem refCost_any (u : Int) (w : World) (hb : -9223372036854775808 ≤ u ∧ u ≤ 9223372036854775807) :
    Calls Try.prog 8 #[.int .i64 u] w fun e w' => e = .returned (.int .i64 (costI u)) ∧ w' = w := by
  by_cases h1 : u < 1
  · go_enter Try.func8, Try.ntmps8
    go_wp2_with fail
    go_ret
    exact ⟨ret_int (costI_out u (.inl h1)).symm, rfl⟩
  · by_cases h2 : 65536 < u
    · go_enter Try.func8, Try.ntmps8
      go_wp2_with fail
      go_ret
      exact ⟨ret_int (costI_out u (.inr h2)).symm, rfl⟩
    · obtain ⟨m, rfl⟩ : ∃ k : Nat, u = k := ⟨u.toNat, by omega⟩
      rw [costI_of m (by omega) (by omega)]
      exact refCost_in 16 m w (by omega) (by omega) (by omega)

theorem costI_half : costI 32768 = 65536 := by rw [show (32768 : Int) = ((32768 : Nat) : Int) from rfl, costI_of _ (by decide) (by decide), costN_half]; rfl
theorem costI_one : costI 1 = 1048576 := by rw [show (1 : Int) = ((1 : Nat) : Int) from rfl, costI_of _ (by decide) (by decide), costN_one]; rfl
theorem costI_all : costI 65536 = 0 := by rw [show (65536 : Int) = ((65536 : Nat) : Int) from rfl, costI_of _ (by decide) (by decide), costN_all]; rfl
theorem costI_bound (u : Int) : 0 ≤ costI u ∧ costI u < 1114112 := by
  unfold costI
  have := costN_lt u.toNat
  split <;> omega
theorem costI_low (u : Int) (h1 : 1 ≤ u) (h2 : u ≤ 32768) : costI (2 * u) = costI u - 65536 := by
  obtain ⟨m, rfl⟩ : ∃ k : Nat, u = k := ⟨u.toNat, by omega⟩
  have h := costN_low m (by omega) (by omega)
  rw [show (2 * (m : Int)) = ((2 * m : Nat) : Int) from by omega, costI_of m (by omega) (by omega), costI_of (2 * m) (by omega) (by omega)]
  omega
theorem costI_anti (u v : Int) (h1 : 1 ≤ u) (h : u ≤ v) (h2 : v ≤ 65536) : costI v ≤ costI u := by
  obtain ⟨m, rfl⟩ : ∃ k : Nat, u = k := ⟨u.toNat, by omega⟩
  obtain ⟨n, rfl⟩ : ∃ k : Nat, v = k := ⟨v.toNat, by omega⟩
  rw [costI_of m (by omega) (by omega), costI_of n (by omega) (by omega)]
  have := costN_anti (u := m) (v := n) (by omega)
  omega

theorem awake_any (w : World) : Calls Try.prog 9 #[] w fun e w' => e = .returned (.bool true) ∧ w' = w := by
  have e1 := costI_half
  have e2 := costI_one
  go_enter Try.func9, Try.ntmps9
  go_wp2_with (go_at_call 7; refine (cost_any _ _ (by decide)).mono ?_; rintro e w' ⟨rfl, rfl⟩)
  go_ret
  exact ⟨rfl, rfl⟩
end Go.Proofs.Ytlcbnhphbnmlpaa
