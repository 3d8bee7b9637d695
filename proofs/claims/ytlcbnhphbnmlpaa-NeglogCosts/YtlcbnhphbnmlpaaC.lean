/-
  The laws NeglogCosts and NeglogFalls; the contract of Floor and the law NeglogFloors.
-/
import Derived.Test.YtlcbnhphbnmlpaaRows
import Derived.Test.YtlcbnhphbnmlpaaPlain
import Derived.Test.YtlcbnhphbnmlpaaA
import Derived.Test.YtlcbnhphbnmlpaaB
import Derived.WalkKit
import Derived.ProofKit
import Derived.OpenShut
import Derived.Below
namespace Go.Proofs.Ytlcbnhphbnmlpaa
open Go.ChangeShapes Go.WideShapes Go.ChangeAt Go.RowKit

theorem neglogCosts_any (u : Int) (w : World) (hb : -9223372036854775808 ≤ u ∧ u ≤ 9223372036854775807) :
    Calls Try.prog 3 #[.int .i64 u] w fun e w' => e = .returned (.bool true) ∧ w' = w := by
  have e1 := costI_all
  have hc := costI_bound u
  obtain ⟨hc1, hc2⟩ := hc
  by_cases h1 : u < 1
  · go_enter Try.func3, Try.ntmps3
    go_wp2_with (first
      | (go_at_call 7; refine (cost_any _ _ (by omega)).mono ?_; rintro e w' ⟨rfl, rfl⟩)
      | (go_at_call 8; refine (refCost_any _ _ (by omega)).mono ?_; rintro e w' ⟨rfl, rfl⟩)
      | (go_at_call 9; refine (awake_any _).mono ?_; rintro e w' ⟨rfl, rfl⟩))
    go_ret
    exact ⟨rfl, rfl⟩
  · by_cases h2 : 32768 < u
    · go_enter Try.func3, Try.ntmps3
      go_wp2_with (first
        | (go_at_call 7; refine (cost_any _ _ (by omega)).mono ?_; rintro e w' ⟨rfl, rfl⟩)
        | (go_at_call 8; refine (refCost_any _ _ (by omega)).mono ?_; rintro e w' ⟨rfl, rfl⟩)
        | (go_at_call 9; refine (awake_any _).mono ?_; rintro e w' ⟨rfl, rfl⟩))
      go_ret
      exact ⟨rfl, rfl⟩
    · have e2 := costI_low u (by omega) (by omega)
      go_enter Try.func3, Try.ntmps3
      go_wp2_with (first
        | (go_at_call 7; refine (cost_any _ _ (by omega)).mono ?_; rintro e w' ⟨rfl, rfl⟩)
        | (go_at_call 8; refine (refCost_any _ _ (by omega)).mono ?_; rintro e w' ⟨rfl, rfl⟩)
        | (go_at_call 9; refine (awake_any _).mono ?_; rintro e w' ⟨rfl, rfl⟩))
      go_ret
      exact ⟨rfl, rfl⟩

theorem neglogFalls_any (a b : Int) (w : World) (ha : 0 ≤ a ∧ a ≤ 65535) (hb : 0 ≤ b ∧ b ≤ 65535) :
    Calls Try.prog 4 #[.int .u16 a, .int .u16 b] w fun e w' => e = .returned (.bool true) ∧ w' = w := by
  obtain ⟨a1, a2⟩ := ha
  obtain ⟨b1, b2⟩ := hb
  rcases Int.lt_trichotomy a b with h | h | h
  · have e2 := costI_anti (1 + a) (1 + b) (by omega) (by omega) (by omega)
    go_enter Try.func4, Try.ntmps4
    go_wp2_with (first
      | (go_at_call 7; refine (cost_any _ _ (by omega)).mono ?_; rintro e w' ⟨rfl, rfl⟩)
      | (go_at_call 9; refine (awake_any _).mono ?_; rintro e w' ⟨rfl, rfl⟩))
    go_ret
    exact ⟨rfl, rfl⟩
  · subst h
    go_enter Try.func4, Try.ntmps4
    go_wp2_with (first
      | (go_at_call 7; refine (cost_any _ _ (by omega)).mono ?_; rintro e w' ⟨rfl, rfl⟩)
      | (go_at_call 9; refine (awake_any _).mono ?_; rintro e w' ⟨rfl, rfl⟩))
    go_ret
    exact ⟨rfl, rfl⟩
  · have e2 := costI_anti (1 + b) (1 + a) (by omega) (by omega) (by omega)
    go_enter Try.func4, Try.ntmps4
    go_wp2_with (first
      | (go_at_call 7; refine (cost_any _ _ (by omega)).mono ?_; rintro e w' ⟨rfl, rfl⟩)
      | (go_at_call 9; refine (awake_any _).mono ?_; rintro e w' ⟨rfl, rfl⟩))
    go_ret
    exact ⟨rfl, rfl⟩

/-- the least number of a cost or less -/
def FloorIs (cost u : Int) : Prop := 1 ≤ u ∧ u ≤ 65536 ∧ (costI u ≤ cost ∨ u = 65536) ∧ (u = 1 ∨ cost < costI (u - 1))
def FloorPost (cost : Int) (w : World) (e : Ending) (w' : World) : Prop := (∃ u, FloorIs cost u ∧ e = .returned (.int .i64 u)) ∧ w' = w

theorem floor_any (cost : Int) (w : World) (hb : -9223372036854775808 ≤ cost ∧ cost ≤ 9223372036854775807) :
    Calls Try.prog 12 #[.int .i64 cost] w (FloorPost cost w) := by
  obtain ⟨hb1, hb2⟩ := hb
  go_enter Try.func12, Try.ntmps12
  go_wp2_with fail
  go_loop [3, 4, 5] (fun l h _ => ∃ a b : Int, 1 ≤ a ∧ a ≤ b ∧ b ≤ 65536 ∧ l = .int .i64 a ∧ h = .int .i64 b ∧ Hid ((costI b ≤ cost ∨ b = 65536) ∧ (a = 1 ∨ cost < costI (a - 1)))) (fun l h _ => (intOf h - intOf l).toNat)
  case atStart => exact ⟨1, 65536, by omega, by omega, by omega, rfl, rfl, ⟨.inr rfl, .inl rfl⟩⟩
  case round =>
    obtain ⟨a, b, ha, hab, hB, rfl, rfl, HH⟩ := hrel
    by_cases hlt : a < b
    · obtain ⟨m, hm⟩ : ∃ m, m = (a + b) / 2 := ⟨_, rfl⟩
      have m1 : a ≤ m := by omega
      have m2 : m < b := by omega
      have e1 : (a + b) / 2 = m := hm.symm
      have e2 : (a + b).tdiv 2 = m := by rw [Int.tdiv_eq_ediv_of_nonneg (by omega)]; exact e1
      clear hm
      by_cases hc : costI m ≤ cost
      · go_wp2_with (go_at_call 7; refine (cost_any m _ (by omega)).mono ?_; rintro e w' ⟨rfl, rfl⟩)
        go_round
        case rel => exact ⟨a, m, by omega, by omega, by omega, rfl, rfl, ⟨.inl (by omega), HH.out.2⟩⟩
        case measure => simp [intOf]; omega
      · go_wp2_with (go_at_call 7; refine (cost_any m _ (by omega)).mono ?_; rintro e w' ⟨rfl, rfl⟩)
        go_round
        case rel => exact ⟨m + 1, b, by omega, by omega, by omega, rfl, rfl, ⟨HH.out.1, .inr (by rw [show m + 1 - 1 = m from by omega]; omega)⟩⟩
        case measure => simp [intOf]; omega
    · obtain rfl : a = b := by omega
      go_wp2_with fail
      go_ret
      exact ⟨⟨a, ⟨ha, hB, HH.out.1, HH.out.2⟩, rfl⟩, rfl⟩

theorem floorIs_neg {cost u : Int} (h : FloorIs cost u) (h0 : cost < 0) : u = 65536 := by
  rcases h.2.2.1 with h | h
  · have := costI_bound u; omega
  · exact h
theorem floorIs_pos {cost u : Int} (h : FloorIs cost u) (h0 : ¬ cost < 0) : costI u ≤ cost := by
  rcases h.2.2.1 with h | h
  · exact h
  · rw [h, costI_all]; omega

theorem neglogFloors_any (cost : Int) (w : World) (hb : -9223372036854775808 ≤ cost ∧ cost ≤ 9223372036854775807) :
    Calls Try.prog 6 #[.int .i64 cost] w fun e w' => e = .returned (.bool true) ∧ w' = w := by
  obtain ⟨hb1, hb2⟩ := hb
  have HF : Hid (∀ w : World, Calls Try.prog 12 #[.int .i64 cost] w (FloorPost cost w)) := fun w => floor_any cost w ⟨hb1, hb2⟩
  by_cases h0 : cost < 0
  · go_enter Try.func6, Try.ntmps6
    go_wp2_with (first
      | (go_at_call 12; refine (HF.out _).mono ?_; rintro e w' ⟨⟨u, hu, rfl⟩, rfl⟩; obtain rfl := floorIs_neg hu h0; clear hu)
      | (go_at_call 9; refine (awake_any _).mono ?_; rintro e w' ⟨rfl, rfl⟩))
    go_ret
    exact ⟨rfl, rfl⟩
  · have H0 : Hid (¬ cost < 0) := h0
    go_enter Try.func6, Try.ntmps6
    go_wp2_with (first
      | (go_at_call 12; refine (HF.out _).mono ?_; rintro e w' ⟨⟨u, hu, rfl⟩, rfl⟩; have u3 := floorIs_pos hu H0.out; obtain ⟨u1, u2, -, u4⟩ := hu; rcases u4 with rfl | u4)
      | (go_at_call 8; refine (refCost_any _ _ (by omega)).mono ?_; rintro e w' ⟨rfl, rfl⟩)
      | (go_at_call 9; refine (awake_any _).mono ?_; rintro e w' ⟨rfl, rfl⟩))
    all_goals go_ret
    all_goals exact ⟨rfl, rfl⟩
end Go.Proofs.Ytlcbnhphbnmlpaa
