/-
  The contracts of both Betters.
-/
import Derived.Test.YtlcbnhphbnmlpaaRows
import Derived.Test.YtlcbnhphbnmlpaaPlain
import Derived.Test.YtlcbnhphbnmlpaaA
import Derived.Test.YtlcbnhphbnmlpaaB
import Derived.WalkKit
import Derived.ProofKit
import Derived.OpenShut
import Derived.Below
namespace Go.Proofs.Ytlcbnhphbnmlpaa
open Go.ChangeShapes Go.WideShapes Go.ChangeAt Go.RowKit

def costB (n : Int) : Bool := decide (0 ≤ n) && decide (n ≤ 2147483647)
def weightB (n : Int) : Bool := decide (1 ≤ n) && decide (n ≤ 2147483647)
def betterB (c w o t : Int) : Bool := costB c && weightB w && costB o && weightB t && decide (c * t < o * w)
theorem costB_iff (n : Int) : costB n = true ↔ 0 ≤ n ∧ n ≤ 2147483647 := by simp [costB]
theorem weightB_iff (n : Int) : weightB n = true ↔ 1 ≤ n ∧ n ≤ 2147483647 := by simp [weightB]
theorem betterB_iff (c w o t : Int) : betterB c w o t = true ↔ (0 ≤ c ∧ c ≤ 2147483647) ∧ (1 ≤ w ∧ w ≤ 2147483647) ∧ (0 ≤ o ∧ o ≤ 2147483647) ∧ (1 ≤ t ∧ t ≤ 2147483647) ∧ c * t < o * w := by
  simp [betterB, costB, weightB, and_assoc]
theorem betterB_asym (c w o t : Int) (h : betterB c w o t = true) : betterB o t c w = false := by
  rw [betterB_iff] at h
  cases hx : betterB o t c w with
  | false => rfl
  | true => rw [betterB_iff] at hx; omega
theorem betterB_trans (c w o t p s : Int) (h : betterB c w o t = true) (h' : betterB o t p s = true) : betterB c w p s = true := by
  rw [betterB_iff] at h h' ⊢
  obtain ⟨c1, w1, o1, t1, l1⟩ := h
  obtain ⟨_, _, p1, s1, l2⟩ := h'
  refine ⟨c1, w1, p1, s1, ?_⟩
  have h1 : c * t * s < o * w * s := Int.mul_lt_mul_of_pos_right l1 (by omega)
  have h2 : o * s * w < p * t * w := Int.mul_lt_mul_of_pos_right l2 (by omega)
  have h3 : c * s * t < p * w * t := by
    rw [show c * s * t = c * t * s from Int.mul_right_comm c s t, show p * w * t = p * t * w from Int.mul_right_comm p w t]
    rw [show o * s * w = o * w * s from Int.mul_right_comm o s w] at h2
    omega
  exact Int.lt_of_mul_lt_mul_right h3 (by omega)

theorem prod_bound {a b : Int} (h1 : 0 ≤ a) (h2 : a ≤ 2147483647) (h3 : 0 ≤ b) (h4 : b ≤ 2147483647) : 0 ≤ a * b ∧ a * b ≤ 4611686014132420609 :=
  ⟨Int.mul_nonneg h1 h3, Int.le_trans (Int.mul_le_mul h2 h4 h3 (by omega)) (by decide)⟩
theorem prod_u64 {a b : Int} (h : 0 ≤ a * b ∧ a * b ≤ 4611686014132420609) : IntKind.u64.wrap (a * b) = a * b := by
  rw [IntKind.wrap_u64]; omega
theorem prod_i64 {a b : Int} (h : 0 ≤ a * b ∧ a * b ≤ 4611686014132420609) : wrap64 (a * b) = a * b := by
  unfold wrap64; omega

theorem ret_bool {a b : Bool} (h : a = b) : Ending.returned (.bool a) = .returned (.bool b) := by rw [h]

theorem mayCost_any (n : Int) (w : World) : Calls Try.prog 14 #[.int .i64 n] w fun e w' => e = .returned (.bool (costB n)) ∧ w' = w := by
  by_cases h1 : 0 ≤ n
  · by_cases h2 : n ≤ 2147483647
    · go_enter Try.func14, Try.ntmps14
      go_wp2_with fail
      go_ret
      exact ⟨ret_bool ((costB_iff n).2 ⟨h1, h2⟩).symm, rfl⟩
    · go_enter Try.func14, Try.ntmps14
      go_wp2_with fail
      go_ret
      exact ⟨ret_bool (by unfold costB; simp; omega), rfl⟩
  · go_enter Try.func14, Try.ntmps14
    go_wp2_with fail
    go_ret
    exact ⟨ret_bool (by unfold costB; simp; omega), rfl⟩
theorem mayWeight_any (n : Int) (w : World) : Calls Try.prog 15 #[.int .i64 n] w fun e w' => e = .returned (.bool (weightB n)) ∧ w' = w := by
  by_cases h1 : 1 ≤ n
  · by_cases h2 : n ≤ 2147483647
    · go_enter Try.func15, Try.ntmps15
      go_wp2_with fail
      go_ret
      exact ⟨ret_bool ((weightB_iff n).2 ⟨h1, h2⟩).symm, rfl⟩
    · go_enter Try.func15, Try.ntmps15
      go_wp2_with fail
      go_ret
      exact ⟨ret_bool (by unfold weightB; simp; omega), rfl⟩
  · go_enter Try.func15, Try.ntmps15
    go_wp2_with fail
    go_ret
    exact ⟨ret_bool (by unfold weightB; simp; omega), rfl⟩

theorem better_out (c w o t : Int) (h : costB c = false ∨ weightB w = false ∨ costB o = false ∨ weightB t = false) : betterB c w o t = false := by
  unfold betterB
  rcases h with h | h | h | h <;> simp [h]

theorem better_any (c x o t : Int) (w : World) :
    Calls Try.prog 10 #[.int .i64 c, .int .i64 x, .int .i64 o, .int .i64 t] w fun e w' => e = .returned (.bool (betterB c x o t)) ∧ w' = w := by
  cases h1 : costB c with
  | false =>
    have HB : Hid (betterB c x o t = false) := better_out c x o t (.inl h1)
    go_enter Try.func10, Try.ntmps10
    go_wp2_with (first
      | (go_at_call 14; refine (mayCost_any _ _).mono ?_; rintro e w' ⟨rfl, rfl⟩)
      | (go_at_call 15; refine (mayWeight_any _ _).mono ?_; rintro e w' ⟨rfl, rfl⟩))
    go_ret
    exact ⟨ret_bool HB.out.symm, rfl⟩
  | true => cases h2 : weightB x with
    | false =>
      have HB : Hid (betterB c x o t = false) := better_out c x o t (.inr (.inl h2))
      go_enter Try.func10, Try.ntmps10
      go_wp2_with (first
        | (go_at_call 14; refine (mayCost_any _ _).mono ?_; rintro e w' ⟨rfl, rfl⟩)
        | (go_at_call 15; refine (mayWeight_any _ _).mono ?_; rintro e w' ⟨rfl, rfl⟩))
      go_ret
      exact ⟨ret_bool HB.out.symm, rfl⟩
    | true => cases h3 : costB o with
      | false =>
        have HB : Hid (betterB c x o t = false) := better_out c x o t (.inr (.inr (.inl h3)))
        go_enter Try.func10, Try.ntmps10
        go_wp2_with (first
          | (go_at_call 14; refine (mayCost_any _ _).mono ?_; rintro e w' ⟨rfl, rfl⟩)
          | (go_at_call 15; refine (mayWeight_any _ _).mono ?_; rintro e w' ⟨rfl, rfl⟩))
        go_ret
        exact ⟨ret_bool HB.out.symm, rfl⟩
      | true => cases h4 : weightB t with
        | false =>
          have HB : Hid (betterB c x o t = false) := better_out c x o t (.inr (.inr (.inr h4)))
          go_enter Try.func10, Try.ntmps10
          go_wp2_with (first
            | (go_at_call 14; refine (mayCost_any _ _).mono ?_; rintro e w' ⟨rfl, rfl⟩)
            | (go_at_call 15; refine (mayWeight_any _ _).mono ?_; rintro e w' ⟨rfl, rfl⟩))
          go_ret
          exact ⟨ret_bool HB.out.symm, rfl⟩
        | true =>
          have HB : Hid (betterB c x o t = decide (c * t < o * x)) := by
            have h : betterB c x o t = decide (c * t < o * x) := by unfold betterB; simp [h1, h2, h3, h4]
            exact h
          obtain ⟨c1, c2⟩ := (costB_iff c).1 h1
          obtain ⟨x1, x2⟩ := (weightB_iff x).1 h2
          obtain ⟨o1, o2⟩ := (costB_iff o).1 h3
          obtain ⟨t1, t2⟩ := (weightB_iff t).1 h4
          have p1 := prod_bound c1 c2 (by omega : 0 ≤ t) t2
          have p2 := prod_bound o1 o2 (by omega : 0 ≤ x) x2
          have q1 := prod_u64 p1
          have q2 := prod_u64 p2
          go_enter Try.func10, Try.ntmps10
          go_wp2_with (first
            | (go_at_call 14; refine (mayCost_any _ _).mono ?_; rintro e w' ⟨rfl, rfl⟩)
            | (go_at_call 15; refine (mayWeight_any _ _).mono ?_; rintro e w' ⟨rfl, rfl⟩))
          go_ret
          exact ⟨ret_bool HB.out.symm, rfl⟩
end Go.Proofs.Ytlcbnhphbnmlpaa
