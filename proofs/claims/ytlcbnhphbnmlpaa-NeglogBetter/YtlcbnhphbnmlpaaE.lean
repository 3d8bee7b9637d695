/-
  The contract of the answer's Better, and the law NeglogBetter.
-/
import Derived.Test.YtlcbnhphbnmlpaaRows
import Derived.Test.YtlcbnhphbnmlpaaPlain
import Derived.Test.YtlcbnhphbnmlpaaA
import Derived.Test.YtlcbnhphbnmlpaaB
import Derived.Test.YtlcbnhphbnmlpaaD
import Derived.WalkKit
import Derived.ProofKit
import Derived.OpenShut
import Derived.Below
namespace Go.Proofs.Ytlcbnhphbnmlpaa
open Go.ChangeShapes Go.WideShapes Go.ChangeAt Go.RowKit

theorem costB_false (n : Int) : costB n = false ↔ n < 0 ∨ 2147483647 < n := by
  unfold costB; simp; omega
theorem weightB_false (n : Int) : weightB n = false ↔ n < 1 ∨ 2147483647 < n := by
  unfold weightB; simp; omega

theorem refBetter_any (c x o t : Int) (w : World) :
    Calls Try.prog 11 #[.int .i64 c, .int .i64 x, .int .i64 o, .int .i64 t] w fun e w' => e = .returned (.bool (betterB c x o t)) ∧ w' = w := by
  by_cases h : (0 ≤ c ∧ c ≤ 2147483647) ∧ (1 ≤ x ∧ x ≤ 2147483647) ∧ (0 ≤ o ∧ o ≤ 2147483647) ∧ (1 ≤ t ∧ t ≤ 2147483647)
  · obtain ⟨⟨c1, c2⟩, ⟨x1, x2⟩, ⟨o1, o2⟩, ⟨t1, t2⟩⟩ := h
    have HB : Hid (betterB c x o t = decide (c * t < o * x)) := by
      have h : betterB c x o t = decide (c * t < o * x) := by
        unfold betterB
        rw [(costB_iff c).2 ⟨c1, c2⟩, (costB_iff o).2 ⟨o1, o2⟩, (weightB_iff x).2 ⟨x1, x2⟩, (weightB_iff t).2 ⟨t1, t2⟩]
        rfl
      exact h
    have p1 := prod_bound c1 c2 (by omega : 0 ≤ t) t2
    have p2 := prod_bound o1 o2 (by omega : 0 ≤ x) x2
    have q1 := prod_i64 p1
    have q2 := prod_i64 p2
    go_enter Try.func11, Try.ntmps11
    go_wp2_with fail
    go_ret
    exact ⟨ret_bool HB.out.symm, rfl⟩
  · have HB : Hid (betterB c x o t = false) := by
      refine better_out c x o t ?_
      rw [costB_false, weightB_false, costB_false, weightB_false]
      omega
    by_cases a1 : c < 0
    · go_enter Try.func11, Try.ntmps11
      go_wp2_with fail
      go_ret
      exact ⟨ret_bool HB.out.symm, rfl⟩
    by_cases a2 : x < 1
    · go_enter Try.func11, Try.ntmps11
      go_wp2_with fail
      go_ret
      exact ⟨ret_bool HB.out.symm, rfl⟩
    by_cases a3 : o < 0
    · go_enter Try.func11, Try.ntmps11
      go_wp2_with fail
      go_ret
      exact ⟨ret_bool HB.out.symm, rfl⟩
    by_cases a4 : t < 1
    · go_enter Try.func11, Try.ntmps11
      go_wp2_with fail
      go_ret
      exact ⟨ret_bool HB.out.symm, rfl⟩
    by_cases b1 : 2147483647 < c
    · go_enter Try.func11, Try.ntmps11
      go_wp2_with fail
      go_ret
      exact ⟨ret_bool HB.out.symm, rfl⟩
    by_cases b2 : 2147483647 < x
    · go_enter Try.func11, Try.ntmps11
      go_wp2_with fail
      go_ret
      exact ⟨ret_bool HB.out.symm, rfl⟩
    by_cases b3 : 2147483647 < o
    · go_enter Try.func11, Try.ntmps11
      go_wp2_with fail
      go_ret
      exact ⟨ret_bool HB.out.symm, rfl⟩
    · have b4 : 2147483647 < t := by omega
      clear h
      go_enter Try.func11, Try.ntmps11
      go_wp2_with fail
      go_ret
      exact ⟨ret_bool HB.out.symm, rfl⟩

theorem neglogBetter_any (a b c d e f : Int) (w : World) :
    Calls Try.prog 5 #[.agg #[.int .i64 a, .int .i64 b], .agg #[.int .i64 c, .int .i64 d], .agg #[.int .i64 e, .int .i64 f]] w fun e w' => e = .returned (.bool true) ∧ Below w.heap.size w w' := by
  have HA : Hid (betterB a b c d = true → betterB c d a b = false) := betterB_asym a b c d
  have HT : Hid (betterB a b c d = true → betterB c d e f = true → betterB a b e f = true) := betterB_trans a b c d e f
  cases hx : betterB a b c d with
  | false =>
    go_enter Try.func5, Try.ntmps5
    go_wp2_with (first
      | (go_at_call 10; refine (better_any _ _ _ _ _).mono ?_; rintro e w' ⟨rfl, rfl⟩)
      | (go_at_call 11; refine (refBetter_any _ _ _ _ _).mono ?_; rintro e w' ⟨rfl, rfl⟩)
      | (go_at_call 9; refine (awake_any _).mono ?_; rintro e w' ⟨rfl, rfl⟩))
    go_ret
    exact ⟨rfl, (((Below.refl _ _).alloc (Nat.le_refl _) _).alloc (by simp) _).alloc (by simp; omega) _⟩
  | true =>
    have hy := HA.out hx
    cases hz : betterB c d e f with
    | false =>
      go_enter Try.func5, Try.ntmps5
      go_wp2_with (first
        | (go_at_call 10; refine (better_any _ _ _ _ _).mono ?_; rintro e w' ⟨rfl, rfl⟩)
        | (go_at_call 11; refine (refBetter_any _ _ _ _ _).mono ?_; rintro e w' ⟨rfl, rfl⟩)
        | (go_at_call 9; refine (awake_any _).mono ?_; rintro e w' ⟨rfl, rfl⟩))
      go_ret
      exact ⟨rfl, (((Below.refl _ _).alloc (Nat.le_refl _) _).alloc (by simp) _).alloc (by simp; omega) _⟩
    | true =>
      have hq := HT.out hx hz
      go_enter Try.func5, Try.ntmps5
      go_wp2_with (first
        | (go_at_call 10; refine (better_any _ _ _ _ _).mono ?_; rintro e w' ⟨rfl, rfl⟩)
        | (go_at_call 11; refine (refBetter_any _ _ _ _ _).mono ?_; rintro e w' ⟨rfl, rfl⟩)
        | (go_at_call 9; refine (awake_any _).mono ?_; rintro e w' ⟨rfl, rfl⟩))
      go_ret
      exact ⟨rfl, (((Below.refl _ _).alloc (Nat.le_refl _) _).alloc (by simp) _).alloc (by simp; omega) _⟩
end Go.Proofs.Ytlcbnhphbnmlpaa
