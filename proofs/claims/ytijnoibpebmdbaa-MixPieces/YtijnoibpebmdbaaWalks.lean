/-
  The contracts of the functions of mix and of the answers that they are held against: what each returns, at every number of 64 bits.
-/
import Derived.Test.YtijnoibpebmdbaaRows
import Derived.Test.YtijnoibpebmdbaaPlain
import Derived.WalkKit
import Derived.ProofKit
import Derived.OpenShut
namespace Go.Proofs.Ytijnoibpebmdbaa
open Go.ChangeShapes Go.WideShapes Go.ChangeAt Go.RowKit
theorem ret_int {k : IntKind} {a b : Int} (h : a = b) : Ending.returned (.int k a) = .returned (.int k b) := by rw [h]

theorem cross_any (x : Nat) (w : World) (hx : x < 18446744073709551616) :
    Calls Try.prog 19 #[.int .u64 (x : Int)] w fun e w' => e = .returned (.int .u64 ((cr x : Nat) : Int)) ∧ w' = w := by
  go_enter Try.func19, Try.ntmps19
  go_wp2
  go_ret
  exact ⟨ret_int (cross_form x hx), rfl⟩

theorem shift_any (x : Nat) (w : World) (hx : x < 18446744073709551616) :
    Calls Try.prog 20 #[.int .u64 (x : Int)] w fun e w' => e = .returned (.int .u64 ((cr x : Nat) : Int)) ∧ w' = w := by
  go_enter Try.func20, Try.ntmps20
  go_wp2
  go_ret
  exact ⟨ret_int (shift_form x hx), rfl⟩

theorem mix_any (x : Nat) (w : World) (hx : x < 18446744073709551616) :
    Calls Try.prog 8 #[.int .u64 (x : Int)] w fun e w' => e = .returned (.int .u64 ((mixN x : Nat) : Int)) ∧ w' = w := by
  go_enter Try.func8, Try.ntmps8
  go_wp2_with (go_at_call 19; refine (cross_any _ _ ?_).mono ?_; (first | exact hx | exact Nat.mod_lt _ (by decide)); rintro e w' ⟨rfl, rfl⟩)
  go_ret
  exact ⟨rfl, rfl⟩

theorem refMix_any (x : Nat) (w : World) (hx : x < 18446744073709551616) :
    Calls Try.prog 9 #[.int .u64 (x : Int)] w fun e w' => e = .returned (.int .u64 ((mixN x : Nat) : Int)) ∧ w' = w := by
  go_enter Try.func9, Try.ntmps9
  go_wp2_with (go_at_call 20; refine (shift_any _ _ ?_).mono ?_; (first | exact hx | exact Nat.mod_lt _ (by decide)); rintro e w' ⟨rfl, rfl⟩)
  go_ret
  exact ⟨rfl, rfl⟩

theorem unmix_any (x : Nat) (w : World) (hx : x < 18446744073709551616) :
    Calls Try.prog 10 #[.int .u64 (x : Int)] w fun e w' => e = .returned (.int .u64 ((unmixN x : Nat) : Int)) ∧ w' = w := by
  go_enter Try.func10, Try.ntmps10
  go_wp2_with (go_at_call 19; refine (cross_any _ _ ?_).mono ?_; (first | exact hx | exact Nat.mod_lt _ (by decide)); rintro e w' ⟨rfl, rfl⟩)
  go_ret
  exact ⟨rfl, rfl⟩

/-- 'Below' on numbers -/
def belowN (x : Nat) (n : Int) : Int := if n < 1 ∨ 2147483647 < n then 0 else ((x / 4294967296) * n.toNat / 4294967296 : Nat)
theorem belowN_of (x k : Nat) (h1 : 1 ≤ k) (h2 : k ≤ 2147483647) : belowN x k = ((x / 4294967296 * k / 4294967296 : Nat) : Int) := by
  rw [belowN, if_neg (by omega)]; rfl
theorem below_prod (x k : Nat) (hx : x < 18446744073709551616) (h2 : k ≤ 2147483647) : x / 4294967296 * k ≤ 4294967295 * 2147483647 :=
  Nat.mul_le_mul (by omega) h2
theorem below_wrap (x k : Nat) (hx : x < 18446744073709551616) (h2 : k ≤ 2147483647) : IntKind.u64.wrap ((x : Int) / 4294967296 * k) = ((x / 4294967296 * k : Nat) : Int) := by
  have h := below_prod x k hx h2
  have e : ((x : Int) / 4294967296 * k) = ((x / 4294967296 * k : Nat) : Int) := by
    rw [Int.natCast_mul, Int.natCast_ediv]; rfl
  rw [e, IntKind.wrap_u64]
  omega
theorem below_form (x k : Nat) (hx : x < 18446744073709551616) (h1 : 1 ≤ k) (h2 : k ≤ 2147483647) : wrap64 (IntKind.u64.wrap ((x : Int) / 4294967296 * k) / 4294967296) = belowN x k := by
  rw [below_wrap x k hx h2, belowN_of x k h1 h2]
  have h := below_prod x k hx h2
  unfold wrap64
  omega
theorem below_form' (x k : Nat) (hx : x < 18446744073709551616) (h1 : 1 ≤ k) (h2 : k ≤ 2147483647) : wrap64 (IntKind.u64.wrap ((IntKind.u64.wrap ((x : Int) / 4294967296 * k)).tdiv 4294967296)) = belowN x k := by
  rw [below_wrap x k hx h2, belowN_of x k h1 h2]
  have h := below_prod x k hx h2
  rw [Int.tdiv_eq_ediv_of_nonneg (by omega), IntKind.wrap_u64]
  unfold wrap64
  omega
theorem belowN_lt (x : Nat) (n : Int) (hx : x < 18446744073709551616) (h1 : 1 ≤ n) (h2 : n ≤ 2147483647) : 0 ≤ belowN x n ∧ belowN x n < n := by
  obtain ⟨k, rfl⟩ : ∃ k : Nat, n = k := ⟨n.toNat, by omega⟩
  rw [belowN_of x k (by omega) (by omega)]
  have h : x / 4294967296 * k ≤ 4294967295 * k := Nat.mul_le_mul_right _ (by omega)
  omega
theorem belowN_ten : belowN 18446744073709551615 10 = 9 := by decide +kernel
theorem below_any (x : Nat) (n : Int) (w : World) (hx : x < 18446744073709551616) :
    Calls Try.prog 17 #[.int .u64 (x : Int), .int .i64 n] w fun e w' => e = .returned (.int .i64 (belowN x n)) ∧ w' = w := by
  by_cases h1 : n < 1
  · go_enter Try.func17, Try.ntmps17
    go_wp2
    go_ret
    exact ⟨ret_int (by rw [belowN, if_pos (by omega)]), rfl⟩
  · by_cases h2 : 2147483647 < n
    · go_enter Try.func17, Try.ntmps17
      go_wp2
      go_ret
      exact ⟨ret_int (by rw [belowN, if_pos (by omega)]), rfl⟩
    · obtain ⟨k, rfl⟩ : ∃ k : Nat, n = k := ⟨n.toNat, by omega⟩
      go_enter Try.func17, Try.ntmps17
      go_wp2
      go_ret
      exact ⟨ret_int (below_form x k hx (by omega) (by omega)), rfl⟩
theorem refBelow_any (x : Nat) (n : Int) (w : World) (hx : x < 18446744073709551616) :
    Calls Try.prog 18 #[.int .u64 (x : Int), .int .i64 n] w fun e w' => e = .returned (.int .i64 (belowN x n)) ∧ w' = w := by
  by_cases h1 : n < 1
  · go_enter Try.func18, Try.ntmps18
    go_wp2
    go_ret
    exact ⟨ret_int (by rw [belowN, if_pos (by omega)]), rfl⟩
  · by_cases h2 : 2147483647 < n
    · go_enter Try.func18, Try.ntmps18
      go_wp2
      go_ret
      exact ⟨ret_int (by rw [belowN, if_pos (by omega)]), rfl⟩
    · obtain ⟨k, rfl⟩ : ∃ k : Nat, n = k := ⟨n.toNat, by omega⟩
      go_enter Try.func18, Try.ntmps18
      go_wp2
      go_ret
      exact ⟨ret_int (below_form' x k hx (by omega) (by omega)), rfl⟩

theorem awake_any (w : World) : Calls Try.prog 11 #[] w fun e w' => e = .returned (.bool true) ∧ w' = w := by
  have e1 : ((mixN 1 : Nat) : Int) = 4717996019076358352 := by rw [mixN_one]; rfl
  have e2 := belowN_ten
  go_enter Try.func11, Try.ntmps11
  go_wp2_with (first | (go_at_call 8; refine (mix_any 1 _ ?_).mono ?_; (decide); rintro e w' ⟨rfl, rfl⟩) | (go_at_call 17; refine (below_any 18446744073709551615 10 _ ?_).mono ?_; (decide); rintro e w' ⟨rfl, rfl⟩))
  go_ret
  exact ⟨rfl, rfl⟩

theorem mixMixes_any (x : Nat) (w : World) (hx : x < 18446744073709551616) :
    Calls Try.prog 3 #[.int .u64 (x : Int)] w fun e w' => e = .returned (.bool true) ∧ w' = w := by
  have e1 := unmix_mix hx
  have e2 := mix_unmix hx
  have l1 := mixN_lt x
  have l2 := unmixN_lt x
  go_enter Try.func3, Try.ntmps3
  go_wp2_with (first
    | (go_at_call 8; refine (mix_any _ _ ?_).mono ?_; (first | exact hx | exact l2); rintro e w' ⟨rfl, rfl⟩)
    | (go_at_call 9; refine (refMix_any _ _ ?_).mono ?_; (exact hx); rintro e w' ⟨rfl, rfl⟩)
    | (go_at_call 10; refine (unmix_any _ _ ?_).mono ?_; (first | exact hx | exact l1); rintro e w' ⟨rfl, rfl⟩)
    | (go_at_call 11; refine (awake_any _).mono ?_; rintro e w' ⟨rfl, rfl⟩))
  go_ret
  exact ⟨rfl, rfl⟩

theorem mixBelow_any (x : Nat) (n : Int) (w : World) (hx : x < 18446744073709551616) :
    Calls Try.prog 7 #[.int .u64 (x : Int), .int .i64 n] w fun e w' => e = .returned (.bool true) ∧ w' = w := by
  by_cases h1 : n < 1
  · go_enter Try.func7, Try.ntmps7
    go_wp2_with (first
      | (go_at_call 17; refine (below_any _ _ _ hx).mono ?_; rintro e w' ⟨rfl, rfl⟩)
      | (go_at_call 18; refine (refBelow_any _ _ _ hx).mono ?_; rintro e w' ⟨rfl, rfl⟩)
      | (go_at_call 11; refine (awake_any _).mono ?_; rintro e w' ⟨rfl, rfl⟩))
    go_ret
    exact ⟨rfl, rfl⟩
  · by_cases h2 : 2147483647 < n
    · go_enter Try.func7, Try.ntmps7
      go_wp2_with (first
        | (go_at_call 17; refine (below_any _ _ _ hx).mono ?_; rintro e w' ⟨rfl, rfl⟩)
        | (go_at_call 18; refine (refBelow_any _ _ _ hx).mono ?_; rintro e w' ⟨rfl, rfl⟩)
        | (go_at_call 11; refine (awake_any _).mono ?_; rintro e w' ⟨rfl, rfl⟩))
      go_ret
      exact ⟨rfl, rfl⟩
    · have h3 := belowN_lt x n hx (by omega) (by omega)
      obtain ⟨h4, h5⟩ := h3
      go_enter Try.func7, Try.ntmps7
      go_wp2_with (first
        | (go_at_call 17; refine (below_any _ _ _ hx).mono ?_; rintro e w' ⟨rfl, rfl⟩)
        | (go_at_call 18; refine (refBelow_any _ _ _ hx).mono ?_; rintro e w' ⟨rfl, rfl⟩)
        | (go_at_call 11; refine (awake_any _).mono ?_; rintro e w' ⟨rfl, rfl⟩))
      go_ret
      exact ⟨rfl, rfl⟩
end Go.Proofs.Ytijnoibpebmdbaa
