/-
  The contracts of bytesOf, isWord, fits, has and size.
-/
import Derived.Test.YtcdlkdbnlomghaaDoorBiA
namespace Go.Proofs.YtcdlkdbnlomghaaDoor.Bi
open Go.ChangeShapes Go.WideShapes Go.ChangeAt Go.RowKit
theorem bytesOf_any (n : Nat) (hn : (n : Int) ≤ 1000000) (w : World) : Calls Tryd.prog 80 #[.int .i64 n] w fun e w' => e = .returned (.int .i64 ((need n : Nat) : Int)) ∧ w' = w := by
  have HE : Hid (((need n : Nat) : Int) = ((n : Int) + 7) / 8) := by unfold Hid need; omega
  go_enter Tryd.func80, Tryd.ntmps80
  go_wp2
  go_ret
  exact ⟨by rw [HE.out]; refine ret_int ?_; omega, rfl⟩
def isWordP (n : Int) : Bool := decide (0 ≤ n) && decide (n ≤ 64)
theorem isWord_any (n : Int) (w : World) : Calls Tryd.prog 75 #[.int .i64 n] w fun e w' => e = .returned (.bool (isWordP n)) ∧ w' = w := by
  have HE : Hid (isWordP n = (decide (0 ≤ n) && decide (n ≤ 64))) := rfl
  generalize isWordP n = q at *
  cases h1 : decide (0 ≤ n) with
  | false =>
    rw [h1] at HE
    go_enter Tryd.func75, Tryd.ntmps75
    go_wp2
    go_ret
    exact ⟨by rw [HE.out]; rfl, rfl⟩
  | true =>
    rw [h1] at HE
    go_enter Tryd.func75, Tryd.ntmps75
    go_wp2
    go_ret
    exact ⟨by rw [HE.out]; rfl, rfl⟩
theorem fits_any (a : Option Addr) (len cap : Nat) (N n : Int) (hN : 0 ≤ N) (hN2 : N ≤ 131072) (w : World) : Calls Tryd.prog 69 #[.agg #[.slice a len cap, .int .i64 N], .int .i64 n] w fun e w' => e = .returned (.bool (decide (n ≤ 131072 - N))) ∧ Grown w w' := by
  have HG := Hid.mk9 (grown_alloc w (.cells #[.slice a len cap, .int .i64 N] 26))
  go_enter Tryd.func69, Tryd.ntmps69
  go_wp2
  go_ret
  exact ⟨rfl, HG.out⟩
/-- of no bits none is missing -/
def hasP (N at' n : Int) : Bool := decide (n = 0) || (decide (0 < n) && decide (0 ≤ at') && decide (at' ≤ N - n))
set_option maxHeartbeats 1000000 in
theorem has_any (a : Option Addr) (len cap : Nat) (N at' n : Int) (hN : 0 ≤ N) (hN2 : N ≤ 131072) (hn : (Lit.int .i64 n).wf = true) (w : World) : Calls Tryd.prog 84 #[.agg #[.slice a len cap, .int .i64 N], .int .i64 at', .int .i64 n] w fun e w' => e = .returned (.bool (hasP N at' n)) ∧ Grown w w' := by
  have HG := Hid.mk9 (grown_alloc w (.cells #[.slice a len cap, .int .i64 N] 26))
  have hn2 : -9223372036854775808 ≤ n ∧ n ≤ 9223372036854775807 := by simpa [Lit.wf, IntKind.min, IntKind.max, IntKind.bits, IntKind.signed] using hn
  have HE : Hid (hasP N at' n = (decide (n = 0) || (decide (0 < n) && decide (0 ≤ at') && decide (at' ≤ N - n)))) := rfl
  generalize hasP N at' n = q at *
  clear hn
  by_cases h0 : n = 0
  · subst h0
    have HQ : Hid (q = true) := by unfold Hid; rw [HE.out]; rfl
    clear HE hn2
    go_enter Tryd.func84, Tryd.ntmps84
    go_wp2
    go_ret
    exact ⟨by rw [HQ.out]; rfl, HG.out⟩
  · have hb : (n == 0) = false := by simpa using h0
    have hd0 : decide (n = 0) = false := decide_eq_false h0
    by_cases h1 : 0 < n
    · have hd1 : decide (0 < n) = true := decide_eq_true h1
      by_cases h2 : 0 ≤ at'
      · have hd2 : decide (0 ≤ at') = true := decide_eq_true h2
        have HQ : Hid (q = decide (at' ≤ N - n)) := by unfold Hid; rw [HE.out, hd0, hd1, hd2]; rfl
        have HW : Hid (wrap64 (N - n) = N - n) := by unfold Hid wrap64; omega
        have hw := HW.out
        clear HE hn2 hd0 hd2 h0
        go_enter Tryd.func84, Tryd.ntmps84
        go_wp2
        go_ret
        exact ⟨by rw [HQ.out]; rfl, HG.out⟩
      · have hd2 : decide (0 ≤ at') = false := decide_eq_false h2
        have HQ : Hid (q = false) := by unfold Hid; rw [HE.out, hd0, hd1, hd2]; rfl
        clear HE hn2 hd0 h0
        go_enter Tryd.func84, Tryd.ntmps84
        go_wp2
        go_ret
        exact ⟨by rw [HQ.out]; rfl, HG.out⟩
    · have hd1 : decide (0 < n) = false := decide_eq_false h1
      have HQ : Hid (q = false) := by unfold Hid; rw [HE.out, hd0, hd1]; rfl
      clear HE hn2 hd0 h0
      go_enter Tryd.func84, Tryd.ntmps84
      go_wp2
      go_ret
      exact ⟨by rw [HQ.out]; rfl, HG.out⟩
theorem size_any (u : Int) (h b : Nat) (hh : (h : Int) ≤ 1000) (hb : (b : Int) ≤ 1000) (w : World) : Calls Tryd.prog 70 #[.agg #[.int .u64 u, .int .i64 h, .int .i64 b]] w fun e w' => e = .returned (.int .i64 ((h + b : Nat) : Int)) ∧ Grown w w' := by
  have HG := Hid.mk9 (grown_alloc w (.cells #[.int .u64 u, .int .i64 h, .int .i64 b] 120))
  go_enter Tryd.func70, Tryd.ntmps70
  go_wp2
  go_ret
  exact ⟨ret_int (by omega), HG.out⟩
end Go.Proofs.YtcdlkdbnlomghaaDoor.Bi
