/-
  The law DrumNew.
-/
import Derived.Test.YtjmlklikmcaalaaDmJ
namespace Go.Proofs.Ytjmlklikmcaalaa.Dm
open Go.ChangeShapes Go.WideShapes Go.ChangeAt Go.RowKit
set_option maxHeartbeats 4000000 in
theorem drumNew_any (x : Int) (w : World) : Calls Try.prog 3 #[.int .i64 x] w fun e w' => TruePost w w' e := by
  by_cases hbad : x < 8 ∨ 8192 < x ∨ x % 2 ≠ 0
  · have HN := new_bad x hbad w
    have HA := awake_any w
    by_cases h1 : x < 8
    · go_enter Try.func3, Try.ntmps3
      go_wp2_with (first | (go_at_call 6; refine HN.mono ?_; rintro e w1 ⟨rfl, rfl⟩) | (go_at_call 7; refine HA.mono ?_; rintro e w2 ⟨rfl, hb2⟩))
      go_ret
      exact ⟨rfl, hb2⟩
    · by_cases h2 : 8192 < x
      · go_enter Try.func3, Try.ntmps3
        go_wp2_with (first | (go_at_call 6; refine HN.mono ?_; rintro e w1 ⟨rfl, rfl⟩) | (go_at_call 7; refine HA.mono ?_; rintro e w2 ⟨rfl, hb2⟩))
        go_ret
        exact ⟨rfl, hb2⟩
      · have h3 : (x % 2 != 0) = true := by
          have : x % 2 ≠ 0 := by omega
          simpa using this
        go_enter Try.func3, Try.ntmps3
        go_wp2_with (first | (go_at_call 6; refine HN.mono ?_; rintro e w1 ⟨rfl, rfl⟩) | (go_at_call 7; refine HA.mono ?_; rintro e w2 ⟨rfl, hb2⟩))
        go_ret
        exact ⟨rfl, hb2⟩
  · obtain ⟨n, rfl⟩ : ∃ n : Nat, x = n := ⟨x.toNat, by omega⟩
    have h1 : ¬ (n : Int) < 8 := by omega
    have h2 : ¬ 8192 < (n : Int) := by omega
    have h3 : ((n : Int) % 2 != 0) = false := by
      have : (n : Int) % 2 = 0 := by omega
      simpa using this
    have HN := new_any n (by omega) (by omega) (by rw [Int.tmod_eq_emod_of_nonneg (by omega)]; omega) w
    clear hbad
    go_enter Try.func3, Try.ntmps3
    go_wp2_with (first | (go_at_call 6; refine HN.mono ?_; rintro e w1 ⟨a, s, k, rfl, hD, hb⟩; have HS := sectors_any w1 hD; have HP := pending_any w1 hD; have HG := gone_any w1 hD; have HB : Hid (Below w.heap.size w w1) := hb; have HA := awake_any w1; clear hD hb HN) | (go_at_call 8; refine HS.mono ?_; rintro e w2 ⟨rfl, rfl⟩) | (go_at_call 9; refine HP.mono ?_; rintro e w3 ⟨rfl, rfl⟩) | (go_at_call 10; refine HG.mono ?_; rintro e w4 ⟨rfl, rfl⟩) | (go_at_call 7; refine HA.mono ?_; rintro e w5 ⟨rfl, hb2⟩))
    go_ret
    exact ⟨rfl, below_up HB.out hb2⟩
end Go.Proofs.Ytjmlklikmcaalaa.Dm
