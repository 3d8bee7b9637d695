/-
  The contracts of Mix and Fold, and of the answers that they are held against.
-/
import Derived.Test.YtcncbjknfcjnmaaGreatRows
import Derived.Test.YtcncbjknfcjnmaaGreatDrA
import Derived.WalkKit
import Derived.ProofKit
import Derived.OpenShut
import Derived.Below
namespace Go.Proofs.YtcncbjknfcjnmaaGreat.Dr
open Go.ChangeShapes Go.WideShapes Go.ChangeAt Go.RowKit
theorem ret_int {k : IntKind} {a b : Int} (h : a = b) : Ending.returned (.int k a) = .returned (.int k b) := by rw [h]
theorem cross_any (x : Nat) (w : World) (hx : x < 18446744073709551616) :
    Calls Tryz.prog 195 #[.int .u64 (x : Int)] w fun e w' => e = .returned (.int .u64 ((cr x : Nat) : Int)) ∧ w' = w := by
  go_enter Tryz.func195, Tryz.ntmps195
  go_wp2
  go_ret
  exact ⟨ret_int (cross_form x hx), rfl⟩
theorem shift_any (x : Nat) (w : World) (hx : x < 18446744073709551616) :
    Calls Tryz.prog 152 #[.int .u64 (x : Int)] w fun e w' => e = .returned (.int .u64 ((cr x : Nat) : Int)) ∧ w' = w := by
  go_enter Tryz.func152, Tryz.ntmps152
  go_wp2
  go_ret
  exact ⟨ret_int (shift_form x hx), rfl⟩
theorem mix_any (x : Nat) (w : World) (hx : x < 18446744073709551616) :
    Calls Tryz.prog 177 #[.int .u64 (x : Int)] w fun e w' => e = .returned (.int .u64 ((mixN x : Nat) : Int)) ∧ w' = w := by
  go_enter Tryz.func177, Tryz.ntmps177
  go_wp2_with (go_at_call 195; refine (cross_any _ _ ?_).mono ?_; (first | exact hx | exact Nat.mod_lt _ (by decide)); rintro e w' ⟨rfl, rfl⟩)
  go_ret
  exact ⟨rfl, rfl⟩
theorem refMix_any (x : Nat) (w : World) (hx : x < 18446744073709551616) :
    Calls Tryz.prog 128 #[.int .u64 (x : Int)] w fun e w' => e = .returned (.int .u64 ((mixN x : Nat) : Int)) ∧ w' = w := by
  go_enter Tryz.func128, Tryz.ntmps128
  go_wp2_with (go_at_call 152; refine (shift_any _ _ ?_).mono ?_; (first | exact hx | exact Nat.mod_lt _ (by decide)); rintro e w' ⟨rfl, rfl⟩)
  go_ret
  exact ⟨rfl, rfl⟩
theorem step_any (s n : Nat) (w : World) (hs : s < 18446744073709551616) (hn : n < 18446744073709551616) :
    Calls Tryz.prog 178 #[.int .u64 (s : Int), .int .u64 (n : Int)] w fun e w' => e = .returned (.int .u64 ((stepN s n : Nat) : Int)) ∧ w' = w := by
  have h := step_form s n hs hn
  go_enter Tryz.func178, Tryz.ntmps178
  go_wp2_with (go_at_call 177; refine (mix_any _ _ ?_).mono ?_; (exact Nat.mod_lt _ (by decide)); rintro e w' ⟨rfl, rfl⟩)
  go_ret
  exact ⟨rfl, rfl⟩
theorem fold_some (s b off cap : Nat) (l : List Nat) (w : World) (hs : s < 18446744073709551616) (hm : l.length ≤ maxLen) (hb : ∀ n ∈ l, n < 18446744073709551616)
    (hcell : ∀ i, i < l.length → w.cell? ⟨b, off + i, none⟩ = some (.int .u64 ((l.getD i 0 : Nat) : Int))) :
    Calls Tryz.prog 165 #[.int .u64 (s : Int), .slice (some ⟨b, off, none⟩) l.length cap] w fun e w' => e = .returned (.int .u64 ((foldN s l : Nat) : Int)) ∧ w' = w := by
  unfold maxLen at hm
  go_enter Tryz.func165, Tryz.ntmps165
  go_wp2_with (go_at_call 177; refine (mix_any _ _ hs).mono ?_; rintro e w' ⟨rfl, rfl⟩)
  go_loop [5, 12] (fun t i => ∃ k : Nat, k ≤ l.length ∧ i = .int .i64 k ∧ t = .int .u64 ((foldN s (l.take k) : Nat) : Int)) (fun _ i => l.length - (intOf i).toNat)
  case atStart => exact ⟨0, Nat.zero_le _, rfl, by rw [List.take_zero, foldN_nil]⟩
  case round =>
    obtain ⟨k, hk, rfl, rfl⟩ := hrel
    by_cases hlt : k < l.length
    · have hc := hcell k hlt
      have h1 := foldN_lt s (l.take k)
      have h2 := getD_lt l hb k
      have HS : Hid (foldN s (l.take (k + 1)) = stepN (foldN s (l.take k)) (l.getD k 0)) := foldN_take s l k hlt
      generalize l.getD k 0 = n at hc h2 HS
      clear hcell hb
      go_wp2_with (go_at_call 178; refine (step_any _ _ _ h1 h2).mono ?_; rintro e w' ⟨rfl, rfl⟩)
      go_round
      case rel => exact ⟨k + 1, by omega, by go_num, by rw [HS.out]⟩
      case measure => simp [intOf]; omega
    · go_wp2
      go_ret
      exact ⟨ret_int (by rw [List.take_of_length_le (by omega)]), rfl⟩
theorem refFold_some (s b off cap : Nat) (l : List Nat) (w : World) (hs : s < 18446744073709551616) (hm : l.length ≤ maxLen) (hb : ∀ n ∈ l, n < 18446744073709551616)
    (hcell : ∀ i, i < l.length → w.cell? ⟨b, off + i, none⟩ = some (.int .u64 ((l.getD i 0 : Nat) : Int))) :
    Calls Tryz.prog 109 #[.int .u64 (s : Int), .slice (some ⟨b, off, none⟩) l.length cap] w fun e w' => e = .returned (.int .u64 ((foldN s l : Nat) : Int)) ∧ w' = w := by
  unfold maxLen at hm
  go_enter Tryz.func109, Tryz.ntmps109
  go_wp2_with (go_at_call 128; refine (refMix_any _ _ hs).mono ?_; rintro e w' ⟨rfl, rfl⟩)
  go_loop [5, 6] (fun t i => ∃ k : Nat, k ≤ l.length ∧ i = .int .i64 k ∧ t = .int .u64 ((foldN s (l.take k) : Nat) : Int)) (fun _ i => l.length - (intOf i).toNat)
  case atStart => exact ⟨0, Nat.zero_le _, rfl, by rw [List.take_zero, foldN_nil]⟩
  case round =>
    obtain ⟨k, hk, rfl, rfl⟩ := hrel
    by_cases hlt : k < l.length
    · have hc := hcell k hlt
      have h1 := foldN_lt s (l.take k)
      have h2 := getD_lt l hb k
      have HS : Hid (foldN s (l.take (k + 1)) = stepN (foldN s (l.take k)) (l.getD k 0)) := foldN_take s l k hlt
      generalize l.getD k 0 = n at hc h2 HS
      have h := step_form _ n h1 h2
      clear hcell hb
      go_wp2_with (go_at_call 128; refine (refMix_any _ _ ?_).mono ?_; (exact Nat.mod_lt _ (by decide)); rintro e w' ⟨rfl, rfl⟩)
      go_round
      case rel => exact ⟨k + 1, by omega, by go_num, by rw [HS.out, stepN]⟩
      case measure => simp [intOf]; omega
    · go_wp2
      go_ret
      exact ⟨ret_int (by rw [List.take_of_length_le (by omega)]), rfl⟩
end Go.Proofs.YtcncbjknfcjnmaaGreat.Dr
