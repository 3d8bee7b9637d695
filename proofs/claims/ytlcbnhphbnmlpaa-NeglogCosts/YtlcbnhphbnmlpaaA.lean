/-
  The contracts of behindPoint and of both Costs, at every number.
-/
import Derived.Test.YtlcbnhphbnmlpaaRows
import Derived.Test.YtlcbnhphbnmlpaaPlain
import Derived.WalkKit
import Derived.ProofKit
import Derived.OpenShut
import Derived.Below
namespace Go.Proofs.Ytlcbnhphbnmlpaa
open Go.ChangeShapes Go.WideShapes Go.ChangeAt Go.RowKit
theorem ret_int {k : IntKind} {a b : Int} (h : a = b) : Ending.returned (.int k a) = .returned (.int k b) := by rw [h]

theorem sq_wrap (z : Nat) (h : z ≤ 2147483648) : IntKind.u64.wrap ((z : Int) * z) = ((z * z : Nat) : Int) := by
  have := sq_le h
  rw [show ((z : Int) * z) = ((z * z : Nat) : Int) from rfl, IntKind.wrap_u64]
  omega
theorem sq_form (z : Nat) (h : z ≤ 2147483648) : IntKind.u64.wrap ((z : Int) * z) / 2147483648 = ((sqN z : Nat) : Int) := by
  rw [sq_wrap z h]
  rfl

theorem behind_any (z : Nat) (w : World) (hz : z ≤ 2147483648) :
    Calls Try.prog 13 #[.int .u64 (z : Int)] w fun e w' => e = .returned (.int .i64 ((fAt z 16 : Nat) : Int)) ∧ w' = w := by
  go_enter Try.func13, Try.ntmps13
  go_wp2
  go_loop [0, 3, 4] (fun x f i => ∃ k : Nat, k ≤ 16 ∧ i = .int .i64 k ∧ x = .int .u64 ((zAt z k : Nat) : Int) ∧ f = .int .i64 ((fAt z k : Nat) : Int)) (fun _ _ i => 16 - (intOf i).toNat)
  case atStart => exact ⟨0, Nat.zero_le _, rfl, rfl, rfl⟩
  case round =>
    obtain ⟨k, hk, rfl, rfl, rfl⟩ := hrel
    have h1 := zAt_le hz k
    have h2 := fAt_lt16 z k hk
    have h3 := sq_form _ h1
    have h4 := sqN_le h1
    have HZ : Hid (zAt z (k + 1) = zS (zAt z k)) := zAt_succ z k
    have HF : Hid (fAt z (k + 1) = fS (zAt z k) (fAt z k)) := fAt_succ z k
    have HE : Hid (k = 16 → fAt z 16 = fAt z k) := fun e => by rw [e]
    generalize zAt z k = x at h1 h3 h4 HZ HF
    generalize fAt z k = f at h2 HF HE
    have HQ : Hid (sqN x = sqN x) := rfl
    generalize hq : sqN x = q at h3 h4 HQ
    have HQ' : Hid (sqN x = q) := hq
    clear hq HQ
    by_cases hlt : k < 16
    · by_cases hlow : q ≤ 1073741824
      · go_wp2
        go_round
        case rel => exact ⟨k + 1, by omega, by go_num, by rw [HZ.out, zS_low x (by rw [HQ'.out]; exact hlow), HQ'.out]; go_num, by rw [HF.out, fS_low x f (by rw [HQ'.out]; exact hlow)]; go_num⟩
        case measure => simp [intOf]; omega
      · go_wp2
        go_round
        case rel => exact ⟨k + 1, by omega, by go_num, by rw [HZ.out, zS_high x (by rw [HQ'.out]; omega), HQ'.out], by rw [HF.out, fS_high x f (by rw [HQ'.out]; omega)]; go_num⟩
        case measure => simp [intOf]; omega
    · go_wp2
      go_ret
      exact ⟨ret_int (by rw [HE.out (by omega)]), rfl⟩

set_option maxRecDepth 60000 in
theorem cost_any (u : Int) (w : World) (hb : -9223372036854775808 ≤ u ∧ u ≤ 9223372036854775807) :
    Calls Try.prog 7 #[.int .i64 u] w fun e w' => e = .returned (.int .i64 (costI u)) ∧ w' = w := by
  by_cases h1 : u < 1
  · go_enter Try.func7, Try.ntmps7
    go_wp2_with fail
    go_ret
    exact ⟨ret_int (costI_out u (.inl h1)).symm, rfl⟩
  · by_cases h2 : 65536 < u
    · go_enter Try.func7, Try.ntmps7
      go_wp2_with fail
      go_ret
      exact ⟨ret_int (costI_out u (.inr h2)).symm, rfl⟩
    · obtain ⟨m, rfl⟩ : ∃ k : Nat, u = k := ⟨u.toNat, by omega⟩
      have hc := costI_of m (by omega) (by omega)
      have hlt := costN_lt m
      go_enter Try.func7, Try.ntmps7
      go_wp2_with fail
      go_loop [0, 3] (fun x d => ∃ a j : Nat, 1 ≤ a ∧ a ≤ 65536 ∧ x = .int .i64 (a : Int) ∧ d = .int .i64 (j : Int) ∧ 65536 * j + costN a = costN m) (fun x _ => 65536 - (intOf x).toNat)
      case atStart => exact ⟨m, 0, by omega, by omega, rfl, rfl, by omega⟩
      case round =>
        obtain ⟨a, j, ha, hA, rfl, rfl, he⟩ := hrel
        have HE : Hid (65536 * j + costN a = costN m) := he
        have hj : j ≤ 17 := by omega
        clear he
        by_cases hl : a ≤ 32768
        · have HL : Hid (costN a = 65536 + costN (2 * a)) := costN_low a ha hl
          go_wp2_with fail
          go_round
          case rel => exact ⟨2 * a, j + 1, by omega, by omega, by go_num, by go_num, by have := HE.out; have := HL.out; omega⟩
          case measure => simp [intOf]; omega
        · have HH : Hid (costN a = fAt (a * 32768) 16) := costN_high a hl
          obtain ⟨y, hy⟩ : ∃ y, y = a * 32768 := ⟨_, rfl⟩
          rw [← hy] at HH
          have HY : Hid (y = a * 32768) := hy
          have hyl : (y : Int) ≤ 2147483648 := by omega
          have hf : ((fAt y 16 : Nat) : Int) < 65536 := by have := fAt_lt16 y 16 (by decide); omega
          clear hlt
          generalize hg : fAt y 16 = g at hf HH
          have HG : Hid (fAt y 16 = g) := hg
          have e1 : ((a : Int) * 32768) = (y : Int) := by omega
          have hl' : ¬ (a : Int) ≤ 32768 := by omega
          have hA' : (a : Int) ≤ 65536 := by omega
          have HYL : Hid (y ≤ 2147483648) := by have : y ≤ 2147483648 := by omega
                                                exact this
          clear hg hy hl hA h2 h1 hb
          go_wp2_with (go_at_call 13; refine (behind_any y _ HYL.out).mono ?_; rw [HG.out]; rintro e w' ⟨rfl, rfl⟩)
          go_ret
          exact ⟨ret_int (by have := HE.out; have := HH.out; rw [hc]; omega), rfl⟩
end Go.Proofs.Ytlcbnhphbnmlpaa
