/-
  The contracts of the costs, of the answer that they are held against, and of Better.
-/
import Derived.Test.YtcncbjknfcjnmaaGreatRows
import Derived.Test.YtcncbjknfcjnmaaGreatDrA
import Derived.Test.YtcncbjknfcjnmaaGreatDrB
import Derived.WalkKit
import Derived.ProofKit
import Derived.OpenShut
import Derived.Below
namespace Go.Proofs.YtcncbjknfcjnmaaGreat.Dr
open Go.ChangeShapes Go.WideShapes Go.ChangeAt Go.RowKit
theorem sq_wrap (z : Nat) (h : z ≤ 2147483648) : IntKind.u64.wrap ((z : Int) * z) = ((z * z : Nat) : Int) := by
  have := sq_le h
  rw [show ((z : Int) * z) = ((z * z : Nat) : Int) from rfl, IntKind.wrap_u64]
  omega
theorem sq_form (z : Nat) (h : z ≤ 2147483648) : IntKind.u64.wrap ((z : Int) * z) / 2147483648 = ((sqN z : Nat) : Int) := by
  rw [sq_wrap z h]
  rfl
theorem behind_any (z : Nat) (w : World) (hz : z ≤ 2147483648) :
    Calls Tryz.prog 199 #[.int .u64 (z : Int)] w fun e w' => e = .returned (.int .i64 ((fAt z 16 : Nat) : Int)) ∧ w' = w := by
  go_enter Tryz.func199, Tryz.ntmps199
  go_wp2
  go_loop [0, 3, 4] (fun x f i => ∃ k : Nat, k ≤ 16 ∧ i = .int .i64 k ∧ x = .int .u64 ((zAt z k : Nat) : Int) ∧ f = .int .i64 ((fAt z k : Nat) : Int)) (fun _ _ i => 16 - (intOf i).toNat)
  case atStart => exact ⟨0, Nat.zero_le _, rfl, rfl, rfl⟩
  case round =>
    obtain ⟨k, hk, rfl, rfl, rfl⟩ := hrel
    have h1 := zAt_le hz k
    have h2 := fAt_lt16 z k hk
    have h3 := sq_form _ h1
    have h4 := sqN_le h1
    have HZ : Hid (zAt z (k + 1) = zS (zAt z k)) := zAt_succ z k
    have HF : Hid (fAt z (k + 1) = fS (zAt z k) (fAt z k)) := fAt_succ z k
    have HE : Hid (k = 16 → fAt z 16 = fAt z k) := fun e => by rw [e]
    generalize zAt z k = x at h1 h3 h4 HZ HF
    generalize fAt z k = f at h2 HF HE
    have HQ : Hid (sqN x = sqN x) := rfl
    generalize hq : sqN x = q at h3 h4 HQ
    have HQ' : Hid (sqN x = q) := hq
    clear hq HQ
    by_cases hlt : k < 16
    · by_cases hlow : q ≤ 1073741824
      · go_wp2
        go_round
        case rel => exact ⟨k + 1, by omega, by go_num, by rw [HZ.out, zS_low x (by rw [HQ'.out]; exact hlow), HQ'.out]; go_num, by rw [HF.out, fS_low x f (by rw [HQ'.out]; exact hlow)]; go_num⟩
        case measure => simp [intOf]; omega
      · go_wp2
        go_round
        case rel => exact ⟨k + 1, by omega, by go_num, by rw [HZ.out, zS_high x (by rw [HQ'.out]; omega), HQ'.out], by rw [HF.out, fS_high x f (by rw [HQ'.out]; omega)]; go_num⟩
        case measure => simp [intOf]; omega
    · go_wp2
      go_ret
      exact ⟨ret_int (by rw [HE.out (by omega)]), rfl⟩
set_option maxRecDepth 60000 in
theorem cost_any (u : Int) (w : World) (hb : -9223372036854775808 ≤ u ∧ u ≤ 9223372036854775807) :
    Calls Tryz.prog 184 #[.int .i64 u] w fun e w' => e = .returned (.int .i64 (costI u)) ∧ w' = w := by
  by_cases h1 : u < 1
  · go_enter Tryz.func184, Tryz.ntmps184
    go_wp2_with fail
    go_ret
    exact ⟨ret_int (costI_out u (.inl h1)).symm, rfl⟩
  · by_cases h2 : 65536 < u
    · go_enter Tryz.func184, Tryz.ntmps184
      go_wp2_with fail
      go_ret
      exact ⟨ret_int (costI_out u (.inr h2)).symm, rfl⟩
    · obtain ⟨m, rfl⟩ : ∃ k : Nat, u = k := ⟨u.toNat, by omega⟩
      have hc := costI_of m (by omega) (by omega)
      have hlt := costN_lt m
      go_enter Tryz.func184, Tryz.ntmps184
      go_wp2_with fail
      go_loop [0, 3] (fun x d => ∃ a j : Nat, 1 ≤ a ∧ a ≤ 65536 ∧ x = .int .i64 (a : Int) ∧ d = .int .i64 (j : Int) ∧ 65536 * j + costN a = costN m) (fun x _ => 65536 - (intOf x).toNat)
      case atStart => exact ⟨m, 0, by omega, by omega, rfl, rfl, by omega⟩
      case round =>
        obtain ⟨a, j, ha, hA, rfl, rfl, he⟩ := hrel
        have HE : Hid (65536 * j + costN a = costN m) := he
        have hj : j ≤ 17 := by omega
        clear he
        by_cases hl : a ≤ 32768
        · have HL : Hid (costN a = 65536 + costN (2 * a)) := costN_low a ha hl
          go_wp2_with fail
          go_round
          case rel => exact ⟨2 * a, j + 1, by omega, by omega, by go_num, by go_num, by have := HE.out; have := HL.out; omega⟩
          case measure => simp [intOf]; omega
        · have HH : Hid (costN a = fAt (a * 32768) 16) := costN_high a hl
          obtain ⟨y, hy⟩ : ∃ y, y = a * 32768 := ⟨_, rfl⟩
          rw [← hy] at HH
          have HY : Hid (y = a * 32768) := hy
          have hyl : (y : Int) ≤ 2147483648 := by omega
          have hf : ((fAt y 16 : Nat) : Int) < 65536 := by have := fAt_lt16 y 16 (by decide); omega
          clear hlt
          generalize hg : fAt y 16 = g at hf HH
          have HG : Hid (fAt y 16 = g) := hg
          have e1 : ((a : Int) * 32768) = (y : Int) := by omega
          have hl' : ¬ (a : Int) ≤ 32768 := by omega
          have hA' : (a : Int) ≤ 65536 := by omega
          have HYL : Hid (y ≤ 2147483648) := by have : y ≤ 2147483648 := by omega
                                                exact this
          clear hg hy hl hA h2 h1 hb
          go_wp2_with (go_at_call 199; refine (behind_any y _ HYL.out).mono ?_; rw [HG.out]; rintro e w' ⟨rfl, rfl⟩)
          go_ret
          exact ⟨ret_int (by have := HE.out; have := HH.out; rw [hc]; omega), rfl⟩
theorem sq_form' (z : Nat) (h : z ≤ 2147483648) : IntKind.u64.wrap ((IntKind.u64.wrap ((z : Int) * z)).tdiv 2147483648) = ((sqN z : Nat) : Int) := by
  have hs := sq_le h
  rw [sq_wrap z h, Int.tdiv_eq_ediv_of_nonneg (by omega), IntKind.wrap_u64]
  unfold sqN
  omega
set_option maxRecDepth 60000 in
/-- the answer's Cost of a number that is not doubled -/
theorem refCost_high (a : Nat) (w : World) (hl0 : 32768 < a) (hA0 : a ≤ 65536) :
    Calls Tryz.prog 169 #[.int .i64 (a : Int)] w fun e w' => e = .returned (.int .i64 ((costN a : Nat) : Int)) ∧ w' = w := by
  have HH : Hid (costN a = fAt (a * 32768) 16) := costN_high a (by omega)
  obtain ⟨z, hz⟩ : ∃ z, z = a * 32768 := ⟨_, rfl⟩
  rw [← hz] at HH
  have HZL : Hid (z ≤ 2147483648) := by have : z ≤ 2147483648 := by omega
                                        exact this
  have e1 : ((a : Int) * 32768) = (z : Int) := by omega
  have e2 : (z : Int) ≤ 2147483648 := by omega
  have hl : 32768 < (a : Int) := by omega
  have hA : (a : Int) ≤ 65536 := by omega
  clear hl0 hA0 hz
  go_enter Tryz.func169, Tryz.ntmps169
  go_wp2_with fail
  go_loop [3, 4, 5] (fun x f i => ∃ k : Nat, k ≤ 16 ∧ i = .int .i64 k ∧ x = .int .u64 ((zAt z k : Nat) : Int) ∧ f = .int .i64 ((fAt z k : Nat) : Int)) (fun _ _ i => 16 - (intOf i).toNat)
  case atStart => exact ⟨0, Nat.zero_le _, rfl, rfl, rfl⟩
  case round =>
    obtain ⟨k, hk, rfl, rfl, rfl⟩ := hrel
    have h1 := zAt_le HZL.out k
    have h2 := fAt_lt16 z k hk
    have h3 := sq_form' _ h1
    have h4 := sqN_le h1
    have HZ : Hid (zAt z (k + 1) = zS (zAt z k)) := zAt_succ z k
    have HF : Hid (fAt z (k + 1) = fS (zAt z k) (fAt z k)) := fAt_succ z k
    have HE : Hid (k = 16 → fAt z 16 = fAt z k) := fun e => by rw [e]
    generalize zAt z k = x at h1 h3 h4 HZ HF
    generalize fAt z k = f at h2 HF HE
    have HQ : Hid (sqN x = sqN x) := rfl
    generalize hq : sqN x = q at h3 h4 HQ
    have HQ' : Hid (sqN x = q) := hq
    clear hq HQ
    by_cases hlt : k < 16
    · by_cases hlow : q ≤ 1073741824
      · go_wp2_with fail
        go_round
        case rel => exact ⟨k + 1, by omega, by go_num, by rw [HZ.out, zS_low x (by rw [HQ'.out]; exact hlow), HQ'.out]; go_num, by rw [HF.out, fS_low x f (by rw [HQ'.out]; exact hlow)]; go_num⟩
        case measure => simp [intOf]; omega
      · go_wp2_with fail
        go_round
        case rel => exact ⟨k + 1, by omega, by go_num, by rw [HZ.out, zS_high x (by rw [HQ'.out]; omega), HQ'.out], by rw [HF.out, fS_high x f (by rw [HQ'.out]; omega)]; go_num⟩
        case measure => simp [intOf]; omega
    · go_wp2_with fail
      go_ret
      exact ⟨ret_int (by rw [HH.out, HE.out (by omega)]), rfl⟩
set_option maxRecDepth 60000 in
theorem refCost_in (n : Nat) : ∀ (a : Nat) (w : World), 1 ≤ a → a ≤ 65536 → 32768 < a * 2 ^ n →
    Calls Tryz.prog 169 #[.int .i64 (a : Int)] w fun e w' => e = .returned (.int .i64 ((costN a : Nat) : Int)) ∧ w' = w := by
  induction n with
  | zero =>
    intro a w h1 h2 h3
    exact refCost_high a w (by omega) h2
  | succ n ih =>
    intro a w h1 h2 h3
    by_cases hl : a ≤ 32768
    · have HI := fun w => ih (2 * a) w (by omega) (by omega) (by rw [Nat.pow_succ] at h3; rw [Nat.mul_comm 2 a, Nat.mul_assoc, Nat.mul_comm 2]; exact h3)
      have HL : Hid (costN a = 65536 + costN (2 * a)) := costN_low a h1 hl
      have hb : ((costN (2 * a) : Nat) : Int) < 1114112 := by have := costN_lt (2 * a); omega
      obtain ⟨y, hy⟩ : ∃ y, y = 2 * a := ⟨_, rfl⟩
      rw [← hy] at HI HL hb
      have e1 : (2 * (a : Int)) = (y : Int) := by omega
      have hl' : (a : Int) ≤ 32768 := by omega
      have h1' : 1 ≤ (a : Int) := by omega
      generalize costN y = c at HI HL hb
      have hc0 : 0 ≤ (c : Int) := by omega
      have HI' : Hid (∀ w : World, Calls Tryz.prog 169 #[.int .i64 (y : Int)] w fun e w' => e = .returned (.int .i64 (c : Int)) ∧ w' = w) := HI
      have HA : Hid (((costN a : Nat) : Int) = 65536 + (c : Int)) := by have h : ((costN a : Nat) : Int) = 65536 + (c : Int) := by have := HL.out; omega
                                                                        exact h
      generalize ((costN a : Nat) : Int) = ca at HA
      generalize (c : Int) = C at HA hc0 hb HI'
      clear hy hl h1 h2 h3 ih HI HL
      generalize (a : Int) = A at e1 hl' h1'
      generalize (y : Int) = Y at e1 HI'
      go_enter Tryz.func169, Tryz.ntmps169
      go_wp2_with (go_at_call 169; refine (HI'.out _).mono ?_; rintro e w' ⟨rfl, rfl⟩)
      go_ret
      exact ⟨ret_int HA.out.symm, rfl⟩
    · exact refCost_high a w (by omega) h2
theorem refCost_any (u : Int) (w : World) (hb : -9223372036854775808 ≤ u ∧ u ≤ 9223372036854775807) :
    Calls Tryz.prog 169 #[.int .i64 u] w fun e w' => e = .returned (.int .i64 (costI u)) ∧ w' = w := by
  by_cases h1 : u < 1
  · go_enter Tryz.func169, Tryz.ntmps169
    go_wp2_with fail
    go_ret
    exact ⟨ret_int (costI_out u (.inl h1)).symm, rfl⟩
  · by_cases h2 : 65536 < u
    · go_enter Tryz.func169, Tryz.ntmps169
      go_wp2_with fail
      go_ret
      exact ⟨ret_int (costI_out u (.inr h2)).symm, rfl⟩
    · obtain ⟨m, rfl⟩ : ∃ k : Nat, u = k := ⟨u.toNat, by omega⟩
      rw [costI_of m (by omega) (by omega)]
      exact refCost_in 16 m w (by omega) (by omega) (by omega)
def costB (n : Int) : Bool := decide (0 ≤ n) && decide (n ≤ 2147483647)
def weightB (n : Int) : Bool := decide (1 ≤ n) && decide (n ≤ 2147483647)
def betterB (c w o t : Int) : Bool := costB c && weightB w && costB o && weightB t && decide (c * t < o * w)
theorem costB_iff (n : Int) : costB n = true ↔ 0 ≤ n ∧ n ≤ 2147483647 := by simp [costB]
theorem weightB_iff (n : Int) : weightB n = true ↔ 1 ≤ n ∧ n ≤ 2147483647 := by simp [weightB]
theorem betterB_iff (c w o t : Int) : betterB c w o t = true ↔ (0 ≤ c ∧ c ≤ 2147483647) ∧ (1 ≤ w ∧ w ≤ 2147483647) ∧ (0 ≤ o ∧ o ≤ 2147483647) ∧ (1 ≤ t ∧ t ≤ 2147483647) ∧ c * t < o * w := by
  simp [betterB, costB, weightB, and_assoc]
theorem betterB_asym (c w o t : Int) (h : betterB c w o t = true) : betterB o t c w = false := by
  rw [betterB_iff] at h
  cases hx : betterB o t c w with
  | false => rfl
  | true => rw [betterB_iff] at hx; omega
theorem betterB_trans (c w o t p s : Int) (h : betterB c w o t = true) (h' : betterB o t p s = true) : betterB c w p s = true := by
  rw [betterB_iff] at h h' ⊢
  obtain ⟨c1, w1, o1, t1, l1⟩ := h
  obtain ⟨_, _, p1, s1, l2⟩ := h'
  refine ⟨c1, w1, p1, s1, ?_⟩
  have h1 : c * t * s < o * w * s := Int.mul_lt_mul_of_pos_right l1 (by omega)
  have h2 : o * s * w < p * t * w := Int.mul_lt_mul_of_pos_right l2 (by omega)
  have h3 : c * s * t < p * w * t := by
    rw [show c * s * t = c * t * s from Int.mul_right_comm c s t, show p * w * t = p * t * w from Int.mul_right_comm p w t]
    rw [show o * s * w = o * w * s from Int.mul_right_comm o s w] at h2
    omega
  exact Int.lt_of_mul_lt_mul_right h3 (by omega)
theorem prod_bound {a b : Int} (h1 : 0 ≤ a) (h2 : a ≤ 2147483647) (h3 : 0 ≤ b) (h4 : b ≤ 2147483647) : 0 ≤ a * b ∧ a * b ≤ 4611686014132420609 :=
  ⟨Int.mul_nonneg h1 h3, Int.le_trans (Int.mul_le_mul h2 h4 h3 (by omega)) (by decide)⟩
theorem prod_u64 {a b : Int} (h : 0 ≤ a * b ∧ a * b ≤ 4611686014132420609) : IntKind.u64.wrap (a * b) = a * b := by
  rw [IntKind.wrap_u64]; omega
theorem prod_i64 {a b : Int} (h : 0 ≤ a * b ∧ a * b ≤ 4611686014132420609) : wrap64 (a * b) = a * b := by
  unfold wrap64; omega
theorem ret_bool {a b : Bool} (h : a = b) : Ending.returned (.bool a) = .returned (.bool b) := by rw [h]
theorem mayCost_any (n : Int) (w : World) : Calls Tryz.prog 193 #[.int .i64 n] w fun e w' => e = .returned (.bool (costB n)) ∧ w' = w := by
  by_cases h1 : 0 ≤ n
  · by_cases h2 : n ≤ 2147483647
    · go_enter Tryz.func193, Tryz.ntmps193
      go_wp2_with fail
      go_ret
      exact ⟨ret_bool ((costB_iff n).2 ⟨h1, h2⟩).symm, rfl⟩
    · go_enter Tryz.func193, Tryz.ntmps193
      go_wp2_with fail
      go_ret
      exact ⟨ret_bool (by unfold costB; simp; omega), rfl⟩
  · go_enter Tryz.func193, Tryz.ntmps193
    go_wp2_with fail
    go_ret
    exact ⟨ret_bool (by unfold costB; simp; omega), rfl⟩
theorem mayWeight_any (n : Int) (w : World) : Calls Tryz.prog 194 #[.int .i64 n] w fun e w' => e = .returned (.bool (weightB n)) ∧ w' = w := by
  by_cases h1 : 1 ≤ n
  · by_cases h2 : n ≤ 2147483647
    · go_enter Tryz.func194, Tryz.ntmps194
      go_wp2_with fail
      go_ret
      exact ⟨ret_bool ((weightB_iff n).2 ⟨h1, h2⟩).symm, rfl⟩
    · go_enter Tryz.func194, Tryz.ntmps194
      go_wp2_with fail
      go_ret
      exact ⟨ret_bool (by unfold weightB; simp; omega), rfl⟩
  · go_enter Tryz.func194, Tryz.ntmps194
    go_wp2_with fail
    go_ret
    exact ⟨ret_bool (by unfold weightB; simp; omega), rfl⟩
theorem better_out (c w o t : Int) (h : costB c = false ∨ weightB w = false ∨ costB o = false ∨ weightB t = false) : betterB c w o t = false := by
  unfold betterB
  rcases h with h | h | h | h <;> simp [h]
theorem better_any (c x o t : Int) (w : World) :
    Calls Tryz.prog 176 #[.int .i64 c, .int .i64 x, .int .i64 o, .int .i64 t] w fun e w' => e = .returned (.bool (betterB c x o t)) ∧ w' = w := by
  cases h1 : costB c with
  | false =>
    have HB : Hid (betterB c x o t = false) := better_out c x o t (.inl h1)
    go_enter Tryz.func176, Tryz.ntmps176
    go_wp2_with (first
      | (go_at_call 193; refine (mayCost_any _ _).mono ?_; rintro e w' ⟨rfl, rfl⟩)
      | (go_at_call 194; refine (mayWeight_any _ _).mono ?_; rintro e w' ⟨rfl, rfl⟩))
    go_ret
    exact ⟨ret_bool HB.out.symm, rfl⟩
  | true => cases h2 : weightB x with
    | false =>
      have HB : Hid (betterB c x o t = false) := better_out c x o t (.inr (.inl h2))
      go_enter Tryz.func176, Tryz.ntmps176
      go_wp2_with (first
        | (go_at_call 193; refine (mayCost_any _ _).mono ?_; rintro e w' ⟨rfl, rfl⟩)
        | (go_at_call 194; refine (mayWeight_any _ _).mono ?_; rintro e w' ⟨rfl, rfl⟩))
      go_ret
      exact ⟨ret_bool HB.out.symm, rfl⟩
    | true => cases h3 : costB o with
      | false =>
        have HB : Hid (betterB c x o t = false) := better_out c x o t (.inr (.inr (.inl h3)))
        go_enter Tryz.func176, Tryz.ntmps176
        go_wp2_with (first
          | (go_at_call 193; refine (mayCost_any _ _).mono ?_; rintro e w' ⟨rfl, rfl⟩)
          | (go_at_call 194; refine (mayWeight_any _ _).mono ?_; rintro e w' ⟨rfl, rfl⟩))
        go_ret
        exact ⟨ret_bool HB.out.symm, rfl⟩
      | true => cases h4 : weightB t with
        | false =>
          have HB : Hid (betterB c x o t = false) := better_out c x o t (.inr (.inr (.inr h4)))
          go_enter Tryz.func176, Tryz.ntmps176
          go_wp2_with (first
            | (go_at_call 193; refine (mayCost_any _ _).mono ?_; rintro e w' ⟨rfl, rfl⟩)
            | (go_at_call 194; refine (mayWeight_any _ _).mono ?_; rintro e w' ⟨rfl, rfl⟩))
          go_ret
          exact ⟨ret_bool HB.out.symm, rfl⟩
        | true =>
          have HB : Hid (betterB c x o t = decide (c * t < o * x)) := by
            have h : betterB c x o t = decide (c * t < o * x) := by unfold betterB; simp [h1, h2, h3, h4]
            exact h
          obtain ⟨c1, c2⟩ := (costB_iff c).1 h1
          obtain ⟨x1, x2⟩ := (weightB_iff x).1 h2
          obtain ⟨o1, o2⟩ := (costB_iff o).1 h3
          obtain ⟨t1, t2⟩ := (weightB_iff t).1 h4
          have p1 := prod_bound c1 c2 (by omega : 0 ≤ t) t2
          have p2 := prod_bound o1 o2 (by omega : 0 ≤ x) x2
          have q1 := prod_u64 p1
          have q2 := prod_u64 p2
          go_enter Tryz.func176, Tryz.ntmps176
          go_wp2_with (first
            | (go_at_call 193; refine (mayCost_any _ _).mono ?_; rintro e w' ⟨rfl, rfl⟩)
            | (go_at_call 194; refine (mayWeight_any _ _).mono ?_; rintro e w' ⟨rfl, rfl⟩))
          go_ret
          exact ⟨ret_bool HB.out.symm, rfl⟩
end Go.Proofs.YtcncbjknfcjnmaaGreat.Dr
