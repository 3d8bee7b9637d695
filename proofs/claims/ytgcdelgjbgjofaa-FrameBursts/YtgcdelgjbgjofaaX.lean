/-
  Plain arithmetic of bursts: bits turned within 32 in a row of data and sum leave no data with its sum.
-/
import Derived.Test.YtgcdelgjbgjofaaT
namespace Go.Proofs.Ytgcdelgjbgjofaa
theorem xor_lin (x y a b : Nat) (hx : x < 2) (hy : y < 2) (ha : a < 2) (hb : b < 2) : ((if x = a then 0 else 1947962583) ^^^ (if y = b then 0 else 1947962583)) = (if x ^^^ y = a ^^^ b then 0 else 1947962583) := by
  have h1 : x = 0 ∨ x = 1 := by omega
  have h2 : y = 0 ∨ y = 1 := by omega
  have h3 : a = 0 ∨ a = 1 := by omega
  have h4 : b = 0 ∨ b = 1 := by omega
  rcases h1 with rfl | rfl <;> rcases h2 with rfl | rfl <;> rcases h3 with rfl | rfl <;> rcases h4 with rfl | rfl <;> decide
theorem xor_four (a b c d : Nat) : (a ^^^ b) ^^^ (c ^^^ d) = (a ^^^ c) ^^^ (b ^^^ d) := by
  rw [Nat.xor_assoc, Nat.xor_assoc, ← Nat.xor_assoc b, Nat.xor_comm b c, Nat.xor_assoc c]
theorem bitStep_lin (r s a b : Nat) (hr : r < 4294967296) (hs : s < 4294967296) (ha : a < 2) (hb : b < 2) : bitStep r a ^^^ bitStep s b = bitStep (r ^^^ s) (a ^^^ b) := by
  unfold bitStep
  rw [xor_four, ← xor_double, xor_lin _ _ a b (by omega) (by omega) ha hb, xor_top]
theorem xor_odd (x : Nat) (h : x % 2 = 0) : (x ^^^ 1947962583) % 2 = 1 := by
  have h1 := Nat.xor_mod_two_pow (a := x) (b := 1947962583) (n := 1)
  rw [Nat.pow_one, h] at h1
  rw [h1]
  rfl
/-- one step back -/
theorem step_back (d e t : Nat) (ht : t + 1 ≤ 32) (h : bitStep d e % 2 ^ (t + 1) = 0) : d % 2 ^ t = 0 ∧ d / 2147483648 = e := by
  have hp : 2 ^ (t + 1) = 2 * 2 ^ t := by rw [Nat.pow_succ, Nat.mul_comm]
  have h2 : bitStep d e % 2 = 0 := by
    have := Nat.mod_mod_of_dvd (bitStep d e) (show 2 ∣ 2 ^ (t + 1) from ⟨2 ^ t, hp⟩)
    rw [h] at this
    omega
  have he : d / 2147483648 = e := by
    by_cases hc : d / 2147483648 = e
    · exact hc
    · unfold bitStep at h2
      rw [if_neg hc, xor_odd _ (by omega)] at h2
      omega
  refine ⟨?_, he⟩
  unfold bitStep at h
  rw [if_pos he, Nat.xor_zero] at h
  have hd : 2 ^ (t + 1) ∣ 4294967296 := by
    rw [p32]; exact Nat.pow_dvd_pow 2 ht
  rw [Nat.mod_mod_of_dvd _ hd, hp, Nat.mul_comm d 2, Nat.mul_mod_mul_left] at h
  omega
theorem back_zero (d : Nat) (h : bitStep d 0 = 0) : d = 0 := by
  have h1 := step_back d 0 31 (by omega) (by rw [h])
  rw [← p31] at h1
  omega
theorem back_many (D e : Nat → Nat) (hstep : ∀ i, D (i + 1) = bitStep (D i) (e i)) : ∀ j i t, t + j ≤ 32 → D (i + j) % 2 ^ (t + j) = 0 → D i % 2 ^ t = 0 := by
  intro j
  induction j with
  | zero => intro i t _ h; exact h
  | succ j ih =>
    intro i t ht h
    have h1 : D (i + j + 1) % 2 ^ (t + j + 1) = 0 := h
    rw [hstep] at h1
    exact ih i t (by omega) (step_back _ _ (t + j) (by omega) h1).1
theorem fwd_zero (D e : Nat → Nat) (hstep : ∀ i, D (i + 1) = bitStep (D i) (e i)) (h0 : D 0 = 0) : ∀ f, (∀ i, i < f → e i = 0) → D f = 0 := by
  intro f
  induction f with
  | zero => intro _; exact h0
  | succ f ih =>
    intro h
    rw [hstep, ih (fun i hi => h i (by omega)), h f (by omega)]
    rfl
theorem bwd_zero (D e : Nat → Nat) (hstep : ∀ i, D (i + 1) = bitStep (D i) (e i)) : ∀ j T, (∀ i, T ≤ i → i < T + j → e i = 0) → D (T + j) = 0 → D T = 0 := by
  intro j
  induction j with
  | zero => intro T _ h; exact h
  | succ j ih =>
    intro T he h
    have h1 : D (T + j + 1) = 0 := h
    rw [hstep, he (T + j) (by omega) (by omega)] at h1
    exact ih T (fun i h1 h2 => he i h1 (by omega)) (back_zero _ h1)
/-- the theorem of bursts, of registers -/
theorem burst (D e : Nat → Nat) (hstep : ∀ i, D (i + 1) = bitStep (D i) (e i)) (h0 : D 0 = 0) (k N : Nat) (he2 : ∀ i, e i < 2)
    (hout : ∀ i, i < N → e i ≠ 0 → k ≤ i ∧ i < k + 32) (hend : D N = 0) : ∀ i, i < N → e i = 0 := by
  intro x hx
  by_cases hex : ∃ f, f < N ∧ e f ≠ 0
  · exfalso
    obtain ⟨f0, hf0, hne0⟩ := hex
    have hmin : ∃ f, f < N ∧ e f ≠ 0 ∧ ∀ i, i < f → e i = 0 := by
      clear hx
      induction f0 using Nat.strongRecOn with
      | ind f0 ih =>
        by_cases h : ∃ g, g < f0 ∧ e g ≠ 0
        · obtain ⟨g, hg, hgn⟩ := h
          exact ih g hg (by omega) hgn
        · refine ⟨f0, hf0, hne0, fun i hi => ?_⟩
          by_cases h2 : e i = 0
          · exact h2
          · exact absurd ⟨i, hi, h2⟩ h
    obtain ⟨f, hf, hne, hbef⟩ := hmin
    have hDf := fwd_zero D e hstep h0 f hbef
    have hef : e f = 1 := by have := he2 f; omega
    have hD1 : D (f + 1) = 1947962583 := by rw [hstep, hDf, hef]; rfl
    have hk := hout f hf hne
    have hT : ∃ T, f + 1 ≤ T ∧ T ≤ N ∧ T ≤ k + 32 ∧ ∀ i, T ≤ i → i < N → e i = 0 := by
      by_cases h : N ≤ k + 32
      · exact ⟨N, by omega, Nat.le_refl _, h, fun i h1 h2 => by omega⟩
      · refine ⟨k + 32, by omega, by omega, Nat.le_refl _, fun i h1 h2 => ?_⟩
        by_cases h3 : e i = 0
        · exact h3
        · have := hout i h2 h3; omega
    obtain ⟨T, hT1, hT2, hT3, hT4⟩ := hT
    have hDT : D T = 0 := bwd_zero D e hstep (N - T) T (fun i h1 h2 => hT4 i h1 (by omega)) (by rw [show T + (N - T) = N from by omega]; exact hend)
    have h9 := back_many D e hstep (T - (f + 1)) (f + 1) 1 (by omega) (by rw [show f + 1 + (T - (f + 1)) = T from by omega, hDT]; exact Nat.zero_mod _)
    rw [hD1] at h9
    omega
  · by_cases h : e x = 0
    · exact h
    · exact absurd ⟨x, hx, h⟩ hex
theorem bitAt_xor_lt (l m : List UInt8) (i : Nat) : bitAt l i ^^^ bitAt m i < 2 := Nat.xor_lt_two_pow (n := 1) (bitAt_lt l i) (bitAt_lt m i)
theorem reg_diff (l m : List UInt8) (i : Nat) : reg l (i + 1) ^^^ reg m (i + 1) = bitStep (reg l i ^^^ reg m i) (bitAt l i ^^^ bitAt m i) := by
  rw [reg_succ, reg_succ, bitStep_lin _ _ _ _ (reg_lt _ _) (reg_lt _ _) (bitAt_lt _ _) (bitAt_lt _ _)]
theorem reg_take (l : List UInt8) (n : Nat) : ∀ i, i ≤ 8 * n → reg l i = reg (l.take n) i := by
  intro i
  induction i with
  | zero => intro _; rfl
  | succ i ih =>
    intro hi
    rw [reg_succ, reg_succ, ih (by omega)]
    congr 1
    unfold bitAt
    congr 3
    rw [List.getD_eq_getElem?_getD, List.getD_eq_getElem?_getD, List.getElem?_take_of_lt (by omega)]
theorem four_bit (R j : Nat) (hj : j < 32) : ((fourL R).getD (j / 8) 0).toNat / 2 ^ (7 - j % 8) % 2 = R / 2 ^ (31 - j) % 2 := by
  have h : j = 0 ∨ j = 1 ∨ j = 2 ∨ j = 3 ∨ j = 4 ∨ j = 5 ∨ j = 6 ∨ j = 7 ∨ j = 8 ∨ j = 9 ∨ j = 10 ∨ j = 11 ∨ j = 12 ∨ j = 13 ∨ j = 14 ∨ j = 15 ∨ j = 16 ∨ j = 17 ∨ j = 18 ∨ j = 19 ∨ j = 20 ∨ j = 21 ∨ j = 22 ∨ j = 23 ∨ j = 24 ∨ j = 25 ∨ j = 26 ∨ j = 27 ∨ j = 28 ∨ j = 29 ∨ j = 30 ∨ j = 31 := by omega
  rcases h with rfl | rfl | rfl | rfl | rfl | rfl | rfl | rfl | rfl | rfl | rfl | rfl | rfl | rfl | rfl | rfl | rfl | rfl | rfl | rfl | rfl | rfl | rfl | rfl | rfl | rfl | rfl | rfl | rfl | rfl | rfl | rfl <;> simp [fourL] <;> omega
theorem top_bit (R j : Nat) (hj : j < 32) : R * 2 ^ j % 4294967296 / 2147483648 = R / 2 ^ (31 - j) % 2 := by
  have h1 : (2147483648 : Nat) = 2 ^ j * 2 ^ (31 - j) := by rw [← Nat.pow_add, show j + (31 - j) = 31 from by omega]
  have h2 : (4294967296 : Nat) = 2 ^ j * (2 ^ (31 - j) * 2) := by rw [← Nat.mul_assoc, ← h1]
  rw [h2, Nat.mul_comm R, Nat.mul_mod_mul_left, h1, Nat.mul_div_mul_left _ _ (Nat.pow_pos (by decide)), Nat.mod_mul_right_div_self]
/-- data and sum leave nothing in the register -/
theorem reg_sum (l : List UInt8) (n : Nat) (hl : l.length = n + 4) (h : (l.drop n).take 4 = fourL (sumL (l.take n))) : reg l (8 * (n + 4)) = 0 := by
  have h0 : reg l (8 * n) = sumL (l.take n) := by
    rw [reg_take l n _ (Nat.le_refl _), sumL, List.length_take, Nat.min_eq_left (by omega)]
  have hR := sumL_lt (l.take n)
  generalize sumL (l.take n) = R at *
  have hb : ∀ j, j < 32 → bitAt l (8 * n + j) = R / 2 ^ (31 - j) % 2 := by
    intro j hj
    rw [← four_bit R j hj]
    unfold bitAt
    rw [show (8 * n + j) / 8 = n + j / 8 from by omega, show (8 * n + j) % 8 = j % 8 from by omega]
    congr 3
    rw [← h, List.getD_eq_getElem?_getD, List.getD_eq_getElem?_getD, List.getElem?_take_of_lt (by omega), List.getElem?_drop]
  have hall : ∀ j, j ≤ 32 → reg l (8 * n + j) = R * 2 ^ j % 4294967296 := by
    intro j
    induction j with
    | zero => intro _; rw [Nat.add_zero, h0, Nat.pow_zero, Nat.mul_one, Nat.mod_eq_of_lt hR]
    | succ j ih =>
      intro hj
      rw [← Nat.add_assoc, reg_succ, ih (by omega), hb j (by omega), bitStep, if_pos (top_bit R j (by omega)), Nat.xor_zero, Nat.mod_mul_mod, Nat.pow_succ, Nat.mul_assoc]
  have := hall 32 (Nat.le_refl _)
  rw [show 8 * (n + 4) = 8 * n + 32 from by omega, this, show (2 : Nat) ^ 32 = 4294967296 from by decide, Nat.mul_mod_left]
/-- bits turned within 32 in a row, and sums that fit both: none is turned -/
theorem burst_bytes (l m : List UInt8) (n k : Nat) (hl : l.length = n + 4) (hm : m.length = n + 4) (h1 : (l.drop n).take 4 = fourL (sumL (l.take n))) (h2 : (m.drop n).take 4 = fourL (sumL (m.take n)))
    (hout : ∀ i, i < 8 * (n + 4) → bitAt l i ^^^ bitAt m i ≠ 0 → k ≤ i ∧ i < k + 32) : ∀ i, i < 8 * (n + 4) → bitAt l i ^^^ bitAt m i = 0 :=
  burst (fun i => reg l i ^^^ reg m i) (fun i => bitAt l i ^^^ bitAt m i) (reg_diff l m) (Nat.xor_self _) k _ (bitAt_xor_lt l m) hout
    (by show reg l _ ^^^ reg m _ = 0; rw [reg_sum l n hl h1, reg_sum m n hm h2]; rfl)
end Go.Proofs.Ytgcdelgjbgjofaa
