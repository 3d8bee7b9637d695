/-
  The theorem of spreading.
-/
import Derived.Test.YtpolehfkjpbofaaTaH
namespace Go.Proofs.Ytpolehfkjpbofaa.Ta
open Go.ChangeShapes Go.WideShapes Go.ChangeAt Go.RowKit
open Go.Conc (G solo rcase scase)
/-- behind i numbers that were spread -/
def SpInv (P : List (List Int)) (k R i : Nat) : Prop := P.length = k ∧ ∀ j, j < k → (P.getD j []).length = (min i (k * R)) / k + if j < (min i (k * R)) % k then 1 else 0
theorem spInv_zero (k R : Nat) : SpInv (List.replicate k []) k R 0 := ⟨by simp, fun j hj => by simp [hj]⟩
theorem spInv_cnt {P : List (List Int)} {k R i j : Nat} (h : SpInv P k R i) (hj : j < k) : (cntsP P).getD j 0 = (((min i (k * R)) / k + if j < (min i (k * R)) % k then 1 else 0 : Nat) : Int) := by
  rw [cntsP_get P (by rw [h.1]; exact hj), h.2 j hj]
theorem spInv_least {P : List (List Int)} {k R i : Nat} (h : SpInv P k R i) (h0 : 0 < k) (hi : i < k * R) : LeastTo (cntsP P) k (i % k) := by
  have hm : min i (k * R) = i := by omega
  have hk := Nat.mod_lt i h0
  refine ⟨hk, fun j hj => ?_, fun j hj => ?_⟩
  · rw [spInv_cnt h hk, spInv_cnt h hj, hm]
    simp
    split <;> omega
  · rw [spInv_cnt h hk, spInv_cnt h (by omega), hm]
    simp [hj]
    omega
theorem leastS_eq {P : List (List Int)} {k m : Nat} (hl : P.length = k) (h : LeastTo (cntsP P) k m) : leastS (cntsP P) P.length = m := by
  have h0 := h.1
  have := leastS_to (cntsP P) (P.length - 1)
  rw [show P.length - 1 + 1 = P.length by omega] at this
  rw [hl] at this ⊢
  exact this.fn h
theorem spread_yes {P : List (List Int)} {k R i : Nat} (h : SpInv P k R i) (h0 : 0 < k) (hi : i < k * R) (n : Int) : ∃ P', spreadS P R n = (P', ((i % k : Nat) : Int), 0) ∧ SpInv P' k R (i + 1) := by
  have hk := Nat.mod_lt i h0
  have hm : min i (k * R) = i := by omega
  have hm1 : min (i + 1) (k * R) = i + 1 := by omega
  have hc : (P.getD (i % k) []).length = i / k := by rw [h.2 _ hk, hm]; simp
  have hR : i / k < R := Nat.div_lt_of_lt_mul hi
  refine ⟨P.set (i % k) (P.getD (i % k) [] ++ [n]), ?_, by simp [h.1], fun j hj => ?_⟩
  · unfold spreadS
    simp only [leastS_eq h.1 (spInv_least h h0 hi)]
    rw [if_pos (by omega)]
  · have hd := Nat.div_add_mod i k
    have hd1 := Nat.div_add_mod (i + 1) k
    have hk1 := Nat.mod_lt (i + 1) h0
    have key : (i + 1) / k = i / k ∧ (i + 1) % k = i % k + 1 ∨ (i + 1) / k = i / k + 1 ∧ (i + 1) % k = 0 ∧ i % k + 1 = k := by
      by_cases e : i % k + 1 < k
      · left
        have e1 : i + 1 = k * (i / k) + (i % k + 1) := by omega
        constructor
        · rw [e1, Nat.mul_add_div h0, Nat.div_eq_of_lt e]; simp
        · conv => lhs; rw [e1, Nat.mul_add_mod, Nat.mod_eq_of_lt e]
      · right
        have e1 : i + 1 = k * (i / k + 1) := by rw [Nat.mul_add]; omega
        refine ⟨?_, ?_, by omega⟩
        · rw [e1, Nat.mul_div_cancel_left _ h0]
        · rw [e1, Nat.mul_mod_right]
    rw [hm1]
    by_cases e : j = i % k
    · subst e
      have e2 : (P.set (i % k) (P.getD (i % k) [] ++ [n])).getD (i % k) [] = P.getD (i % k) [] ++ [n] := by simp [h.1, hk]
      rw [e2, List.length_append, hc]
      rcases key with ⟨k1, k2⟩ | ⟨k1, k2, k3⟩
      · rw [k1, k2, if_pos (by omega)]; simp
      · rw [k1, k2, if_neg (by omega)]; simp
    · have e2 : (P.set (i % k) (P.getD (i % k) [] ++ [n])).getD j [] = P.getD j [] := by
        simp only [List.getD_eq_getElem?_getD]
        rw [List.getElem?_set_ne (fun e3 => e e3.symm)]
      rw [e2, h.2 j hj, hm]
      rcases key with ⟨k1, k2⟩ | ⟨k1, k2, k3⟩
      · rw [k1, k2]; split <;> split <;> omega
      · rw [k1, k2, if_pos (by omega), if_neg (by omega)]
theorem spread_not {P : List (List Int)} {k R i : Nat} (h : SpInv P k R i) (h0 : 0 < k) (hi : ¬ i < k * R) (n : Int) : spreadS P R n = (P, -1, 6) ∧ SpInv P k R (i + 1) := by
  have hm : min i (k * R) = k * R := by omega
  have hm1 : min (i + 1) (k * R) = k * R := by omega
  refine ⟨?_, h.1, fun j hj => by rw [h.2 j hj, hm, hm1]⟩
  have hl := leastS_to (cntsP P) (P.length - 1)
  rw [show P.length - 1 + 1 = P.length by have := h.1; omega] at hl
  have hlt : leastS (cntsP P) P.length < k := by have := hl.1; rw [h.1] at this; rw [h.1]; exact this
  unfold spreadS
  simp only
  have hc := h.2 _ hlt
  rw [hm, Nat.mul_div_cancel_left _ h0, Nat.mul_mod_right, if_neg (by omega)] at hc
  rw [if_neg (by omega)]
set_option maxHeartbeats 4000000 in
set_option maxRecDepth 60000 in
theorem tapSpreads_any (u v n : Nat) (hu : u ≤ 255) (hv : v ≤ 255) (hn : n ≤ 255) (w : World) : Calls Try.prog 5 #[.int .u8 u, .int .u8 v, .int .u8 n] w fun e w' => e = .returned (.bool true) ∧ Below w.heap.size w w' := by
  have u1 : (u : Int) ≤ 255 := by omega
  have v1 : (v : Int) ≤ 255 := by omega
  have n1 : (n : Int) ≤ 255 := by omega
  clear hu hv hn
  go_enter Try.func5, Try.ntmps5
  go_upto_region 2 with fail
  have e1 : 1 + (u : Int) % 8 = ((1 + u % 8 : Nat) : Int) := by omega
  have e2 : 1 + (v : Int) % 64 = ((1 + v % 64 : Nat) : Int) := by omega
  have k1 : 1 ≤ 1 + u % 8 ∧ 1 + u % 8 ≤ 8 := by omega
  have r1 : 1 ≤ 1 + v % 64 ∧ 1 + v % 64 ≤ 64 := by omega
  rw [e1, e2]
  generalize (u : Int) % 8 = x1
  generalize (v : Int) % 64 = x2
  clear e1 e2
  generalize 1 + u % 8 = k at *
  generalize 1 + v % 64 = R at *
  have HN := Hid.mk9 (new_any k R w k1 r1)
  have HK := Hid.mk9 k1
  have HQ := Hid.mk9 r1
  have hm1 : k * R ≤ 8 * 64 := Nat.mul_le_mul k1.2 r1.2
  have hmul : (k : Int) * (R : Int) = ((k * R : Nat) : Int) := by simp
  have hmi : ((k * R : Nat) : Int) ≤ 512 := by omega
  obtain ⟨kr, HM⟩ : ∃ kr : Nat, Hid (k * R = kr) := ⟨_, ⟨rfl⟩⟩
  rw [HM.out] at hmul hmi
  have hk1 : (1 : Int) ≤ (k : Int) := by omega
  have hk2 : (k : Int) ≤ 8 := by omega
  clear k1 r1 hm1
  go_wp2_with (go_at_call 7; refine HN.out.mono ?_; rintro e w1 ⟨p, rfl, hT, hB⟩; have HT := Hid.mk9 hT; have HB := Hid.mk9 hB; clear hT hB)
  clear HN
  generalize hq : w.heap.size = q at *
  go_loopw [11] (fun i wr => ∃ (m : Nat) (P : List (List Int)), m ≤ n ∧ i = .int .i64 m ∧ Hid (TapAt q wr p P R 0) ∧ Hid (SpInv P k R m) ∧ Hid (Below q w wr)) (fun i _ => n - (intOf i).toNat)
  case atStart => exact ⟨0, _, Nat.zero_le _, rfl, HT, ⟨spInv_zero k R⟩, HB⟩
  case round =>
    clear HT HB
    obtain ⟨i, P, hi, rfl, HT, HI, HB⟩ := hrel
    by_cases hlt : i < n
    · have hi1 : (i : Int) < (n : Int) := by omega
      have hmod : (i : Int) % (k : Int) = ((i % k : Nat) : Int) := by simp
      have HS := Hid.mk9 (spread_any HT.out (by rw [HI.out.1]; exact HK.out.2) (by rw [HI.out.1]; exact HK.out.1) (i : Int))
      by_cases hd : i < kr
      · obtain ⟨P', e1, hI⟩ := spread_yes HI.out HK.out.1 (by rw [HM.out]; exact hd) (i : Int)
        rw [e1] at HS
        have HI' := Hid.mk9 hI
        have hd1 : (i : Int) < (kr : Int) := by omega
        generalize i % k = ik at *
        clear e1 hI HI HT hd
        go_wp2_with (go_at_call 15; refine HS.out.mono ?_; rintro e w2 ⟨rfl, hT, hB, _, _⟩; have HT := Hid.mk9 hT; replace HB := Hid.mk9 (HB.out.trans hB); clear hT hB)
        exact ⟨⟨i + 1, P', by omega, by go_num, HT, HI', HB⟩, by simp [intOf]; omega⟩
      · obtain ⟨e1, hI⟩ := spread_not HI.out HK.out.1 (by rw [HM.out]; exact hd) (i : Int)
        rw [e1] at HS
        have HI' := Hid.mk9 hI
        have hd1 : (kr : Int) ≤ (i : Int) := by omega
        generalize i % k = ik at *
        clear e1 hI HI HT hd
        go_wp2_with (go_at_call 15; refine HS.out.mono ?_; rintro e w2 ⟨rfl, hT, hB, _, _⟩; have HT := Hid.mk9 hT; replace HB := Hid.mk9 (HB.out.trans hB); clear hT hB)
        exact ⟨⟨i + 1, P, by omega, by go_num, HT, HI', HB⟩, by simp [intOf]; omega⟩
    · obtain rfl : i = n := by omega
      have HS : Hid (q ≤ wr.heap.size) := ⟨HT.out.base⟩
      clear HT HI
      go_wp2_with (go_at_call 8; refine (awake_any _).mono ?_; rintro e w2 ⟨rfl, hb⟩; replace HB := Hid.mk9 (HB.out.trans (hb.mono HS.out)); clear hb)
      go_ret
      exact ⟨rfl, by rw [hq]; exact HB.out⟩
end Go.Proofs.Ytpolehfkjpbofaa.Ta
