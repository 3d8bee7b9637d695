/-
  What data are samples', plainly; the contract of Unpack.
-/
import Derived.Test.YtcdlkdbnlomghaaDoorBkG
namespace Go.Proofs.YtcdlkdbnlomghaaDoor.Bk
open Go.ChangeShapes Go.WideShapes Go.ChangeAt Go.RowKit
open Go.Proofs.YtcdlkdbnlomghaaDoor.Fr
def Lim (x : Int) : Prop := -1099511627776 ≤ x ∧ x ≤ 1099511627776
theorem at0_lim {f : Nat → Int} {n : Nat} (h : ∀ i, i < n → Lim (f i)) (i : Nat) (hi : i < n) : Lim (at0 f i) := by
  unfold at0
  split
  · unfold Lim; omega
  · exact h (i - 1) (by omega)
theorem step_at0 (f : Nat → Int) (i : Nat) : step f i = f i - at0 f i := by
  unfold step at0
  split
  · rename_i h; subst h; simp
  · rfl
theorem own_64 {r : Nat → Int} {n : Nat} (h : ∀ i, i < n → Is64 (r i)) (i : Nat) (hi : i < n) : Is64 (ownW r i) := by
  rw [own_at]
  split
  · exact h i hi
  · unfold wrap64 Is64; omega
/-- numbers whose sums are small are what is told of their sums -/
theorem sums_tell {r : Nat → Int} {n : Nat} (h : ∀ i, i < n → Is64 (r i)) (hb : ∀ i, i < n → Lim (lastW r i)) : ∀ i, i < n → r i = tell (lastW r) i := by
  have own : ∀ i, i < n → ownW r i = step (lastW r) i := by
    intro i hi
    have e := last_at r i
    have h1 := hb i hi
    have h2 := at0_lim hb i hi
    have h3 := own_64 h i hi
    rw [step_at0]
    generalize lastW r i = a at *
    generalize at0 (lastW r) i = b at *
    generalize ownW r i = c at *
    unfold wrap64 at e
    unfold Lim at h1 h2
    unfold Is64 at h3
    omega
  intro i hi
  rw [tell_step]
  have e := own_at r i
  by_cases h1 : i ≤ 1
  · rw [if_pos h1] at e ⊢
    rw [← own i hi, e]
  · rw [if_neg h1] at e ⊢
    have e2 : at0 (ownW r) i = ownW r (i - 1) := by unfold at0; rw [if_neg (by omega)]
    rw [e2] at e
    have o1 := own i hi
    have o2 := own (i - 1) (by omega)
    have b1 := hb i hi
    have b2 := hb (i - 1) (by omega)
    have b3 := at0_lim hb (i - 1) (by omega)
    rw [step_at0] at o1 o2 ⊢
    rw [step_at0]
    have e3 : at0 (lastW r) i = lastW r (i - 1) := by unfold at0; rw [if_neg (by omega)]
    rw [e3] at o1 ⊢
    have h3 := h i hi
    generalize lastW r i = a at *
    generalize lastW r (i - 1) = b at *
    generalize at0 (lastW r) (i - 1) = c at *
    generalize ownW r i = d at *
    generalize ownW r (i - 1) = g at *
    generalize r i = x at *
    unfold wrap64 at e
    unfold Lim at b1 b2 b3
    unfold Is64 at h3
    omega
/-- what is told of small numbers sums up to them -/
theorem tell_sums {r f : Nat → Int} {n : Nat} (hb : ∀ i, Lim (f i)) (h : ∀ i, i < n → r i = tell f i) : ∀ i, i < n → ownW r i = step f i ∧ lastW r i = f i := by
  have sl : ∀ i, -2199023255552 ≤ step f i ∧ step f i ≤ 2199023255552 := step_in hb
  intro i
  induction i with
  | zero =>
    intro hi
    have e := h 0 hi
    have b := hb 0
    unfold Lim at b
    have o : ownW r 0 = step f 0 := by show r 0 = _; rw [e]; rfl
    refine ⟨o, ?_⟩
    rw [last_at, o]
    show wrap64 (0 + f 0) = f 0
    rw [w64_id (by omega) (by omega)]; omega
  | succ i ih =>
    intro hi
    obtain ⟨o1, l1⟩ := ih (by omega)
    have e := h (i + 1) hi
    have b1 := hb i
    have b2 := hb (i + 1)
    have s1 := sl i
    have s2 := sl (i + 1)
    unfold Lim at b1 b2
    have o : ownW r (i + 1) = step f (i + 1) := by
      rw [own_at, e, tell_step]
      by_cases hi1 : i + 1 ≤ 1
      · rw [if_pos hi1, if_pos hi1]
      · rw [if_neg hi1, if_neg hi1]
        have : at0 (ownW r) (i + 1) = step f i := by unfold at0; rw [if_neg (by omega)]; exact o1
        rw [this, Nat.add_sub_cancel, w64_id (by omega) (by omega)]; omega
    refine ⟨o, ?_⟩
    rw [last_at, o]
    have : at0 (lastW r) (i + 1) = f i := by unfold at0; rw [if_neg (by omega)]; exact l1
    rw [this, show step f (i + 1) = f (i + 1) - f i from by unfold step; rw [if_neg (by omega)]; rfl, w64_id (by omega) (by omega)]; omega
/-- these numbers are these samples' -/
def Are (N : List Int) (ls : List Sm) : Prop := MayS ls ∧ N = numsS ls
theorem are_one {N : List Int} {ls ms : List Sm} (h : Are N ls) (h' : Are N ms) : ls = ms := numsS_inj (h.2.symm.trans h'.2)
theorem are_counted {N : List Int} {ls : List Sm} (h : Are N ls) : Counted N := by
  obtain ⟨h1, h2, _⟩ := (numsS_iff N ls).1 h.2
  have := h.1.1
  unfold Counted
  rw [h2]
  refine ⟨by omega, by omega, by omega, by omega⟩
theorem drop_rT (N : List Int) (j : Nat) : rT (N.drop 1) j = N.getD (2 * j + 1) 0 := by
  unfold rT; rw [List.getD_eq_getElem?_getD, List.getElem?_drop, ← List.getD_eq_getElem?_getD, Nat.add_comm]
theorem drop_rV (N : List Int) (j : Nat) : rV (N.drop 1) j = N.getD (2 * j + 2) 0 := by
  unfold rV; rw [List.getD_eq_getElem?_getD, List.getElem?_drop, ← List.getD_eq_getElem?_getD, show 1 + (2 * j + 1) = 2 * j + 2 from by omega]
theorem getD_64 {N : List Int} (h : ∀ x ∈ N, Is64 x) (i : Nat) : Is64 (N.getD i 0) := by
  by_cases hi : i < N.length
  · exact h _ (getD_mem N 0 i hi)
  · rw [List.getD_eq_getElem?_getD, List.getElem?_eq_none (by omega)]; simp [Is64]
theorem sums_are {N : List Int} {n : Nat} (h64 : ∀ x ∈ N, Is64 x) (hN : N.length = 2 * n + 1) (h0 : N.getD 0 0 = (n : Int)) (hM : MayS (sumsL (N.drop 1) n)) : Are N (sumsL (N.drop 1) n) := by
  refine ⟨hM, (numsS_iff N _).2 ⟨by rw [sumsL_length]; exact hN, by rw [sumsL_length]; exact h0, fun j hj => ?_⟩⟩
  rw [sumsL_length] at hj
  have hT : ∀ i, i < n → lastW (rT (N.drop 1)) i = tS (sumsL (N.drop 1) n) i := fun i hi => by unfold tS; rw [sumsL_get _ _ _ hi]
  have hV : ∀ i, i < n → lastW (rV (N.drop 1)) i = vS (sumsL (N.drop 1) n) i := fun i hi => by unfold vS; rw [sumsL_get _ _ _ hi]
  have k1 := sums_tell (r := rT (N.drop 1)) (n := n) (fun i hi => by rw [drop_rT]; exact getD_64 h64 _) (fun i hi => by rw [hT i hi]; have := may_in hM i; exact ⟨this.1, this.2.1⟩) j hj
  have k2 := sums_tell (r := rV (N.drop 1)) (n := n) (fun i hi => by rw [drop_rV]; exact getD_64 h64 _) (fun i hi => by rw [hV i hi]; have := may_in hM i; exact this.2.2) j hj
  rw [drop_rT] at k1
  rw [drop_rV] at k2
  exact ⟨k1.trans (tell_same fun i hi => hT i (by omega)), k2.trans (tell_same fun i hi => hV i (by omega))⟩
theorem are_sums {N : List Int} {n : Nat} {ls : List Sm} (h0 : N.getD 0 0 = (n : Int)) (h : Are N ls) : sumsL (N.drop 1) n = ls := by
  obtain ⟨h1, h2, h3⟩ := (numsS_iff N ls).1 h.2
  have hn : ls.length = n := by omega
  refine sm_ext (by rw [sumsL_length, hn]) fun j hj => ?_
  rw [sumsL_length] at hj
  have k1 := tell_sums (r := rT (N.drop 1)) (f := tS ls) (n := n) (fun i => by have := may_in h.1 i; exact ⟨this.1, this.2.1⟩) (fun i hi => by rw [drop_rT]; exact (h3 i (by omega)).1) j hj
  have k2 := tell_sums (r := rV (N.drop 1)) (f := vS ls) (n := n) (fun i => by have := may_in h.1 i; exact this.2.2) (fun i hi => by rw [drop_rV]; exact (h3 i (by omega)).2) j hj
  unfold tS vS
  rw [sumsL_get _ _ _ hj]
  exact ⟨k1.2, k2.2⟩
end Go.Proofs.YtcdlkdbnlomghaaDoor.Bk
