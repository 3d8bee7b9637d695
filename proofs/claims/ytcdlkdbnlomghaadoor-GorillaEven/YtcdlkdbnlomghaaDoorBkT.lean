/-
  Even samples, plainly: they may be, and have two bytes each from the third one on.
-/
import Derived.Test.YtcdlkdbnlomghaaDoorBkL
namespace Go.Proofs.YtcdlkdbnlomghaaDoor.Bk
open Go.Proofs.YtcdlkdbnlomghaaDoor.Fr
/-- samples at one distance that grow by one number -/
def evenL (t s v m : Int) (n : Nat) : List Sm := (List.range n).map fun i : Nat => (t + (i : Int) * (1 + s), v + (i : Int) * m)
theorem evenL_length (t s v m : Int) (n : Nat) : (evenL t s v m n).length = n := by simp [evenL]
theorem evenL_get (t s v m : Int) (n i : Nat) (h : i < n) : (evenL t s v m n).getD i sm0 = (t + (i : Int) * (1 + s), v + (i : Int) * m) := by
  simp [evenL, h]
theorem evenL_succ (t s v m : Int) (n : Nat) : evenL t s v m (n + 1) = evenL t s v m n ++ [(t + (n : Int) * (1 + s), v + (n : Int) * m)] := by
  unfold evenL; rw [List.range_succ, List.map_append]; rfl
theorem evenL_take (t s v m : Int) (n : Nat) (h : 2 ≤ n) : (evenL t s v m n).take 2 = evenL t s v m 2 := by
  unfold evenL; rw [← List.map_take, List.take_range, Nat.min_eq_left h]
theorem mul_lim {i : Nat} {c K : Int} (hi : i ≤ 62) (h1 : -K ≤ c) (h2 : c ≤ K) (hK : 0 ≤ K) : -(62 * K) ≤ (i : Int) * c ∧ (i : Int) * c ≤ 62 * K := by
  have a1 := Int.mul_le_mul_of_nonneg_left h2 (show (0 : Int) ≤ (i : Int) by omega)
  have a2 := Int.mul_le_mul_of_nonneg_left h1 (show (0 : Int) ≤ (i : Int) by omega)
  have a3 := Int.mul_le_mul_of_nonneg_right (show (i : Int) ≤ 62 by omega) hK
  rw [Int.mul_neg] at a2
  omega
def EvOk (t s v m : Int) : Prop := (0 ≤ t ∧ t ≤ 4294967295) ∧ (0 ≤ s ∧ s ≤ 4294967295) ∧ (-2147483648 ≤ v ∧ v ≤ 2147483647) ∧ -2147483648 ≤ m ∧ m ≤ 2147483647
theorem even_lim {t s v m : Int} (h : EvOk t s v m) {i : Nat} (hi : i ≤ 62) : (0 ≤ (i : Int) * (1 + s) ∧ (i : Int) * (1 + s) ≤ 266287972352) ∧ -133143986176 ≤ (i : Int) * m ∧ (i : Int) * m ≤ 133143986176 := by
  obtain ⟨h1, h2, h3, h4⟩ := h
  have a := mul_lim (c := 1 + s) (K := 4294967296) hi (by omega) (by omega) (by omega)
  have b := mul_lim (c := m) (K := 2147483648) hi (by omega) (by omega) (by omega)
  have c := Int.mul_nonneg (show (0 : Int) ≤ (i : Int) by omega) (show 0 ≤ 1 + s by omega)
  omega
theorem even_may {t s v m : Int} (h : EvOk t s v m) {n : Nat} (hn : n ≤ 63) : MayS (evenL t s v m n) := by
  refine ⟨by rw [evenL_length]; omega, fun i hi => ?_⟩
  rw [evenL_length] at hi
  have l := even_lim h (i := i) (by omega)
  obtain ⟨h1, h2, h3, h4⟩ := h
  refine ⟨?_, fun h0 => ?_⟩
  · rw [evenL_get _ _ _ _ _ _ hi]
    unfold InS
    simp only
    omega
  · rw [evenL_get _ _ _ _ _ _ hi, evenL_get _ _ _ _ _ _ (by omega)]
    obtain ⟨q, rfl⟩ : ∃ q, i = q + 1 := ⟨i - 1, by omega⟩
    simp only [Nat.add_sub_cancel]
    have : ((q + 1 : Nat) : Int) * (1 + s) = (q : Int) * (1 + s) + (1 + s) := by rw [show ((q + 1 : Nat) : Int) = (q : Int) + 1 from rfl, Int.add_mul, Int.one_mul]
    omega
theorem tell_even {a c : Int} {f : Nat → Int} {n j : Nat} (h : ∀ i, i < n → f i = a + (i : Int) * c) (hj : j < n) (h2 : 2 ≤ j) : tell f j = 0 := by
  obtain ⟨q, rfl⟩ : ∃ q, j = q + 2 := ⟨j - 2, by omega⟩
  unfold tell
  rw [if_neg (by omega), if_neg (by omega), h _ hj, h _ (by omega), h _ (by omega), show q + 2 - 1 = q + 1 from by omega, show q + 2 - 2 = q from by omega]
  have e1 : ((q + 2 : Nat) : Int) * c = (q : Int) * c + 2 * c := by rw [show ((q + 2 : Nat) : Int) = (q : Int) + 2 from rfl, Int.add_mul]
  have e2 : ((q + 1 : Nat) : Int) * c = (q : Int) * c + c := by rw [show ((q + 1 : Nat) : Int) = (q : Int) + 1 from rfl, Int.add_mul, Int.one_mul]
  omega
theorem countL_one {n : Nat} (h : n < 128) : (countL n).length = 1 := by rw [countL_small n h]; rfl
theorem even_flat {f g : Nat → Int} {n : Nat} (hf : ∀ j, 2 ≤ j → j < n → tell f j = 0) (hg : ∀ j, 2 ≤ j → j < n → tell g j = 0) : ∀ k, 2 ≤ k → k ≤ n → (numsL (flat2 (tell f) (tell g) k)).length = (numsL (flat2 (tell f) (tell g) 2)).length + 2 * (k - 2) := by
  intro k
  induction k with
  | zero => intro h; omega
  | succ k ih =>
    intro h1 h2
    by_cases hk : k + 1 = 2
    · rw [hk]; simp
    · have := ih (by omega) (by omega)
      rw [flat2_succ, numsL_append, List.length_append, this, hf k (by omega) (by omega), hg k (by omega) (by omega)]
      have e : (numsL [0, 0]).length = 2 := by rw [numsL_cons, numsL_cons, numsL_nil, List.length_append, List.length_append, countL_one (show numberN 0 < 128 by decide)]; rfl
      rw [e]; omega
theorem even_bytes {t s v m : Int} (h : EvOk t s v m) {n : Nat} (h2 : 2 ≤ n) (hn : n ≤ 63) : bytesOf (evenL t s v m n) = bytesOf (evenL t s v m 2) + 2 * (n - 2) := by
  rw [bytesOf_may (even_may h hn), bytesOf_may (even_may h (by omega))]
  have hl : ∀ k, 2 ≤ k → k ≤ 63 → (bytesL (numsS (evenL t s v m k)) []).length = 3 + (numsL (flat2 (tell (tS (evenL t s v m k))) (tell (vS (evenL t s v m k))) k)).length := by
    intro k hk1 hk2
    unfold bytesL
    rw [show (numsS (evenL t s v m k)).length = 2 * k + 1 from by unfold numsS; rw [numsK_length, evenL_length]]
    unfold numsS numsK
    rw [evenL_length, numsL_cons]
    simp only [List.length_append, textsL_nil, List.length_nil]
    rw [countL_one (show 2 * k + 1 < 128 by omega), countL_one (show numberN (k : Int) < 128 by unfold numberN; split <;> omega), countL_one (show 0 < 128 by omega)]
    omega
  rw [hl n h2 hn, hl 2 (by omega) (by omega)]
  have ft : ∀ k, ∀ i, i < k → tS (evenL t s v m k) i = t + (i : Int) * (1 + s) := fun k i hi => by unfold tS; rw [evenL_get _ _ _ _ _ _ hi]
  have fv : ∀ k, ∀ i, i < k → vS (evenL t s v m k) i = v + (i : Int) * m := fun k i hi => by unfold vS; rw [evenL_get _ _ _ _ _ _ hi]
  rw [even_flat (n := n) (fun j q1 q2 => tell_even (ft n) q2 q1) (fun j q1 q2 => tell_even (fv n) q2 q1) n h2 (Nat.le_refl _)]
  have e : flat2 (tell (tS (evenL t s v m n))) (tell (vS (evenL t s v m n))) 2 = flat2 (tell (tS (evenL t s v m 2))) (tell (vS (evenL t s v m 2))) 2 :=
    flat2_same fun j hj => ⟨tell_same fun i hi => by rw [ft n i (by omega), ft 2 i (by omega)], tell_same fun i hi => by rw [fv n i (by omega), fv 2 i (by omega)]⟩
  rw [e]
  omega
end Go.Proofs.YtcdlkdbnlomghaaDoor.Bk
