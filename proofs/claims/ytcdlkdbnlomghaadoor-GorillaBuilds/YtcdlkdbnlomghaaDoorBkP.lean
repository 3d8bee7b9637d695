/-
  Samples' numbers, plainly: what is told of them, and that it tells them; no Go in sight.
-/
import Derived.Test.YtcdlkdbnlomghaaDoorBkB
namespace Go.Proofs.YtcdlkdbnlomghaaDoor.Bk
/-- by how much what a number is more than the one ahead is more than that was -/
def tell (f : Nat → Int) (i : Nat) : Int := if i = 0 then f 0 else if i = 1 then f 1 - f 0 else f i - 2 * f (i - 1) + f (i - 2)
/-- by how much a number is more than the one ahead -/
def step (f : Nat → Int) (i : Nat) : Int := if i = 0 then f 0 else f i - f (i - 1)
theorem tell_step (f : Nat → Int) (i : Nat) : tell f i = if i ≤ 1 then step f i else step f i - step f (i - 1) := by
  unfold tell step
  by_cases h0 : i = 0
  · subst h0; simp
  · by_cases h1 : i = 1
    · subst h1; simp
    · rw [if_neg h0, if_neg h1, if_neg (show ¬ i ≤ 1 by omega), if_neg h0, if_neg (show ¬ i - 1 = 0 by omega), show i - 1 - 1 = i - 2 from by omega]; omega
theorem tell_inj {f g : Nat → Int} {k : Nat} (h : ∀ j, j < k → tell f j = tell g j) : ∀ j, j < k → f j = g j := by
  intro j
  induction j using Nat.strongRecOn with
  | ind j ih =>
    intro hj
    have e := h j hj
    unfold tell at e
    by_cases h0 : j = 0
    · subst h0; simpa using e
    · by_cases h1 : j = 1
      · subst h1
        have := ih 0 (by omega) (by omega)
        simp at e; omega
      · rw [if_neg h0, if_neg h1, if_neg h0, if_neg h1] at e
        have e1 := ih (j - 1) (by omega) (by omega)
        have e2 := ih (j - 2) (by omega) (by omega)
        omega
theorem tell_same {f g : Nat → Int} {k : Nat} (h : ∀ j, j ≤ k → f j = g j) : tell f k = tell g k := by
  unfold tell
  split
  · exact h 0 (by omega)
  · split
    · rw [h 1 (by omega), h 0 (by omega)]
    · rw [h k (by omega), h (k - 1) (by omega), h (k - 2) (by omega)]
def tS (ls : List Sm) (i : Nat) : Int := (ls.getD i sm0).1
def vS (ls : List Sm) (i : Nat) : Int := (ls.getD i sm0).2
def flat2 (f g : Nat → Int) (n : Nat) : List Int := (List.range n).flatMap fun i => [f i, g i]
theorem flat2_succ (f g : Nat → Int) (n : Nat) : flat2 f g (n + 1) = flat2 f g n ++ [f n, g n] := by
  unfold flat2; rw [List.range_succ, List.flatMap_append]; rfl
theorem flat2_length (f g : Nat → Int) (n : Nat) : (flat2 f g n).length = 2 * n := by
  induction n with
  | zero => rfl
  | succ n ih => rw [flat2_succ, List.length_append, ih]; simp; omega
theorem flat2_get (f g : Nat → Int) (n j : Nat) (h : j < n) : (flat2 f g n).getD (2 * j) 0 = f j ∧ (flat2 f g n).getD (2 * j + 1) 0 = g j := by
  induction n with
  | zero => omega
  | succ n ih =>
    rw [flat2_succ]
    have hl := flat2_length f g n
    by_cases hj : j < n
    · have := ih hj
      rw [List.getD_eq_getElem?_getD, List.getD_eq_getElem?_getD, List.getElem?_append_left (by omega), List.getElem?_append_left (by omega), ← List.getD_eq_getElem?_getD, ← List.getD_eq_getElem?_getD]
      exact this
    · obtain rfl : j = n := by omega
      rw [List.getD_eq_getElem?_getD, List.getD_eq_getElem?_getD, List.getElem?_append_right (by omega), List.getElem?_append_right (by omega), hl]
      simp
theorem flat2_ext {f g : Nat → Int} {n : Nat} {R : List Int} (hl : R.length = 2 * n) (h : ∀ j, j < n → R.getD (2 * j) 0 = f j ∧ R.getD (2 * j + 1) 0 = g j) : R = flat2 f g n := by
  refine List.ext_getElem (by rw [hl, flat2_length]) fun i h1 h2 => ?_
  have key : R.getD i 0 = (flat2 f g n).getD i 0 := by
    obtain ⟨j, hj⟩ : ∃ j, i = 2 * j ∨ i = 2 * j + 1 := ⟨i / 2, by omega⟩
    rcases hj with rfl | rfl
    · rw [(h j (by omega)).1, (flat2_get f g n j (by omega)).1]
    · rw [(h j (by omega)).2, (flat2_get f g n j (by omega)).2]
  rw [List.getD_eq_getElem?_getD, List.getElem?_eq_getElem h1, List.getD_eq_getElem?_getD, List.getElem?_eq_getElem h2] at key
  simpa using key
theorem flat2_same {f g f' g' : Nat → Int} {n : Nat} (h : ∀ j, j < n → f j = f' j ∧ g j = g' j) : flat2 f g n = flat2 f' g' n :=
  flat2_ext (flat2_length _ _ _) fun j hj => by rw [(flat2_get f g n j hj).1, (flat2_get f g n j hj).2]; exact h j hj
/-- samples' numbers, so many of them -/
def numsK (ls : List Sm) (k : Nat) : List Int := (ls.length : Int) :: flat2 (tell (tS ls)) (tell (vS ls)) k
/-- samples' numbers -/
def numsS (ls : List Sm) : List Int := numsK ls ls.length
theorem numsK_succ (ls : List Sm) (k : Nat) : numsK ls (k + 1) = numsK ls k ++ [tell (tS ls) k, tell (vS ls) k] := by
  unfold numsK; rw [flat2_succ]; rfl
theorem numsK_length (ls : List Sm) (k : Nat) : (numsK ls k).length = 2 * k + 1 := by
  unfold numsK; rw [List.length_cons, flat2_length]
theorem numsS_iff (N : List Int) (ls : List Sm) : N = numsS ls ↔ N.length = 2 * ls.length + 1 ∧ N.getD 0 0 = ls.length ∧ ∀ j, j < ls.length → N.getD (2 * j + 1) 0 = tell (tS ls) j ∧ N.getD (2 * j + 2) 0 = tell (vS ls) j := by
  constructor
  · rintro rfl
    refine ⟨numsK_length _ _, rfl, fun j hj => ?_⟩
    exact flat2_get (tell (tS ls)) (tell (vS ls)) ls.length j hj
  · rintro ⟨h1, h2, h3⟩
    cases N with
    | nil => simp at h1
    | cons x R =>
      have hx : x = ls.length := by simpa using h2
      have hR : R = flat2 (tell (tS ls)) (tell (vS ls)) ls.length := flat2_ext (by simpa using h1) fun j hj => h3 j hj
      unfold numsS numsK
      rw [hx, ← hR]
theorem sm_ext {ls ms : List Sm} (hl : ls.length = ms.length) (h : ∀ j, j < ls.length → tS ls j = tS ms j ∧ vS ls j = vS ms j) : ls = ms := by
  refine List.ext_getElem hl fun i h1 h2 => ?_
  have := h i h1
  unfold tS vS at this
  rw [List.getD_eq_getElem?_getD, List.getElem?_eq_getElem h1, List.getD_eq_getElem?_getD, List.getElem?_eq_getElem h2] at this
  exact Prod.ext (by simpa using this.1) (by simpa using this.2)
/-- numbers tell their samples -/
theorem numsS_inj {ls ms : List Sm} (h : numsS ls = numsS ms) : ls = ms := by
  have h1 := (numsS_iff (numsS ls) ls).1 rfl
  have h2 := (numsS_iff (numsS ls) ms).1 h
  have hl : ls.length = ms.length := by omega
  have ht := tell_inj (f := tS ls) (g := tS ms) (k := ls.length) fun j hj => by rw [← (h1.2.2 j hj).1, (h2.2.2 j (by omega)).1]
  have hv := tell_inj (f := vS ls) (g := vS ms) (k := ls.length) fun j hj => by rw [← (h1.2.2 j hj).2, (h2.2.2 j (by omega)).2]
  exact sm_ext hl fun j hj => ⟨ht j hj, hv j hj⟩
theorem may_in {ls : List Sm} (h : MayS ls) (i : Nat) : -1099511627776 ≤ tS ls i ∧ tS ls i ≤ 1099511627776 ∧ -1099511627776 ≤ vS ls i ∧ vS ls i ≤ 1099511627776 := by
  by_cases hi : i < ls.length
  · have := (h.2 i hi).1
    unfold InS at this
    unfold tS vS
    omega
  · unfold tS vS
    rw [List.getD_eq_getElem?_getD, List.getElem?_eq_none (by omega)]
    simp [sm0]
theorem step_in {f : Nat → Int} (h : ∀ i, -1099511627776 ≤ f i ∧ f i ≤ 1099511627776) (i : Nat) : -2199023255552 ≤ step f i ∧ step f i ≤ 2199023255552 := by
  have h1 := h i
  have h2 := h (i - 1)
  have h3 := h 0
  unfold step
  split <;> omega
theorem tell_in {f : Nat → Int} (h : ∀ i, -1099511627776 ≤ f i ∧ f i ≤ 1099511627776) (i : Nat) : -4398046511104 ≤ tell f i ∧ tell f i ≤ 4398046511104 := by
  have h1 := h i
  have h2 := h (i - 1)
  have h3 := h (i - 2)
  have h4 := h 0
  have h5 := h 1
  unfold tell
  split
  · omega
  · split <;> omega
end Go.Proofs.YtcdlkdbnlomghaaDoor.Bk
