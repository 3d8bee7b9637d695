/-
  Plain arithmetic of counts' bytes, numbers' bytes and data's bytes: how they are written, and that they are read in one way alone.
-/
import Derived.Laws.BitsAllLaws
namespace Go.Proofs.YtcdlkdbnlomghaaDoor.Fr

def countL (n : Nat) : List UInt8 := if h : n < 128 then [UInt8.ofNat n] else UInt8.ofNat (n % 128 + 128) :: countL (n / 128)
theorem countL_small (n : Nat) (h : n < 128) : countL n = [UInt8.ofNat n] := by rw [countL, dif_pos h]
theorem countL_big (n : Nat) (h : ¬ n < 128) : countL n = UInt8.ofNat (n % 128 + 128) :: countL (n / 128) := by rw [countL, dif_neg h]
theorem toNat_small (n : Nat) (h : n < 128) : (UInt8.ofNat n).toNat = n := by simp; omega
theorem toNat_big (n : Nat) : (UInt8.ofNat (n % 128 + 128)).toNat = n % 128 + 128 := by simp; omega

theorem countL_pos (n : Nat) : 0 < (countL n).length := by
  by_cases h : n < 128
  · rw [countL_small n h]; simp
  · rw [countL_big n h]; simp
theorem countL_le (k : Nat) : ∀ n, n < 128 ^ (k + 1) → (countL n).length ≤ k + 1 := by
  induction k with
  | zero => intro n h; rw [countL_small n (by simpa using h)]; simp
  | succ k ih =>
    intro n h
    by_cases h1 : n < 128
    · rw [countL_small n h1]; simp
    · rw [countL_big n h1, List.length_cons]
      have := ih (n / 128) (by rw [Nat.pow_succ] at h; exact Nat.div_lt_of_lt_mul (by rw [Nat.mul_comm]; exact h))
      omega
theorem countL_le10 (n : Nat) (h : n < 18446744073709551616) : (countL n).length ≤ 10 := countL_le 9 n (Nat.lt_of_lt_of_le h (by decide))
theorem countL_le3 (n : Nat) (h : n < 2097152) : (countL n).length ≤ 3 := countL_le 2 n (Nat.lt_of_lt_of_le h (by decide))

theorem countL_free : ∀ (n m : Nat) (r s : List UInt8), countL n ++ r = countL m ++ s → n = m ∧ r = s := by
  intro n
  induction n using Nat.strongRecOn with
  | ind n ih =>
    intro m r s h
    by_cases hn : n < 128 <;> by_cases hm : m < 128
    · rw [countL_small n hn, countL_small m hm] at h
      simp only [List.cons_append, List.nil_append, List.cons.injEq] at h
      have := congrArg UInt8.toNat h.1
      rw [toNat_small n hn, toNat_small m hm] at this
      exact ⟨this, h.2⟩
    · rw [countL_small n hn, countL_big m hm] at h
      simp only [List.cons_append, List.nil_append, List.cons.injEq] at h
      have := congrArg UInt8.toNat h.1
      rw [toNat_small n hn, toNat_big m] at this
      omega
    · rw [countL_big n hn, countL_small m hm] at h
      simp only [List.cons_append, List.nil_append, List.cons.injEq] at h
      have := congrArg UInt8.toNat h.1
      rw [toNat_big n, toNat_small m hm] at this
      omega
    · rw [countL_big n hn, countL_big m hm] at h
      simp only [List.cons_append, List.cons.injEq] at h
      have := congrArg UInt8.toNat h.1
      rw [toNat_big n, toNat_big m] at this
      have h2 := ih (n / 128) (by omega) (m / 128) r s h.2
      exact ⟨by omega, h2.2⟩

/-- the count of a number -/
def numberN (x : Int) : Nat := if 0 ≤ x then (2 * x).toNat else (-2 * x - 1).toNat
/-- the number of a count -/
def numberZ (n : Nat) : Int := if n % 2 = 0 then ((n / 2 : Nat) : Int) else -1 - ((n / 2 : Nat) : Int)
theorem numberN_Z (n : Nat) : numberN (numberZ n) = n := by
  unfold numberN numberZ
  by_cases h : n % 2 = 0
  · rw [if_pos h, if_pos (by omega)]; omega
  · rw [if_neg h, if_neg (by omega)]; omega
theorem numberZ_N (x : Int) : numberZ (numberN x) = x := by
  unfold numberN numberZ
  by_cases h : 0 ≤ x
  · rw [if_pos h, if_pos (by omega)]; omega
  · rw [if_neg h, if_neg (by omega)]; omega
theorem numberN_inj {x y : Int} (h : numberN x = numberN y) : x = y := by rw [← numberZ_N x, h, numberZ_N]
def Is64 (x : Int) : Prop := -9223372036854775808 ≤ x ∧ x < 9223372036854775808
theorem numberN_lt {x : Int} (h : Is64 x) : numberN x < 18446744073709551616 := by
  obtain ⟨h1, h2⟩ := h
  unfold numberN
  split <;> omega
theorem numberZ_is {n : Nat} (h : n < 18446744073709551616) : Is64 (numberZ n) := by
  unfold numberZ Is64
  split <;> omega

/-- numbers' bytes, texts' bytes, data's bytes -/
def numsL (l : List Int) : List UInt8 := l.flatMap fun x => countL (numberN x)
def textL (s : ByteArray) : List UInt8 := countL s.size ++ s.data.toList
def textsL (l : List ByteArray) : List UInt8 := l.flatMap textL
def bytesL (l : List Int) (t : List ByteArray) : List UInt8 := countL l.length ++ (numsL l ++ (countL t.length ++ textsL t))
theorem numsL_nil : numsL [] = [] := rfl
theorem numsL_cons (x : Int) (l : List Int) : numsL (x :: l) = countL (numberN x) ++ numsL l := rfl
theorem numsL_snoc (x : Int) (l : List Int) : numsL (l ++ [x]) = numsL l ++ countL (numberN x) := by simp [numsL]
theorem numsL_append (l m : List Int) : numsL (l ++ m) = numsL l ++ numsL m := by simp [numsL]
theorem textsL_nil : textsL [] = [] := rfl
theorem textsL_cons (x : ByteArray) (l : List ByteArray) : textsL (x :: l) = textL x ++ textsL l := rfl
theorem textsL_snoc (x : ByteArray) (l : List ByteArray) : textsL (l ++ [x]) = textsL l ++ textL x := by simp [textsL]
theorem textsL_append (l m : List ByteArray) : textsL (l ++ m) = textsL l ++ textsL m := by simp [textsL]
theorem numsL_len (l : List Int) : l.length ≤ (numsL l).length := by
  induction l with
  | nil => simp
  | cons x l ih => rw [numsL_cons, List.length_append, List.length_cons]; have := countL_pos (numberN x); omega
theorem textsL_len (l : List ByteArray) : l.length ≤ (textsL l).length := by
  induction l with
  | nil => simp
  | cons x l ih => rw [textsL_cons, textL, List.length_append, List.length_append, List.length_cons]; have := countL_pos x.size; omega
theorem numsL_free : ∀ (l m : List Int) (r s : List UInt8), l.length = m.length → numsL l ++ r = numsL m ++ s → l = m ∧ r = s := by
  intro l
  induction l with
  | nil =>
    intro m r s hl h
    obtain rfl : m = [] := List.length_eq_zero_iff.1 (by simpa using hl.symm)
    exact ⟨rfl, by simpa [numsL] using h⟩
  | cons x l ih =>
    intro m r s hl h
    cases m with
    | nil => simp at hl
    | cons y m =>
      rw [numsL_cons, numsL_cons, List.append_assoc, List.append_assoc] at h
      have h1 := countL_free _ _ _ _ h
      have h2 := ih m r s (by simpa using hl) h1.2
      exact ⟨by rw [numberN_inj h1.1, h2.1], h2.2⟩
theorem bytes_ext {a b : ByteArray} (h : a.data.toList = b.data.toList) : a = b := by
  cases a; cases b; congr; exact Array.ext' h
theorem textL_free {a b : ByteArray} {r s : List UInt8} (h : textL a ++ r = textL b ++ s) : a = b ∧ r = s := by
  unfold textL at h
  rw [List.append_assoc, List.append_assoc] at h
  have h1 := countL_free _ _ _ _ h
  have h2 := List.append_inj h1.2 (by simpa using h1.1)
  exact ⟨bytes_ext h2.1, h2.2⟩
theorem textsL_free : ∀ (l m : List ByteArray) (r s : List UInt8), l.length = m.length → textsL l ++ r = textsL m ++ s → l = m ∧ r = s := by
  intro l
  induction l with
  | nil =>
    intro m r s hl h
    obtain rfl : m = [] := List.length_eq_zero_iff.1 (by simpa using hl.symm)
    exact ⟨rfl, by simpa [textsL] using h⟩
  | cons x l ih =>
    intro m r s hl h
    cases m with
    | nil => simp at hl
    | cons y m =>
      rw [textsL_cons, textsL_cons, List.append_assoc, List.append_assoc] at h
      have h1 := textL_free h
      have h2 := ih m r s (by simpa using hl) h1.2
      exact ⟨by rw [h1.1, h2.1], h2.2⟩
theorem bytesL_free {l m : List Int} {t u : List ByteArray} {r s : List UInt8} (h : bytesL l t ++ r = bytesL m u ++ s) : l = m ∧ t = u ∧ r = s := by
  unfold bytesL at h
  simp only [List.append_assoc] at h
  have h1 := countL_free _ _ _ _ h
  have h2 := numsL_free l m _ _ h1.1 h1.2
  have h3 := countL_free _ _ _ _ h2.2
  have h4 := textsL_free t u _ _ h3.1 h3.2
  exact ⟨h2.1, h4.1, h4.2⟩
theorem bytesL_inj {l m : List Int} {t u : List ByteArray} (h : bytesL l t = bytesL m u) : l = m ∧ t = u := by
  have := bytesL_free (l := l) (m := m) (t := t) (u := u) (r := []) (s := []) (by rw [h])
  exact ⟨this.1, this.2.1⟩
end Go.Proofs.YtcdlkdbnlomghaaDoor.Fr
