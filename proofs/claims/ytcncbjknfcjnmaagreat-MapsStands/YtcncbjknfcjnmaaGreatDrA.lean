/-
  Plain arithmetic: numbers mixed and folded, and costs; no Go in sight.
-/
import Derived.Laws.BitsAllLaws
namespace Go.Proofs.YtcncbjknfcjnmaaGreat.Dr
/-- a number with its upper half laid over its lower one -/
def cr (x : Nat) : Nat := x ^^^ x / 4294967296
theorem cr_lt {x : Nat} (hx : x < 18446744073709551616) : cr x < 18446744073709551616 := by
  unfold cr
  exact Nat.xor_lt_two_pow (n := 64) (by omega) (by omega)
theorem cr_div (x : Nat) (hx : x < 18446744073709551616) : cr x / 4294967296 = x / 4294967296 := by
  unfold cr
  have h := @Nat.xor_div_two_pow x (x / 4294967296) 32
  have e : x / 4294967296 / 2 ^ 32 = 0 := by omega
  rw [e, Nat.xor_zero] at h
  simpa using h
theorem cr_mod (x : Nat) (hx : x < 18446744073709551616) : cr x % 4294967296 = x % 4294967296 ^^^ x / 4294967296 := by
  unfold cr
  have h := @Nat.xor_mod_two_pow x (x / 4294967296) 32
  have e : x / 4294967296 % 2 ^ 32 = x / 4294967296 := by omega
  rw [e] at h
  simpa using h
theorem cr_cr {x : Nat} (hx : x < 18446744073709551616) : cr (cr x) = x := by
  have h := cr_div x hx
  have e : cr (cr x) = cr x ^^^ cr x / 4294967296 := rfl
  rw [e, h]
  unfold cr
  rw [Nat.xor_assoc, Nat.xor_self, Nat.xor_zero]
theorem cr_parts {x : Nat} (hx : x < 18446744073709551616) : x / 4294967296 * 4294967296 + (x % 4294967296 ^^^ x / 4294967296) = cr x := by
  rw [← cr_mod x hx, ← cr_div x hx]
  omega
/-- a number times the factor -/
def by1 (x : Nat) : Nat := x * 15485907386658061715 % 18446744073709551616
theorem by1_lt (x : Nat) : by1 x < 18446744073709551616 := Nat.mod_lt _ (by decide)
def mixN (x : Nat) : Nat := cr (by1 (cr (by1 (cr x))))
theorem mixN_lt (x : Nat) : mixN x < 18446744073709551616 := cr_lt (by1_lt _)
theorem mixN_one : mixN 1 = 4717996019076358352 := by decide +kernel

/-! the walk's own forms -/
theorem cross_form (x : Nat) (hx : x < 18446744073709551616) : bits .xor .u64 (x : Int) ((x : Int) / 4294967296) = ((cr x : Nat) : Int) := by
  have h := xorShift_u64 x 4294967296 hx
  simpa [cr] using h
theorem shift_form (x : Nat) (hx : x < 18446744073709551616) :
    IntKind.u64.wrap ((x : Int) / 4294967296 * 4294967296 + bits .xor .u64 ((x : Int) % 4294967296) ((x : Int) / 4294967296)) = ((cr x : Nat) : Int) := by
  have h := u64_xor_nat (x % 4294967296) (x / 4294967296) (by omega) (by omega)
  have h2 := cr_parts hx
  have h3 := cr_lt hx
  have e1 : ((x : Int) % 4294967296) = ((x % 4294967296 : Nat) : Int) := by omega
  have e2 : ((x : Int) / 4294967296) = ((x / 4294967296 : Nat) : Int) := by omega
  rw [e1, e2, h, IntKind.wrap_u64, ← h2]
  omega
/-- one number folded into a state -/
def stepN (s n : Nat) : Nat := mixN (((s ^^^ n) + 11400714819323198485) % 18446744073709551616)
/-- numbers folded from a seed -/
def foldN (s : Nat) (l : List Nat) : Nat := l.foldl stepN (mixN s)
theorem stepN_lt (s n : Nat) : stepN s n < 18446744073709551616 := mixN_lt _
theorem foldN_snoc (s : Nat) (l : List Nat) (n : Nat) : foldN s (l ++ [n]) = stepN (foldN s l) n := by
  unfold foldN
  rw [List.foldl_append, List.foldl_cons, List.foldl_nil]
theorem foldN_nil (s : Nat) : foldN s [] = mixN s := by
  unfold foldN
  rw [List.foldl_nil]
theorem foldl_lt (l : List Nat) : ∀ s, s < 18446744073709551616 → l.foldl stepN s < 18446744073709551616 := by
  induction l with
  | nil =>
    intro s hs
    rw [List.foldl_nil]
    exact hs
  | cons a l ih =>
    intro s _
    rw [List.foldl_cons]
    exact ih _ (stepN_lt s a)
theorem foldN_lt (s : Nat) (l : List Nat) : foldN s l < 18446744073709551616 := foldl_lt l _ (mixN_lt s)
theorem foldN_take (s : Nat) (l : List Nat) (k : Nat) (h : k < l.length) : foldN s (l.take (k + 1)) = stepN (foldN s (l.take k)) (l.getD k 0) := by
  rw [List.take_succ_eq_append_getElem h, foldN_snoc, show l.getD k 0 = l[k] from by simp [h]]
theorem getD_lt (l : List Nat) (hb : ∀ n ∈ l, n < 18446744073709551616) (k : Nat) : l.getD k 0 < 18446744073709551616 := by
  by_cases h : k < l.length
  · have := hb l[k] (List.getElem_mem h)
    simpa [h] using this
  · simp [h]
theorem step_form (s n : Nat) (hs : s < 18446744073709551616) (hn : n < 18446744073709551616) :
    IntKind.u64.wrap (bits .xor .u64 (s : Int) (n : Int) + 11400714819323198485) = ((((s ^^^ n) + 11400714819323198485) % 18446744073709551616 : Nat) : Int) := by
  rw [u64_xor_nat s n hs hn, IntKind.wrap_u64]
  omega
def sqN (z : Nat) : Nat := z * z / 2147483648
def zS (z : Nat) : Nat := if sqN z ≤ 1073741824 then 2 * sqN z else sqN z
def fS (z f : Nat) : Nat := if sqN z ≤ 1073741824 then 2 * f + 1 else 2 * f
def zAt (z : Nat) : Nat → Nat
  | 0 => z
  | k + 1 => zS (zAt z k)
def fAt (z : Nat) : Nat → Nat
  | 0 => 0
  | k + 1 => fS (zAt z k) (fAt z k)
theorem zAt_zero (z : Nat) : zAt z 0 = z := rfl
theorem fAt_zero (z : Nat) : fAt z 0 = 0 := rfl
theorem zAt_succ (z k : Nat) : zAt z (k + 1) = zS (zAt z k) := rfl
theorem fAt_succ (z k : Nat) : fAt z (k + 1) = fS (zAt z k) (fAt z k) := rfl
theorem zS_low (z : Nat) (h : sqN z ≤ 1073741824) : zS z = 2 * sqN z := if_pos h
theorem zS_high (z : Nat) (h : ¬ sqN z ≤ 1073741824) : zS z = sqN z := if_neg h
theorem fS_low (z f : Nat) (h : sqN z ≤ 1073741824) : fS z f = 2 * f + 1 := if_pos h
theorem fS_high (z f : Nat) (h : ¬ sqN z ≤ 1073741824) : fS z f = 2 * f := if_neg h
theorem sqN_mono {a b : Nat} (h : a ≤ b) : sqN a ≤ sqN b := Nat.div_le_div_right (Nat.mul_le_mul h h)
theorem sq_le {z : Nat} (h : z ≤ 2147483648) : z * z ≤ 2147483648 * 2147483648 := Nat.mul_le_mul h h
theorem sqN_le {z : Nat} (h : z ≤ 2147483648) : sqN z ≤ 2147483648 := by
  have := sq_le h
  unfold sqN
  omega
theorem zS_le {z : Nat} (h : z ≤ 2147483648) : zS z ≤ 2147483648 := by
  have := sqN_le h
  unfold zS
  split <;> omega
theorem zAt_le {z : Nat} (h : z ≤ 2147483648) (k : Nat) : zAt z k ≤ 2147483648 := by
  induction k with
  | zero => exact h
  | succ k ih => exact zS_le ih
theorem fAt_lt (z k : Nat) : fAt z k < 2 ^ k := by
  induction k with
  | zero => exact Nat.one_pos
  | succ k ih =>
    rw [fAt_succ, Nat.pow_succ]
    unfold fS
    split <;> omega
theorem fAt_lt16 (z k : Nat) (h : k ≤ 16) : fAt z k < 65536 :=
  Nat.lt_of_lt_of_le (fAt_lt z k) (Nat.le_trans (Nat.pow_le_pow_right (by decide) h) (by decide))
theorem fAt_cmp {a b : Nat} (h : a ≤ b) (k : Nat) : fAt b k < fAt a k ∨ (fAt b k = fAt a k ∧ zAt a k ≤ zAt b k) := by
  induction k with
  | zero => exact .inr ⟨rfl, h⟩
  | succ k ih =>
    rw [fAt_succ, fAt_succ, zAt_succ, zAt_succ]
    rcases ih with ih | ⟨ih, hz⟩
    · left
      unfold fS
      split <;> split <;> omega
    · have := sqN_mono hz
      unfold fS zS
      split <;> split <;> omega
theorem fAt_anti {a b : Nat} (h : a ≤ b) (k : Nat) : fAt b k ≤ fAt a k := by
  rcases fAt_cmp h k with h | h <;> omega
/-- the cost, with so many doublings left -/
def costK : Nat → Nat → Nat
  | 0, u => fAt (u * 32768) 16
  | n + 1, u => if u ≤ 32768 then 65536 + costK n (2 * u) else fAt (u * 32768) 16
theorem costK_low (n u : Nat) (h : u ≤ 32768) : costK (n + 1) u = 65536 + costK n (2 * u) := if_pos h
theorem costK_high (n u : Nat) (h : ¬ u ≤ 32768) : costK n u = fAt (u * 32768) 16 := by
  cases n with
  | zero => rfl
  | succ n => exact if_neg h
theorem costK_lt (n : Nat) : ∀ u, costK n u < 65536 * (n + 1) := by
  induction n with
  | zero => intro u; exact fAt_lt16 _ 16 (by decide)
  | succ n ih =>
    intro u
    by_cases h : u ≤ 32768
    · rw [costK_low n u h]
      have := ih (2 * u)
      omega
    · rw [costK_high _ u h]
      have := fAt_lt16 (u * 32768) 16 (by decide)
      omega
theorem costK_anti (n : Nat) : ∀ u v, u ≤ v → costK n v ≤ costK n u := by
  induction n with
  | zero => intro u v h; exact fAt_anti (Nat.mul_le_mul_right _ h) 16
  | succ n ih =>
    intro u v h
    by_cases hv : v ≤ 32768
    · rw [costK_low n u (by omega), costK_low n v hv]
      have := ih (2 * u) (2 * v) (by omega)
      omega
    · by_cases hu : u ≤ 32768
      · rw [costK_low n u hu, costK_high _ v hv]
        have := fAt_lt16 (v * 32768) 16 (by decide)
        omega
      · rw [costK_high _ u hu, costK_high _ v hv]
        exact fAt_anti (Nat.mul_le_mul_right _ h) 16
theorem costK_more (n : Nat) : ∀ u, 32768 < u * 2 ^ n → costK (n + 1) u = costK n u := by
  induction n with
  | zero =>
    intro u h
    rw [Nat.pow_zero, Nat.mul_one] at h
    rw [costK_high 1 u (by omega), costK_high 0 u (by omega)]
  | succ n ih =>
    intro u h
    by_cases hu : u ≤ 32768
    · rw [costK_low (n + 1) u hu, costK_low n u hu, ih (2 * u) (by rw [Nat.pow_succ] at h; rw [Nat.mul_comm 2 u, Nat.mul_assoc, Nat.mul_comm 2]; exact h)]
    · rw [costK_high (n + 2) u hu, costK_high (n + 1) u hu]
/-- the cost of a number from 1 to 65536 -/
def costN (u : Nat) : Nat := costK 16 u
theorem costN_high (u : Nat) (h : ¬ u ≤ 32768) : costN u = fAt (u * 32768) 16 := costK_high 16 u h
theorem costN_low (u : Nat) (h1 : 1 ≤ u) (h : u ≤ 32768) : costN u = 65536 + costN (2 * u) := by
  unfold costN
  rw [costK_low 15 u h, costK_more 15 (2 * u) (by omega)]
theorem costN_lt (u : Nat) : costN u < 1114112 := costK_lt 16 u
theorem costN_anti {u v : Nat} (h : u ≤ v) : costN v ≤ costN u := costK_anti 16 u v h
theorem costN_half : costN 32768 = 65536 := by decide +kernel
theorem costN_one : costN 1 = 1048576 := by decide +kernel
theorem costN_all : costN 65536 = 0 := by decide +kernel
/-- the cost of any number -/
def costI (u : Int) : Int := if u < 1 ∨ 65536 < u then 0 else (costN u.toNat : Nat)
theorem costI_of (u : Nat) (h1 : 1 ≤ u) (h2 : u ≤ 65536) : costI u = (costN u : Nat) := by
  rw [costI, if_neg (by omega)]
  rfl
theorem costI_out (u : Int) (h : u < 1 ∨ 65536 < u) : costI u = 0 := if_pos h
theorem costI_bound (u : Int) : 0 ≤ costI u ∧ costI u < 1114112 := by
  unfold costI
  have := costN_lt u.toNat
  split <;> omega
end Go.Proofs.YtcncbjknfcjnmaaGreat.Dr
