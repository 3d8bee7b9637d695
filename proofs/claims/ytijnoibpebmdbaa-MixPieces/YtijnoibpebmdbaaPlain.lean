/-
  Plain arithmetic of numbers of 64 bits as natural numbers: the halves crossed, mixed, unmixed, folded: no Go in sight.
-/
import Derived.Laws.BitsAllLaws
namespace Go.Proofs.Ytijnoibpebmdbaa

/-- a number with its upper half laid over its lower one -/
def cr (x : Nat) : Nat := x ^^^ x / 4294967296
theorem cr_lt {x : Nat} (hx : x < 18446744073709551616) : cr x < 18446744073709551616 := by
  unfold cr
  exact Nat.xor_lt_two_pow (n := 64) (by omega) (by omega)
theorem cr_div (x : Nat) (hx : x < 18446744073709551616) : cr x / 4294967296 = x / 4294967296 := by
  unfold cr
  have h := @Nat.xor_div_two_pow x (x / 4294967296) 32
  have e : x / 4294967296 / 2 ^ 32 = 0 := by omega
  rw [e, Nat.xor_zero] at h
  simpa using h
theorem cr_mod (x : Nat) (hx : x < 18446744073709551616) : cr x % 4294967296 = x % 4294967296 ^^^ x / 4294967296 := by
  unfold cr
  have h := @Nat.xor_mod_two_pow x (x / 4294967296) 32
  have e : x / 4294967296 % 2 ^ 32 = x / 4294967296 := by omega
  rw [e] at h
  simpa using h
theorem cr_cr {x : Nat} (hx : x < 18446744073709551616) : cr (cr x) = x := by
  have h := cr_div x hx
  have e : cr (cr x) = cr x ^^^ cr x / 4294967296 := rfl
  rw [e, h]
  unfold cr
  rw [Nat.xor_assoc, Nat.xor_self, Nat.xor_zero]
theorem cr_parts {x : Nat} (hx : x < 18446744073709551616) : x / 4294967296 * 4294967296 + (x % 4294967296 ^^^ x / 4294967296) = cr x := by
  rw [← cr_mod x hx, ← cr_div x hx]
  omega
/-- a number times the factor -/
def by1 (x : Nat) : Nat := x * 15485907386658061715 % 18446744073709551616
/-- a number times what undoes the factor -/
def by2 (x : Nat) : Nat := x * 14982988110149298331 % 18446744073709551616
theorem by1_lt (x : Nat) : by1 x < 18446744073709551616 := Nat.mod_lt _ (by decide)
theorem by2_lt (x : Nat) : by2 x < 18446744073709551616 := Nat.mod_lt _ (by decide)
theorem by2_by1 {x : Nat} (hx : x < 18446744073709551616) : by2 (by1 x) = x := by
  unfold by1 by2
  rw [Nat.mod_mul_mod, Nat.mul_assoc, show 15485907386658061715 * 14982988110149298331 = 1 + 12578109465933073204 * 18446744073709551616 from rfl, Nat.mul_add, Nat.mul_one, ← Nat.mul_assoc, Nat.add_mul_mod_self_right, Nat.mod_eq_of_lt hx]
theorem by1_by2 {x : Nat} (hx : x < 18446744073709551616) : by1 (by2 x) = x := by
  unfold by1 by2
  rw [Nat.mod_mul_mod, Nat.mul_assoc, show 14982988110149298331 * 15485907386658061715 = 1 + 12578109465933073204 * 18446744073709551616 from rfl, Nat.mul_add, Nat.mul_one, ← Nat.mul_assoc, Nat.add_mul_mod_self_right, Nat.mod_eq_of_lt hx]
def mixN (x : Nat) : Nat := cr (by1 (cr (by1 (cr x))))
def unmixN (x : Nat) : Nat := cr (by2 (cr (by2 (cr x))))
theorem mixN_lt (x : Nat) : mixN x < 18446744073709551616 := cr_lt (by1_lt _)
theorem unmixN_lt (x : Nat) : unmixN x < 18446744073709551616 := cr_lt (by2_lt _)
theorem unmix_mix {x : Nat} (hx : x < 18446744073709551616) : unmixN (mixN x) = x := by
  unfold unmixN mixN
  rw [cr_cr (by1_lt _), by2_by1 (cr_lt (by1_lt _)), cr_cr (by1_lt _), by2_by1 (cr_lt hx), cr_cr hx]
theorem mix_unmix {x : Nat} (hx : x < 18446744073709551616) : mixN (unmixN x) = x := by
  unfold unmixN mixN
  rw [cr_cr (by2_lt _), by1_by2 (cr_lt (by2_lt _)), cr_cr (by2_lt _), by1_by2 (cr_lt hx), cr_cr hx]
theorem mixN_inj {x y : Nat} (hx : x < 18446744073709551616) (hy : y < 18446744073709551616) (h : mixN x = mixN y) : x = y := by
  rw [← unmix_mix hx, h, unmix_mix hy]
theorem mixN_one : mixN 1 = 4717996019076358352 := by decide +kernel

/-! the walk's own forms -/
theorem cross_form (x : Nat) (hx : x < 18446744073709551616) : bits .xor .u64 (x : Int) ((x : Int) / 4294967296) = ((cr x : Nat) : Int) := by
  have h := xorShift_u64 x 4294967296 hx
  simpa [cr] using h
theorem shift_form (x : Nat) (hx : x < 18446744073709551616) :
    IntKind.u64.wrap ((x : Int) / 4294967296 * 4294967296 + bits .xor .u64 ((x : Int) % 4294967296) ((x : Int) / 4294967296)) = ((cr x : Nat) : Int) := by
  have h := u64_xor_nat (x % 4294967296) (x / 4294967296) (by omega) (by omega)
  have h2 := cr_parts hx
  have h3 := cr_lt hx
  have e1 : ((x : Int) % 4294967296) = ((x % 4294967296 : Nat) : Int) := by omega
  have e2 : ((x : Int) / 4294967296) = ((x / 4294967296 : Nat) : Int) := by omega
  rw [e1, e2, h, IntKind.wrap_u64, ← h2]
  omega
end Go.Proofs.Ytijnoibpebmdbaa
