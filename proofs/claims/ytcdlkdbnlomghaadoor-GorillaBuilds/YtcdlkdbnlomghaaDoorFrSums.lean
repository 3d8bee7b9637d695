/-
  Plain arithmetic of a sum: the register of 32 bits, bit by bit, and byte by byte.
-/
import Derived.Laws.BitsAllLaws
namespace Go.Proofs.YtcdlkdbnlomghaaDoor.Fr

def bitStep (r bit : Nat) : Nat := (r * 2 % 4294967296) ^^^ (if r / 2147483648 = bit then 0 else 1947962583)
def bitAt (l : List UInt8) (i : Nat) : Nat := (l.getD (i / 8) 0).toNat / 2 ^ (7 - i % 8) % 2
def reg (l : List UInt8) : Nat → Nat
  | 0 => 4294967295
  | i + 1 => bitStep (reg l i) (bitAt l i)
def sumL (l : List UInt8) : Nat := reg l (8 * l.length)
theorem reg_zero (l : List UInt8) : reg l 0 = 4294967295 := rfl
theorem reg_succ (l : List UInt8) (i : Nat) : reg l (i + 1) = bitStep (reg l i) (bitAt l i) := rfl
theorem bitStep_lt (r b : Nat) : bitStep r b < 4294967296 := by
  unfold bitStep
  have h1 : r * 2 % 4294967296 < 2 ^ 32 := Nat.mod_lt _ (by decide)
  have h2 : (if r / 2147483648 = b then 0 else 1947962583) < 2 ^ 32 := by split <;> decide
  exact Nat.xor_lt_two_pow h1 h2
theorem reg_lt (l : List UInt8) (i : Nat) : reg l i < 4294967296 := by
  cases i with
  | zero => rw [reg_zero]; decide
  | succ i => rw [reg_succ]; exact bitStep_lt _ _
theorem sumL_lt (l : List UInt8) : sumL l < 4294967296 := reg_lt _ _
theorem bitAt_lt (l : List UInt8) (i : Nat) : bitAt l i < 2 := Nat.mod_lt _ (by decide)
theorem bitAt_in (l : List UInt8) (k j : Nat) (hj : j < 8) : bitAt l (8 * k + j) = (l.getD k 0).toNat / 2 ^ (7 - j) % 2 := by
  unfold bitAt
  rw [show (8 * k + j) / 8 = k from by omega, show (8 * k + j) % 8 = j from by omega]

/-- the register with a byte's bits turned into its upper end, j of them gone -/
def inN (R c j : Nat) : Nat := R ^^^ (c * 2 ^ (24 + j) % 4294967296)
theorem p32 : (4294967296 : Nat) = 2 ^ 32 := by decide
theorem p31 : (2147483648 : Nat) = 2 ^ 31 := by decide
theorem mod32_lt (x : Nat) : x % 4294967296 < 2 ^ 32 := Nat.mod_lt _ (by decide)
theorem inN_lt (R c j : Nat) (h : R < 4294967296) : inN R c j < 4294967296 := Nat.xor_lt_two_pow (n := 32) h (mod32_lt _)
theorem inN_end (R c : Nat) : inN R c 8 = R := by
  unfold inN
  rw [show c * 2 ^ (24 + 8) % 4294967296 = 0 from Nat.mul_mod_left _ _, Nat.xor_zero]
theorem inN_start (R c : Nat) (hc : c < 256) : inN R c 0 = R ^^^ (c * 16777216) := by
  unfold inN
  rw [Nat.mod_eq_of_lt (by omega)]
theorem xor_double (a b : Nat) : (a ^^^ b) * 2 % 4294967296 = (a * 2 % 4294967296) ^^^ (b * 2 % 4294967296) := by
  rw [p32]
  apply Nat.eq_of_testBit_eq
  intro i
  simp only [Nat.testBit_xor, Nat.testBit_mod_two_pow]
  cases i with
  | zero => simp [Nat.testBit_zero]
  | succ i => simp only [Nat.testBit_add_one, Nat.mul_div_cancel _ (by decide : 0 < 2), Nat.testBit_xor]; by_cases h : i + 1 < 32 <;> simp [h]
theorem xor_top (a b : Nat) : (a ^^^ b) / 2147483648 = (a / 2147483648) ^^^ (b / 2147483648) := by
  rw [p31, ← Nat.shiftRight_eq_div_pow, ← Nat.shiftRight_eq_div_pow, ← Nat.shiftRight_eq_div_pow, Nat.shiftRight_xor_distrib]
theorem xor_bit (a b : Nat) (ha : a < 2) (hb : b < 2) : (a ^^^ b) * 1947962583 = if a = b then 0 else 1947962583 := by
  have h1 : a = 0 ∨ a = 1 := by omega
  have h2 : b = 0 ∨ b = 1 := by omega
  rcases h1 with rfl | rfl <;> rcases h2 with rfl | rfl <;> decide
theorem top_of (c j : Nat) (hj : j < 8) : c * 2 ^ (24 + j) % 4294967296 / 2147483648 = c / 2 ^ (7 - j) % 2 := by
  have h : ∀ j, j < 8 → c * 2 ^ (24 + j) % 4294967296 / 2147483648 = c / 2 ^ (7 - j) % 2 := by
    intro j hj
    have : j = 0 ∨ j = 1 ∨ j = 2 ∨ j = 3 ∨ j = 4 ∨ j = 5 ∨ j = 6 ∨ j = 7 := by omega
    rcases this with rfl | rfl | rfl | rfl | rfl | rfl | rfl | rfl <;> simp <;> omega
  exact h j hj
theorem inner_step (R c j : Nat) (hR : R < 4294967296) (hj : j < 8) :
    (inN R c j * 2 % 4294967296) ^^^ (inN R c j / 2147483648 * 1947962583) = inN (bitStep R (c / 2 ^ (7 - j) % 2)) c (j + 1) := by
  unfold inN bitStep
  rw [xor_double, xor_top, top_of c j hj, xor_bit _ _ (by omega) (Nat.mod_lt _ (by decide))]
  have e : c * 2 ^ (24 + j) % 4294967296 * 2 % 4294967296 = c * 2 ^ (24 + (j + 1)) % 4294967296 := by
    rw [Nat.mod_mul_mod, ← Nat.add_assoc, Nat.pow_succ, Nat.mul_assoc]
  rw [e, Nat.xor_assoc, Nat.xor_comm (c * 2 ^ (24 + (j + 1)) % 4294967296), ← Nat.xor_assoc]
theorem inN_top (R c j : Nat) (h : R < 4294967296) : inN R c j / 2147483648 < 2 := by
  have := inN_lt R c j h
  omega
/-- the known sum -/
theorem sum_known : sumL [49, 50, 51, 52, 53, 54, 55, 56, 57] = 783370361 := by decide +kernel
end Go.Proofs.YtcdlkdbnlomghaaDoor.Fr
