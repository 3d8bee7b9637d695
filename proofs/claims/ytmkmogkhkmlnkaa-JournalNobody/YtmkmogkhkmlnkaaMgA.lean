/-
  Plain arithmetic of counts' bytes, numbers' bytes and data's bytes: how they are written, and that they are read in one way alone.
  Plain arithmetic of a sum: the register of 32 bits, bit by bit, and byte by byte.
  Rows of cells, read and owned; the contracts of both Sums: any bytes' sum.
  The contracts of the functions that write counts and numbers: their bytes, laid behind bytes of one's own, or new.
  The contracts of Encode: data's bytes, new, or that they are too many.
  The contract of Encode, and of the known answers.
  The contract of FrameNumbers: at every number it returns true, and writes nothing that was there.
-/
import Derived.Laws.BitsAllLaws
import Derived.Test.YtmkmogkhkmlnkaaRows
import Derived.WalkKit
import Derived.WalkSpells
import Derived.ProofKit
import Derived.OpenShut
import Derived.Below
import Derived.Laws.IdiomStrings
import Derived.Lib.AppendStr
import Derived.Maps.AppendAt
import Derived.Laws.OwnMore
import Derived.Lib.Zigzag
import Derived.Handy
import Derived.Lib.SlBytesConst
import Derived.Deep.RegionWith
namespace Go.Proofs.Ytmkmogkhkmlnkaa.Fr

def countL (n : Nat) : List UInt8 := if h : n < 128 then [UInt8.ofNat n] else UInt8.ofNat (n % 128 + 128) :: countL (n / 128)
theorem countL_small (n : Nat) (h : n < 128) : countL n = [UInt8.ofNat n] := by rw [countL, dif_pos h]
theorem countL_big (n : Nat) (h : ¬ n < 128) : countL n = UInt8.ofNat (n % 128 + 128) :: countL (n / 128) := by rw [countL, dif_neg h]
theorem toNat_small (n : Nat) (h : n < 128) : (UInt8.ofNat n).toNat = n := by simp; omega
theorem toNat_big (n : Nat) : (UInt8.ofNat (n % 128 + 128)).toNat = n % 128 + 128 := by simp; omega

theorem countL_pos (n : Nat) : 0 < (countL n).length := by
  by_cases h : n < 128
  · rw [countL_small n h]; simp
  · rw [countL_big n h]; simp
theorem countL_le (k : Nat) : ∀ n, n < 128 ^ (k + 1) → (countL n).length ≤ k + 1 := by
  induction k with
  | zero => intro n h; rw [countL_small n (by simpa using h)]; simp
  | succ k ih =>
    intro n h
    by_cases h1 : n < 128
    · rw [countL_small n h1]; simp
    · rw [countL_big n h1, List.length_cons]
      have := ih (n / 128) (by rw [Nat.pow_succ] at h; exact Nat.div_lt_of_lt_mul (by rw [Nat.mul_comm]; exact h))
      omega
theorem countL_le10 (n : Nat) (h : n < 18446744073709551616) : (countL n).length ≤ 10 := countL_le 9 n (Nat.lt_of_lt_of_le h (by decide))
theorem countL_le3 (n : Nat) (h : n < 2097152) : (countL n).length ≤ 3 := countL_le 2 n (Nat.lt_of_lt_of_le h (by decide))

theorem countL_free : ∀ (n m : Nat) (r s : List UInt8), countL n ++ r = countL m ++ s → n = m ∧ r = s := by
  intro n
  induction n using Nat.strongRecOn with
  | ind n ih =>
    intro m r s h
    by_cases hn : n < 128 <;> by_cases hm : m < 128
    · rw [countL_small n hn, countL_small m hm] at h
      simp only [List.cons_append, List.nil_append, List.cons.injEq] at h
      have := congrArg UInt8.toNat h.1
      rw [toNat_small n hn, toNat_small m hm] at this
      exact ⟨this, h.2⟩
    · rw [countL_small n hn, countL_big m hm] at h
      simp only [List.cons_append, List.nil_append, List.cons.injEq] at h
      have := congrArg UInt8.toNat h.1
      rw [toNat_small n hn, toNat_big m] at this
      omega
    · rw [countL_big n hn, countL_small m hm] at h
      simp only [List.cons_append, List.nil_append, List.cons.injEq] at h
      have := congrArg UInt8.toNat h.1
      rw [toNat_big n, toNat_small m hm] at this
      omega
    · rw [countL_big n hn, countL_big m hm] at h
      simp only [List.cons_append, List.cons.injEq] at h
      have := congrArg UInt8.toNat h.1
      rw [toNat_big n, toNat_big m] at this
      have h2 := ih (n / 128) (by omega) (m / 128) r s h.2
      exact ⟨by omega, h2.2⟩

/-- the count of a number -/
def numberN (x : Int) : Nat := if 0 ≤ x then (2 * x).toNat else (-2 * x - 1).toNat
/-- the number of a count -/
def numberZ (n : Nat) : Int := if n % 2 = 0 then ((n / 2 : Nat) : Int) else -1 - ((n / 2 : Nat) : Int)
theorem numberN_Z (n : Nat) : numberN (numberZ n) = n := by
  unfold numberN numberZ
  by_cases h : n % 2 = 0
  · rw [if_pos h, if_pos (by omega)]; omega
  · rw [if_neg h, if_neg (by omega)]; omega
theorem numberZ_N (x : Int) : numberZ (numberN x) = x := by
  unfold numberN numberZ
  by_cases h : 0 ≤ x
  · rw [if_pos h, if_pos (by omega)]; omega
  · rw [if_neg h, if_neg (by omega)]; omega
theorem numberN_inj {x y : Int} (h : numberN x = numberN y) : x = y := by rw [← numberZ_N x, h, numberZ_N]
def Is64 (x : Int) : Prop := -9223372036854775808 ≤ x ∧ x < 9223372036854775808
theorem numberN_lt {x : Int} (h : Is64 x) : numberN x < 18446744073709551616 := by
  obtain ⟨h1, h2⟩ := h
  unfold numberN
  split <;> omega
theorem numberZ_is {n : Nat} (h : n < 18446744073709551616) : Is64 (numberZ n) := by
  unfold numberZ Is64
  split <;> omega

/-- numbers' bytes, texts' bytes, data's bytes -/
def numsL (l : List Int) : List UInt8 := l.flatMap fun x => countL (numberN x)
def textL (s : ByteArray) : List UInt8 := countL s.size ++ s.data.toList
def textsL (l : List ByteArray) : List UInt8 := l.flatMap textL
def bytesL (l : List Int) (t : List ByteArray) : List UInt8 := countL l.length ++ (numsL l ++ (countL t.length ++ textsL t))
theorem numsL_nil : numsL [] = [] := rfl
theorem numsL_cons (x : Int) (l : List Int) : numsL (x :: l) = countL (numberN x) ++ numsL l := rfl
theorem numsL_snoc (x : Int) (l : List Int) : numsL (l ++ [x]) = numsL l ++ countL (numberN x) := by simp [numsL]
theorem numsL_append (l m : List Int) : numsL (l ++ m) = numsL l ++ numsL m := by simp [numsL]
theorem textsL_nil : textsL [] = [] := rfl
theorem textsL_cons (x : ByteArray) (l : List ByteArray) : textsL (x :: l) = textL x ++ textsL l := rfl
theorem textsL_snoc (x : ByteArray) (l : List ByteArray) : textsL (l ++ [x]) = textsL l ++ textL x := by simp [textsL]
theorem textsL_append (l m : List ByteArray) : textsL (l ++ m) = textsL l ++ textsL m := by simp [textsL]
theorem numsL_len (l : List Int) : l.length ≤ (numsL l).length := by
  induction l with
  | nil => simp
  | cons x l ih => rw [numsL_cons, List.length_append, List.length_cons]; have := countL_pos (numberN x); omega
theorem textsL_len (l : List ByteArray) : l.length ≤ (textsL l).length := by
  induction l with
  | nil => simp
  | cons x l ih => rw [textsL_cons, textL, List.length_append, List.length_append, List.length_cons]; have := countL_pos x.size; omega
theorem numsL_free : ∀ (l m : List Int) (r s : List UInt8), l.length = m.length → numsL l ++ r = numsL m ++ s → l = m ∧ r = s := by
  intro l
  induction l with
  | nil =>
    intro m r s hl h
    obtain rfl : m = [] := List.length_eq_zero_iff.1 (by simpa using hl.symm)
    exact ⟨rfl, by simpa [numsL] using h⟩
  | cons x l ih =>
    intro m r s hl h
    cases m with
    | nil => simp at hl
    | cons y m =>
      rw [numsL_cons, numsL_cons, List.append_assoc, List.append_assoc] at h
      have h1 := countL_free _ _ _ _ h
      have h2 := ih m r s (by simpa using hl) h1.2
      exact ⟨by rw [numberN_inj h1.1, h2.1], h2.2⟩
theorem bytes_ext {a b : ByteArray} (h : a.data.toList = b.data.toList) : a = b := by
  cases a; cases b; congr; exact Array.ext' h
theorem textL_free {a b : ByteArray} {r s : List UInt8} (h : textL a ++ r = textL b ++ s) : a = b ∧ r = s := by
  unfold textL at h
  rw [List.append_assoc, List.append_assoc] at h
  have h1 := countL_free _ _ _ _ h
  have h2 := List.append_inj h1.2 (by simpa using h1.1)
  exact ⟨bytes_ext h2.1, h2.2⟩
theorem textsL_free : ∀ (l m : List ByteArray) (r s : List UInt8), l.length = m.length → textsL l ++ r = textsL m ++ s → l = m ∧ r = s := by
  intro l
  induction l with
  | nil =>
    intro m r s hl h
    obtain rfl : m = [] := List.length_eq_zero_iff.1 (by simpa using hl.symm)
    exact ⟨rfl, by simpa [textsL] using h⟩
  | cons x l ih =>
    intro m r s hl h
    cases m with
    | nil => simp at hl
    | cons y m =>
      rw [textsL_cons, textsL_cons, List.append_assoc, List.append_assoc] at h
      have h1 := textL_free h
      have h2 := ih m r s (by simpa using hl) h1.2
      exact ⟨by rw [h1.1, h2.1], h2.2⟩
theorem bytesL_free {l m : List Int} {t u : List ByteArray} {r s : List UInt8} (h : bytesL l t ++ r = bytesL m u ++ s) : l = m ∧ t = u ∧ r = s := by
  unfold bytesL at h
  simp only [List.append_assoc] at h
  have h1 := countL_free _ _ _ _ h
  have h2 := numsL_free l m _ _ h1.1 h1.2
  have h3 := countL_free _ _ _ _ h2.2
  have h4 := textsL_free t u _ _ h3.1 h3.2
  exact ⟨h2.1, h4.1, h4.2⟩
theorem bytesL_inj {l m : List Int} {t u : List ByteArray} (h : bytesL l t = bytesL m u) : l = m ∧ t = u := by
  have := bytesL_free (l := l) (m := m) (t := t) (u := u) (r := []) (s := []) (by rw [h])
  exact ⟨this.1, this.2.1⟩
end Go.Proofs.Ytmkmogkhkmlnkaa.Fr
namespace Go.Proofs.Ytmkmogkhkmlnkaa.Fr

def bitStep (r bit : Nat) : Nat := (r * 2 % 4294967296) ^^^ (if r / 2147483648 = bit then 0 else 1947962583)
def bitAt (l : List UInt8) (i : Nat) : Nat := (l.getD (i / 8) 0).toNat / 2 ^ (7 - i % 8) % 2
def reg (l : List UInt8) : Nat → Nat
  | 0 => 4294967295
  | i + 1 => bitStep (reg l i) (bitAt l i)
def sumL (l : List UInt8) : Nat := reg l (8 * l.length)
theorem reg_zero (l : List UInt8) : reg l 0 = 4294967295 := rfl
theorem reg_succ (l : List UInt8) (i : Nat) : reg l (i + 1) = bitStep (reg l i) (bitAt l i) := rfl
theorem bitStep_lt (r b : Nat) : bitStep r b < 4294967296 := by
  unfold bitStep
  have h1 : r * 2 % 4294967296 < 2 ^ 32 := Nat.mod_lt _ (by decide)
  have h2 : (if r / 2147483648 = b then 0 else 1947962583) < 2 ^ 32 := by split <;> decide
  exact Nat.xor_lt_two_pow h1 h2
theorem reg_lt (l : List UInt8) (i : Nat) : reg l i < 4294967296 := by
  cases i with
  | zero => rw [reg_zero]; decide
  | succ i => rw [reg_succ]; exact bitStep_lt _ _
theorem sumL_lt (l : List UInt8) : sumL l < 4294967296 := reg_lt _ _
theorem bitAt_lt (l : List UInt8) (i : Nat) : bitAt l i < 2 := Nat.mod_lt _ (by decide)
theorem bitAt_in (l : List UInt8) (k j : Nat) (hj : j < 8) : bitAt l (8 * k + j) = (l.getD k 0).toNat / 2 ^ (7 - j) % 2 := by
  unfold bitAt
  rw [show (8 * k + j) / 8 = k from by omega, show (8 * k + j) % 8 = j from by omega]

/-- the register with a byte's bits turned into its upper end, j of them gone -/
def inN (R c j : Nat) : Nat := R ^^^ (c * 2 ^ (24 + j) % 4294967296)
theorem p32 : (4294967296 : Nat) = 2 ^ 32 := by decide
theorem p31 : (2147483648 : Nat) = 2 ^ 31 := by decide
theorem mod32_lt (x : Nat) : x % 4294967296 < 2 ^ 32 := Nat.mod_lt _ (by decide)
theorem inN_lt (R c j : Nat) (h : R < 4294967296) : inN R c j < 4294967296 := Nat.xor_lt_two_pow (n := 32) h (mod32_lt _)
theorem inN_end (R c : Nat) : inN R c 8 = R := by
  unfold inN
  rw [show c * 2 ^ (24 + 8) % 4294967296 = 0 from Nat.mul_mod_left _ _, Nat.xor_zero]
theorem inN_start (R c : Nat) (hc : c < 256) : inN R c 0 = R ^^^ (c * 16777216) := by
  unfold inN
  rw [Nat.mod_eq_of_lt (by omega)]
theorem xor_double (a b : Nat) : (a ^^^ b) * 2 % 4294967296 = (a * 2 % 4294967296) ^^^ (b * 2 % 4294967296) := by
  rw [p32]
  apply Nat.eq_of_testBit_eq
  intro i
  simp only [Nat.testBit_xor, Nat.testBit_mod_two_pow]
  cases i with
  | zero => simp [Nat.testBit_zero]
  | succ i => simp only [Nat.testBit_add_one, Nat.mul_div_cancel _ (by decide : 0 < 2), Nat.testBit_xor]; by_cases h : i + 1 < 32 <;> simp [h]
theorem xor_top (a b : Nat) : (a ^^^ b) / 2147483648 = (a / 2147483648) ^^^ (b / 2147483648) := by
  rw [p31, ← Nat.shiftRight_eq_div_pow, ← Nat.shiftRight_eq_div_pow, ← Nat.shiftRight_eq_div_pow, Nat.shiftRight_xor_distrib]
theorem xor_bit (a b : Nat) (ha : a < 2) (hb : b < 2) : (a ^^^ b) * 1947962583 = if a = b then 0 else 1947962583 := by
  have h1 : a = 0 ∨ a = 1 := by omega
  have h2 : b = 0 ∨ b = 1 := by omega
  rcases h1 with rfl | rfl <;> rcases h2 with rfl | rfl <;> decide
theorem top_of (c j : Nat) (hj : j < 8) : c * 2 ^ (24 + j) % 4294967296 / 2147483648 = c / 2 ^ (7 - j) % 2 := by
  have h : ∀ j, j < 8 → c * 2 ^ (24 + j) % 4294967296 / 2147483648 = c / 2 ^ (7 - j) % 2 := by
    intro j hj
    have : j = 0 ∨ j = 1 ∨ j = 2 ∨ j = 3 ∨ j = 4 ∨ j = 5 ∨ j = 6 ∨ j = 7 := by omega
    rcases this with rfl | rfl | rfl | rfl | rfl | rfl | rfl | rfl <;> simp <;> omega
  exact h j hj
theorem inner_step (R c j : Nat) (hR : R < 4294967296) (hj : j < 8) :
    (inN R c j * 2 % 4294967296) ^^^ (inN R c j / 2147483648 * 1947962583) = inN (bitStep R (c / 2 ^ (7 - j) % 2)) c (j + 1) := by
  unfold inN bitStep
  rw [xor_double, xor_top, top_of c j hj, xor_bit _ _ (by omega) (Nat.mod_lt _ (by decide))]
  have e : c * 2 ^ (24 + j) % 4294967296 * 2 % 4294967296 = c * 2 ^ (24 + (j + 1)) % 4294967296 := by
    rw [Nat.mod_mul_mod, ← Nat.add_assoc, Nat.pow_succ, Nat.mul_assoc]
  rw [e, Nat.xor_assoc, Nat.xor_comm (c * 2 ^ (24 + (j + 1)) % 4294967296), ← Nat.xor_assoc]
theorem inN_top (R c j : Nat) (h : R < 4294967296) : inN R c j / 2147483648 < 2 := by
  have := inN_lt R c j h
  omega
/-- the known sum -/
theorem sum_known : sumL [49, 50, 51, 52, 53, 54, 55, 56, 57] = 783370361 := by decide +kernel
end Go.Proofs.Ytmkmogkhkmlnkaa.Fr
namespace Go.Proofs.Ytmkmogkhkmlnkaa.Fr
open Go.ChangeShapes Go.WideShapes Go.ChangeAt Go.RowKit
theorem ret_int {k : IntKind} {a b : Int} (h : a = b) : Ending.returned (.int k a) = .returned (.int k b) := by rw [h]
theorem int_of {k : IntKind} {a b : Int} (h : a = b) : Value.int k a = .int k b := by rw [h]
theorem addr_add (b off i : Nat) : (⟨b, off, none⟩ : Addr).add i = ⟨b, off + i, none⟩ := by
  by_cases h : i = 0
  · subst h; simp [Addr.add]
  · simp [Addr.add, h]
/-- bytes, numbers, texts as cells -/
def cellsB (l : List UInt8) : List Value := l.map fun b : UInt8 => Value.int .u8 (b.toNat : Int)
def cellsI (l : List Int) : List Value := l.map fun x : Int => Value.int .i64 x
def cellsT (l : List ByteArray) : List Value := l.map Value.string
theorem cellsB_length (l : List UInt8) : (cellsB l).length = l.length := by simp [cellsB]
theorem cellsI_length (l : List Int) : (cellsI l).length = l.length := by simp [cellsI]
theorem cellsT_length (l : List ByteArray) : (cellsT l).length = l.length := by simp [cellsT]
theorem cellsB_append (l m : List UInt8) : cellsB (l ++ m) = cellsB l ++ cellsB m := by simp [cellsB]
theorem cellsI_append (l m : List Int) : cellsI (l ++ m) = cellsI l ++ cellsI m := by simp [cellsI]
theorem cellsT_append (l m : List ByteArray) : cellsT (l ++ m) = cellsT l ++ cellsT m := by simp [cellsT]
theorem cellsB_get (l : List UInt8) (i : Nat) (h : i < l.length) : (cellsB l)[i]? = some (.int .u8 ((l.getD i 0).toNat : Int)) := by simp [cellsB, h]
theorem cellsI_get (l : List Int) (i : Nat) (h : i < l.length) : (cellsI l)[i]? = some (.int .i64 (l.getD i 0)) := by simp [cellsI, h]
theorem cellsT_get (l : List ByteArray) (i : Nat) (h : i < l.length) : (cellsT l)[i]? = some (.string (l.getD i ByteArray.empty)) := by simp [cellsT, h]
theorem cellsB_drop (l : List UInt8) (k : Nat) : (cellsB l).drop k = cellsB (l.drop k) := by simp [cellsB, List.map_drop]
theorem cellsB_take (l : List UInt8) (k : Nat) : (cellsB l).take k = cellsB (l.take k) := by simp [cellsB, List.map_take]

/-- a slice value whose cells, up to its length, are these -/
def RowAt (w : World) (a : Option Addr) (len cap : Nat) (cs : List Value) : Prop :=
  cs.length = len ∧ len ≤ cap ∧ cap ≤ maxLen ∧ (len = 0 ∨ ∃ b off, a = some ⟨b, off, none⟩ ∧ ∀ i, i < len → w.cell? ⟨b, off + i, none⟩ = cs[i]?)
theorem rowAt_nil (w : World) : RowAt w none 0 0 [] := ⟨rfl, Nat.le_refl _, Nat.zero_le _, .inl rfl⟩
theorem RowAt.some {w : World} {a : Option Addr} {len cap : Nat} {cs : List Value} (h : RowAt w a len cap cs) (h0 : 0 < len) :
    ∃ b off, a = some ⟨b, off, none⟩ ∧ ∀ i, i < len → w.cell? ⟨b, off + i, none⟩ = cs[i]? := by
  rcases h.2.2.2 with h | h
  · omega
  · exact h
theorem RowAt.below {w w' : World} {a : Option Addr} {len cap : Nat} {cs : List Value} (h : RowAt w a len cap cs) (hb : Below w.heap.size w w') : RowAt w' a len cap cs := by
  refine ⟨h.1, h.2.1, h.2.2.1, ?_⟩
  rcases h.2.2.2 with h0 | ⟨b, off, e, hc⟩
  · exact .inl h0
  · refine .inr ⟨b, off, e, fun i hi => ?_⟩
    have hl : i < cs.length := by rw [h.1]; exact hi
    have hx := hc i hi
    rw [List.getElem?_eq_getElem hl] at hx
    have hlt : b < w.heap.size := World.block_lt_of_cell? w ⟨b, off + i, none⟩ hx
    exact (hb.cell (p := ⟨b, off + i, none⟩) hlt).trans (hc i hi)
theorem RowAt.low {B : Nat} {w w' : World} {a : Option Addr} {len cap : Nat} {cs : List Value} (h : RowAt w a len cap cs) (hb : Below B w w') (hl : ∀ x, a = Option.some x → x.block < B) : RowAt w' a len cap cs := by
  refine ⟨h.1, h.2.1, h.2.2.1, ?_⟩
  rcases h.2.2.2 with h0 | ⟨b, off, e, hc⟩
  · exact .inl h0
  · exact .inr ⟨b, off, e, fun i hi => (hb.cell (p := ⟨b, off + i, none⟩) (by have := hl _ e; exact this)).trans (hc i hi)⟩
/-- from a place on -/
theorem RowAt.drop {w : World} {a : Option Addr} {len cap : Nat} {cs : List Value} (h : RowAt w a len cap cs) (k : Nat) (hk : k ≤ len) :
    RowAt w (if cap = k then a else a.map (·.add k)) (len - k) (cap - k) (cs.drop k) := by
  obtain ⟨h1, h2, h3, h4⟩ := h
  refine ⟨by rw [List.length_drop, h1], by omega, by omega, ?_⟩
  rcases h4 with h0 | ⟨b, off, rfl, hc⟩
  · exact .inl (by omega)
  · by_cases e : len = k
    · exact .inl (by omega)
    · refine .inr ⟨b, off + k, ?_, ?_⟩
      · rw [if_neg (by omega), Option.map_some, addr_add]
      · intro i hi
        rw [Nat.add_assoc, hc (k + i) (by omega), List.getElem?_drop]
theorem RowAt.take {w : World} {a : Option Addr} {len cap : Nat} {cs : List Value} (h : RowAt w a len cap cs) (k : Nat) (hk : k ≤ len) :
    RowAt w a k cap (cs.take k) := by
  obtain ⟨h1, h2, h3, h4⟩ := h
  refine ⟨by rw [List.length_take, h1]; omega, by omega, h3, ?_⟩
  rcases h4 with h0 | ⟨b, off, rfl, hc⟩
  · exact .inl (by omega)
  · exact .inr ⟨b, off, rfl, fun i hi => by rw [hc i (by omega), List.getElem?_take_of_lt hi]⟩
theorem RowAt.of_own {w : World} {base : Nat} {e : TypeId} {v : Value} {n : Nat} {xs : List Value} (h : w.ownsRow base e 1 v n xs) :
    ∃ a cap, v = .slice a n cap ∧ RowAt w a n cap xs ∧ (∀ x, a = Option.some x → base ≤ x.block ∧ x.block < w.heap.size) := by
  have hown := h
  obtain ⟨hl, ⟨rfl, rfl⟩ | ⟨g, cap, cur, rfl, hg, hh, hc, hcm, hcs, ht⟩⟩ := h
  · exact ⟨none, 0, rfl, ⟨by simpa using hl, Nat.le_refl _, Nat.zero_le _, .inl rfl⟩, by simp⟩
  · refine ⟨Option.some ⟨g, 0, none⟩, cap, rfl, ⟨by simpa using hl, hc, hcm, .inr ⟨g, 0, rfl, ?_⟩⟩, ?_⟩
    · intro i hi
      rw [Nat.zero_add]
      exact hown.cellAt i (by omega)
    · intro x hx
      obtain rfl := Option.some.inj hx
      exact hown.lt g rfl

/-- the contract of the program's Sum -/
theorem inN_form (R c : Nat) (hR : R < 4294967296) (hc : c < 256) : bits .xor .u32 (R : Int) ((c : Int) * 16777216) = ((inN R c 0 : Nat) : Int) := by
  rw [inN_start R c hc]
  have e : (c : Int) * 16777216 = ((c * 16777216 : Nat) : Int) := by omega
  rw [e, u32_xor_nat _ _ hR (by omega)]
theorem inner_form (R c j : Nat) (hR : R < 4294967296) (hj : j < 8) :
    bits .xor .u32 (((inN R c j : Nat) : Int) * 2 % 4294967296) (((inN R c j : Nat) : Int) / 2147483648 * 1947962583) = ((inN (bitStep R (c / 2 ^ (7 - j) % 2)) c (j + 1) : Nat) : Int) := by
  rw [← inner_step R c j hR hj]
  have h2 := inN_top R c j hR
  generalize inN R c j = S at *
  have e1 : (S : Int) * 2 % 4294967296 = ((S * 2 % 4294967296 : Nat) : Int) := by omega
  have e2 : (S : Int) / 2147483648 * 1947962583 = ((S / 2147483648 * 1947962583 : Nat) : Int) := by omega
  rw [e1, e2, u32_xor_nat _ _ (Nat.mod_lt _ (by decide)) (by omega)]
set_option maxHeartbeats 1000000 in
theorem sum_any (a : Option Addr) (len cap : Nat) (l : List UInt8) (w : World) (h : RowAt w a len cap (cellsB l)) :
    Calls Try.prog 41 #[.slice a len cap] w fun e w' => e = .returned (.int .u32 ((sumL l : Nat) : Int)) ∧ w' = w := by
  have hl : l.length = len := by simpa [cellsB] using h.1
  have hm : len ≤ maxLen := Nat.le_trans h.2.1 h.2.2.1
  unfold maxLen at hm
  have HR : Hid (RowAt w a len cap (cellsB l)) := h
  clear h
  go_enter Try.func41, Try.ntmps41
  go_wp2
  go_loop [3, 9] (fun t i => ∃ k : Nat, k ≤ len ∧ i = .int .i64 k ∧ t = .int .u32 ((reg l (8 * k) : Nat) : Int)) (fun _ i => len - (intOf i).toNat)
  case atStart => exact ⟨0, Nat.zero_le _, rfl, rfl⟩
  case round =>
    obtain ⟨k, hk, rfl, rfl⟩ := hrel
    by_cases hlt : k < len
    · obtain ⟨b, off, rfl, hcell⟩ := HR.out.some (by omega)
      have hc := hcell k hlt
      rw [cellsB_get l k (by omega)] at hc
      clear hcell
      have h1 := reg_lt l (8 * k)
      have h2 := (l.getD k 0).toNat_lt
      have HS : Hid (∀ j, j < 8 → reg l (8 * k + (j + 1)) = bitStep (reg l (8 * k + j)) ((l.getD k 0).toNat / 2 ^ (7 - j) % 2)) := fun j hj => by
        rw [← bitAt_in l k j hj, ← reg_succ]; rfl
      generalize (l.getD k 0).toNat = c at hc h2 HS
      go_wp2
      go_loop [3, 18] (fun t i => ∃ j : Nat, j ≤ 8 ∧ i = .int .i64 j ∧ t = .int .u32 ((inN (reg l (8 * k + j)) c j : Nat) : Int)) (fun _ i => 8 - (intOf i).toNat)
      case atStart =>
        refine ⟨0, by omega, rfl, ?_⟩
        rw [Nat.add_zero]
        rw [inN_form _ _ h1 h2]
      case round =>
        obtain ⟨j, hj, rfl, rfl⟩ := hrel
        by_cases hj8 : j < 8
        · have h3 := reg_lt l (8 * k + j)
          have h4 := inN_lt _ c j h3
          have HF := inner_form _ c j h3 hj8
          rw [← HS.out j hj8] at HF
          go_wp2
          go_round
          case rel =>
            refine ⟨j + 1, by omega, by go_num, ?_⟩
            rfl
          case measure => simp [intOf]; omega
        · obtain rfl : j = 8 := by omega
          go_wp2
          go_round
          case rel => exact ⟨k + 1, by omega, by go_num, by rw [inN_end]; rfl⟩
          case measure => simp [intOf]; omega
    · go_wp2
      go_ret
      obtain rfl : k = len := by omega
      exact ⟨ret_int (by rw [sumL, hl]), rfl⟩
end Go.Proofs.Ytmkmogkhkmlnkaa.Fr
namespace Go.Proofs.Ytmkmogkhkmlnkaa.Fr
open Go.ChangeShapes Go.WideShapes Go.ChangeAt Go.RowKit
theorem info5 : (Try.prog.info? 5).map (fun i => (i.zero, i.size, i.bytes)) = some (some (.int .u8 0), 1, 1) := by kernel_rfl
theorem one_u8 (x : Int) : ∀ u ∈ ([.int .u8 x] : List Value), u.oneCell' = true := by intro u hu; simp at hu; subst hu; rfl
theorem cellsB_one (n : Nat) (b : UInt8) (h : b.toNat = n) : cellsB [b] = [.int .u8 (n : Int)] := by simp [cellsB, h]
theorem or_form (n : Nat) : bits .or .u8 ((n : Int) % 256) 128 = (((n % 128 + 128 : Nat)) : Int) := by
  have h := u8_or_nat (n % 256) 128 (Nat.mod_lt _ (by decide)) (by decide)
  have e : n % 256 ||| 128 = n % 128 + 128 := by
    have : ∀ m, m < 256 → m ||| 128 = m % 128 + 128 := by decide +kernel
    rw [this _ (Nat.mod_lt _ (by decide))]; omega
  rw [e] at h
  rw [← h, Int.natCast_emod]
  rfl

set_option maxHeartbeats 1000000 in
set_option maxRecDepth 20000 in
theorem putCount_any (v : Value) (n0 : Nat) (xs : List Value) (u B : Nat) (w : World) (hu : u < 18446744073709551616) (hB : B ≤ w.heap.size) (hown : w.ownsRow B 5 1 v n0 xs) (hn : n0 ≤ 1000000) :
    Calls Try.prog 55 #[v, .int .u64 (u : Int)] w fun e w' => ∃ v', e = .returned v' ∧ w'.ownsRow B 5 1 v' (n0 + (countL u).length) (xs ++ cellsB (countL u)) ∧ Below B w w' := by
  obtain ⟨i0, hi, hz0, hz1, hz2⟩ := info_parts info5
  have hlen := countL_le10 u hu
  go_enter Try.func55, Try.ntmps55
  go_wp2
  go_loopw [0, 1] (fun x t wr => ∃ (m : Nat) (d : List UInt8), m < 18446744073709551616 ∧ t = .int .u64 (m : Int) ∧ Hid (countL u = d ++ countL m) ∧ wr.ownsRow B 5 1 x (n0 + d.length) (xs ++ cellsB d) ∧ Below B w wr) (fun _ t _ => (intOf t).toNat)
  case atStart => exact ⟨u, [], hu, rfl, rfl, by simpa [cellsB] using hown, Below.refl _ _⟩
  case round =>
    obtain ⟨m, d, hm, rfl, hd, hown', hbel⟩ := hrel
    have hdl : d.length ≤ 10 := by have := congrArg List.length hd.out; rw [List.length_append] at this; omega
    have hs := hbel.size
    have hs' : B ≤ wr.heap.size := Nat.le_trans hB hs
    by_cases hlt : m < 128
    · have HE : Hid (countL u = d ++ [UInt8.ofNat m]) := by
        show _ = _
        rw [hd.out, countL_small m hlt]
      clear hlen
      go_wp2_with (at_builtin; refine wpList_append_own _ rfl (.tmp 15) (.tmp 18) 39 rfl B 5 i0 (.int .u8 0) 1 1 Try.underlying39 hi hz0 hz1 hz2 rfl (by decide) _ _ _ rfl (hown'.alloc _) ⟨wr.heap.size, 0, none⟩ 1 1 [.int .u8 (m : Int)] rfl rfl (cell_one_new _ _ _) (one_u8 _) (by unfold maxLen; omega) (by omega) (by simp; omega) ?_)
      intro v' w1 hown2 hgrow _
      go_wp2
      go_ret
      refine ⟨_, rfl, ?_, (hbel.alloc hs' _).grown hgrow (by simp; omega) (fun k hk => (hown'.lt k hk).1)⟩
      rw [HE.out, List.length_append, cellsB_append, cellsB_one m _ (toNat_small m hlt), ← Nat.add_assoc]
      simpa using hown2
    · have HE : Hid (countL u = (d ++ [UInt8.ofNat (m % 128 + 128)]) ++ countL (m / 128)) := by
        show _ = _
        rw [hd.out, countL_big m hlt]
        simp
      have hof := or_form m
      have hcb := cellsB_one (m % 128 + 128) _ (toNat_big m)
      have hq : Hid ((m : Int) / 128 = ((m / 128 : Nat) : Int)) := by show _ = _; omega
      have hq2 : m / 128 < m := by omega
      have HCB : Hid (cellsB [UInt8.ofNat (m % 128 + 128)] = [.int .u8 ((m % 128 + 128 : Nat) : Int)]) := hcb
      clear hlen hcb
      generalize UInt8.ofNat (m % 128 + 128) = c8 at *
      generalize m % 128 + 128 = c at *
      generalize m / 128 = q at *
      go_wp2_with (at_builtin; refine wpList_append_own _ rfl (.tmp 7) (.tmp 11) 39 rfl B 5 i0 (.int .u8 0) 1 1 Try.underlying39 hi hz0 hz1 hz2 rfl (by decide) _ _ _ rfl (hown'.alloc _) ⟨wr.heap.size, 0, none⟩ 1 1 [.int .u8 (c : Int)] rfl rfl (cell_one_new _ _ _) (one_u8 _) (by unfold maxLen; omega) (by omega) (by simp; omega) ?_)
      intro v' w1 hown2 hgrow _
      go_wp2
      go_roundw
      case rel =>
        refine ⟨q, d ++ [c8], by omega, ?_, HE.out, ?_, (hbel.alloc hs' _).grown hgrow (by simp; omega) (fun k hk => (hown'.lt k hk).1)⟩
        · rw [hq.out]
        · rw [List.length_append, cellsB_append, HCB.out, ← Nat.add_assoc]
          simpa using hown2
      case measure => simp [intOf]; omega
theorem own_below {w w' : World} {base s n : Nat} {e : TypeId} {v : Value} {xs : List Value} (h : w.ownsRow base e s v n xs) (hb : Below w.heap.size w w') : w'.ownsRow base e s v n xs := by
  have hlt := h.lt
  obtain ⟨hl, h | ⟨g, cap, cur, rfl, hg, hh, r⟩⟩ := h
  · exact ⟨hl, .inl h⟩
  · exact ⟨hl, .inr ⟨g, cap, cur, rfl, hg, (hb.block g (hlt g rfl).2).trans hh, r⟩⟩
theorem own_form {w : World} {base n : Nat} {e : TypeId} {v : Value} {xs : List Value} (h : w.ownsRow base e 1 v n xs) (h0 : 0 < n) :
    ∃ g cap, v = .slice (some ⟨g, 0, none⟩) n cap ∧ base ≤ g ∧ g < w.heap.size ∧ ∀ j u, xs[j]? = some u → w.cell? ((⟨g, 0, none⟩ : Addr).add j) = some u := by
  have hown := h
  obtain ⟨hl, ⟨_, h⟩ | ⟨g, cap, cur, rfl, hg, hh, r⟩⟩ := h
  · omega
  · exact ⟨g, cap, rfl, hg, (hown.lt g rfl).2, hown.cells rfl⟩
theorem one_cellsB (l : List UInt8) : ∀ u ∈ cellsB l, u.oneCell' = true := by
  intro u hu
  simp only [cellsB, List.mem_map] at hu
  obtain ⟨b, _, rfl⟩ := hu
  rfl

theorem frameCount_any (n : Nat) (w : World) (hn : n < 9223372036854775808) :
    Calls Try.prog 39 #[.int .i64 (n : Int)] w fun e w' => ∃ v', e = .returned v' ∧ w'.ownsRow w.heap.size 5 1 v' (countL n).length (cellsB (countL n)) ∧ Below w.heap.size w w' := by
  go_enter Try.func39, Try.ntmps39
  go_wp2_with (go_at_call 55; refine (putCount_any _ 0 [] n w.heap.size _ (by omega) (Nat.le_refl _) (World.ownsRow_nil _ _ _ _) (by omega)).mono ?_; rintro e w1 ⟨v', rfl, hown, hbel⟩)
  go_ret
  exact ⟨_, rfl, by simpa using hown, hbel⟩
theorem putCount_z (v : Value) (n0 : Nat) (xs : List Value) (z : Int) (u B : Nat) (w : World) (hz : z = (u : Int)) (hu : u < 18446744073709551616) (hB : B ≤ w.heap.size) (hown : w.ownsRow B 5 1 v n0 xs) (hn : n0 ≤ 1000000) :
    Calls Try.prog 55 #[v, .int .u64 z] w fun e w' => ∃ v', e = .returned v' ∧ w'.ownsRow B 5 1 v' (n0 + (countL u).length) (xs ++ cellsB (countL u)) ∧ Below B w w' := by
  subst hz; exact putCount_any v n0 xs u B w hu hB hown hn
theorem neg_form (x : Int) (h1 : -9223372036854775808 ≤ x) (h2 : x < 0) :
    bits .xor .u64 IntKind.u64.max (IntKind.u64.wrap (IntKind.u64.wrap x * 2)) = ((-2 * x - 1).toNat : Int) := by
  rw [Go.Lib.zigzag_neg h1 h2, Go.Lib.zigzag, if_neg (by omega)]
theorem putNumber_any (v : Value) (n0 : Nat) (xs : List Value) (x : Int) (B : Nat) (w : World) (hx : Is64 x) (hB : B ≤ w.heap.size) (hown : w.ownsRow B 5 1 v n0 xs) (hn : n0 ≤ 1000000) :
    Calls Try.prog 63 #[v, .int .i64 x] w fun e w' => ∃ v', e = .returned v' ∧ w'.ownsRow B 5 1 v' (n0 + (countL (numberN x)).length) (xs ++ cellsB (countL (numberN x))) ∧ Below B w w' := by
  obtain ⟨h1, h2⟩ := hx
  have hN := numberN_lt ⟨h1, h2⟩
  have hd : Hid (numberN x = if 0 ≤ x then (2 * x).toNat else (-2 * x - 1).toNat) := rfl
  generalize numberN x = N at *
  by_cases h0 : 0 ≤ x
  · have hd' := hd.out
    rw [if_pos h0] at hd'
    go_enter Try.func63, Try.ntmps63
    go_wp2_with (go_at_call 55; refine (putCount_z _ _ _ _ N B _ (by omega) hN hB hown hn).mono ?_; rintro e w1 ⟨v', rfl, hown', hbel⟩)
    go_ret
    exact ⟨_, rfl, hown', hbel⟩
  · have hd' := hd.out
    rw [if_neg h0] at hd'
    have HN : Hid (bits .xor .u64 IntKind.u64.max (IntKind.u64.wrap (IntKind.u64.wrap x * 2)) = (N : Int)) := by
      show _ = _
      rw [neg_form x h1 (by omega), hd']
    clear hd'
    go_enter Try.func63, Try.ntmps63
    go_wp2_with (go_at_call 55; refine (putCount_z _ _ _ _ N B _ HN.out hN hB hown hn).mono ?_; rintro e w1 ⟨v', rfl, hown', hbel⟩)
    go_ret
    exact ⟨_, rfl, hown', hbel⟩
end Go.Proofs.Ytmkmogkhkmlnkaa.Fr
namespace Go.Proofs.Ytmkmogkhkmlnkaa.Fr
open Go.ChangeShapes Go.WideShapes Go.ChangeAt Go.RowKit
theorem getD_mem {α : Type} (l : List α) (d : α) (k : Nat) (h : k < l.length) : l.getD k d ∈ l := by
  rw [List.getD_eq_getElem?_getD, List.getElem?_eq_getElem h, Option.getD_some]; exact List.getElem_mem h
theorem take_getD {α : Type} (l : List α) (d : α) (k : Nat) (h : k < l.length) : l.take (k + 1) = l.take k ++ [l.getD k d] := by
  rw [List.take_succ_eq_append_getElem h, List.getD_eq_getElem?_getD, List.getElem?_eq_getElem h, Option.getD_some]
theorem numsL_take (l : List Int) (k : Nat) (h : k < l.length) : numsL (l.take (k + 1)) = numsL (l.take k) ++ countL (numberN (l.getD k 0)) := by
  rw [take_getD l 0 k h, numsL_snoc]
theorem textsL_take (l : List ByteArray) (k : Nat) (h : k < l.length) : textsL (l.take (k + 1)) = textsL (l.take k) ++ textL (l.getD k ByteArray.empty) := by
  rw [take_getD l ByteArray.empty k h, textsL_snoc]
theorem numsL_le (l : List Int) (k : Nat) : (numsL (l.take k)).length ≤ (numsL l).length := by
  conv => rhs; rw [← List.take_append_drop k l, numsL_append, List.length_append]
  omega
theorem textsL_le (l : List ByteArray) (k : Nat) : (textsL (l.take k)).length ≤ (textsL l).length := by
  conv => rhs; rw [← List.take_append_drop k l, textsL_append, List.length_append]
  omega

/-- behind a call that lays L behind xs: it is laid, or it is too long -/
def PutPost (B : Nat) (w : World) (n0 : Nat) (xs : List Value) (L : List UInt8) (e : Ending) (w' : World) : Prop :=
  Below B w w' ∧ ((∃ v', e = .returned (.tuple #[v', .bool true]) ∧ w'.ownsRow B 5 1 v' (n0 + L.length) (xs ++ cellsB L) ∧ n0 + L.length ≤ 4096) ∨
    (∃ v', e = .returned (.tuple #[v', .bool false]) ∧ 4096 < n0 + L.length))
theorem putPost_ok {B : Nat} {w : World} {n0 : Nat} {xs : List Value} {L : List UInt8} {w' : World} {v' : Value} {q : Bool} (h1 : Below B w w') (hq : q = true) (h2 : w'.ownsRow B 5 1 v' (n0 + L.length) (xs ++ cellsB L)) (h3 : n0 + L.length ≤ 4096) :
    PutPost B w n0 xs L (.returned (.tuple #[v', .bool q])) w' := by subst hq; exact ⟨h1, .inl ⟨_, rfl, h2, h3⟩⟩
theorem putPost_bad {B : Nat} {w : World} {n0 : Nat} {xs : List Value} {L : List UInt8} {w' : World} {v' : Value} {q : Bool} (h1 : Below B w w') (hq : q = false) (h3 : 4096 < n0 + L.length) :
    PutPost B w n0 xs L (.returned (.tuple #[v', .bool q])) w' := by subst hq; exact ⟨h1, .inr ⟨_, rfl, h3⟩⟩

set_option maxHeartbeats 2000000 in
set_option maxRecDepth 20000 in
theorem putNums_any (v : Value) (n0 : Nat) (xs : List Value) (a : Option Addr) (len cap : Nat) (nums : List Int) (B : Nat) (w : World) (hB : B ≤ w.heap.size) (hown : w.ownsRow B 5 1 v n0 xs) (hn : n0 ≤ 4000)
    (hrow : ∀ w', Below B w w' → RowAt w' a len cap (cellsI nums)) (h64 : ∀ x ∈ nums, Is64 x) (L : List UInt8) (hL : Hid (L = countL nums.length ++ numsL nums)) :
    Calls Try.prog 53 #[v, .slice a len cap] w fun e w' => PutPost B w n0 xs L e w' := by
  have hr0 := hrow w (Below.refl _ _)
  have hl : nums.length = len := by simpa [cellsI] using hr0.1
  have hm : len ≤ maxLen := Nat.le_trans hr0.2.1 hr0.2.2.1
  unfold maxLen at hm
  have HR : Hid (∀ w', Below B w w' → RowAt w' a len cap (cellsI nums)) := hrow
  clear hrow hr0
  have hc10 := countL_le10 len (by omega)
  generalize hC : countL len = C at *
  have HC : Hid (countL len = C) := hC
  have HL : Hid (L = C ++ numsL nums) := by show _ = _; rw [hL.out, hl, hC]
  clear hC hL
  go_enter Try.func53, Try.ntmps53
  go_wp2_with (go_at_call 55; refine (putCount_z _ n0 xs _ len B _ (by omega) (by omega) hB hown (by omega)).mono ?_; rintro e w1 ⟨v1, rfl, hown1, hbel1⟩)
  rw [HC.out] at hown1
  go_loopw [0, 15] (fun x i wr => ∃ k : Nat, k ≤ len ∧ i = .int .i64 k ∧ n0 + (C ++ numsL (nums.take k)).length ≤ 4096 ∧ wr.ownsRow B 5 1 x (n0 + (C ++ numsL (nums.take k)).length) (xs ++ cellsB (C ++ numsL (nums.take k))) ∧ Below B w wr) (fun _ i _ => len - (intOf i).toNat)
  case atStart => exact ⟨0, Nat.zero_le _, rfl, by simp [numsL]; omega, by simpa [numsL] using hown1, hbel1⟩
  case round =>
    obtain ⟨k, hk, rfl, hle, hown', hbel⟩ := hrel
    have hs' : B ≤ wr.heap.size := Nat.le_trans hB hbel.size
    by_cases hlt : k < len
    · have hr := HR.out wr hbel
      obtain ⟨b, off, rfl, hcell⟩ := hr.some (by omega)
      have hc := hcell k hlt
      rw [cellsI_get nums k (by omega)] at hc
      have h6 := h64 _ (getD_mem nums 0 k (by omega))
      have HT : Hid (C ++ numsL (nums.take (k + 1)) = (C ++ numsL (nums.take k)) ++ countL (numberN (nums.getD k 0))) := by
        show _ = _
        rw [numsL_take nums k (by omega), List.append_assoc]
      clear hcell hr
      generalize nums.getD k 0 = x at *
      have HE : Hid ((C ++ numsL (nums.take (k + 1))).length = (C ++ numsL (nums.take k)).length + (countL (numberN x)).length) := by
        show _ = _
        rw [HT.out, List.length_append]
      have hX := countL_le10 _ (numberN_lt h6)
      generalize C ++ numsL (nums.take k) = D at *
      go_wp2_with (go_at_call 63; refine (putNumber_any _ _ _ x B _ h6 hs' hown' (by omega)).mono ?_; rintro e w2 ⟨v2, rfl, hown2, hbel2⟩; obtain ⟨a2, cap2, rfl, hrow2, hlow2⟩ := RowAt.of_own hown2)
      · go_returns
        refine putPost_bad (hbel.trans hbel2) rfl ?_
        have h1 := HE.out
        have h2 := numsL_le nums (k + 1)
        rw [HL.out]
        rw [List.length_append] at h1 ⊢
        omega
      · refine ⟨⟨k + 1, by omega, by go_num, ?_, ?_, hbel.trans hbel2⟩, by simp [intOf]; omega⟩
        · rw [HE.out]; omega
        · rw [HT.out, List.length_append, cellsB_append, ← Nat.add_assoc, ← List.append_assoc]
          simpa using hown2
    · go_wp2
      go_returns
      obtain rfl : k = len := by omega
      rw [List.take_of_length_le (by omega), ← HL.out] at hown' hle
      exact putPost_ok hbel rfl hown' hle

theorem strCells_eq (x : ByteArray) : Go.Lib.strCells x = cellsB x.data.toList := by
  simp [Go.Lib.strCells, cellsB]
set_option maxHeartbeats 2000000 in
set_option maxRecDepth 20000 in
theorem putTexts_any (v : Value) (n0 : Nat) (xs : List Value) (a : Option Addr) (len cap : Nat) (texts : List ByteArray) (B : Nat) (w : World) (hB : B ≤ w.heap.size) (hown : w.ownsRow B 5 1 v n0 xs) (hn : n0 ≤ 4096)
    (hrow : ∀ w', Below B w w' → RowAt w' a len cap (cellsT texts)) (h64 : ∀ x ∈ texts, x.size ≤ maxLen) (L : List UInt8) (hL : Hid (L = countL texts.length ++ textsL texts)) :
    Calls Try.prog 54 #[v, .slice a len cap] w fun e w' => PutPost B w n0 xs L e w' := by
  obtain ⟨i0, hi, hz0, hz1, hz2⟩ := info_parts info5
  have hr0 := hrow w (Below.refl _ _)
  have hl : texts.length = len := by simpa [cellsT] using hr0.1
  have hm : len ≤ maxLen := Nat.le_trans hr0.2.1 hr0.2.2.1
  unfold maxLen at hm
  have HR : Hid (∀ w', Below B w w' → RowAt w' a len cap (cellsT texts)) := hrow
  clear hrow hr0
  have hc10 := countL_le10 len (by omega)
  generalize hC : countL len = C at *
  have HC : Hid (countL len = C) := hC
  have HL : Hid (L = C ++ textsL texts) := by show _ = _; rw [hL.out, hl, hC]
  clear hC hL
  go_enter Try.func54, Try.ntmps54
  go_wp2_with (go_at_call 55; refine (putCount_z _ n0 xs _ len B _ (by omega) (by omega) hB hown (by omega)).mono ?_; rintro e w1 ⟨v1, rfl, hown1, hbel1⟩)
  rw [HC.out] at hown1
  go_loopw [0, 15] (fun x i wr => ∃ k : Nat, k ≤ len ∧ i = .int .i64 k ∧ n0 + (C ++ textsL (texts.take k)).length ≤ 4106 ∧ wr.ownsRow B 5 1 x (n0 + (C ++ textsL (texts.take k)).length) (xs ++ cellsB (C ++ textsL (texts.take k))) ∧ Below B w wr) (fun _ i _ => len - (intOf i).toNat)
  case atStart => exact ⟨0, Nat.zero_le _, rfl, by simp [textsL]; omega, by simpa [textsL] using hown1, hbel1⟩
  case round =>
    obtain ⟨k, hk, rfl, hle, hown', hbel⟩ := hrel
    have hs' : B ≤ wr.heap.size := Nat.le_trans hB hbel.size
    by_cases hlt : k < len
    · have hr := HR.out wr hbel
      obtain ⟨b, off, rfl, hcell⟩ := hr.some (by omega)
      have hc := hcell k hlt
      rw [cellsT_get texts k (by omega)] at hc
      have h6 := h64 _ (getD_mem texts ByteArray.empty k (by omega))
      have HT : Hid (C ++ textsL (texts.take (k + 1)) = (C ++ textsL (texts.take k)) ++ textL (texts.getD k ByteArray.empty)) := by
        show _ = _
        rw [textsL_take texts k (by omega), List.append_assoc]
      clear hcell hr
      generalize texts.getD k ByteArray.empty = x at *
      have HE : Hid ((C ++ textsL (texts.take (k + 1))).length = (C ++ textsL (texts.take k)).length + ((countL x.size).length + x.size)) := by
        show _ = _
        rw [HT.out, List.length_append, textL, List.length_append]; simp
      unfold maxLen at h6
      have hX := countL_le10 x.size (by omega)
      have h2 := textsL_le texts (k + 1)
      have HF : Hid (4096 < n0 + (C ++ textsL (texts.take k)).length + ((countL x.size).length + x.size) → 4096 < n0 + L.length) := by
        intro h3
        have h1 := HE.out
        rw [HL.out]
        rw [List.length_append] at h1 ⊢
        omega
      clear h2
      generalize C ++ textsL (texts.take k) = D at *
      by_cases hbig : 4096 < n0 + D.length + ((countL x.size).length + x.size)
      · have hbig' : 4096 < (n0 : Int) + (D.length : Int) + ((countL x.size).length : Int) ∨ (4096 : Int) - ((n0 : Int) + (D.length : Int) + ((countL x.size).length : Int)) < (x.size : Int) := by omega
        rcases hbig' with hb | hb
        all_goals go_wp2_with (go_at_call 55; refine (putCount_z _ _ _ _ x.size B _ (by omega) (by omega) hs' hown' (by omega)).mono ?_; rintro e w2 ⟨v2, rfl, hown2, hbel2⟩; obtain ⟨a2, cap2, rfl, hrow2, hlow2⟩ := RowAt.of_own hown2)
        all_goals go_returns
        all_goals exact putPost_bad (hbel.trans hbel2) rfl (HF.out hbig)
      · have hb1 : ¬ 4096 < (n0 : Int) + (D.length : Int) + ((countL x.size).length : Int) := by omega
        have hb2 : ¬ (4096 : Int) - ((n0 : Int) + (D.length : Int) + ((countL x.size).length : Int)) < (x.size : Int) := by omega
        go_wp2_with (first
          | (go_at_call 55; refine (putCount_z _ _ _ _ x.size B _ (by omega) (by omega) hs' hown' (by omega)).mono ?_; rintro e w2 ⟨v2, rfl, hown2, hbel2⟩; obtain ⟨a2, cap2, rfl, hrow2, hlow2⟩ := RowAt.of_own hown2)
          | (at_builtin; refine Go.Lib.wpList_append_own_string _ rfl (.tmp 35) (.tmp 36) 39 9 rfl B 5 i0 Try.underlying39 Try.underlying9 hi hz0 hz1 hz2 _ _ _ rfl hown2 x rfl (by unfold maxLen; omega) (by omega) (Nat.le_trans hs' hbel2.size) ?_))
        intro v3 w3 hown3 hgrow _
        rw [strCells_eq] at hown3
        go_wp2
        go_roundw
        case rel =>
          refine ⟨k + 1, by omega, by go_num, ?_, ?_, (hbel.trans hbel2).grown hgrow (Nat.le_trans hs' hbel2.size) (fun k hk => (hown2.lt k hk).1)⟩
          · rw [HE.out]; omega
          · rw [HE.out, HT.out, textL]
            simp only [cellsB_append, ← Nat.add_assoc, ← List.append_assoc] at hown3 ⊢
            exact hown3
        case measure => simp [intOf]; omega
    · obtain rfl : k = len := by omega
      rw [List.take_of_length_le (by omega), ← HL.out] at hown' hle
      obtain ⟨a0, cap0, rfl, hrow0, hlow0⟩ := RowAt.of_own hown'
      go_wp2
      go_returns
      by_cases hbig : n0 + L.length ≤ 4096
      · exact putPost_ok hbel (by simp; omega) hown' hbig
      · exact putPost_bad hbel (by simp; omega) (by omega)
end Go.Proofs.Ytmkmogkhkmlnkaa.Fr
namespace Go.Proofs.Ytmkmogkhkmlnkaa.Fr
open Go.ChangeShapes Go.WideShapes Go.ChangeAt Go.RowKit
theorem own_mono {w : World} {base base' s n : Nat} {e : TypeId} {v : Value} {xs : List Value} (h : w.ownsRow base e s v n xs) (hb : base' ≤ base) : w.ownsRow base' e s v n xs := by
  obtain ⟨hl, h | ⟨g, cap, cur, rfl, hg, r⟩⟩ := h
  · exact ⟨hl, .inl h⟩
  · exact ⟨hl, .inr ⟨g, cap, cur, rfl, Nat.le_trans hb hg, r⟩⟩
/-- data as a value -/
def DataAt (w : World) (v : Value) (nums : List Int) (texts : List ByteArray) : Prop :=
  ∃ a1 n1 c1 a2 n2 c2, v = .agg #[.slice a1 n1 c1, .slice a2 n2 c2] ∧ RowAt w a1 n1 c1 (cellsI nums) ∧ RowAt w a2 n2 c2 (cellsT texts) ∧ (∀ x ∈ nums, Is64 x) ∧ ∀ t ∈ texts, t.size ≤ maxLen
theorem DataAt.below {w w' : World} {v : Value} {nums : List Int} {texts : List ByteArray} (h : DataAt w v nums texts) (hb : Below w.heap.size w w') : DataAt w' v nums texts := by
  obtain ⟨a1, n1, c1, a2, n2, c2, e, h1, h2, h3, h4⟩ := h
  exact ⟨a1, n1, c1, a2, n2, c2, e, h1.below hb, h2.below hb, h3, h4⟩
/-- behind Encode -/
def EncPost (B : Nat) (w : World) (L : List UInt8) (e : Ending) (w' : World) : Prop :=
  Below B w w' ∧ ((∃ v', e = .returned (.tuple #[v', .int .i64 0]) ∧ w'.ownsRow B 5 1 v' L.length (cellsB L) ∧ L.length ≤ 4096) ∨ (e = .returned (.tuple #[.slice none 0 0, .int .i64 4]) ∧ 4096 < L.length))

set_option maxHeartbeats 2000000 in
set_option maxRecDepth 20000 in
theorem encode_any (v : Value) (nums : List Int) (texts : List ByteArray) (w : World) (h : DataAt w v nums texts) (L : List UInt8) (hL : Hid (L = bytesL nums texts)) :
    Calls Try.prog 38 #[v] w fun e w' => EncPost w.heap.size w L e w' := by
  obtain ⟨a1, n1, c1, a2, n2, c2, rfl, h1, h2, h3, h4⟩ := h
  have H1 : Hid (RowAt w a1 n1 c1 (cellsI nums)) := h1
  have H2 : Hid (RowAt w a2 n2 c2 (cellsT texts)) := h2
  clear h1 h2
  obtain ⟨M, hM⟩ : ∃ M, Hid (M = countL nums.length ++ numsL nums) := ⟨_, rfl⟩
  obtain ⟨T, hT⟩ : ∃ M, Hid (M = countL texts.length ++ textsL texts) := ⟨_, rfl⟩
  have hLM : Hid (L = M ++ T) := by show _ = _; rw [hL.out, hM.out, hT.out, bytesL]; simp
  go_enter Try.func38, Try.ntmps38
  go_wp2_with fail
  have B0 : Below w.heap.size w (w.alloc (.cells #[.slice a1 n1 c1, .slice a2 n2 c2] 38)) := (Below.refl _ _).alloc (Nat.le_refl _) _
  generalize hw1 : w.alloc (.cells #[.slice a1 n1 c1, .slice a2 n2 c2] 38) = w1 at *
  have hc1 : w1.cell? ⟨w.heap.size, 1, none⟩ = some (.slice a2 n2 c2) := by rw [← hw1]; simp
  have hs1 : w.heap.size + 1 = w1.heap.size := by rw [← hw1]; simp
  clear hw1
  refine (putNums_any _ 0 [] a1 n1 c1 nums w1.heap.size _ (Nat.le_refl _) (World.ownsRow_nil _ _ _ _) (by omega) (fun w' hb => H1.out.below (B0.trans (hb.mono (by omega)))) h3 M hM).mono ?_
  rintro e w2 ⟨hb2, ⟨v2, rfl, hown2, hle2⟩ | ⟨v2, rfl, hgt2⟩⟩
  · have hc2 : w2.cell? ⟨w.heap.size, 1, none⟩ = some (.slice a2 n2 c2) := (hb2.cell (p := ⟨w.heap.size, 1, none⟩) (by show w.heap.size < _; omega)).trans hc1
    go_wp2_with fail
    refine (putTexts_any _ _ _ a2 n2 c2 texts w1.heap.size _ hb2.size hown2 hle2 (fun w' hb => H2.out.below (B0.trans ((hb2.trans hb).mono (by omega)))) h4 T hT).mono ?_
    rintro e w3 ⟨hb3, ⟨v3, rfl, hown3, hle3⟩ | ⟨v3, rfl, hgt3⟩⟩
    · go_wp2
      go_returns
      refine ⟨B0.trans ((hb2.trans hb3).mono (by omega)), .inl ⟨_, rfl, ?_, ?_⟩⟩
      · rw [hLM.out, List.length_append, cellsB_append]
        simp at hown3
        exact own_mono hown3 (by omega)
      · rw [hLM.out, List.length_append]; omega
    · go_wp2
      go_returns
      refine ⟨B0.trans ((hb2.trans hb3).mono (by omega)), .inr ⟨rfl, ?_⟩⟩
      rw [hLM.out, List.length_append]; omega
  · go_wp2
    go_returns
    refine ⟨B0.trans (hb2.mono (by omega)), .inr ⟨rfl, ?_⟩⟩
    rw [hLM.out, List.length_append]; omega

/-- a text of bytes -/
def txt (l : List UInt8) : ByteArray := ⟨l.toArray⟩
theorem txt_list (l : List UInt8) : (txt l).data.toList = l := by simp [txt]
theorem txt_size (l : List UInt8) : (txt l).size = l.length := by simp [txt, ByteArray.size]
theorem txt_inj {l m : List UInt8} (h : txt l = txt m) : l = m := by rw [← txt_list l, h, txt_list]
theorem text_of {w : World} {a : Option Addr} {len cap : Nat} {l : List UInt8} (h : RowAt w a len cap (cellsB l)) : (convert 39 9 (.slice a len cap)).run Try.prog w = .ok (.string (txt l)) w := by
  have hl : l.length = len := by simpa [cellsB] using h.1
  by_cases h0 : len = 0
  · subst h0
    obtain rfl : l = [] := List.length_eq_zero_iff.1 hl
    rw [run_convert_bytes_string w 39 9 5 a 0 cap Try.underlying39 Try.underlying5 Try.underlying9]
    cases a with
    | none => simp [Conv.bytesToString, txt]; rfl
    | some x =>
      have := run_convert_bytes_back (P := Try.prog) w 39 9 5 x cap [] Try.underlying39 Try.underlying5 Try.underlying9 (by intro j hj; simp at hj)
      rw [run_convert_bytes_string w 39 9 5 (some x) _ cap Try.underlying39 Try.underlying5 Try.underlying9] at this
      exact this
  · obtain ⟨b, off, rfl, hc⟩ := h.some (by omega)
    rw [← hl]
    refine run_convert_bytes_back (P := Try.prog) w 39 9 5 ⟨b, off, none⟩ cap l Try.underlying39 Try.underlying5 Try.underlying9 ?_
    intro j hj
    rw [addr_add, hc j (by omega), cellsB_get l j hj]
    simp [hj]
end Go.Proofs.Ytmkmogkhkmlnkaa.Fr
namespace Go.Proofs.Ytmkmogkhkmlnkaa.Fr
open Go.ChangeShapes Go.WideShapes Go.ChangeAt Go.RowKit
/-- what a row of one's own reads as, in every later world -/
theorem text_own {w : World} {base n : Nat} {v : Value} {l : List UInt8} (h : w.ownsRow base 5 1 v n (cellsB l)) :
    ∃ a cap, v = .slice a n cap ∧ (convert 39 9 (.slice a n cap)).run Try.prog w = .ok (.string (txt l)) w ∧ (∀ w', Below w.heap.size w w' → (convert 39 9 (.slice a n cap)).run Try.prog w' = .ok (.string (txt l)) w') ∧ n = l.length := by
  obtain ⟨a, cap, rfl, hr, _⟩ := RowAt.of_own h
  exact ⟨a, cap, rfl, text_of hr, fun w' hb => text_of (hr.below hb), by have := hr.1; rw [cellsB_length] at this; exact this.symm⟩
theorem below_drew (w : World) : Below w.heap.size w w.drew := (Below.refl _ _).drew
theorem below2 {a b c : World} (h1 : Below a.heap.size a b) (h2 : Below b.heap.size b c) : Below a.heap.size a c := h1.trans (h2.mono h1.size)
theorem below3 {a b c d : World} (h1 : Below a.heap.size a b) (h2 : Below b.heap.size b c) (h3 : Below c.heap.size c d) : Below a.heap.size a d := below2 h1 (below2 h2 h3)
end Go.Proofs.Ytmkmogkhkmlnkaa.Fr
