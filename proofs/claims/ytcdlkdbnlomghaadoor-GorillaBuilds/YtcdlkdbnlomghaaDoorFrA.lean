/-
  Rows of cells, read and owned; the contracts of both Sums: any bytes' sum.
-/
import Derived.Test.YtcdlkdbnlomghaaDoorRows
import Derived.Test.YtcdlkdbnlomghaaDoorFrPlain
import Derived.Test.YtcdlkdbnlomghaaDoorFrSums
import Derived.WalkKit
import Derived.WalkSpells
import Derived.ProofKit
import Derived.OpenShut
import Derived.Below
import Derived.Laws.IdiomStrings
import Derived.Lib.AppendStr
namespace Go.Proofs.YtcdlkdbnlomghaaDoor.Fr
open Go.ChangeShapes Go.WideShapes Go.ChangeAt Go.RowKit
theorem ret_int {k : IntKind} {a b : Int} (h : a = b) : Ending.returned (.int k a) = .returned (.int k b) := by rw [h]
theorem int_of {k : IntKind} {a b : Int} (h : a = b) : Value.int k a = .int k b := by rw [h]
theorem addr_add (b off i : Nat) : (⟨b, off, none⟩ : Addr).add i = ⟨b, off + i, none⟩ := by
  by_cases h : i = 0
  · subst h; simp [Addr.add]
  · simp [Addr.add, h]
/-- bytes, numbers, texts as cells -/
def cellsB (l : List UInt8) : List Value := l.map fun b : UInt8 => Value.int .u8 (b.toNat : Int)
def cellsI (l : List Int) : List Value := l.map fun x : Int => Value.int .i64 x
def cellsT (l : List ByteArray) : List Value := l.map Value.string
theorem cellsB_length (l : List UInt8) : (cellsB l).length = l.length := by simp [cellsB]
theorem cellsI_length (l : List Int) : (cellsI l).length = l.length := by simp [cellsI]
theorem cellsT_length (l : List ByteArray) : (cellsT l).length = l.length := by simp [cellsT]
theorem cellsB_append (l m : List UInt8) : cellsB (l ++ m) = cellsB l ++ cellsB m := by simp [cellsB]
theorem cellsI_append (l m : List Int) : cellsI (l ++ m) = cellsI l ++ cellsI m := by simp [cellsI]
theorem cellsT_append (l m : List ByteArray) : cellsT (l ++ m) = cellsT l ++ cellsT m := by simp [cellsT]
theorem cellsB_get (l : List UInt8) (i : Nat) (h : i < l.length) : (cellsB l)[i]? = some (.int .u8 ((l.getD i 0).toNat : Int)) := by simp [cellsB, h]
theorem cellsI_get (l : List Int) (i : Nat) (h : i < l.length) : (cellsI l)[i]? = some (.int .i64 (l.getD i 0)) := by simp [cellsI, h]
theorem cellsT_get (l : List ByteArray) (i : Nat) (h : i < l.length) : (cellsT l)[i]? = some (.string (l.getD i ByteArray.empty)) := by simp [cellsT, h]
theorem cellsB_drop (l : List UInt8) (k : Nat) : (cellsB l).drop k = cellsB (l.drop k) := by simp [cellsB, List.map_drop]
theorem cellsB_take (l : List UInt8) (k : Nat) : (cellsB l).take k = cellsB (l.take k) := by simp [cellsB, List.map_take]

/-- a slice value whose cells, up to its length, are these -/
def RowAt (w : World) (a : Option Addr) (len cap : Nat) (cs : List Value) : Prop :=
  cs.length = len ∧ len ≤ cap ∧ cap ≤ maxLen ∧ (len = 0 ∨ ∃ b off, a = some ⟨b, off, none⟩ ∧ ∀ i, i < len → w.cell? ⟨b, off + i, none⟩ = cs[i]?)
theorem rowAt_nil (w : World) : RowAt w none 0 0 [] := ⟨rfl, Nat.le_refl _, Nat.zero_le _, .inl rfl⟩
theorem RowAt.some {w : World} {a : Option Addr} {len cap : Nat} {cs : List Value} (h : RowAt w a len cap cs) (h0 : 0 < len) :
    ∃ b off, a = some ⟨b, off, none⟩ ∧ ∀ i, i < len → w.cell? ⟨b, off + i, none⟩ = cs[i]? := by
  rcases h.2.2.2 with h | h
  · omega
  · exact h
theorem RowAt.below {w w' : World} {a : Option Addr} {len cap : Nat} {cs : List Value} (h : RowAt w a len cap cs) (hb : Below w.heap.size w w') : RowAt w' a len cap cs := by
  refine ⟨h.1, h.2.1, h.2.2.1, ?_⟩
  rcases h.2.2.2 with h0 | ⟨b, off, e, hc⟩
  · exact .inl h0
  · refine .inr ⟨b, off, e, fun i hi => ?_⟩
    have hl : i < cs.length := by rw [h.1]; exact hi
    have hx := hc i hi
    rw [List.getElem?_eq_getElem hl] at hx
    have hlt : b < w.heap.size := World.block_lt_of_cell? w ⟨b, off + i, none⟩ hx
    exact (hb.cell (p := ⟨b, off + i, none⟩) hlt).trans (hc i hi)
theorem RowAt.low {B : Nat} {w w' : World} {a : Option Addr} {len cap : Nat} {cs : List Value} (h : RowAt w a len cap cs) (hb : Below B w w') (hl : ∀ x, a = Option.some x → x.block < B) : RowAt w' a len cap cs := by
  refine ⟨h.1, h.2.1, h.2.2.1, ?_⟩
  rcases h.2.2.2 with h0 | ⟨b, off, e, hc⟩
  · exact .inl h0
  · exact .inr ⟨b, off, e, fun i hi => (hb.cell (p := ⟨b, off + i, none⟩) (by have := hl _ e; exact this)).trans (hc i hi)⟩
/-- from a place on -/
theorem RowAt.drop {w : World} {a : Option Addr} {len cap : Nat} {cs : List Value} (h : RowAt w a len cap cs) (k : Nat) (hk : k ≤ len) :
    RowAt w (if cap = k then a else a.map (·.add k)) (len - k) (cap - k) (cs.drop k) := by
  obtain ⟨h1, h2, h3, h4⟩ := h
  refine ⟨by rw [List.length_drop, h1], by omega, by omega, ?_⟩
  rcases h4 with h0 | ⟨b, off, rfl, hc⟩
  · exact .inl (by omega)
  · by_cases e : len = k
    · exact .inl (by omega)
    · refine .inr ⟨b, off + k, ?_, ?_⟩
      · rw [if_neg (by omega), Option.map_some, addr_add]
      · intro i hi
        rw [Nat.add_assoc, hc (k + i) (by omega), List.getElem?_drop]
theorem RowAt.take {w : World} {a : Option Addr} {len cap : Nat} {cs : List Value} (h : RowAt w a len cap cs) (k : Nat) (hk : k ≤ len) :
    RowAt w a k cap (cs.take k) := by
  obtain ⟨h1, h2, h3, h4⟩ := h
  refine ⟨by rw [List.length_take, h1]; omega, by omega, h3, ?_⟩
  rcases h4 with h0 | ⟨b, off, rfl, hc⟩
  · exact .inl (by omega)
  · exact .inr ⟨b, off, rfl, fun i hi => by rw [hc i (by omega), List.getElem?_take_of_lt hi]⟩
theorem RowAt.of_own {w : World} {base : Nat} {e : TypeId} {v : Value} {n : Nat} {xs : List Value} (h : w.ownsRow base e 1 v n xs) :
    ∃ a cap, v = .slice a n cap ∧ RowAt w a n cap xs ∧ (∀ x, a = Option.some x → base ≤ x.block ∧ x.block < w.heap.size) := by
  have hown := h
  obtain ⟨hl, ⟨rfl, rfl⟩ | ⟨g, cap, cur, rfl, hg, hh, hc, hcm, hcs, ht⟩⟩ := h
  · exact ⟨none, 0, rfl, ⟨by simpa using hl, Nat.le_refl _, Nat.zero_le _, .inl rfl⟩, by simp⟩
  · refine ⟨Option.some ⟨g, 0, none⟩, cap, rfl, ⟨by simpa using hl, hc, hcm, .inr ⟨g, 0, rfl, ?_⟩⟩, ?_⟩
    · intro i hi
      rw [Nat.zero_add]
      exact hown.cellAt i (by omega)
    · intro x hx
      obtain rfl := Option.some.inj hx
      exact hown.lt g rfl

/-- the contract of the program's Sum -/
theorem inN_form (R c : Nat) (hR : R < 4294967296) (hc : c < 256) : bits .xor .u32 (R : Int) ((c : Int) * 16777216) = ((inN R c 0 : Nat) : Int) := by
  rw [inN_start R c hc]
  have e : (c : Int) * 16777216 = ((c * 16777216 : Nat) : Int) := by omega
  rw [e, u32_xor_nat _ _ hR (by omega)]
theorem inner_form (R c j : Nat) (hR : R < 4294967296) (hj : j < 8) :
    bits .xor .u32 (((inN R c j : Nat) : Int) * 2 % 4294967296) (((inN R c j : Nat) : Int) / 2147483648 * 1947962583) = ((inN (bitStep R (c / 2 ^ (7 - j) % 2)) c (j + 1) : Nat) : Int) := by
  rw [← inner_step R c j hR hj]
  have h2 := inN_top R c j hR
  generalize inN R c j = S at *
  have e1 : (S : Int) * 2 % 4294967296 = ((S * 2 % 4294967296 : Nat) : Int) := by omega
  have e2 : (S : Int) / 2147483648 * 1947962583 = ((S / 2147483648 * 1947962583 : Nat) : Int) := by omega
  rw [e1, e2, u32_xor_nat _ _ (Nat.mod_lt _ (by decide)) (by omega)]
end Go.Proofs.YtcdlkdbnlomghaaDoor.Fr
