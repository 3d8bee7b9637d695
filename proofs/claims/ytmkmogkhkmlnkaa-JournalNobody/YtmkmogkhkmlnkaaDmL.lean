/-
  The law DrumKeeps.
-/
import Derived.Test.YtmkmogkhkmlnkaaDmP
import Derived.BigQuiet
namespace Go.Proofs.Ytmkmogkhkmlnkaa.Dm
open Go.ChangeShapes Go.WideShapes Go.ChangeAt Go.RowKit
/-- a slice of bools that came in -/
structure BoolsAt (w : World) (a : Option Addr) (n cap : Nat) (l : List Bool) : Prop where
  eq : l.length = n
  lc : n ≤ cap
  cm : cap ≤ maxLen
  at_ : n = 0 ∨ ∃ b off, a = some ⟨b, off, none⟩ ∧ ∀ i, i < n → w.cell? ⟨b, off + i, none⟩ = some (.bool (l.getD i false))
/-- it lies below -/
theorem BoolsAt.pat {w w' : World} {pa : Option Addr} {n cap : Nat} {l : List Bool} (h : BoolsAt w pa n cap l) (hb : Below w.heap.size w w') {B a s k : Nat} (hB : w.heap.size ≤ B) (ha : w.heap.size ≤ a) (hs : w.heap.size ≤ s) (hk : w.heap.size ≤ k) : Pat B a s k pa l w' := by
  rcases h.at_ with h0 | ⟨b, off, rfl, hc⟩
  · exact ⟨.inl (h.eq.trans h0)⟩
  · by_cases h0 : n = 0
    · exact ⟨.inl (h.eq.trans h0)⟩
    · have hlt : b < w.heap.size := World.block_lt_of_cell? w ⟨b, off + 0, none⟩ (hc 0 (by omega))
      exact ⟨.inr ⟨b, off, rfl, by omega, by omega, by omega, .inl (by omega), fun i hi => (hb.cell (p := ⟨b, off + i, none⟩) hlt).trans (hc i (by rw [← h.eq]; exact hi))⟩⟩
theorem below_low' {B C : Nat} {w w' : World} (h : Below B w w') (hC : C ≤ B) : Below C w w' := ⟨h.os, h.tape, h.output, h.size, fun j hj => h.block j (by omega)⟩
end Go.Proofs.Ytmkmogkhkmlnkaa.Dm
