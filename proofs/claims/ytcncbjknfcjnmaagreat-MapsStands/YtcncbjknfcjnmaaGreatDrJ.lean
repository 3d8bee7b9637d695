/-
  The contract of slices.MinFunc over lots.
-/
import Derived.Test.YtcncbjknfcjnmaaGreatDrI
namespace Go.Proofs.YtcncbjknfcjnmaaGreat.Dr
open Go.ChangeShapes Go.WideShapes Go.ChangeAt Go.RowKit
/-- lots, as they lie -/
def LotsAt (key : Nat) (w : World) (g : Nat) (L : List Ch) : Prop := ∀ i, i < L.length → w.cell? ⟨g, i * 3, none⟩ = some (.int .i64 (L.getD i ch0).1) ∧ w.cell? ⟨g, i * 3 + 1, none⟩ = some (.int .i64 (L.getD i ch0).2) ∧ w.cell? ⟨g, i * 3 + 2, none⟩ = some (.int .i64 (costOf key (L.getD i ch0).1))
theorem LotsAt.below {key : Nat} {w w' : World} {g : Nat} {L : List Ch} (h : LotsAt key w g L) (hg : g < w.heap.size) (hb : Below w.heap.size w w') : LotsAt key w' g L := fun i hi => by
  obtain ⟨h0, h1, h2⟩ := h i hi
  exact ⟨(hb.cell (p := ⟨g, i * 3, none⟩) hg).trans h0, (hb.cell (p := ⟨g, i * 3 + 1, none⟩) hg).trans h1, (hb.cell (p := ⟨g, i * 3 + 2, none⟩) hg).trans h2⟩
theorem cellsLot_get (key : Nat) (L : List Ch) : ∀ i, i < L.length → (cellsLot key L)[i * 3]? = some (.int .i64 (L.getD i ch0).1) ∧ (cellsLot key L)[i * 3 + 1]? = some (.int .i64 (L.getD i ch0).2) ∧ (cellsLot key L)[i * 3 + 2]? = some (.int .i64 (costOf key (L.getD i ch0).1)) := by
  induction L with
  | nil => intro i h; simp at h
  | cons c L ih =>
    intro i h
    cases i with
    | zero => exact ⟨rfl, rfl, rfl⟩
    | succ i =>
      have h1 := ih i (by simpa using h)
      have e : ∀ j, (cellsLot key (c :: L))[(i + 1) * 3 + j]? = (cellsLot key L)[i * 3 + j]? := fun j => by
        unfold cellsLot
        rw [List.flatMap_cons, show (i + 1) * 3 + j = (lotCells key c).length + (i * 3 + j) from by simp [lotCells]; omega, List.getElem?_append_right (by omega), Nat.add_sub_cancel_left]
      exact ⟨(e 0).trans h1.1, (e 1).trans h1.2.1, (e 2).trans h1.2.2⟩
theorem lots_own {key : Nat} {w : World} {B g n cap : Nat} {L : List Ch} (h : w.ownsRow B 185 3 (.slice (some ⟨g, 0, none⟩) n cap) n (cellsLot key L)) (hn : n = L.length) : LotsAt key w g L := fun i hi => by
  obtain ⟨h0, h1, h2⟩ := cellsLot_get key L i hi
  exact ⟨(h.cellAt (i * 3) (by omega)).trans h0, (h.cellAt (i * 3 + 1) (by omega)).trans h1, (h.cellAt (i * 3 + 2) (by omega)).trans h2⟩
end Go.Proofs.YtcncbjknfcjnmaaGreat.Dr
