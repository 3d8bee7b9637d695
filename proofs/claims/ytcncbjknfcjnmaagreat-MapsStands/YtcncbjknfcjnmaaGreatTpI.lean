/-
  What a load laid on leaves in memory; what loads promises.
-/
import Derived.Test.YtcncbjknfcjnmaaGreatTpH
import Derived.Test.YtcncbjknfcjnmaaGreatTpP
namespace Go.Proofs.YtcncbjknfcjnmaaGreat.Tp
open Go.ChangeShapes Go.WideShapes Go.ChangeAt Go.RowKit
def zoneF (x : Nd) : Int × Int := (x.zone, x.zone)
def leafF (x : Nd) : Int × Int := (x.id, x.zone)
def rackF (x : Nd) : Int × Int := (x.rack, x.zone)
def LoadsPost (f : Nd → Int × Int) (zone rack : Int) (ls : List Nd) (w : World) (e : Ending) (w' : World) : Prop :=
  ∃ lv, e = .returned lv ∧ w'.ownsRow w.heap.size 212 3 lv (loadsF f zone rack ls).length (cellsLd (loadsF f zone rack ls)) ∧ Below w.heap.size w w'
theorem cellsLd_set {L : List Ld} {j : Nat} (hj : j < L.length) (z : Int) : (cellsLd L).set (j * 3 + 2) (.int .i64 z) = cellsLd (L.set j ((L.getD j ld0).1, (L.getD j ld0).2.1, z)) := by
  induction L generalizing j with
  | nil => simp at hj
  | cons c L ih =>
    cases j with
    | zero => rfl
    | succ j =>
      have h := ih (j := j) (by simpa using hj)
      have e : (j + 1) * 3 + 2 = (j * 3 + 2) + 3 := by omega
      rw [e]
      show Value.int .i64 c.1 :: Value.int .i64 c.2.1 :: Value.int .i64 c.2.2 :: (cellsLd L).set (j * 3 + 2) (.int .i64 z) = _
      rw [h]
      rfl
end Go.Proofs.YtcncbjknfcjnmaaGreat.Tp
