/-
  The contract of the answer's Nums: samples' numbers.
-/
import Derived.Test.YtcdlkdbnlomghabDoorBkE
namespace Go.Proofs.YtcdlkdbnlomghabDoor.Bk
open Go.ChangeShapes Go.WideShapes Go.ChangeAt Go.RowKit
open Go.Proofs.YtcdlkdbnlomghabDoor.Fr
def NumsPost (ls : List Sm) (w : World) (e : Ending) (w' : World) : Prop :=
  Below w.heap.size w w' ∧ ∃ v, e = .returned v ∧ w'.ownsRow w.heap.size 3 1 v (2 * ls.length + 1) (cellsI (numsS ls))
theorem iw {x y : Int} (h : x = y) (h1 : -9223372036854775808 ≤ y) (h2 : y < 9223372036854775808) : IntKind.i64.wrap x = y := by
  subst h; simp [IntKind.wrap, IntKind.bits, IntKind.signed]; omega
/-- in the midst of Nums: so many are told -/
def NumIn (ls : List Sm) (w : World) (k : Nat) (v : Value) (wr : World) : Prop :=
  Below w.heap.size w wr ∧ wr.ownsRow w.heap.size 3 1 v (2 * k + 1) (cellsI (numsK ls k))
end Go.Proofs.YtcdlkdbnlomghabDoor.Bk
