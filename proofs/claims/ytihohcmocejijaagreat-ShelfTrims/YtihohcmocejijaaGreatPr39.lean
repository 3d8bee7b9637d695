/-
  The contracts of the answer's Get, Trim, Range, with and Put.
  The contracts of the answer's with and Put.
-/
import Derived.Test.YtihohcmocejijaaGreatPr12
namespace Go.Proofs.YtihohcmocejijaaGreat.Bk
open Go.ChangeShapes Go.WideShapes Go.ChangeAt Go.RowKit
def PickIn (L : List Sm) (w : World) (v : Value) (wr : World) : Prop := Below w.heap.size w wr ∧ wr.ownsRow w.heap.size 27 2 v L.length (cellsS L)
theorem pick_start (w : World) : PickIn [] w (.slice (some ⟨w.heap.size, 0, none⟩) 0 0) (w.alloc (.cells #[] 27)) := by
  refine ⟨below_alloc _ _, ?_⟩
  have := World.ownsRow_lit (base := w.heap.size) (e := 27) (size := 2) w #[] 0 (by simp) (by unfold maxLen; omega) rfl
  simpa [cellsS] using this
end Go.Proofs.YtihohcmocejijaaGreat.Bk
namespace Go.Proofs.YtihohcmocejijaaGreat.Bk
open Go.ChangeShapes Go.WideShapes Go.ChangeAt Go.RowKit
end Go.Proofs.YtihohcmocejijaaGreat.Bk
