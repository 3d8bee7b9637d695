/-
  ShelfOnce's drawn regions: a shelf is folded, an entry is done, and both are laid into new boxes.
-/
import Derived.Test.YtihohcmocejijaaGreatPr35
namespace Go.Proofs.YtihohcmocejijaaGreat.Bk
open Go.ChangeShapes Go.WideShapes Go.ChangeAt Go.RowKit
end Go.Proofs.YtihohcmocejijaaGreat.Bk
