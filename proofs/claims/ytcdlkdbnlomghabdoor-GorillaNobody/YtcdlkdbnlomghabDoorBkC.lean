/-
  The contract of the answer's May: which samples may be.
-/
import Derived.Test.YtcdlkdbnlomghabDoorBkB
namespace Go.Proofs.YtcdlkdbnlomghabDoor.Bk
open Go.ChangeShapes Go.WideShapes Go.ChangeAt Go.RowKit
end Go.Proofs.YtcdlkdbnlomghabDoor.Bk
