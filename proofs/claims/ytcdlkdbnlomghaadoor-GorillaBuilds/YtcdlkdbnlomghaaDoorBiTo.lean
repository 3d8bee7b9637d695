/-
  The law told.
-/
import Derived.Test.YtcdlkdbnlomghaaDoorBiU
import Derived.Test.YtcdlkdbnlomghaaDoorBiSa
namespace Go.Proofs.YtcdlkdbnlomghaaDoor.Bi
open Go.ChangeShapes Go.WideShapes Go.ChangeAt Go.RowKit
end Go.Proofs.YtcdlkdbnlomghaaDoor.Bi
