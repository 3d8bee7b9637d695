/-
  The contracts of the functions that tell whether lists of numbers, of texts, of bytes are alike.
-/
import Derived.Test.YtcdlkdbnlomghabDoorFrD
import Derived.RegionTactic
import Derived.ChangeAlike
namespace Go.Proofs.YtcdlkdbnlomghabDoor.Fr
open Go.ChangeShapes Go.WideShapes Go.ChangeAt Go.RowKit
theorem str_ne {x y : ByteArray} (h : ¬ x = y) : (x.toList == y.toList) = false := by
  rw [ByteArray.toList_eq, ByteArray.toList_eq]
  exact beq_eq_false_iff_ne.2 fun e => h (bytes_ext e)
theorem take_ext {α : Type} {l m : List α} (d : α) {k : Nat} (h : l.take k = m.take k) (hk : k < l.length) (hm : k < m.length) (e : l.getD k d = m.getD k d) : l.take (k + 1) = m.take (k + 1) := by
  rw [List.take_succ_eq_append_getElem hk, List.take_succ_eq_append_getElem hm, h]
  rw [List.getD_eq_getElem?_getD, List.getElem?_eq_getElem hk, List.getD_eq_getElem?_getD, List.getElem?_eq_getElem hm] at e
  simp at e
  rw [e]
end Go.Proofs.YtcdlkdbnlomghabDoor.Fr
