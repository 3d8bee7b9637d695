/-
  The contracts of Encode: data's bytes, new, or that they are too many.
-/
import Derived.Test.YtcdlkdbnlomghaaDoorFrB
import Derived.Handy
namespace Go.Proofs.YtcdlkdbnlomghaaDoor.Fr
open Go.ChangeShapes Go.WideShapes Go.ChangeAt Go.RowKit
theorem getD_mem {α : Type} (l : List α) (d : α) (k : Nat) (h : k < l.length) : l.getD k d ∈ l := by
  rw [List.getD_eq_getElem?_getD, List.getElem?_eq_getElem h, Option.getD_some]; exact List.getElem_mem h
theorem take_getD {α : Type} (l : List α) (d : α) (k : Nat) (h : k < l.length) : l.take (k + 1) = l.take k ++ [l.getD k d] := by
  rw [List.take_succ_eq_append_getElem h, List.getD_eq_getElem?_getD, List.getElem?_eq_getElem h, Option.getD_some]
theorem numsL_take (l : List Int) (k : Nat) (h : k < l.length) : numsL (l.take (k + 1)) = numsL (l.take k) ++ countL (numberN (l.getD k 0)) := by
  rw [take_getD l 0 k h, numsL_snoc]
theorem textsL_take (l : List ByteArray) (k : Nat) (h : k < l.length) : textsL (l.take (k + 1)) = textsL (l.take k) ++ textL (l.getD k ByteArray.empty) := by
  rw [take_getD l ByteArray.empty k h, textsL_snoc]
theorem numsL_le (l : List Int) (k : Nat) : (numsL (l.take k)).length ≤ (numsL l).length := by
  conv => rhs; rw [← List.take_append_drop k l, numsL_append, List.length_append]
  omega
theorem textsL_le (l : List ByteArray) (k : Nat) : (textsL (l.take k)).length ≤ (textsL l).length := by
  conv => rhs; rw [← List.take_append_drop k l, textsL_append, List.length_append]
  omega

/-- behind a call that lays L behind xs: it is laid, or it is too long -/
def PutPost (B : Nat) (w : World) (n0 : Nat) (xs : List Value) (L : List UInt8) (e : Ending) (w' : World) : Prop :=
  Below B w w' ∧ ((∃ v', e = .returned (.tuple #[v', .bool true]) ∧ w'.ownsRow B 5 1 v' (n0 + L.length) (xs ++ cellsB L) ∧ n0 + L.length ≤ 4096) ∨
    (∃ v', e = .returned (.tuple #[v', .bool false]) ∧ 4096 < n0 + L.length))
theorem putPost_ok {B : Nat} {w : World} {n0 : Nat} {xs : List Value} {L : List UInt8} {w' : World} {v' : Value} {q : Bool} (h1 : Below B w w') (hq : q = true) (h2 : w'.ownsRow B 5 1 v' (n0 + L.length) (xs ++ cellsB L)) (h3 : n0 + L.length ≤ 4096) :
    PutPost B w n0 xs L (.returned (.tuple #[v', .bool q])) w' := by subst hq; exact ⟨h1, .inl ⟨_, rfl, h2, h3⟩⟩
theorem putPost_bad {B : Nat} {w : World} {n0 : Nat} {xs : List Value} {L : List UInt8} {w' : World} {v' : Value} {q : Bool} (h1 : Below B w w') (hq : q = false) (h3 : 4096 < n0 + L.length) :
    PutPost B w n0 xs L (.returned (.tuple #[v', .bool q])) w' := by subst hq; exact ⟨h1, .inr ⟨_, rfl, h3⟩⟩

theorem strCells_eq (x : ByteArray) : Go.Lib.strCells x = cellsB x.data.toList := by
  simp [Go.Lib.strCells, cellsB]
end Go.Proofs.YtcdlkdbnlomghaaDoor.Fr
