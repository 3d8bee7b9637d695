/-
  Boxes of many cells, each told as one fact over its block; results out of boxes.
  A region that draws its order, whose last operation waits for all others: loads may be taken first though that last one writes their cell.
-/
import Derived.Test.YtihohcmocejijaaGreatPr12
import Derived.Laws.OwnMore
import Derived.StillTail
namespace Go.Proofs.YtihohcmocejijaaGreat.Bk
open Go.ChangeShapes Go.WideShapes Go.ChangeAt Go.RowKit
def Bx2 (w : World) (b T : Nat) (v0 v1 : Value) : Prop := w.heap[b]? = some (.cells #[v0, v1] T (0, 0))
theorem Bx2.new (w : World) (T : Nat) (v0 v1 : Value) : Bx2 (w.alloc (.cells #[v0, v1] T)) w.heap.size T v0 v1 := heap_alloc_new w _
theorem Bx2.cells {w : World} {b T : Nat} {v0 v1 : Value} (h : Bx2 w b T v0 v1) : w.cell? ⟨b, 0, none⟩ = some v0 ∧ w.cell? ⟨b, 1, none⟩ = some v1 := by
  unfold World.cell?
  refine ⟨?_, ?_⟩
  · rw [show w.heap[(⟨b, 0, none⟩ : Addr).block]? = _ from h]; rfl
  · rw [show w.heap[(⟨b, 1, none⟩ : Addr).block]? = _ from h]; rfl
def Bx3 (w : World) (b T : Nat) (v0 v1 v2 : Value) : Prop := w.heap[b]? = some (.cells #[v0, v1, v2] T (0, 0))
theorem Bx3.lt {w : World} {b T : Nat} {v0 v1 v2 : Value} (h : Bx3 w b T v0 v1 v2) : b < w.heap.size := (Array.getElem?_eq_some_iff.1 h).1
theorem Bx3.kept {w : World} {b T : Nat} {v0 v1 v2 : Value} {w' : World} (h : Bx3 w b T v0 v1 v2) (e : w'.heap[b]? = w.heap[b]?) : Bx3 w' b T v0 v1 v2 := e.trans h
theorem Bx3.below {w : World} {b T : Nat} {v0 v1 v2 : Value} {w' : World} (h : Bx3 w b T v0 v1 v2) (hb : Below w.heap.size w w') : Bx3 w' b T v0 v1 v2 := h.kept (hb.block b h.lt)
theorem Bx3.kp {w : World} {b T : Nat} {v0 v1 v2 : Value} {w' : World} {p : Nat} (h : Bx3 w b T v0 v1 v2) (hk : KpS p w w') (hp : b ≠ p) (h1 : T ≠ 55) (h2 : T ≠ 51) : Bx3 w' b T v0 v1 v2 := hk b _ h hp (fun c f e => by injection e with _ e2; exact absurd e2 h1) (fun c f e => by injection e with _ e2; exact absurd e2 h2)
theorem Bx3.new (w : World) (T : Nat) (v0 v1 v2 : Value) : Bx3 (w.alloc (.cells #[v0, v1, v2] T)) w.heap.size T v0 v1 v2 := heap_alloc_new w _
theorem Bx3.cells {w : World} {b T : Nat} {v0 v1 v2 : Value} (h : Bx3 w b T v0 v1 v2) : w.cell? ⟨b, 0, none⟩ = some v0 ∧ w.cell? ⟨b, 1, none⟩ = some v1 ∧ w.cell? ⟨b, 2, none⟩ = some v2 := by
  unfold World.cell?
  refine ⟨?_, ?_, ?_⟩
  · rw [show w.heap[(⟨b, 0, none⟩ : Addr).block]? = _ from h]; rfl
  · rw [show w.heap[(⟨b, 1, none⟩ : Addr).block]? = _ from h]; rfl
  · rw [show w.heap[(⟨b, 2, none⟩ : Addr).block]? = _ from h]; rfl
theorem Bx3.frz {w : World} {b T : Nat} {v0 v1 v2 : Value} (h : Bx3 w b T v0 v1 v2) : w.frozen? ⟨b, 0, none⟩ = false ∧ w.frozen? ⟨b, 1, none⟩ = false ∧ w.frozen? ⟨b, 2, none⟩ = false := by
  unfold World.frozen?
  refine ⟨?_, ?_, ?_⟩
  · rw [show w.heap[(⟨b, 0, none⟩ : Addr).block]? = _ from h]; rfl
  · rw [show w.heap[(⟨b, 1, none⟩ : Addr).block]? = _ from h]; rfl
  · rw [show w.heap[(⟨b, 2, none⟩ : Addr).block]? = _ from h]; rfl
def put3 (w : World) (b : Nat) (u0 u1 u2 : Value) : World := ((w.setCell ⟨b, 0, none⟩ u0).setCell ⟨b, 1, none⟩ u1).setCell ⟨b, 2, none⟩ u2
theorem Bx3.set {w : World} {b T : Nat} {v0 v1 v2 : Value} (h : Bx3 w b T v0 v1 v2) (u0 u1 u2 : Value) : Bx3 (put3 w b u0 u1 u2) b T u0 u1 u2 := by
  unfold put3
  have h0 := heap_setCell_same w b 0 _ _ u0 h
  have h1 := heap_setCell_same (w.setCell ⟨b, 0, none⟩ u0) b 1 _ _ u1 h0
  have h2 := heap_setCell_same ((w.setCell ⟨b, 0, none⟩ u0).setCell ⟨b, 1, none⟩ u1) b 2 _ _ u2 h1
  unfold Bx3
  rw [h2]
  rfl
theorem put3_else {w : World} {b k : Nat} (u0 u1 u2 : Value) (h : k ≠ b) : (put3 w b u0 u1 u2).heap[k]? = w.heap[k]? := by
  unfold put3
  rw [heap_setCell_other _ ⟨b, 2, none⟩ k _ h, heap_setCell_other _ ⟨b, 1, none⟩ k _ h, heap_setCell_other _ ⟨b, 0, none⟩ k _ h]
theorem put3_size (w : World) (b : Nat) (u0 u1 u2 : Value) : (put3 w b u0 u1 u2).heap.size = w.heap.size := by unfold put3 World.setCell; simp
theorem put3_below {N : Nat} {w0 w : World} {b : Nat} (h : Below N w0 w) (hb : N ≤ b) (u0 u1 u2 : Value) : Below N w0 (put3 w b u0 u1 u2) := by
  unfold put3
  exact ((h.setCell (p := ⟨b, 0, none⟩) hb _).setCell (p := ⟨b, 1, none⟩) hb _).setCell (p := ⟨b, 2, none⟩) hb _
def Bx5 (w : World) (b T : Nat) (v0 v1 v2 v3 v4 : Value) : Prop := w.heap[b]? = some (.cells #[v0, v1, v2, v3, v4] T (0, 0))
theorem Bx5.lt {w : World} {b T : Nat} {v0 v1 v2 v3 v4 : Value} (h : Bx5 w b T v0 v1 v2 v3 v4) : b < w.heap.size := (Array.getElem?_eq_some_iff.1 h).1
theorem Bx5.kept {w : World} {b T : Nat} {v0 v1 v2 v3 v4 : Value} {w' : World} (h : Bx5 w b T v0 v1 v2 v3 v4) (e : w'.heap[b]? = w.heap[b]?) : Bx5 w' b T v0 v1 v2 v3 v4 := e.trans h
theorem Bx5.below {w : World} {b T : Nat} {v0 v1 v2 v3 v4 : Value} {w' : World} (h : Bx5 w b T v0 v1 v2 v3 v4) (hb : Below w.heap.size w w') : Bx5 w' b T v0 v1 v2 v3 v4 := h.kept (hb.block b h.lt)
theorem Bx5.new (w : World) (T : Nat) (v0 v1 v2 v3 v4 : Value) : Bx5 (w.alloc (.cells #[v0, v1, v2, v3, v4] T)) w.heap.size T v0 v1 v2 v3 v4 := heap_alloc_new w _
theorem Bx5.cells {w : World} {b T : Nat} {v0 v1 v2 v3 v4 : Value} (h : Bx5 w b T v0 v1 v2 v3 v4) : w.cell? ⟨b, 0, none⟩ = some v0 ∧ w.cell? ⟨b, 1, none⟩ = some v1 ∧ w.cell? ⟨b, 2, none⟩ = some v2 ∧ w.cell? ⟨b, 3, none⟩ = some v3 ∧ w.cell? ⟨b, 4, none⟩ = some v4 := by
  unfold World.cell?
  refine ⟨?_, ?_, ?_, ?_, ?_⟩
  · rw [show w.heap[(⟨b, 0, none⟩ : Addr).block]? = _ from h]; rfl
  · rw [show w.heap[(⟨b, 1, none⟩ : Addr).block]? = _ from h]; rfl
  · rw [show w.heap[(⟨b, 2, none⟩ : Addr).block]? = _ from h]; rfl
  · rw [show w.heap[(⟨b, 3, none⟩ : Addr).block]? = _ from h]; rfl
  · rw [show w.heap[(⟨b, 4, none⟩ : Addr).block]? = _ from h]; rfl
theorem Bx5.frz {w : World} {b T : Nat} {v0 v1 v2 v3 v4 : Value} (h : Bx5 w b T v0 v1 v2 v3 v4) : w.frozen? ⟨b, 0, none⟩ = false ∧ w.frozen? ⟨b, 1, none⟩ = false ∧ w.frozen? ⟨b, 2, none⟩ = false ∧ w.frozen? ⟨b, 3, none⟩ = false ∧ w.frozen? ⟨b, 4, none⟩ = false := by
  unfold World.frozen?
  refine ⟨?_, ?_, ?_, ?_, ?_⟩
  · rw [show w.heap[(⟨b, 0, none⟩ : Addr).block]? = _ from h]; rfl
  · rw [show w.heap[(⟨b, 1, none⟩ : Addr).block]? = _ from h]; rfl
  · rw [show w.heap[(⟨b, 2, none⟩ : Addr).block]? = _ from h]; rfl
  · rw [show w.heap[(⟨b, 3, none⟩ : Addr).block]? = _ from h]; rfl
  · rw [show w.heap[(⟨b, 4, none⟩ : Addr).block]? = _ from h]; rfl
def put5 (w : World) (b : Nat) (u0 u1 u2 u3 u4 : Value) : World := ((((w.setCell ⟨b, 0, none⟩ u0).setCell ⟨b, 1, none⟩ u1).setCell ⟨b, 2, none⟩ u2).setCell ⟨b, 3, none⟩ u3).setCell ⟨b, 4, none⟩ u4
theorem Bx5.set {w : World} {b T : Nat} {v0 v1 v2 v3 v4 : Value} (h : Bx5 w b T v0 v1 v2 v3 v4) (u0 u1 u2 u3 u4 : Value) : Bx5 (put5 w b u0 u1 u2 u3 u4) b T u0 u1 u2 u3 u4 := by
  unfold put5
  have h0 := heap_setCell_same w b 0 _ _ u0 h
  have h1 := heap_setCell_same (w.setCell ⟨b, 0, none⟩ u0) b 1 _ _ u1 h0
  have h2 := heap_setCell_same ((w.setCell ⟨b, 0, none⟩ u0).setCell ⟨b, 1, none⟩ u1) b 2 _ _ u2 h1
  have h3 := heap_setCell_same (((w.setCell ⟨b, 0, none⟩ u0).setCell ⟨b, 1, none⟩ u1).setCell ⟨b, 2, none⟩ u2) b 3 _ _ u3 h2
  have h4 := heap_setCell_same ((((w.setCell ⟨b, 0, none⟩ u0).setCell ⟨b, 1, none⟩ u1).setCell ⟨b, 2, none⟩ u2).setCell ⟨b, 3, none⟩ u3) b 4 _ _ u4 h3
  unfold Bx5
  rw [h4]
  rfl
theorem put5_else {w : World} {b k : Nat} (u0 u1 u2 u3 u4 : Value) (h : k ≠ b) : (put5 w b u0 u1 u2 u3 u4).heap[k]? = w.heap[k]? := by
  unfold put5
  rw [heap_setCell_other _ ⟨b, 4, none⟩ k _ h, heap_setCell_other _ ⟨b, 3, none⟩ k _ h, heap_setCell_other _ ⟨b, 2, none⟩ k _ h, heap_setCell_other _ ⟨b, 1, none⟩ k _ h, heap_setCell_other _ ⟨b, 0, none⟩ k _ h]
theorem put5_below {N : Nat} {w0 w : World} {b : Nat} (h : Below N w0 w) (hb : N ≤ b) (u0 u1 u2 u3 u4 : Value) : Below N w0 (put5 w b u0 u1 u2 u3 u4) := by
  unfold put5
  exact ((((h.setCell (p := ⟨b, 0, none⟩) hb _).setCell (p := ⟨b, 1, none⟩) hb _).setCell (p := ⟨b, 2, none⟩) hb _).setCell (p := ⟨b, 3, none⟩) hb _).setCell (p := ⟨b, 4, none⟩) hb _
def Bx7 (w : World) (b T : Nat) (v0 v1 v2 v3 v4 v5 v6 : Value) : Prop := w.heap[b]? = some (.cells #[v0, v1, v2, v3, v4, v5, v6] T (0, 0))
theorem Bx7.lt {w : World} {b T : Nat} {v0 v1 v2 v3 v4 v5 v6 : Value} (h : Bx7 w b T v0 v1 v2 v3 v4 v5 v6) : b < w.heap.size := (Array.getElem?_eq_some_iff.1 h).1
theorem Bx7.kept {w : World} {b T : Nat} {v0 v1 v2 v3 v4 v5 v6 : Value} {w' : World} (h : Bx7 w b T v0 v1 v2 v3 v4 v5 v6) (e : w'.heap[b]? = w.heap[b]?) : Bx7 w' b T v0 v1 v2 v3 v4 v5 v6 := e.trans h
theorem Bx7.below {w : World} {b T : Nat} {v0 v1 v2 v3 v4 v5 v6 : Value} {w' : World} (h : Bx7 w b T v0 v1 v2 v3 v4 v5 v6) (hb : Below w.heap.size w w') : Bx7 w' b T v0 v1 v2 v3 v4 v5 v6 := h.kept (hb.block b h.lt)
theorem Bx7.new (w : World) (T : Nat) (v0 v1 v2 v3 v4 v5 v6 : Value) : Bx7 (w.alloc (.cells #[v0, v1, v2, v3, v4, v5, v6] T)) w.heap.size T v0 v1 v2 v3 v4 v5 v6 := heap_alloc_new w _
theorem Bx7.cells {w : World} {b T : Nat} {v0 v1 v2 v3 v4 v5 v6 : Value} (h : Bx7 w b T v0 v1 v2 v3 v4 v5 v6) : w.cell? ⟨b, 0, none⟩ = some v0 ∧ w.cell? ⟨b, 1, none⟩ = some v1 ∧ w.cell? ⟨b, 2, none⟩ = some v2 ∧ w.cell? ⟨b, 3, none⟩ = some v3 ∧ w.cell? ⟨b, 4, none⟩ = some v4 ∧ w.cell? ⟨b, 5, none⟩ = some v5 ∧ w.cell? ⟨b, 6, none⟩ = some v6 := by
  unfold World.cell?
  refine ⟨?_, ?_, ?_, ?_, ?_, ?_, ?_⟩
  · rw [show w.heap[(⟨b, 0, none⟩ : Addr).block]? = _ from h]; rfl
  · rw [show w.heap[(⟨b, 1, none⟩ : Addr).block]? = _ from h]; rfl
  · rw [show w.heap[(⟨b, 2, none⟩ : Addr).block]? = _ from h]; rfl
  · rw [show w.heap[(⟨b, 3, none⟩ : Addr).block]? = _ from h]; rfl
  · rw [show w.heap[(⟨b, 4, none⟩ : Addr).block]? = _ from h]; rfl
  · rw [show w.heap[(⟨b, 5, none⟩ : Addr).block]? = _ from h]; rfl
  · rw [show w.heap[(⟨b, 6, none⟩ : Addr).block]? = _ from h]; rfl
theorem Bx7.frz {w : World} {b T : Nat} {v0 v1 v2 v3 v4 v5 v6 : Value} (h : Bx7 w b T v0 v1 v2 v3 v4 v5 v6) : w.frozen? ⟨b, 0, none⟩ = false ∧ w.frozen? ⟨b, 1, none⟩ = false ∧ w.frozen? ⟨b, 2, none⟩ = false ∧ w.frozen? ⟨b, 3, none⟩ = false ∧ w.frozen? ⟨b, 4, none⟩ = false ∧ w.frozen? ⟨b, 5, none⟩ = false ∧ w.frozen? ⟨b, 6, none⟩ = false := by
  unfold World.frozen?
  refine ⟨?_, ?_, ?_, ?_, ?_, ?_, ?_⟩
  · rw [show w.heap[(⟨b, 0, none⟩ : Addr).block]? = _ from h]; rfl
  · rw [show w.heap[(⟨b, 1, none⟩ : Addr).block]? = _ from h]; rfl
  · rw [show w.heap[(⟨b, 2, none⟩ : Addr).block]? = _ from h]; rfl
  · rw [show w.heap[(⟨b, 3, none⟩ : Addr).block]? = _ from h]; rfl
  · rw [show w.heap[(⟨b, 4, none⟩ : Addr).block]? = _ from h]; rfl
  · rw [show w.heap[(⟨b, 5, none⟩ : Addr).block]? = _ from h]; rfl
  · rw [show w.heap[(⟨b, 6, none⟩ : Addr).block]? = _ from h]; rfl
def Bx10 (w : World) (b T : Nat) (v0 v1 v2 v3 v4 v5 v6 v7 v8 v9 : Value) : Prop := w.heap[b]? = some (.cells #[v0, v1, v2, v3, v4, v5, v6, v7, v8, v9] T (0, 0))
theorem Bx10.lt {w : World} {b T : Nat} {v0 v1 v2 v3 v4 v5 v6 v7 v8 v9 : Value} (h : Bx10 w b T v0 v1 v2 v3 v4 v5 v6 v7 v8 v9) : b < w.heap.size := (Array.getElem?_eq_some_iff.1 h).1
theorem Bx10.kept {w : World} {b T : Nat} {v0 v1 v2 v3 v4 v5 v6 v7 v8 v9 : Value} {w' : World} (h : Bx10 w b T v0 v1 v2 v3 v4 v5 v6 v7 v8 v9) (e : w'.heap[b]? = w.heap[b]?) : Bx10 w' b T v0 v1 v2 v3 v4 v5 v6 v7 v8 v9 := e.trans h
theorem Bx10.below {w : World} {b T : Nat} {v0 v1 v2 v3 v4 v5 v6 v7 v8 v9 : Value} {w' : World} (h : Bx10 w b T v0 v1 v2 v3 v4 v5 v6 v7 v8 v9) (hb : Below w.heap.size w w') : Bx10 w' b T v0 v1 v2 v3 v4 v5 v6 v7 v8 v9 := h.kept (hb.block b h.lt)
theorem Bx10.kp {w : World} {b T : Nat} {v0 v1 v2 v3 v4 v5 v6 v7 v8 v9 : Value} {w' : World} {p : Nat} (h : Bx10 w b T v0 v1 v2 v3 v4 v5 v6 v7 v8 v9) (hk : KpS p w w') (hp : b ≠ p) (h1 : T ≠ 55) (h2 : T ≠ 51) : Bx10 w' b T v0 v1 v2 v3 v4 v5 v6 v7 v8 v9 := hk b _ h hp (fun c f e => by injection e with _ e2; exact absurd e2 h1) (fun c f e => by injection e with _ e2; exact absurd e2 h2)
theorem Bx10.new (w : World) (T : Nat) (v0 v1 v2 v3 v4 v5 v6 v7 v8 v9 : Value) : Bx10 (w.alloc (.cells #[v0, v1, v2, v3, v4, v5, v6, v7, v8, v9] T)) w.heap.size T v0 v1 v2 v3 v4 v5 v6 v7 v8 v9 := heap_alloc_new w _
theorem Bx10.cells {w : World} {b T : Nat} {v0 v1 v2 v3 v4 v5 v6 v7 v8 v9 : Value} (h : Bx10 w b T v0 v1 v2 v3 v4 v5 v6 v7 v8 v9) : w.cell? ⟨b, 0, none⟩ = some v0 ∧ w.cell? ⟨b, 1, none⟩ = some v1 ∧ w.cell? ⟨b, 2, none⟩ = some v2 ∧ w.cell? ⟨b, 3, none⟩ = some v3 ∧ w.cell? ⟨b, 4, none⟩ = some v4 ∧ w.cell? ⟨b, 5, none⟩ = some v5 ∧ w.cell? ⟨b, 6, none⟩ = some v6 ∧ w.cell? ⟨b, 7, none⟩ = some v7 ∧ w.cell? ⟨b, 8, none⟩ = some v8 ∧ w.cell? ⟨b, 9, none⟩ = some v9 := by
  unfold World.cell?
  refine ⟨?_, ?_, ?_, ?_, ?_, ?_, ?_, ?_, ?_, ?_⟩
  · rw [show w.heap[(⟨b, 0, none⟩ : Addr).block]? = _ from h]; rfl
  · rw [show w.heap[(⟨b, 1, none⟩ : Addr).block]? = _ from h]; rfl
  · rw [show w.heap[(⟨b, 2, none⟩ : Addr).block]? = _ from h]; rfl
  · rw [show w.heap[(⟨b, 3, none⟩ : Addr).block]? = _ from h]; rfl
  · rw [show w.heap[(⟨b, 4, none⟩ : Addr).block]? = _ from h]; rfl
  · rw [show w.heap[(⟨b, 5, none⟩ : Addr).block]? = _ from h]; rfl
  · rw [show w.heap[(⟨b, 6, none⟩ : Addr).block]? = _ from h]; rfl
  · rw [show w.heap[(⟨b, 7, none⟩ : Addr).block]? = _ from h]; rfl
  · rw [show w.heap[(⟨b, 8, none⟩ : Addr).block]? = _ from h]; rfl
  · rw [show w.heap[(⟨b, 9, none⟩ : Addr).block]? = _ from h]; rfl
theorem retA {fn : Func} {p : Tmp} (h : fn.results = #[.cell p 37]) (tmps : Array Value) (w : World) (b : Nat) (v0 v1 v2 : Value) (hp : tmps.getD p undef = .pointer (some ⟨b, 0, none⟩))
    (hb : Bx3 w b 37 v0 v1 v2) : (results fn tmps).run Tryz.prog w = .ok (.agg #[v0, v1, v2]) w := by
  obtain ⟨h0, h1, h2⟩ := hb.cells
  simp only [Array.getD_eq_getD_getElem?] at hp
  simp only [results, h]
  simp [go_sem, hp, h0, h1, h2]
theorem retS {fn : Func} {p : Tmp} (h : fn.results = #[.cell p 25]) (tmps : Array Value) (w : World) (b : Nat) (v0 v1 v2 : Value) (hp : tmps.getD p undef = .pointer (some ⟨b, 0, none⟩))
    (hb : Bx3 w b 25 v0 v1 v2) : (results fn tmps).run Tryz.prog w = .ok (.agg #[v0, v1, v2]) w := by
  obtain ⟨h0, h1, h2⟩ := hb.cells
  simp only [Array.getD_eq_getD_getElem?] at hp
  simp only [results, h]
  simp [go_sem, hp, h0, h1, h2]
theorem retO {fn : Func} {p : Tmp} (h : fn.results = #[.cell p 29]) (tmps : Array Value) (w : World) (b : Nat) (v0 v1 v2 v3 v4 v5 v6 : Value) (hp : tmps.getD p undef = .pointer (some ⟨b, 0, none⟩))
    (hb : Bx7 w b 29 v0 v1 v2 v3 v4 v5 v6) : (results fn tmps).run Tryz.prog w = .ok (.agg #[v0, v1, v2, v3, v4, v5, v6]) w := by
  obtain ⟨h0, h1, h2, h3, h4, h5, h6⟩ := hb.cells
  simp only [Array.getD_eq_getD_getElem?] at hp
  simp only [results, h]
  simp [go_sem, hp, h0, h1, h2, h3, h4, h5, h6]
theorem retD {fn : Func} {p : Tmp} (h : fn.results = #[.cell p 51]) (tmps : Array Value) (w : World) (b : Nat) (v0 v1 v2 v3 v4 : Value) (hp : tmps.getD p undef = .pointer (some ⟨b, 0, none⟩))
    (hb : Bx5 w b 51 v0 v1 v2 v3 v4) : (results fn tmps).run Tryz.prog w = .ok (.agg #[v0, v1, v2, v3, v4]) w := by
  obtain ⟨h0, h1, h2, h3, h4⟩ := hb.cells
  simp only [Array.getD_eq_getD_getElem?] at hp
  simp only [results, h]
  simp [go_sem, hp, h0, h1, h2, h3, h4]
theorem retDo {fn : Func} {p q r : Tmp} (h : fn.results = #[.cell p 25, .cell q 37, .tmp r]) (tmps : Array Value) (w : World) (b c : Nat) (v0 v1 v2 u0 u1 u2 z : Value) (hp : tmps.getD p undef = .pointer (some ⟨b, 0, none⟩)) (hq : tmps.getD q undef = .pointer (some ⟨c, 0, none⟩)) (hr : tmps.getD r undef = z)
    (hb : Bx3 w b 25 v0 v1 v2) (hc : Bx3 w c 37 u0 u1 u2) : (results fn tmps).run Tryz.prog w = .ok (.tuple #[.agg #[v0, v1, v2], .agg #[u0, u1, u2], z]) w := by
  obtain ⟨h0, h1, h2⟩ := hb.cells
  obtain ⟨k0, k1, k2⟩ := hc.cells
  simp only [Array.getD_eq_getD_getElem?] at hp hq hr
  simp only [results, h]
  simp [go_sem, hp, hq, hr, h0, h1, h2, k0, k1, k2]
end Go.Proofs.YtihohcmocejijaaGreat.Bk
namespace Go.Proofs.YtihohcmocejijaaGreat.Bk
open Go.ChangeShapes Go.WideShapes Go.ChangeAt Go.RowKit
theorem addr_add (b off i : Nat) : (⟨b, off, none⟩ : Addr).add i = ⟨b, off + i, none⟩ := by
  by_cases h : i = 0
  · subst h; simp [Addr.add]
  · simp [Addr.add, h]
theorem below_grownBy {a b : World} (h : Below a.heap.size a b) (row : Option Nat) : a.grownBy b row := by
  obtain ⟨h1, h2, h3, h4, h5⟩ := h
  exact ⟨by first | exact h1 | exact h2 | exact h3, by first | exact h1 | exact h2 | exact h3, by first | exact h1 | exact h2 | exact h3, h4, fun k hk _ => h5 k hk⟩
theorem grownBy_trans {a b c : World} {r : Option Nat} (h : a.grownBy b r) (k : b.grownBy c r) : a.grownBy c r := ⟨k.os.trans h.os, k.tape.trans h.tape, k.output.trans h.output, Nat.le_trans h.size k.size, fun j hj hne => (k.block j (Nat.lt_of_lt_of_le hj h.size) hne).trans (h.block j hj hne)⟩
theorem own_some {w : World} {B T m : Nat} {v : Value} {n : Nat} {xs : List Value} (h : w.ownsRow B T m v n xs) (h0 : 0 < n) : ∃ g cap, v = .slice (some ⟨g, 0, none⟩) n cap ∧ B ≤ g ∧ g < w.heap.size ∧ n ≤ cap := by
  have hlt := h.lt
  rcases h.2 with ⟨_, h1⟩ | ⟨g, cap, cur, rfl, hg, hh, hc, _⟩
  · omega
  · exact ⟨g, cap, rfl, hg, (hlt g rfl).2, hc⟩
def AnyBut (P : Program) (md : Region.Mode) (ops : Array Oper) (Q : Exit → Act → World → Prop) (S : World → Prop) (n : Nat) : Nat → Array Bool → Act → World → Prop
  | 0, listed, a, w => Region.ready md ops listed = [] ∧ Q .normal a w
  | fuel + 1, listed, a, w => (Region.ready md ops listed = [] → Q .normal a w) ∧
      ∀ i ∈ Region.ready md ops listed, wpOp P ops Q i (fun a' w' => (i ≠ n → S w') ∧ AnyBut P md ops Q S n fuel (listed.setIfInBounds i true) a' w') a w
theorem AnyBut.any {P : Program} {ops : Array Oper} {Q : Exit → Act → World → Prop} {md : Region.Mode} {S : World → Prop} {n : Nat} : ∀ (fuel : Nat) (listed : Array Bool) (a : Act) (w : World), AnyBut P md ops Q S n fuel listed a w → wpAny P md ops Q fuel listed a w := by
  intro fuel
  induction fuel with
  | zero => intro listed a w h; exact h
  | succ fuel ih => intro listed a w h; exact ⟨h.1, fun i hi => wpOp_mono (fun a' w' h' => ih _ a' w' h'.2) (h.2 i hi)⟩
theorem AnyBut.first {P : Program} {ops : Array Oper} {Q : Exit → Act → World → Prop} {md : Region.Mode} {S : World → Prop} {n : Nat} {i : Nat} {oi : Oper} {v : Value} (hi : ops[i]? = some oi) (hsel : ∀ (j : Nat) (o : Oper) cs b, ops[j]? = some o → o.op ≠ .select cs b)
    (hQ : ∀ c a w, Q (.panic c) (a.put oi.dst v) w → Q (.panic c) a w) (hs : Region.sinkB md ops n = true) (hc : Region.chainB md ops n = true) (hn : n < ops.size) (hin : i < n) :
    ∀ (fuel : Nat) (listed : Array Bool) (a : Act) (w : World), HeadInv md ops n listed →
      (∀ j oj, ops[j]? = some oj → j ≠ i → listed.getD j true = false → (∀ e ∈ oj.after, Region.binds md e = true → e.on ≠ i) → oi.apart ops oj = true) →
      i ∈ Region.ready md ops listed → YieldsIf P ops S oi v a → S w →
      AnyBut P md ops Q S n fuel (listed.setIfInBounds i true) (a.put oi.dst v) w → AnyBut P md ops Q S n (fuel + 1) listed a w := by
  intro fuel
  induction fuel with
  | zero =>
    intro listed a w _ _ hr hy hS H
    refine ⟨fun h => (by rw [h] at hr; cases hr), fun j hj => ?_⟩
    by_cases hji : j = i
    · subst hji
      exact hy.wpOp hi hS ⟨fun _ => hS, H⟩
    · have := ready_mono hj hji
      rw [H.1] at this
      cases this
  | succ fuel ih =>
    intro listed a w inv hfree hr hy hS H
    refine ⟨fun h => (by rw [h] at hr; cases hr), fun j hj => ?_⟩
    by_cases hji : j = i
    · subst hji
      exact hy.wpOp hi hS ⟨fun _ => hS, H⟩
    · have hun : listed.getD i true = false := (mem_ready.1 hr).1
      have hjn : j < n := by
        rcases Nat.lt_or_ge j n with h | h
        · exact h
        · exact absurd hj (tail_waits hs hc hn inv _ i rfl hin hun j h)
      have h1 := H.2 j (ready_mono hj hji)
      obtain ⟨hjun, oj, hoj, hall⟩ := mem_ready.1 hj
      have hnot : ∀ e ∈ oj.after, Region.binds md e = true → e.on ≠ i := fun e he hb heq => by
        have h2 := hall e he hb
        rw [heq, getD_both hun] at h2
        cases h2
      have h2 := wpOp_putIf hoj (hfree j oj hoj hji hjun hnot) (fun cs b => hsel i oi cs b hi) (fun cs b => hsel j oj cs b hoj) hQ hy h1
      refine wpOp_mono (fun a' w' h3 => ?_) h2
      have hS' : S w' := h3.2.1 (by omega)
      refine ⟨fun _ => hS', ih (listed.setIfInBounds j true) a' w' (inv.set hj hjn) (fun k ok hk hki hku hno => ?_) (ready_mono hr (Ne.symm hji)) h3.1 hS' ?_⟩
      · refine hfree k ok hk hki ?_ hno
        by_cases hjk : j = k
        · subst hjk; exact hjun
        · rw [getD_set_ne true hjk] at hku; exact hku
      · rw [Array.setIfInBounds_comm _ _ hji]
        exact h3.2.2
def invB (md : Region.Mode) (ops : Array Oper) (n : Nat) (listed : Array Bool) : Bool :=
  decide (listed.size = ops.size) && (List.range ops.size).all (fun j => !listed.getD j false || ((ops[j]?).map (·.after.all fun e => !Region.binds md e || listed.getD e.on false)).getD true) && (List.range ops.size).all (fun t => decide (t < n) || !listed.getD t true)
theorem invB_spec {md : Region.Mode} {ops : Array Oper} {n : Nat} {listed : Array Bool} (h : invB md ops n listed = true) : HeadInv md ops n listed := by
  simp only [invB, Bool.and_eq_true, decide_eq_true_eq] at h
  obtain ⟨⟨h1, h2⟩, h3⟩ := h
  refine ⟨h1, fun j oj hj hl e he hb => ?_, fun t ht htl => ?_⟩
  · have hlt : j < ops.size := (Array.getElem?_eq_some_iff.1 hj).1
    have := List.all_eq_true.1 h2 j (List.mem_range.2 hlt)
    rw [hl, hj] at this
    simp only [Bool.not_true, Bool.false_or, Option.map_some, Option.getD_some] at this
    have h4 := Array.all_eq_true_iff_forall_mem.1 this e he
    rw [hb] at h4
    simpa using h4
  · have := List.all_eq_true.1 h3 t (List.mem_range.2 htl)
    simp only [Bool.or_eq_true, decide_eq_true_eq, Bool.not_eq_true'] at this
    rcases this with h | h
    · omega
    · exact h
theorem AnyBut.take {P : Program} {ops : Array Oper} {Q : Exit → Act → World → Prop} {md : Region.Mode} {S : World → Prop} {n : Nat} {i : Nat} {oi : Oper} {v : Value} {fuel : Nat} {listed : Array Bool} {a : Act} {w : World} (hi : ops[i]? = some oi)
    (hB : (Region.noSelect ops && Region.free md ops listed i && (Region.ready md ops listed).contains i && Region.sinkB md ops n && Region.chainB md ops n && decide (n < ops.size) && decide (i < n) && invB md ops n listed) = true)
    (hQ : ∀ c a w, Q (.panic c) (a.put oi.dst v) w → Q (.panic c) a w) (hy : YieldsIf P ops S oi v a) (hS : S w)
    (h : AnyBut P md ops Q S n fuel (listed.setIfInBounds i true) (a.put oi.dst v) w) : AnyBut P md ops Q S n (fuel + 1) listed a w := by
  simp only [Bool.and_eq_true, decide_eq_true_eq] at hB
  obtain ⟨⟨⟨⟨⟨⟨⟨b1, b2⟩, b3⟩, b4⟩, b5⟩, b6⟩, b7⟩, b8⟩ := hB
  exact AnyBut.first hi (Region.noSelect_spec b1) hQ b4 b5 b6 b7 fuel listed a w (invB_spec b8) (Region.free_spec hi b2) (by simpa using b3) hy hS h
theorem AnyBut.one {P : Program} {ops : Array Oper} {Q : Exit → Act → World → Prop} {md : Region.Mode} {S : World → Prop} {n : Nat} {i : Nat} {o : Oper} {fuel : Nat} {listed : Array Bool} {a : Act} {w : World} (hr : Region.ready md ops listed = [i]) (ho : ops[i]? = some o) (hg : o.guard = none)
    (h : ∀ K : Act → World → Prop, Hid (∀ a' w', (i ≠ n → S w') → AnyBut P md ops Q S n fuel (listed.setIfInBounds i true) a' w' → K a' w') → o.wp P a w K Q) : AnyBut P md ops Q S n (fuel + 1) listed a w := by
  refine ⟨fun h0 => (by rw [hr] at h0; cases h0), fun j hj => ?_⟩
  rw [hr] at hj
  obtain rfl : j = i := by simpa using hj
  unfold wpOp
  simp only [ho]
  rw [if_pos (by simp [Region.wanted, hg])]
  exact .inl (h _ (fun _ _ h1 h2 => ⟨h1, h2⟩))
theorem AnyBut.done {P : Program} {ops : Array Oper} {Q : Exit → Act → World → Prop} {md : Region.Mode} {S : World → Prop} {n : Nat} {listed : Array Bool} {a : Act} {w : World} (hr : Region.ready md ops listed = []) (h : Q .normal a w) (fuel : Nat) : AnyBut P md ops Q S n fuel listed a w := by
  cases fuel with
  | zero => exact ⟨hr, h⟩
  | succ fuel => exact ⟨fun _ => h, by rw [hr]; simp⟩
theorem wp_region_but {P : Program} {ops : Array Oper} {Q : Exit → Act → World → Prop} {S : World → Prop} {n : Nat} {id : Nat} {a : Act} {w : World} (hm : P.follows .mixedOrders = true) (h : AnyBut P .any ops (NoPanic Q) S n ops.size (Array.replicate ops.size false) a w.drew) : (Code.region id ops true).wp P Q a w :=
  wp_region_noPanic (wp_region_any hm (AnyBut.any _ _ _ _ h))
theorem but_take {P : Program} {ops : Array Oper} {Q : Exit → Act → World → Prop} {md : Region.Mode} {S : World → Prop} {n : Nat} {i : Nat} {oi : Oper} {v : Value} {fuel : Nat} {listed : Array Bool} {a : Act} {w : World} (hi : ops.toList[i]? = some oi)
    (hB : (Region.noSelect ops && Region.free md ops listed i && (Region.ready md ops listed).contains i && Region.sinkB md ops n && Region.chainB md ops n && decide (n < ops.size) && decide (i < n) && invB md ops n listed) = true)
    (hQ : ∀ c a w, Q (.panic c) (a.put oi.dst v) w → Q (.panic c) a w) (hy : YieldsIf P ops S oi v a) (hS : S w)
    (h : AnyBut P md ops Q S n fuel (listed.setIfInBounds i true) (a.put oi.dst v) w) : AnyBut P md ops Q S n (fuel + 1) listed a w :=
  AnyBut.take (by simpa using hi) hB hQ hy hS h
theorem but_one {P : Program} {ops : Array Oper} {Q : Exit → Act → World → Prop} {md : Region.Mode} {S : World → Prop} {n : Nat} {i : Nat} {o : Oper} {fuel : Nat} {listed : Array Bool} {a : Act} {w : World} (hr : Region.ready md ops listed = [i]) (ho : ops.toList[i]? = some o) (hg : o.guard = none)
    (h : ∀ K : Act → World → Prop, Hid (∀ a' w', (i ≠ n → S w') → AnyBut P md ops Q S n fuel (listed.setIfInBounds i true) a' w' → K a' w') → o.wp P a w K Q) : AnyBut P md ops Q S n (fuel + 1) listed a w :=
  AnyBut.one hr (by simpa using ho) hg h
end Go.Proofs.YtihohcmocejijaaGreat.Bk
