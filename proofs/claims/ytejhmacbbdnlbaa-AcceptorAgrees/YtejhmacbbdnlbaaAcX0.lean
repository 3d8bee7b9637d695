/-
  Rows of whatever type: eight cells are written.
-/
import Derived.Test.YtejhmacbbdnlbaaAcW
namespace Go.Proofs.Ytejhmacbbdnlbaa.Ac
open Go.ChangeShapes Go.WideShapes Go.ChangeAt Go.RowKit
/-- eight cells at o -/
def put8 (w : World) (g o : Nat) (c : Cel) : World := ((((((((w.setCell ⟨g, o, none⟩ (.int .i64 c.x.b)).setCell ⟨g, o + 1, none⟩ (.int .i64 c.x.d.k)).setCell ⟨g, o + 2, none⟩ (.int .i64 c.x.d.id)).setCell ⟨g, o + 3, none⟩ (.int .i64 c.x.d.zn)).setCell ⟨g, o + 4, none⟩ (.int .i64 c.x.d.rk)).setCell ⟨g, o + 5, none⟩ (.int .i64 c.x.d.wt)).setCell ⟨g, o + 6, none⟩ (.int .i64 c.x.d.g)).setCell ⟨g, o + 7, none⟩ (.slice c.a c.l c.c))
def put7 (w : World) (g o : Nat) (c : Cel) : World := (((((((w.setCell ⟨g, o + 1, none⟩ (.int .i64 c.x.d.k)).setCell ⟨g, o + 2, none⟩ (.int .i64 c.x.d.id)).setCell ⟨g, o + 3, none⟩ (.int .i64 c.x.d.zn)).setCell ⟨g, o + 4, none⟩ (.int .i64 c.x.d.rk)).setCell ⟨g, o + 5, none⟩ (.int .i64 c.x.d.wt)).setCell ⟨g, o + 6, none⟩ (.int .i64 c.x.d.g)).setCell ⟨g, o + 7, none⟩ (.slice c.a c.l c.c))
theorem put8_row {w : World} {B E g n cap : Nat} {L : List Cel} (h : w.ownsRow B E 8 (.slice (some ⟨g, 0, none⟩) n cap) n (celsV L)) {k o : Nat} (ho : o = k * 8) (hk : k < L.length) (c : Cel) :
    (put8 w g o c).ownsRow B E 8 (.slice (some ⟨g, 0, none⟩) n cap) n (celsV (L.set k c)) ∧ w.grownBy (put8 w g o c) (some g) := by
  subst ho
  unfold put8
  obtain ⟨r0, g0⟩ := h.stored (k * 8) (.int .i64 c.x.b)
  obtain ⟨r1, g1⟩ := r0.stored (k * 8 + 1) (.int .i64 c.x.d.k)
  obtain ⟨r2, g2⟩ := r1.stored (k * 8 + 2) (.int .i64 c.x.d.id)
  obtain ⟨r3, g3⟩ := r2.stored (k * 8 + 3) (.int .i64 c.x.d.zn)
  obtain ⟨r4, g4⟩ := r3.stored (k * 8 + 4) (.int .i64 c.x.d.rk)
  obtain ⟨r5, g5⟩ := r4.stored (k * 8 + 5) (.int .i64 c.x.d.wt)
  obtain ⟨r6, g6⟩ := r5.stored (k * 8 + 6) (.int .i64 c.x.d.g)
  obtain ⟨r7, g7⟩ := r6.stored (k * 8 + 7) (.slice c.a c.l c.c)
  have e := celsV_set8 L k hk c
  rw [Nat.add_zero] at e
  rw [e] at r7
  exact ⟨r7, (grownBy_trans (grownBy_trans (grownBy_trans (grownBy_trans (grownBy_trans (grownBy_trans (grownBy_trans g0 g1) g2) g3) g4) g5) g6) g7)⟩
theorem put7_row {w : World} {B E g n cap : Nat} {L : List Cel} (h : w.ownsRow B E 8 (.slice (some ⟨g, 0, none⟩) n cap) n (celsV L)) {k o : Nat} (ho : o = k * 8) (hk : k < L.length) (c : Cel) (hb : c.x.b = L[k].x.b) :
    (put7 w g o c).ownsRow B E 8 (.slice (some ⟨g, 0, none⟩) n cap) n (celsV (L.set k c)) ∧ w.grownBy (put7 w g o c) (some g) := by
  subst ho
  unfold put7
  obtain ⟨r1, g1⟩ := h.stored (k * 8 + 1) (.int .i64 c.x.d.k)
  obtain ⟨r2, g2⟩ := r1.stored (k * 8 + 2) (.int .i64 c.x.d.id)
  obtain ⟨r3, g3⟩ := r2.stored (k * 8 + 3) (.int .i64 c.x.d.zn)
  obtain ⟨r4, g4⟩ := r3.stored (k * 8 + 4) (.int .i64 c.x.d.rk)
  obtain ⟨r5, g5⟩ := r4.stored (k * 8 + 5) (.int .i64 c.x.d.wt)
  obtain ⟨r6, g6⟩ := r5.stored (k * 8 + 6) (.int .i64 c.x.d.g)
  obtain ⟨r7, g7⟩ := r6.stored (k * 8 + 7) (.slice c.a c.l c.c)
  rw [celsV_set7 L k hk c hb] at r7
  exact ⟨r7, (grownBy_trans (grownBy_trans (grownBy_trans (grownBy_trans (grownBy_trans (grownBy_trans g1 g2) g3) g4) g5) g6) g7)⟩
/-- the cells of one, in a row of whatever type -/
theorem row_at {w : World} {B E g n cap : Nat} {L : List Cel} (h : w.ownsRow B E 8 (.slice (some ⟨g, 0, none⟩) n cap) n (celsV L)) {k o : Nat} (ho : o = k * 8) (hk : k < L.length) : CelAt w g o L[k] := by
  subst ho
  rcases own_lies h with h0 | ⟨b, off, e, hc⟩
  · have := h.1
    rw [celsV_len] at this
    omega
  · simp at e
    obtain ⟨rfl, rfl⟩ := e
    have hx := lies_cel hc hk
    rw [Nat.zero_add] at hx
    exact hx
theorem row_frz {w : World} {B E s g n cap : Nat} {xs : List Value} (h : w.ownsRow B E s (.slice (some ⟨g, 0, none⟩) n cap) n xs) (o : Nat) : w.frozen? ⟨g, o, none⟩ = false := h.frozenAt o
theorem put8_else {w : World} {g o k : Nat} {c : Cel} (h : k ≠ g) : (put8 w g o c).heap[k]? = w.heap[k]? := by
  unfold put8
  rw [heap_setCell_other _ ⟨g, o + 7, none⟩ k _ h, heap_setCell_other _ ⟨g, o + 6, none⟩ k _ h, heap_setCell_other _ ⟨g, o + 5, none⟩ k _ h, heap_setCell_other _ ⟨g, o + 4, none⟩ k _ h, heap_setCell_other _ ⟨g, o + 3, none⟩ k _ h, heap_setCell_other _ ⟨g, o + 2, none⟩ k _ h, heap_setCell_other _ ⟨g, o + 1, none⟩ k _ h, heap_setCell_other _ ⟨g, o, none⟩ k _ h]
theorem put7_else {w : World} {g o k : Nat} {c : Cel} (h : k ≠ g) : (put7 w g o c).heap[k]? = w.heap[k]? := by
  unfold put7
  rw [heap_setCell_other _ ⟨g, o + 7, none⟩ k _ h, heap_setCell_other _ ⟨g, o + 6, none⟩ k _ h, heap_setCell_other _ ⟨g, o + 5, none⟩ k _ h, heap_setCell_other _ ⟨g, o + 4, none⟩ k _ h, heap_setCell_other _ ⟨g, o + 3, none⟩ k _ h, heap_setCell_other _ ⟨g, o + 2, none⟩ k _ h, heap_setCell_other _ ⟨g, o + 1, none⟩ k _ h]
theorem CelAt.kept {w w' : World} {b o : Nat} {c : Cel} (h : CelAt w b o c) (e : w'.heap[b]? = w.heap[b]?) : CelAt w' b o c := by
  obtain ⟨x0, x1, x2, x3, x4, x5, x6, x7⟩ := h
  exact ⟨(cell_block e).trans x0, (cell_block e).trans x1, (cell_block e).trans x2, (cell_block e).trans x3, (cell_block e).trans x4, (cell_block e).trans x5, (cell_block e).trans x6, (cell_block e).trans x7⟩
theorem CelAt.drew {w : World} {b o : Nat} {c : Cel} (h : CelAt w b o c) : CelAt w.drew b o c := h
theorem cell_drew9 {w : World} {a : Addr} {v : Value} (h : w.cell? a = some v) : w.drew.cell? a = some v := h
theorem CelAt.below {w w' : World} {b o : Nat} {c : Cel} (h : CelAt w b o c) (hb : Below w.heap.size w w') : CelAt w' b o c := h.kept (hb.block b (World.block_lt_of_cell? w ⟨b, o, none⟩ h.1))
end Go.Proofs.Ytejhmacbbdnlbaa.Ac
