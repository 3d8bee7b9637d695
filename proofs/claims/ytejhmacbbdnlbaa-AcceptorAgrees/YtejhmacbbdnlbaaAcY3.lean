/-
  The law of agreement: its memory: blocks cell for cell.
-/
import Derived.Test.YtejhmacbbdnlbaaAcY2
namespace Go.Proofs.Ytejhmacbbdnlbaa.Ac
open Go.ChangeShapes Go.WideShapes Go.ChangeAt Go.RowKit
/-- w behind stores, one behind the other -/
def wrs (w : World) (g o : Nat) : List Value → World
  | [] => w
  | v :: vs => wrs (w.setCell ⟨g, o, none⟩ v) g (o + 1) vs
def fput (f : Nat → Value) (o : Nat) : List Value → Nat → Value
  | [] => f
  | v :: vs => fput (fun i => if i = o then v else f i) (o + 1) vs
theorem fput_else {vs : List Value} : ∀ {f : Nat → Value} {o i : Nat}, (i < o ∨ o + vs.length ≤ i) → fput f o vs i = f i := by
  induction vs with
  | nil => intro f o i _; rfl
  | cons v vs ih =>
    intro f o i h
    unfold fput
    rw [ih (by simp at h; omega)]
    show (if i = o then v else f i) = f i
    rw [if_neg (by simp at h; omega)]
theorem fput_at {vs : List Value} : ∀ {f : Nat → Value} {o j : Nat}, j < vs.length → fput f o vs (o + j) = vs.getD j undef := by
  induction vs with
  | nil => intro f o j h; simp at h
  | cons v vs ih =>
    intro f o j h
    unfold fput
    cases j with
    | zero =>
      rw [fput_else (by omega)]
      show (if o + 0 = o then v else f (o + 0)) = v
      rw [if_pos (by omega)]
    | succ j =>
      have := ih (f := fun i => if i = o then v else f i) (o := o + 1) (j := j) (by simp at h; omega)
      rw [show o + 1 + j = o + (j + 1) from by omega] at this
      rw [this]
      simp
theorem fput_at0 {v : Value} {vs : List Value} {f : Nat → Value} {o : Nat} : fput f o (v :: vs) o = v := fput_at (j := 0) (by simp)
/-- a block of m cells of a type, cell for cell -/
def RowF (w : World) (E g m : Nat) (f : Nat → Value) : Prop := ∃ cur : Array Value, w.heap[g]? = some (.cells cur E (0, 0)) ∧ cur.size = m ∧ ∀ i, i < m → cur[i]? = some (f i)
theorem RowF.lt {w : World} {E g m : Nat} {f : Nat → Value} (h : RowF w E g m f) : g < w.heap.size := by
  obtain ⟨_, h1, _⟩ := h
  exact (Array.getElem?_eq_some_iff.1 h1).1
theorem RowF.at {w : World} {E g m : Nat} {f : Nat → Value} (h : RowF w E g m f) {i : Nat} (hi : i < m) : w.cell? ⟨g, i, none⟩ = some (f i) := by
  obtain ⟨cur, h1, h2, h3⟩ := h
  unfold World.cell?
  rw [show w.heap[(⟨g, i, none⟩ : Addr).block]? = _ from h1]
  exact h3 i hi
theorem RowF.frz {w : World} {E g m : Nat} {f : Nat → Value} (h : RowF w E g m f) (i : Nat) : w.frozen? ⟨g, i, none⟩ = false := by
  obtain ⟨cur, h1, h2, h3⟩ := h
  unfold World.frozen?
  rw [show w.heap[(⟨g, i, none⟩ : Addr).block]? = _ from h1]
  simp
theorem RowF.kept {w w' : World} {E g m : Nat} {f : Nat → Value} (h : RowF w E g m f) (e : w'.heap[g]? = w.heap[g]?) : RowF w' E g m f := by
  obtain ⟨cur, h1, h2⟩ := h
  exact ⟨cur, e.trans h1, h2⟩
theorem RowF.below {w w' : World} {E g m : Nat} {f : Nat → Value} (h : RowF w E g m f) (hb : Below w.heap.size w w') : RowF w' E g m f := h.kept (hb.block g h.lt)
theorem RowF.put {w : World} {E g m : Nat} {f : Nat → Value} (h : RowF w E g m f) (o : Nat) (v : Value) : RowF (w.setCell ⟨g, o, none⟩ v) E g m (fun i => if i = o then v else f i) := by
  obtain ⟨cur, h1, h2, h3⟩ := h
  refine ⟨_, heap_setCell_same w g o cur E v h1, by simp [h2], fun i hi => ?_⟩
  have := h3 i hi
  rw [Array.getElem?_setIfInBounds]
  by_cases e : o = i
  · subst e
    rw [if_pos rfl, if_pos (by omega)]
    show some v = some (if o = o then v else f o)
    rw [if_pos rfl]
  · rw [if_neg e]
    show cur[i]? = some (if i = o then v else f i)
    rw [if_neg (fun x => e x.symm)]
    exact this
theorem RowF.wrs {vs : List Value} : ∀ {w : World} {E g m : Nat} {f : Nat → Value} (_ : RowF w E g m f) (o : Nat), RowF (wrs w g o vs) E g m (fput f o vs) := by
  induction vs with
  | nil => intro w E g m f h o; exact h
  | cons v vs ih => intro w E g m f h o; exact ih (h.put o v) (o + 1)
theorem wrs_grown {vs : List Value} : ∀ {w : World} {g o : Nat}, w.grownBy (Ac.wrs w g o vs) (some g) := by
  induction vs with
  | nil => intro w g o; exact World.grownBy.refl _ _
  | cons v vs ih => intro w g o; exact grownBy_trans (set_grownBy w g o v) ih
theorem wrs_below {vs : List Value} : ∀ {N : Nat} {w0 w : World} {g o : Nat}, Below N w0 w → N ≤ g → Below N w0 (Ac.wrs w g o vs) := by
  induction vs with
  | nil => intro N w0 w g o h _; exact h
  | cons v vs ih => intro N w0 w g o h hg; exact ih (h.setCell (p := ⟨g, o, none⟩) hg _) hg
theorem below_grownBy {w w' : World} (hb : Below w.heap.size w w') : w.grownBy w' none := ⟨hb.os, hb.tape, hb.output, hb.size, fun i hi _ => hb.block i hi⟩
/-- only the block g, which has the type E if it has one, is another -/
structure Kp (w w' : World) (g E : Nat) : Prop where
  gr : w.grownBy w' (some g)
  ob : ∀ cur T fz, w.heap[g]? = some (.cells cur T fz) → T = E
theorem RowF.kp {w w' : World} {E T g b m : Nat} {f : Nat → Value} (h : RowF w T b m f) (hk : Kp w w' g E) (hE : E ≠ T) : RowF w' T b m f := by
  refine h.kept (hk.gr.block b h.lt fun e => ?_)
  obtain ⟨cur, h1, _⟩ := h
  have e' : b = g := Option.some.inj e
  subst e'
  exact hE (hk.ob _ _ _ h1).symm
theorem own_kp {w w' : World} {N E T s n g : Nat} {v : Value} {xs : List Value} (h : w.ownsRow N T s v n xs) (hk : Kp w w' g E) (hE : E ≠ T) : w'.ownsRow N T s v n xs := by
  refine h.kept hk.gr ?_
  rcases h.2 with ⟨rfl, _⟩ | ⟨b, cap, cur, rfl, _, hh, _⟩
  · exact .inl rfl
  · right
    intro e0
    simp [Value.ownBlock] at e0
    subst e0
    exact hE (hk.ob _ _ _ hh).symm
theorem OwnA.kp {w w' : World} {N E g : Nat} {v : Value} {ls : List Acd} (h : OwnA w N v ls) (hk : Kp w w' g E) (h3 : E ≠ 3) (h49 : E ≠ 49) : OwnA w' N v ls := by
  obtain ⟨L, e, h1, h2⟩ := h
  exact ⟨L, e, own_kp h1 hk h49, fun c hc => own_kp (h2 c hc) hk h3⟩
theorem own_bel {w w' : World} {N T s n : Nat} {v : Value} {xs : List Value} (h : w.ownsRow N T s v n xs) (hb : Below w.heap.size w w') : w'.ownsRow N T s v n xs := h.kept (below_grownBy hb) (by
  rcases h.2 with ⟨rfl, _⟩ | ⟨b, cap, cur, rfl, _⟩
  · exact .inl rfl
  · right
    intro e
    cases e)
theorem RowF.kpw {w : World} {E g m : Nat} {f : Nat → Value} (h : RowF w E g m f) (o : Nat) (vs : List Value) : Kp w (Ac.wrs w g o vs) g E := ⟨wrs_grown, fun cur T fz e => by
  obtain ⟨c2, h1, _⟩ := h
  rw [h1] at e
  injection e with e
  injection e with _ e
  exact e.symm⟩
/-- eight cells -/
def CelF (f : Nat → Value) (o : Nat) (c : Cel) : Prop := ∀ i, i < 8 → f (o + i) = c.vs.getD i undef
theorem CelF.at {w : World} {E g m o : Nat} {f : Nat → Value} {c : Cel} (h : RowF w E g m f) (hc : CelF f o c) (ho : o + 8 ≤ m) : CelAt w g o c := by
  have k : ∀ i, i < 8 → w.cell? ⟨g, o + i, none⟩ = some (c.vs.getD i undef) := fun i hi => by rw [h.at (by omega), hc i hi]
  exact ⟨k 0 (by omega), k 1 (by omega), k 2 (by omega), k 3 (by omega), k 4 (by omega), k 5 (by omega), k 6 (by omega), k 7 (by omega)⟩
def OneAt (w : World) (N : Nat) (f : Nat → Value) (o : Nat) (x : Acd) : Prop := ∃ c : Cel, c.x = x ∧ CelF f o c ∧ w.ownsRow N 3 1 (.slice c.a c.l c.c) c.l (intCells c.x.d.ns)
theorem OneAt.kp {w w' : World} {N o g E : Nat} {f : Nat → Value} {x : Acd} (h : OneAt w N f o x) (hk : Kp w w' g E) (h3 : E ≠ 3) : OneAt w' N f o x := by
  obtain ⟨c, e, h1, h2⟩ := h
  exact ⟨c, e, h1, own_kp h2 hk h3⟩
theorem OneAt.below {w w' : World} {N o : Nat} {f : Nat → Value} {x : Acd} (h : OneAt w N f o x) (hb : Below w.heap.size w w') : OneAt w' N f o x := by
  obtain ⟨c, e, h1, h2⟩ := h
  exact ⟨c, e, h1, own_bel h2 hb⟩
theorem OneAt.else {w : World} {N o o2 : Nat} {f : Nat → Value} {x : Acd} {vs : List Value} (h : OneAt w N f o x) (hl : vs.length ≤ 8) (hne : o2 + vs.length ≤ o ∨ o + 8 ≤ o2) : OneAt w N (fput f o2 vs) o x := by
  obtain ⟨c, e, h1, h2⟩ := h
  refine ⟨c, e, fun i hi => ?_, h2⟩
  rw [fput_else (by omega)]
  exact h1 i hi
theorem OneAt.new {w : World} {N o : Nat} {f : Nat → Value} (c : Cel) (h : w.ownsRow N 3 1 (.slice c.a c.l c.c) c.l (intCells c.x.d.ns)) : OneAt w N (fput f o c.vs) o c.x := ⟨c, rfl, fun _ hi => fput_at (by rw [vs_len]; exact hi), h⟩
/-- the seven cells of a delta alone -/
theorem OneAt.new7 {w : World} {N o : Nat} {f : Nat → Value} {x : Acd} (h : OneAt w N f o x) (c : Cel) (hb : c.x.b = x.b) (hn : w.ownsRow N 3 1 (.slice c.a c.l c.c) c.l (intCells c.x.d.ns)) : OneAt w N (fput f (o + 1) (c.vs.drop 1)) o c.x := by
  obtain ⟨c0, e, h1, _⟩ := h
  refine ⟨c, rfl, fun i hi => ?_, hn⟩
  have hl : (c.vs.drop 1).length = 7 := rfl
  cases i with
  | zero =>
    rw [fput_else (by omega), h1 0 (by omega)]
    show Value.int .i64 c0.x.b = Value.int .i64 c.x.b
    rw [e, hb]
  | succ i =>
    rw [show o + (i + 1) = o + 1 + i from by omega, fput_at (by omega)]
    simp
end Go.Proofs.Ytejhmacbbdnlbaa.Ac
