/-
  The base of layer 17: boxes of 2 and 3 cells as one fact; rows of bytes; the table of shapes.
-/
import Derived.Test.YtcdlkdbnlomghaaDoorRows
import Derived.Test.YtcdlkdbnlomghaaDoorBiP
import Derived.WalkKit
import Derived.WalkSpells
import Derived.ProofKit
import Derived.OpenShut
import Derived.Below
import Derived.Handy
import Derived.Deep.Cut
import Derived.Sort.Walk0
import Derived.Deep.QuietTactic
import Derived.Deep.RegionHeld3
import Derived.BigQuiet
import Derived.BigRegion
import Derived.StillTail
import Derived.Laws.Cover1
import Derived.Laws.Rows
import Derived.Laws.OwnMore
import Derived.Laws.AppendOwn
import Derived.Laws.AppendOwnNone
import Derived.OwnWalk
import Derived.Shelf.SlSortCmp.QuietGrown
namespace Go.Proofs.YtcdlkdbnlomghaaDoor.Bi
open Go.ChangeShapes Go.WideShapes Go.ChangeAt Go.RowKit
theorem Hid.mk9 {P : Prop} (h : P) : Hid P := h
theorem ret_int {k : IntKind} {a b : Int} (h : a = b) : Ending.returned (.int k a) = .returned (.int k b) := by rw [h]
theorem below2 {a b c : World} (h : Below a.heap.size a b) (k : Below b.heap.size b c) : Below a.heap.size a c := h.trans (k.mono h.size)
theorem below_drewN (w : World) (n : Nat) : Below w.heap.size w (w.drewN n) := ⟨rfl, rfl, rfl, Nat.le_refl _, fun _ _ => rfl⟩
theorem below_drew (w : World) : Below w.heap.size w w.drew := ⟨rfl, rfl, rfl, Nat.le_refl _, fun _ _ => rfl⟩
theorem below_alloc (w : World) (o : Obj) : Below w.heap.size w (w.alloc o) := (Below.refl _ _).alloc (Nat.le_refl _) _
/-- the walk of a region that only reads, closed to evaluation: else each step evaluates all the steps behind it -/
structure QW (P : Program) (ops : Array Oper) (C : World → Prop) (Q : Act → Prop) (l : List Oper) (a : Act) : Prop where
  out : wpQuiet P ops C Q l a
theorem QW_step {P : Program} {ops : Array Oper} {C : World → Prop} {Q : Act → Prop} {a : Act} {o : Oper} {rest : List Oper}
    (h : ∀ K : Act → Prop, (∀ a, QW P ops C Q rest a → K a) → if Region.wanted o (yielded ops a.tmps) then o.quiet P a C K else K (a.put o.dst undef)) : QW P ops C Q (o :: rest) a :=
  ⟨wpQuiet_step fun K hK => h K fun a q => hK a q.out⟩
theorem QW_nil {P : Program} {ops : Array Oper} {C : World → Prop} {Q : Act → Prop} {a : Act} (h : Q a) : QW P ops C Q [] a := ⟨wpQuiet_nil h⟩
theorem wp_region_QW {P : Program} {id : Nat} {Q : Exit → Act → World → Prop} {a : Act} {w : World} {l : List Oper} (hm : P.follows .mixedOrders = true) (hB : Region.lexB .any l.toArray = true)
    (h : QW P l.toArray (fun w' => ∃ p : GrownBy, w' = Go.Sort.grow (w.drewN p.n) p.os) (fun a' => ∀ w', (∃ p : GrownBy, w' = Go.Sort.grow (w.drewN p.n) p.os) → Q .normal a' w') l a) : (Code.region id l.toArray true).wp P Q a w :=
  wp_region_quiet_grown hm hB h.out
theorem mixed5 : Tryd.prog.follows .mixedOrders = true := by kernel_rfl
/-- so many draws on, these blocks behind -/
abbrev Grown (w w' : World) : Prop := ∃ q os', w' = Go.Sort.grow (w.drewN q) os'
theorem grown_alloc (w : World) (o : Obj) : Grown w (w.alloc o) := ⟨0, _, by rw [Go.Sort.alloc_eq_grow]; rfl⟩
theorem below_grow (w : World) (n : Nat) (os : Array Obj) : Below w.heap.size w (Go.Sort.grow (w.drewN n) os) := by
  refine ⟨rfl, rfl, rfl, ?_, fun k hk => ?_⟩
  · show w.heap.size ≤ (w.heap ++ os).size
    simp
  · show (w.heap ++ os)[k]? = w.heap[k]?
    exact Array.getElem?_append_left hk
theorem grown_below {w w' : World} (h : Grown w w') : Below w.heap.size w w' := by
  obtain ⟨q, os, rfl⟩ := h
  exact below_grow _ _ _
theorem grown2 {a b c : World} (h : Grown a b) (k : Grown b c) : Grown a c := by
  obtain ⟨n, os, rfl⟩ := h
  obtain ⟨q, os', rfl⟩ := k
  exact ⟨n + q, os ++ os', by show Go.Sort.grow (Go.Sort.grow ((a.drewN n).drewN q) os) os' = _; rw [Go.Sort.grow_grow, World.drewN_drewN]⟩
theorem grown_refl (w : World) : Grown w w := ⟨0, #[], by rw [Go.Sort.grow_empty]; rfl⟩
theorem mixed9 : Tryd.prog.follows .mixedOrders = true := by kernel_rfl
theorem held_one {P : Program} {ops : Array Oper} {Q : Exit → Act → World → Prop} {md : Region.Mode} {S : World → Prop} {i : Nat} {o : Oper} {fuel : Nat} {listed : Array Bool} {a : Act} {w : World} (hr : Region.ready md ops listed = [i]) (ho' : ops.toList[i]? = some o) (hg : Region.wanted o (yielded ops a.tmps) = true)
    (h : ∀ K : Act → World → Prop, Hid (∀ a' w', S w' → wpAnyH P md ops Q S fuel (listed.setIfInBounds i true) a' w' → K a' w') → o.wp P a w K Q) : wpAnyH P md ops Q S (fuel + 1) listed a w := by
  have ho : ops[i]? = some o := by simpa using ho'
  refine wpAnyH_all hr (by simp) (fun j hj => ?_)
  obtain rfl : j = i := by simpa using hj
  unfold wpOp
  simp only [ho]
  rw [if_pos hg]
  exact .inl (h _ (fun _ _ h1 h2 => ⟨h1, h2⟩))
theorem held_two {P : Program} {ops : Array Oper} {Q : Exit → Act → World → Prop} {md : Region.Mode} {S : World → Prop} {i j : Nat} {o o2 : Oper} {fuel : Nat} {listed : Array Bool} {a : Act} {w : World} (hr : Region.ready md ops listed = [i, j]) (hi : ops.toList[i]? = some o) (hj : ops.toList[j]? = some o2) (hg : Region.wanted o (yielded ops a.tmps) = true) (hg2 : Region.wanted o2 (yielded ops a.tmps) = true)
    (h : ∀ K : Act → World → Prop, Hid (∀ a' w', S w' → wpAnyH P md ops Q S fuel (listed.setIfInBounds i true) a' w' → K a' w') → o.wp P a w K Q)
    (h2 : ∀ K : Act → World → Prop, Hid (∀ a' w', S w' → wpAnyH P md ops Q S fuel (listed.setIfInBounds j true) a' w' → K a' w') → o2.wp P a w K Q) : wpAnyH P md ops Q S (fuel + 1) listed a w := by
  have ho : ops[i]? = some o := by simpa using hi
  have ho2 : ops[j]? = some o2 := by simpa using hj
  refine wpAnyH_all hr (by simp) (fun l hl => ?_)
  have hl2 : l = i ∨ l = j := by simpa using hl
  rcases hl2 with rfl | rfl
  · unfold wpOp
    simp only [ho]
    rw [if_pos hg]
    exact .inl (h _ (fun _ _ h1 h2 => ⟨h1, h2⟩))
  · unfold wpOp
    simp only [ho2]
    rw [if_pos hg2]
    exact .inl (h2 _ (fun _ _ h1 h2 => ⟨h1, h2⟩))
theorem held_take {P : Program} {ops : Array Oper} {Q : Exit → Act → World → Prop} {md : Region.Mode} {S : World → Prop} {i : Nat} {oi : Oper} {v : Value} {fuel : Nat} {listed : Array Bool} {a : Act} {w : World} (hi : ops.toList[i]? = some oi)
    (hB : (Region.noSelect ops && Region.free md ops listed i && (Region.ready md ops listed).contains i) = true)
    (hQ : ∀ c a w, Q (.panic c) (a.put oi.dst v) w → Q (.panic c) a w) (hy : YieldsIf P ops S oi v a) (hS : S w)
    (h : wpAnyH P md ops Q S fuel (listed.setIfInBounds i true) (a.put oi.dst v) w) : wpAnyH P md ops Q S (fuel + 1) listed a w := by
  simp only [Bool.and_eq_true] at hB
  exact wpAnyH_take (by simpa using hi) hB.1.1 hB.1.2 hB.2 hQ hy hS h
theorem held_start {P : Program} {ops : Array Oper} {Q : Exit → Act → World → Prop} {S : World → Prop} {id : Nat} {a : Act} {w : World} (hm : P.follows .mixedOrders = true) (h : wpAnyH P .any ops (NoPanic Q) S ops.size (Array.replicate ops.size false) a w.drew) : (Code.region id ops true).wp P Q a w :=
  wp_region_noPanic (wp_region_held hm h)
/-- a region of a body, by its number -/
def regionOf (n : Nat) : Code → Option Code
  | .region id ops d => if id = n then some (.region id ops d) else none
  | .loop c => regionOf n c
  | .seq a b => match regionOf n a with
    | some c => some c
    | none => regionOf n b
  | .block _ c => regionOf n c
  | .scope c => regionOf n c
  | .cond _ a b => match regionOf n a with
    | some c => some c
    | none => regionOf n b
  | _ => none
theorem info_parts {T : Nat} {z : Option Value} {s b : Nat} (h : (Tryd.prog.info? T).map (fun i => (i.zero, i.size, i.bytes)) = some (z, s, b)) : ∃ i, Tryd.prog.info? T = some i ∧ i.zero = z ∧ i.size = s ∧ i.bytes = b := by
  obtain ⟨i, hi, hb⟩ := Option.map_eq_some_iff.1 h
  simp at hb
  exact ⟨i, hi, hb.1, hb.2.1, hb.2.2⟩
def B2 (w : World) (b T : Nat) (v0 v1 : Value) : Prop := w.heap[b]? = some (.cells #[v0, v1] T (0, 0))
theorem B2.lt {w : World} {b T : Nat} {v0 v1 : Value} (h : B2 w b T v0 v1) : b < w.heap.size := (Array.getElem?_eq_some_iff.1 h).1
theorem B2.kept {w : World} {b T : Nat} {v0 v1 : Value} (h : B2 w b T v0 v1) {w' : World} (e : w'.heap[b]? = w.heap[b]?) : B2 w' b T v0 v1 := e.trans h
theorem B2.below {w : World} {b T : Nat} {v0 v1 : Value} (h : B2 w b T v0 v1) {w' : World} (hb : Below w.heap.size w w') : B2 w' b T v0 v1 := h.kept (hb.block b h.lt)
theorem B2.new (w : World) (T : Nat) (v0 v1 : Value) : B2 (w.alloc (.cells #[v0, v1] T)) w.heap.size T v0 v1 := heap_alloc_new w _
theorem B2.cells {w : World} {b T : Nat} {v0 v1 : Value} (h : B2 w b T v0 v1) : w.cell? ⟨b, 0, none⟩ = some v0 ∧ w.cell? ⟨b, 1, none⟩ = some v1 := by
  unfold World.cell?
  refine ⟨?_, ?_⟩
  · rw [show w.heap[(⟨b, 0, none⟩ : Addr).block]? = _ from h]; rfl
  · rw [show w.heap[(⟨b, 1, none⟩ : Addr).block]? = _ from h]; rfl
theorem B2.frz {w : World} {b T : Nat} {v0 v1 : Value} (h : B2 w b T v0 v1) : w.frozen? ⟨b, 0, none⟩ = false ∧ w.frozen? ⟨b, 1, none⟩ = false := by
  unfold World.frozen?
  refine ⟨?_, ?_⟩
  · rw [show w.heap[(⟨b, 0, none⟩ : Addr).block]? = _ from h]; rfl
  · rw [show w.heap[(⟨b, 1, none⟩ : Addr).block]? = _ from h]; rfl
def set2 (w : World) (b : Nat) (u0 u1 : Value) : World := ((w.setCell ⟨b, 0, none⟩ u0).setCell ⟨b, 1, none⟩ u1)
theorem B2.set {w : World} {b T : Nat} {v0 v1 : Value} (h : B2 w b T v0 v1) (u0 u1 : Value) : B2 (set2 w b u0 u1) b T u0 u1 := by
  unfold set2
  have h0 := heap_setCell_same w b 0 _ _ u0 h
  have h1 := heap_setCell_same (w.setCell ⟨b, 0, none⟩ u0) b 1 _ _ u1 h0
  unfold B2
  rw [h1]
  simp
theorem B2.put0 {w : World} {b T : Nat} {v0 v1 : Value} (h : B2 w b T v0 v1) (u : Value) : B2 (w.setCell ⟨b, 0, none⟩ u) b T u v1 := heap_setCell_same w b 0 _ _ u h
theorem B2.put1 {w : World} {b T : Nat} {v0 v1 : Value} (h : B2 w b T v0 v1) (u : Value) : B2 (w.setCell ⟨b, 1, none⟩ u) b T v0 u := heap_setCell_same w b 1 _ _ u h
theorem B2.else {w : World} {b T : Nat} {v0 v1 : Value} (h : B2 w b T v0 v1) {c i : Nat} (u : Value) (hne : b ≠ c) : B2 (w.setCell ⟨c, i, none⟩ u) b T v0 v1 := h.kept (heap_setCell_other _ ⟨c, i, none⟩ b _ hne)
theorem set2_else {w : World} {b k : Nat} (u0 u1 : Value) (h : k ≠ b) : (set2 w b u0 u1).heap[k]? = w.heap[k]? := by
  unfold set2
  rw [heap_setCell_other _ ⟨b, 1, none⟩ k _ h, heap_setCell_other _ ⟨b, 0, none⟩ k _ h]
theorem set2_below {N : Nat} {w0 w : World} {b : Nat} (h : Below N w0 w) (hb : N ≤ b) (u0 u1 : Value) : Below N w0 (set2 w b u0 u1) := ((h.setCell (p := ⟨b, 0, none⟩) hb _).setCell (p := ⟨b, 1, none⟩) hb _)
def B3 (w : World) (b T : Nat) (v0 v1 v2 : Value) : Prop := w.heap[b]? = some (.cells #[v0, v1, v2] T (0, 0))
theorem B3.lt {w : World} {b T : Nat} {v0 v1 v2 : Value} (h : B3 w b T v0 v1 v2) : b < w.heap.size := (Array.getElem?_eq_some_iff.1 h).1
theorem B3.kept {w : World} {b T : Nat} {v0 v1 v2 : Value} (h : B3 w b T v0 v1 v2) {w' : World} (e : w'.heap[b]? = w.heap[b]?) : B3 w' b T v0 v1 v2 := e.trans h
theorem B3.below {w : World} {b T : Nat} {v0 v1 v2 : Value} (h : B3 w b T v0 v1 v2) {w' : World} (hb : Below w.heap.size w w') : B3 w' b T v0 v1 v2 := h.kept (hb.block b h.lt)
theorem B3.new (w : World) (T : Nat) (v0 v1 v2 : Value) : B3 (w.alloc (.cells #[v0, v1, v2] T)) w.heap.size T v0 v1 v2 := heap_alloc_new w _
theorem B3.cells {w : World} {b T : Nat} {v0 v1 v2 : Value} (h : B3 w b T v0 v1 v2) : w.cell? ⟨b, 0, none⟩ = some v0 ∧ w.cell? ⟨b, 1, none⟩ = some v1 ∧ w.cell? ⟨b, 2, none⟩ = some v2 := by
  unfold World.cell?
  refine ⟨?_, ?_, ?_⟩
  · rw [show w.heap[(⟨b, 0, none⟩ : Addr).block]? = _ from h]; rfl
  · rw [show w.heap[(⟨b, 1, none⟩ : Addr).block]? = _ from h]; rfl
  · rw [show w.heap[(⟨b, 2, none⟩ : Addr).block]? = _ from h]; rfl
theorem B3.frz {w : World} {b T : Nat} {v0 v1 v2 : Value} (h : B3 w b T v0 v1 v2) : w.frozen? ⟨b, 0, none⟩ = false ∧ w.frozen? ⟨b, 1, none⟩ = false ∧ w.frozen? ⟨b, 2, none⟩ = false := by
  unfold World.frozen?
  refine ⟨?_, ?_, ?_⟩
  · rw [show w.heap[(⟨b, 0, none⟩ : Addr).block]? = _ from h]; rfl
  · rw [show w.heap[(⟨b, 1, none⟩ : Addr).block]? = _ from h]; rfl
  · rw [show w.heap[(⟨b, 2, none⟩ : Addr).block]? = _ from h]; rfl
def set3 (w : World) (b : Nat) (u0 u1 u2 : Value) : World := (((w.setCell ⟨b, 0, none⟩ u0).setCell ⟨b, 1, none⟩ u1).setCell ⟨b, 2, none⟩ u2)
theorem B3.set {w : World} {b T : Nat} {v0 v1 v2 : Value} (h : B3 w b T v0 v1 v2) (u0 u1 u2 : Value) : B3 (set3 w b u0 u1 u2) b T u0 u1 u2 := by
  unfold set3
  have h0 := heap_setCell_same w b 0 _ _ u0 h
  have h1 := heap_setCell_same (w.setCell ⟨b, 0, none⟩ u0) b 1 _ _ u1 h0
  have h2 := heap_setCell_same ((w.setCell ⟨b, 0, none⟩ u0).setCell ⟨b, 1, none⟩ u1) b 2 _ _ u2 h1
  unfold B3
  rw [h2]
  simp
theorem B3.put0 {w : World} {b T : Nat} {v0 v1 v2 : Value} (h : B3 w b T v0 v1 v2) (u : Value) : B3 (w.setCell ⟨b, 0, none⟩ u) b T u v1 v2 := heap_setCell_same w b 0 _ _ u h
theorem B3.put1 {w : World} {b T : Nat} {v0 v1 v2 : Value} (h : B3 w b T v0 v1 v2) (u : Value) : B3 (w.setCell ⟨b, 1, none⟩ u) b T v0 u v2 := heap_setCell_same w b 1 _ _ u h
theorem B3.put2 {w : World} {b T : Nat} {v0 v1 v2 : Value} (h : B3 w b T v0 v1 v2) (u : Value) : B3 (w.setCell ⟨b, 2, none⟩ u) b T v0 v1 u := heap_setCell_same w b 2 _ _ u h
theorem B3.else {w : World} {b T : Nat} {v0 v1 v2 : Value} (h : B3 w b T v0 v1 v2) {c i : Nat} (u : Value) (hne : b ≠ c) : B3 (w.setCell ⟨c, i, none⟩ u) b T v0 v1 v2 := h.kept (heap_setCell_other _ ⟨c, i, none⟩ b _ hne)
theorem set3_else {w : World} {b k : Nat} (u0 u1 u2 : Value) (h : k ≠ b) : (set3 w b u0 u1 u2).heap[k]? = w.heap[k]? := by
  unfold set3
  rw [heap_setCell_other _ ⟨b, 2, none⟩ k _ h, heap_setCell_other _ ⟨b, 1, none⟩ k _ h, heap_setCell_other _ ⟨b, 0, none⟩ k _ h]
theorem set3_below {N : Nat} {w0 w : World} {b : Nat} (h : Below N w0 w) (hb : N ≤ b) (u0 u1 u2 : Value) : Below N w0 (set3 w b u0 u1 u2) := (((h.setCell (p := ⟨b, 0, none⟩) hb _).setCell (p := ⟨b, 1, none⟩) hb _).setCell (p := ⟨b, 2, none⟩) hb _)

def bytV (l : List Nat) : List Value := l.map fun b : Nat => Value.int .u8 (b : Int)
theorem bytV_len (l : List Nat) : (bytV l).length = l.length := by simp [bytV]
theorem bytV_set (l : List Nat) (i b : Nat) : (bytV l).set i (.int .u8 (b : Int)) = bytV (l.set i b) := by simp [bytV]
/-- a row of bytes, wherever it lies -/
def ByAt (w : World) (a : Option Addr) (len cap : Nat) (l : List Nat) : Prop :=
  l.length = len ∧ len ≤ cap ∧ cap ≤ maxLen ∧ (∀ i, l.getD i 0 < 256) ∧ (a = none → cap = 0) ∧ (len = 0 ∨ ∃ b off, a = some ⟨b, off, none⟩ ∧ ∀ i, i < len → w.cell? ⟨b, off + i, none⟩ = some (.int .u8 ((l.getD i 0 : Nat) : Int)))
theorem ByAt.some {w : World} {a : Option Addr} {len cap : Nat} {l : List Nat} (h : ByAt w a len cap l) (h0 : 0 < len) :
    ∃ b off, a = Option.some ⟨b, off, none⟩ ∧ b < w.heap.size ∧ ∀ i, i < len → w.cell? ⟨b, off + i, none⟩ = Option.some (.int .u8 ((l.getD i 0 : Nat) : Int)) := by
  rcases h.2.2.2.2.2 with h | ⟨b, off, e, h⟩
  · omega
  · exact ⟨b, off, e, World.block_lt_of_cell? w ⟨b, off + 0, none⟩ (h 0 h0), h⟩
theorem ByAt.below {w w' : World} {a : Option Addr} {len cap : Nat} {l : List Nat} (h : ByAt w a len cap l) (hb : Below w.heap.size w w') : ByAt w' a len cap l := by
  refine ⟨h.1, h.2.1, h.2.2.1, h.2.2.2.1, h.2.2.2.2.1, ?_⟩
  rcases h.2.2.2.2.2 with h0 | ⟨b, off, e, hc⟩
  · exact .inl h0
  · refine .inr ⟨b, off, e, fun i hi => ?_⟩
    have hlt : b < w.heap.size := World.block_lt_of_cell? w ⟨b, off + i, none⟩ (hc i hi)
    exact (hb.cell (p := ⟨b, off + i, none⟩) hlt).trans (hc i hi)
theorem ByAt.nil (w : World) : ByAt w none 0 0 [] := ⟨rfl, Nat.le_refl _, Nat.zero_le _, fun i => by simp, fun _ => rfl, .inl rfl⟩
/-- a row of one's own, whole, as a block -/
def Ro (w : World) (g T : Nat) (l : List Value) : Prop := w.heap[g]? = some (.cells l.toArray T (0, 0))
theorem Ro.lt {w : World} {g T : Nat} {l : List Value} (h : Ro w g T l) : g < w.heap.size := (Array.getElem?_eq_some_iff.1 h).1
theorem Ro.kept {w w' : World} {g T : Nat} {l : List Value} (h : Ro w g T l) (e : w'.heap[g]? = w.heap[g]?) : Ro w' g T l := e.trans h
theorem Ro.below {w w' : World} {g T : Nat} {l : List Value} (h : Ro w g T l) (hb : Below w.heap.size w w') : Ro w' g T l := h.kept (hb.block g h.lt)
theorem Ro.new (w : World) (T : Nat) (l : List Value) : Ro (w.alloc (.cells l.toArray T)) w.heap.size T l := heap_alloc_new w _
theorem Ro.cell {w : World} {g T : Nat} {l : List Value} (h : Ro w g T l) {i : Nat} {v : Value} (hi : l[i]? = some v) : w.cell? ⟨g, i, none⟩ = some v := by
  unfold World.cell?; rw [show w.heap[(⟨g, i, none⟩ : Addr).block]? = _ from h]; simpa using hi
theorem Ro.fz {w : World} {g T : Nat} {l : List Value} (h : Ro w g T l) (i : Nat) : w.frozen? ⟨g, i, none⟩ = false := by
  unfold World.frozen?; rw [show w.heap[(⟨g, i, none⟩ : Addr).block]? = _ from h]; simp
theorem Ro.set {w : World} {g T : Nat} {l : List Value} (h : Ro w g T l) (i : Nat) (v : Value) : Ro (w.setCell ⟨g, i, none⟩ v) g T (l.set i v) := by
  have := heap_setCell_same w g i _ _ v h
  unfold Ro
  rw [this]
  simp
theorem Ro.else {w : World} {g T : Nat} {l : List Value} (h : Ro w g T l) {c i : Nat} (u : Value) (hne : g ≠ c) : Ro (w.setCell ⟨c, i, none⟩ u) g T l := h.kept (heap_setCell_other _ ⟨c, i, none⟩ g _ hne)
theorem Ro.byte {w : World} {g T : Nat} {l : List Nat} (h : Ro w g T (bytV l)) {i : Nat} (hi : i < l.length) : w.cell? ⟨g, i, none⟩ = some (.int .u8 ((l.getD i 0 : Nat) : Int)) := h.cell (by simp [bytV, hi])
theorem Ro.bytes {w : World} {g T : Nat} {l : List Nat} (h : Ro w g T (bytV l)) (hn : l.length ≤ maxLen) (hb : ∀ b ∈ l, b < 256) : ByAt w (some ⟨g, 0, none⟩) l.length l.length l :=
  ⟨rfl, Nat.le_refl _, hn, fun i => by
    by_cases hi : i < l.length
    · simpa [hi] using hb _ (List.getElem_mem hi)
    · simp [Nat.le_of_not_lt hi], fun e => by simp at e, .inr ⟨g, 0, rfl, fun i hi => by rw [Nat.zero_add]; exact h.byte hi⟩⟩
/-- only the block g is written -/
structure KeepR (g : Nat) (w w' : World) : Prop where
  size : w'.heap.size = w.heap.size
  else_ : ∀ k, k ≠ g → w'.heap[k]? = w.heap[k]?
  below : ∀ N w0, Below N w0 w → N ≤ g → Below N w0 w'
theorem KeepR.refl (g : Nat) (w : World) : KeepR g w w := ⟨rfl, fun _ _ => rfl, fun _ _ h _ => h⟩
theorem KeepR.set {g : Nat} {w w' : World} (h : KeepR g w w') (i : Nat) (v : Value) : KeepR g w (w'.setCell ⟨g, i, none⟩ v) :=
  ⟨(World.size_setCell ..).trans h.size, fun k hk => (heap_setCell_other _ ⟨g, i, none⟩ k v hk).trans (h.else_ k hk), fun N w0 hb hg => (h.below N w0 hb hg).setCell (p := ⟨g, i, none⟩) hg v⟩
theorem KeepR.trans {g : Nat} {a b c : World} (h : KeepR g a b) (k : KeepR g b c) : KeepR g a c :=
  ⟨k.size.trans h.size, fun i hi => (k.else_ i hi).trans (h.else_ i hi), fun N w0 hb hg => k.below N w0 (h.below N w0 hb hg) hg⟩
/-- the shapes of the classes: the first bits, how many, and how many of u -/
def hvT : Nat → Nat
  | 0 => 0
  | 1 => 2
  | 2 => 6
  | 3 => 14
  | _ => 15
def hdT : Nat → Nat
  | 0 => 1
  | 1 => 2
  | 2 => 3
  | 3 => 4
  | _ => 4
def wdT : Nat → Nat
  | 0 => 0
  | 1 => 7
  | 2 => 12
  | 3 => 20
  | _ => 64
/-- the table, as it reads -/
def Tab (w : World) : Prop := ∀ c, c < 5 → w.cell? ⟨0, c * 3, none⟩ = some (.int .u64 ((hvT c : Nat) : Int)) ∧ w.cell? ⟨0, c * 3 + 1, none⟩ = some (.int .i64 ((hdT c : Nat) : Int)) ∧ w.cell? ⟨0, c * 3 + 2, none⟩ = some (.int .i64 ((wdT c : Nat) : Int))
theorem Tab.lt {w : World} (h : Tab w) : 0 < w.heap.size := World.block_lt_of_cell? w ⟨0, 0 * 3, none⟩ (h 0 (by decide)).1
theorem Tab.kept {w w' : World} (h : Tab w) (e : w'.heap[0]? = w.heap[0]?) : Tab w' := fun c hc => by
  have h1 := h c hc
  refine ⟨?_, ?_, ?_⟩
  · rw [← h1.1]; unfold World.cell?; rw [show w'.heap[(⟨0, c * 3, none⟩ : Addr).block]? = _ from e]
  · rw [← h1.2.1]; unfold World.cell?; rw [show w'.heap[(⟨0, c * 3 + 1, none⟩ : Addr).block]? = _ from e]
  · rw [← h1.2.2]; unfold World.cell?; rw [show w'.heap[(⟨0, c * 3 + 2, none⟩ : Addr).block]? = _ from e]
theorem Tab.below {w w' : World} (h : Tab w) (hb : Below w.heap.size w w') : Tab w' := h.kept (hb.block 0 h.lt)
end Go.Proofs.YtcdlkdbnlomghaaDoor.Bi
