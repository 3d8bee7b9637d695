/-
  The base of layer 16: boxes of 2, 7 and 8 cells as one fact; rows of ints; deltas and what was accepted, as they lie in memory.
-/
import Derived.Test.YtejhmacbbdnlbaaRows
import Derived.WalkKit
import Derived.WalkSpells
import Derived.ProofKit
import Derived.OpenShut
import Derived.Below
import Derived.Handy
import Derived.Deep.Cut
import Derived.Sort.Walk0
import Derived.Deep.QuietTactic
import Derived.Deep.RegionHeld3
import Derived.BigQuiet
import Derived.BigRegion
import Derived.StillTail
import Derived.Laws.Cover1
import Derived.Laws.Rows
import Derived.Laws.OwnMore
import Derived.Laws.AppendOwn
import Derived.Laws.AppendOwnNone
import Derived.OwnWalk
import Derived.Shelf.SlSortCmp.QuietGrown
namespace Go.Proofs.Ytejhmacbbdnlbaa.Ac
open Go.ChangeShapes Go.WideShapes Go.ChangeAt Go.RowKit
theorem Hid.mk9 {P : Prop} (h : P) : Hid P := h
theorem ret_int {k : IntKind} {a b : Int} (h : a = b) : Ending.returned (.int k a) = .returned (.int k b) := by rw [h]
theorem below2 {a b c : World} (h : Below a.heap.size a b) (k : Below b.heap.size b c) : Below a.heap.size a c := h.trans (k.mono h.size)
theorem below_drewN (w : World) (n : Nat) : Below w.heap.size w (w.drewN n) := ⟨rfl, rfl, rfl, Nat.le_refl _, fun _ _ => rfl⟩
theorem below_drew (w : World) : Below w.heap.size w w.drew := ⟨rfl, rfl, rfl, Nat.le_refl _, fun _ _ => rfl⟩
theorem below_alloc (w : World) (o : Obj) : Below w.heap.size w (w.alloc o) := (Below.refl _ _).alloc (Nat.le_refl _) _
/-- the walk of a region that only reads, closed to evaluation: else each step evaluates all the steps behind it -/
structure QW (P : Program) (ops : Array Oper) (C : World → Prop) (Q : Act → Prop) (l : List Oper) (a : Act) : Prop where
  out : wpQuiet P ops C Q l a
theorem QW_step {P : Program} {ops : Array Oper} {C : World → Prop} {Q : Act → Prop} {a : Act} {o : Oper} {rest : List Oper}
    (h : ∀ K : Act → Prop, (∀ a, QW P ops C Q rest a → K a) → if Region.wanted o (yielded ops a.tmps) then o.quiet P a C K else K (a.put o.dst undef)) : QW P ops C Q (o :: rest) a :=
  ⟨wpQuiet_step fun K hK => h K fun a q => hK a q.out⟩
theorem QW_nil {P : Program} {ops : Array Oper} {C : World → Prop} {Q : Act → Prop} {a : Act} (h : Q a) : QW P ops C Q [] a := ⟨wpQuiet_nil h⟩
theorem wp_region_QW {P : Program} {id : Nat} {Q : Exit → Act → World → Prop} {a : Act} {w : World} {l : List Oper} (hm : P.follows .mixedOrders = true) (hB : Region.lexB .any l.toArray = true)
    (h : QW P l.toArray (fun w' => ∃ p : GrownBy, w' = Go.Sort.grow (w.drewN p.n) p.os) (fun a' => ∀ w', (∃ p : GrownBy, w' = Go.Sort.grow (w.drewN p.n) p.os) → Q .normal a' w') l a) : (Code.region id l.toArray true).wp P Q a w :=
  wp_region_quiet_grown hm hB h.out
theorem mixed5 : Try.prog.follows .mixedOrders = true := by kernel_rfl
/-- so many draws on, these blocks behind -/
abbrev Grown (w w' : World) : Prop := ∃ q os', w' = Go.Sort.grow (w.drewN q) os'
theorem grown_alloc (w : World) (o : Obj) : Grown w (w.alloc o) := ⟨0, _, by rw [Go.Sort.alloc_eq_grow]; rfl⟩
theorem below_grow (w : World) (n : Nat) (os : Array Obj) : Below w.heap.size w (Go.Sort.grow (w.drewN n) os) := by
  refine ⟨rfl, rfl, rfl, ?_, fun k hk => ?_⟩
  · show w.heap.size ≤ (w.heap ++ os).size
    simp
  · show (w.heap ++ os)[k]? = w.heap[k]?
    exact Array.getElem?_append_left hk
theorem grown_below {w w' : World} (h : Grown w w') : Below w.heap.size w w' := by
  obtain ⟨q, os, rfl⟩ := h
  exact below_grow _ _ _
theorem grown2 {a b c : World} (h : Grown a b) (k : Grown b c) : Grown a c := by
  obtain ⟨n, os, rfl⟩ := h
  obtain ⟨q, os', rfl⟩ := k
  exact ⟨n + q, os ++ os', by show Go.Sort.grow (Go.Sort.grow ((a.drewN n).drewN q) os) os' = _; rw [Go.Sort.grow_grow, World.drewN_drewN]⟩
theorem grown_refl (w : World) : Grown w w := ⟨0, #[], by rw [Go.Sort.grow_empty]; rfl⟩
theorem mixed9 : Try.prog.follows .mixedOrders = true := by kernel_rfl
theorem held_one {P : Program} {ops : Array Oper} {Q : Exit → Act → World → Prop} {md : Region.Mode} {S : World → Prop} {i : Nat} {o : Oper} {fuel : Nat} {listed : Array Bool} {a : Act} {w : World} (hr : Region.ready md ops listed = [i]) (ho' : ops.toList[i]? = some o) (hg : Region.wanted o (yielded ops a.tmps) = true)
    (h : ∀ K : Act → World → Prop, Hid (∀ a' w', S w' → wpAnyH P md ops Q S fuel (listed.setIfInBounds i true) a' w' → K a' w') → o.wp P a w K Q) : wpAnyH P md ops Q S (fuel + 1) listed a w := by
  have ho : ops[i]? = some o := by simpa using ho'
  refine wpAnyH_all hr (by simp) (fun j hj => ?_)
  obtain rfl : j = i := by simpa using hj
  unfold wpOp
  simp only [ho]
  rw [if_pos hg]
  exact .inl (h _ (fun _ _ h1 h2 => ⟨h1, h2⟩))
theorem held_two {P : Program} {ops : Array Oper} {Q : Exit → Act → World → Prop} {md : Region.Mode} {S : World → Prop} {i j : Nat} {o o2 : Oper} {fuel : Nat} {listed : Array Bool} {a : Act} {w : World} (hr : Region.ready md ops listed = [i, j]) (hi : ops.toList[i]? = some o) (hj : ops.toList[j]? = some o2) (hg : Region.wanted o (yielded ops a.tmps) = true) (hg2 : Region.wanted o2 (yielded ops a.tmps) = true)
    (h : ∀ K : Act → World → Prop, Hid (∀ a' w', S w' → wpAnyH P md ops Q S fuel (listed.setIfInBounds i true) a' w' → K a' w') → o.wp P a w K Q)
    (h2 : ∀ K : Act → World → Prop, Hid (∀ a' w', S w' → wpAnyH P md ops Q S fuel (listed.setIfInBounds j true) a' w' → K a' w') → o2.wp P a w K Q) : wpAnyH P md ops Q S (fuel + 1) listed a w := by
  have ho : ops[i]? = some o := by simpa using hi
  have ho2 : ops[j]? = some o2 := by simpa using hj
  refine wpAnyH_all hr (by simp) (fun l hl => ?_)
  have hl2 : l = i ∨ l = j := by simpa using hl
  rcases hl2 with rfl | rfl
  · unfold wpOp
    simp only [ho]
    rw [if_pos hg]
    exact .inl (h _ (fun _ _ h1 h2 => ⟨h1, h2⟩))
  · unfold wpOp
    simp only [ho2]
    rw [if_pos hg2]
    exact .inl (h2 _ (fun _ _ h1 h2 => ⟨h1, h2⟩))
theorem held_take {P : Program} {ops : Array Oper} {Q : Exit → Act → World → Prop} {md : Region.Mode} {S : World → Prop} {i : Nat} {oi : Oper} {v : Value} {fuel : Nat} {listed : Array Bool} {a : Act} {w : World} (hi : ops.toList[i]? = some oi)
    (hB : (Region.noSelect ops && Region.free md ops listed i && (Region.ready md ops listed).contains i) = true)
    (hQ : ∀ c a w, Q (.panic c) (a.put oi.dst v) w → Q (.panic c) a w) (hy : YieldsIf P ops S oi v a) (hS : S w)
    (h : wpAnyH P md ops Q S fuel (listed.setIfInBounds i true) (a.put oi.dst v) w) : wpAnyH P md ops Q S (fuel + 1) listed a w := by
  simp only [Bool.and_eq_true] at hB
  exact wpAnyH_take (by simpa using hi) hB.1.1 hB.1.2 hB.2 hQ hy hS h
theorem held_start {P : Program} {ops : Array Oper} {Q : Exit → Act → World → Prop} {S : World → Prop} {id : Nat} {a : Act} {w : World} (hm : P.follows .mixedOrders = true) (h : wpAnyH P .any ops (NoPanic Q) S ops.size (Array.replicate ops.size false) a w.drew) : (Code.region id ops true).wp P Q a w :=
  wp_region_noPanic (wp_region_held hm h)
/-- a region of a body, by its number -/
def regionOf (n : Nat) : Code → Option Code
  | .region id ops d => if id = n then some (.region id ops d) else none
  | .loop c => regionOf n c
  | .seq a b => match regionOf n a with
    | some c => some c
    | none => regionOf n b
  | .block _ c => regionOf n c
  | .scope c => regionOf n c
  | .cond _ a b => match regionOf n a with
    | some c => some c
    | none => regionOf n b
  | _ => none
theorem info_parts {T : Nat} {z : Option Value} {s b : Nat} (h : (Try.prog.info? T).map (fun i => (i.zero, i.size, i.bytes)) = some (z, s, b)) : ∃ i, Try.prog.info? T = some i ∧ i.zero = z ∧ i.size = s ∧ i.bytes = b := by
  obtain ⟨i, hi, hb⟩ := Option.map_eq_some_iff.1 h
  simp at hb
  exact ⟨i, hi, hb.1, hb.2.1, hb.2.2⟩
def B2 (w : World) (b T : Nat) (v0 v1 : Value) : Prop := w.heap[b]? = some (.cells #[v0, v1] T (0, 0))
theorem B2.lt {w : World} {b T : Nat} {v0 v1 : Value} (h : B2 w b T v0 v1) : b < w.heap.size := (Array.getElem?_eq_some_iff.1 h).1
theorem B2.kept {w : World} {b T : Nat} {v0 v1 : Value} (h : B2 w b T v0 v1) {w' : World} (e : w'.heap[b]? = w.heap[b]?) : B2 w' b T v0 v1 := e.trans h
theorem B2.below {w : World} {b T : Nat} {v0 v1 : Value} (h : B2 w b T v0 v1) {w' : World} (hb : Below w.heap.size w w') : B2 w' b T v0 v1 := h.kept (hb.block b h.lt)
theorem B2.new (w : World) (T : Nat) (v0 v1 : Value) : B2 (w.alloc (.cells #[v0, v1] T)) w.heap.size T v0 v1 := heap_alloc_new w _
theorem B2.cells {w : World} {b T : Nat} {v0 v1 : Value} (h : B2 w b T v0 v1) : w.cell? ⟨b, 0, none⟩ = some v0 ∧ w.cell? ⟨b, 1, none⟩ = some v1 := by
  unfold World.cell?
  refine ⟨?_, ?_⟩
  · rw [show w.heap[(⟨b, 0, none⟩ : Addr).block]? = _ from h]; rfl
  · rw [show w.heap[(⟨b, 1, none⟩ : Addr).block]? = _ from h]; rfl
theorem B2.frz {w : World} {b T : Nat} {v0 v1 : Value} (h : B2 w b T v0 v1) : w.frozen? ⟨b, 0, none⟩ = false ∧ w.frozen? ⟨b, 1, none⟩ = false := by
  unfold World.frozen?
  refine ⟨?_, ?_⟩
  · rw [show w.heap[(⟨b, 0, none⟩ : Addr).block]? = _ from h]; rfl
  · rw [show w.heap[(⟨b, 1, none⟩ : Addr).block]? = _ from h]; rfl
def set2 (w : World) (b : Nat) (u0 u1 : Value) : World := ((w.setCell ⟨b, 0, none⟩ u0).setCell ⟨b, 1, none⟩ u1)
theorem B2.set {w : World} {b T : Nat} {v0 v1 : Value} (h : B2 w b T v0 v1) (u0 u1 : Value) : B2 (set2 w b u0 u1) b T u0 u1 := by
  unfold set2
  have h0 := heap_setCell_same w b 0 _ _ u0 h
  have h1 := heap_setCell_same (w.setCell ⟨b, 0, none⟩ u0) b 1 _ _ u1 h0
  unfold B2
  rw [h1]
  simp
theorem B2.put0 {w : World} {b T : Nat} {v0 v1 : Value} (h : B2 w b T v0 v1) (u : Value) : B2 (w.setCell ⟨b, 0, none⟩ u) b T u v1 := heap_setCell_same w b 0 _ _ u h
theorem B2.put1 {w : World} {b T : Nat} {v0 v1 : Value} (h : B2 w b T v0 v1) (u : Value) : B2 (w.setCell ⟨b, 1, none⟩ u) b T v0 u := heap_setCell_same w b 1 _ _ u h
theorem B2.else {w : World} {b T : Nat} {v0 v1 : Value} (h : B2 w b T v0 v1) {c i : Nat} (u : Value) (hne : b ≠ c) : B2 (w.setCell ⟨c, i, none⟩ u) b T v0 v1 := h.kept (heap_setCell_other _ ⟨c, i, none⟩ b _ hne)
theorem set2_else {w : World} {b k : Nat} (u0 u1 : Value) (h : k ≠ b) : (set2 w b u0 u1).heap[k]? = w.heap[k]? := by
  unfold set2
  rw [heap_setCell_other _ ⟨b, 1, none⟩ k _ h, heap_setCell_other _ ⟨b, 0, none⟩ k _ h]
theorem set2_below {N : Nat} {w0 w : World} {b : Nat} (h : Below N w0 w) (hb : N ≤ b) (u0 u1 : Value) : Below N w0 (set2 w b u0 u1) := ((h.setCell (p := ⟨b, 0, none⟩) hb _).setCell (p := ⟨b, 1, none⟩) hb _)
def B7 (w : World) (b T : Nat) (v0 v1 v2 v3 v4 v5 v6 : Value) : Prop := w.heap[b]? = some (.cells #[v0, v1, v2, v3, v4, v5, v6] T (0, 0))
theorem B7.lt {w : World} {b T : Nat} {v0 v1 v2 v3 v4 v5 v6 : Value} (h : B7 w b T v0 v1 v2 v3 v4 v5 v6) : b < w.heap.size := (Array.getElem?_eq_some_iff.1 h).1
theorem B7.kept {w : World} {b T : Nat} {v0 v1 v2 v3 v4 v5 v6 : Value} (h : B7 w b T v0 v1 v2 v3 v4 v5 v6) {w' : World} (e : w'.heap[b]? = w.heap[b]?) : B7 w' b T v0 v1 v2 v3 v4 v5 v6 := e.trans h
theorem B7.below {w : World} {b T : Nat} {v0 v1 v2 v3 v4 v5 v6 : Value} (h : B7 w b T v0 v1 v2 v3 v4 v5 v6) {w' : World} (hb : Below w.heap.size w w') : B7 w' b T v0 v1 v2 v3 v4 v5 v6 := h.kept (hb.block b h.lt)
theorem B7.new (w : World) (T : Nat) (v0 v1 v2 v3 v4 v5 v6 : Value) : B7 (w.alloc (.cells #[v0, v1, v2, v3, v4, v5, v6] T)) w.heap.size T v0 v1 v2 v3 v4 v5 v6 := heap_alloc_new w _
theorem B7.cells {w : World} {b T : Nat} {v0 v1 v2 v3 v4 v5 v6 : Value} (h : B7 w b T v0 v1 v2 v3 v4 v5 v6) : w.cell? ⟨b, 0, none⟩ = some v0 ∧ w.cell? ⟨b, 1, none⟩ = some v1 ∧ w.cell? ⟨b, 2, none⟩ = some v2 ∧ w.cell? ⟨b, 3, none⟩ = some v3 ∧ w.cell? ⟨b, 4, none⟩ = some v4 ∧ w.cell? ⟨b, 5, none⟩ = some v5 ∧ w.cell? ⟨b, 6, none⟩ = some v6 := by
  unfold World.cell?
  refine ⟨?_, ?_, ?_, ?_, ?_, ?_, ?_⟩
  · rw [show w.heap[(⟨b, 0, none⟩ : Addr).block]? = _ from h]; rfl
  · rw [show w.heap[(⟨b, 1, none⟩ : Addr).block]? = _ from h]; rfl
  · rw [show w.heap[(⟨b, 2, none⟩ : Addr).block]? = _ from h]; rfl
  · rw [show w.heap[(⟨b, 3, none⟩ : Addr).block]? = _ from h]; rfl
  · rw [show w.heap[(⟨b, 4, none⟩ : Addr).block]? = _ from h]; rfl
  · rw [show w.heap[(⟨b, 5, none⟩ : Addr).block]? = _ from h]; rfl
  · rw [show w.heap[(⟨b, 6, none⟩ : Addr).block]? = _ from h]; rfl
theorem B7.frz {w : World} {b T : Nat} {v0 v1 v2 v3 v4 v5 v6 : Value} (h : B7 w b T v0 v1 v2 v3 v4 v5 v6) : w.frozen? ⟨b, 0, none⟩ = false ∧ w.frozen? ⟨b, 1, none⟩ = false ∧ w.frozen? ⟨b, 2, none⟩ = false ∧ w.frozen? ⟨b, 3, none⟩ = false ∧ w.frozen? ⟨b, 4, none⟩ = false ∧ w.frozen? ⟨b, 5, none⟩ = false ∧ w.frozen? ⟨b, 6, none⟩ = false := by
  unfold World.frozen?
  refine ⟨?_, ?_, ?_, ?_, ?_, ?_, ?_⟩
  · rw [show w.heap[(⟨b, 0, none⟩ : Addr).block]? = _ from h]; rfl
  · rw [show w.heap[(⟨b, 1, none⟩ : Addr).block]? = _ from h]; rfl
  · rw [show w.heap[(⟨b, 2, none⟩ : Addr).block]? = _ from h]; rfl
  · rw [show w.heap[(⟨b, 3, none⟩ : Addr).block]? = _ from h]; rfl
  · rw [show w.heap[(⟨b, 4, none⟩ : Addr).block]? = _ from h]; rfl
  · rw [show w.heap[(⟨b, 5, none⟩ : Addr).block]? = _ from h]; rfl
  · rw [show w.heap[(⟨b, 6, none⟩ : Addr).block]? = _ from h]; rfl
def set7 (w : World) (b : Nat) (u0 u1 u2 u3 u4 u5 u6 : Value) : World := (((((((w.setCell ⟨b, 0, none⟩ u0).setCell ⟨b, 1, none⟩ u1).setCell ⟨b, 2, none⟩ u2).setCell ⟨b, 3, none⟩ u3).setCell ⟨b, 4, none⟩ u4).setCell ⟨b, 5, none⟩ u5).setCell ⟨b, 6, none⟩ u6)
theorem B7.set {w : World} {b T : Nat} {v0 v1 v2 v3 v4 v5 v6 : Value} (h : B7 w b T v0 v1 v2 v3 v4 v5 v6) (u0 u1 u2 u3 u4 u5 u6 : Value) : B7 (set7 w b u0 u1 u2 u3 u4 u5 u6) b T u0 u1 u2 u3 u4 u5 u6 := by
  unfold set7
  have h0 := heap_setCell_same w b 0 _ _ u0 h
  have h1 := heap_setCell_same (w.setCell ⟨b, 0, none⟩ u0) b 1 _ _ u1 h0
  have h2 := heap_setCell_same ((w.setCell ⟨b, 0, none⟩ u0).setCell ⟨b, 1, none⟩ u1) b 2 _ _ u2 h1
  have h3 := heap_setCell_same (((w.setCell ⟨b, 0, none⟩ u0).setCell ⟨b, 1, none⟩ u1).setCell ⟨b, 2, none⟩ u2) b 3 _ _ u3 h2
  have h4 := heap_setCell_same ((((w.setCell ⟨b, 0, none⟩ u0).setCell ⟨b, 1, none⟩ u1).setCell ⟨b, 2, none⟩ u2).setCell ⟨b, 3, none⟩ u3) b 4 _ _ u4 h3
  have h5 := heap_setCell_same (((((w.setCell ⟨b, 0, none⟩ u0).setCell ⟨b, 1, none⟩ u1).setCell ⟨b, 2, none⟩ u2).setCell ⟨b, 3, none⟩ u3).setCell ⟨b, 4, none⟩ u4) b 5 _ _ u5 h4
  have h6 := heap_setCell_same ((((((w.setCell ⟨b, 0, none⟩ u0).setCell ⟨b, 1, none⟩ u1).setCell ⟨b, 2, none⟩ u2).setCell ⟨b, 3, none⟩ u3).setCell ⟨b, 4, none⟩ u4).setCell ⟨b, 5, none⟩ u5) b 6 _ _ u6 h5
  unfold B7
  rw [h6]
  simp
theorem B7.put0 {w : World} {b T : Nat} {v0 v1 v2 v3 v4 v5 v6 : Value} (h : B7 w b T v0 v1 v2 v3 v4 v5 v6) (u : Value) : B7 (w.setCell ⟨b, 0, none⟩ u) b T u v1 v2 v3 v4 v5 v6 := heap_setCell_same w b 0 _ _ u h
theorem B7.put1 {w : World} {b T : Nat} {v0 v1 v2 v3 v4 v5 v6 : Value} (h : B7 w b T v0 v1 v2 v3 v4 v5 v6) (u : Value) : B7 (w.setCell ⟨b, 1, none⟩ u) b T v0 u v2 v3 v4 v5 v6 := heap_setCell_same w b 1 _ _ u h
theorem B7.put2 {w : World} {b T : Nat} {v0 v1 v2 v3 v4 v5 v6 : Value} (h : B7 w b T v0 v1 v2 v3 v4 v5 v6) (u : Value) : B7 (w.setCell ⟨b, 2, none⟩ u) b T v0 v1 u v3 v4 v5 v6 := heap_setCell_same w b 2 _ _ u h
theorem B7.put3 {w : World} {b T : Nat} {v0 v1 v2 v3 v4 v5 v6 : Value} (h : B7 w b T v0 v1 v2 v3 v4 v5 v6) (u : Value) : B7 (w.setCell ⟨b, 3, none⟩ u) b T v0 v1 v2 u v4 v5 v6 := heap_setCell_same w b 3 _ _ u h
theorem B7.put4 {w : World} {b T : Nat} {v0 v1 v2 v3 v4 v5 v6 : Value} (h : B7 w b T v0 v1 v2 v3 v4 v5 v6) (u : Value) : B7 (w.setCell ⟨b, 4, none⟩ u) b T v0 v1 v2 v3 u v5 v6 := heap_setCell_same w b 4 _ _ u h
theorem B7.put5 {w : World} {b T : Nat} {v0 v1 v2 v3 v4 v5 v6 : Value} (h : B7 w b T v0 v1 v2 v3 v4 v5 v6) (u : Value) : B7 (w.setCell ⟨b, 5, none⟩ u) b T v0 v1 v2 v3 v4 u v6 := heap_setCell_same w b 5 _ _ u h
theorem B7.put6 {w : World} {b T : Nat} {v0 v1 v2 v3 v4 v5 v6 : Value} (h : B7 w b T v0 v1 v2 v3 v4 v5 v6) (u : Value) : B7 (w.setCell ⟨b, 6, none⟩ u) b T v0 v1 v2 v3 v4 v5 u := heap_setCell_same w b 6 _ _ u h
theorem B7.else {w : World} {b T : Nat} {v0 v1 v2 v3 v4 v5 v6 : Value} (h : B7 w b T v0 v1 v2 v3 v4 v5 v6) {c i : Nat} (u : Value) (hne : b ≠ c) : B7 (w.setCell ⟨c, i, none⟩ u) b T v0 v1 v2 v3 v4 v5 v6 := h.kept (heap_setCell_other _ ⟨c, i, none⟩ b _ hne)
theorem set7_else {w : World} {b k : Nat} (u0 u1 u2 u3 u4 u5 u6 : Value) (h : k ≠ b) : (set7 w b u0 u1 u2 u3 u4 u5 u6).heap[k]? = w.heap[k]? := by
  unfold set7
  rw [heap_setCell_other _ ⟨b, 6, none⟩ k _ h, heap_setCell_other _ ⟨b, 5, none⟩ k _ h, heap_setCell_other _ ⟨b, 4, none⟩ k _ h, heap_setCell_other _ ⟨b, 3, none⟩ k _ h, heap_setCell_other _ ⟨b, 2, none⟩ k _ h, heap_setCell_other _ ⟨b, 1, none⟩ k _ h, heap_setCell_other _ ⟨b, 0, none⟩ k _ h]
theorem set7_below {N : Nat} {w0 w : World} {b : Nat} (h : Below N w0 w) (hb : N ≤ b) (u0 u1 u2 u3 u4 u5 u6 : Value) : Below N w0 (set7 w b u0 u1 u2 u3 u4 u5 u6) := (((((((h.setCell (p := ⟨b, 0, none⟩) hb _).setCell (p := ⟨b, 1, none⟩) hb _).setCell (p := ⟨b, 2, none⟩) hb _).setCell (p := ⟨b, 3, none⟩) hb _).setCell (p := ⟨b, 4, none⟩) hb _).setCell (p := ⟨b, 5, none⟩) hb _).setCell (p := ⟨b, 6, none⟩) hb _)
def B8 (w : World) (b T : Nat) (v0 v1 v2 v3 v4 v5 v6 v7 : Value) : Prop := w.heap[b]? = some (.cells #[v0, v1, v2, v3, v4, v5, v6, v7] T (0, 0))
theorem B8.lt {w : World} {b T : Nat} {v0 v1 v2 v3 v4 v5 v6 v7 : Value} (h : B8 w b T v0 v1 v2 v3 v4 v5 v6 v7) : b < w.heap.size := (Array.getElem?_eq_some_iff.1 h).1
theorem B8.kept {w : World} {b T : Nat} {v0 v1 v2 v3 v4 v5 v6 v7 : Value} (h : B8 w b T v0 v1 v2 v3 v4 v5 v6 v7) {w' : World} (e : w'.heap[b]? = w.heap[b]?) : B8 w' b T v0 v1 v2 v3 v4 v5 v6 v7 := e.trans h
theorem B8.below {w : World} {b T : Nat} {v0 v1 v2 v3 v4 v5 v6 v7 : Value} (h : B8 w b T v0 v1 v2 v3 v4 v5 v6 v7) {w' : World} (hb : Below w.heap.size w w') : B8 w' b T v0 v1 v2 v3 v4 v5 v6 v7 := h.kept (hb.block b h.lt)
theorem B8.new (w : World) (T : Nat) (v0 v1 v2 v3 v4 v5 v6 v7 : Value) : B8 (w.alloc (.cells #[v0, v1, v2, v3, v4, v5, v6, v7] T)) w.heap.size T v0 v1 v2 v3 v4 v5 v6 v7 := heap_alloc_new w _
theorem B8.cells {w : World} {b T : Nat} {v0 v1 v2 v3 v4 v5 v6 v7 : Value} (h : B8 w b T v0 v1 v2 v3 v4 v5 v6 v7) : w.cell? ⟨b, 0, none⟩ = some v0 ∧ w.cell? ⟨b, 1, none⟩ = some v1 ∧ w.cell? ⟨b, 2, none⟩ = some v2 ∧ w.cell? ⟨b, 3, none⟩ = some v3 ∧ w.cell? ⟨b, 4, none⟩ = some v4 ∧ w.cell? ⟨b, 5, none⟩ = some v5 ∧ w.cell? ⟨b, 6, none⟩ = some v6 ∧ w.cell? ⟨b, 7, none⟩ = some v7 := by
  unfold World.cell?
  refine ⟨?_, ?_, ?_, ?_, ?_, ?_, ?_, ?_⟩
  · rw [show w.heap[(⟨b, 0, none⟩ : Addr).block]? = _ from h]; rfl
  · rw [show w.heap[(⟨b, 1, none⟩ : Addr).block]? = _ from h]; rfl
  · rw [show w.heap[(⟨b, 2, none⟩ : Addr).block]? = _ from h]; rfl
  · rw [show w.heap[(⟨b, 3, none⟩ : Addr).block]? = _ from h]; rfl
  · rw [show w.heap[(⟨b, 4, none⟩ : Addr).block]? = _ from h]; rfl
  · rw [show w.heap[(⟨b, 5, none⟩ : Addr).block]? = _ from h]; rfl
  · rw [show w.heap[(⟨b, 6, none⟩ : Addr).block]? = _ from h]; rfl
  · rw [show w.heap[(⟨b, 7, none⟩ : Addr).block]? = _ from h]; rfl
theorem B8.frz {w : World} {b T : Nat} {v0 v1 v2 v3 v4 v5 v6 v7 : Value} (h : B8 w b T v0 v1 v2 v3 v4 v5 v6 v7) : w.frozen? ⟨b, 0, none⟩ = false ∧ w.frozen? ⟨b, 1, none⟩ = false ∧ w.frozen? ⟨b, 2, none⟩ = false ∧ w.frozen? ⟨b, 3, none⟩ = false ∧ w.frozen? ⟨b, 4, none⟩ = false ∧ w.frozen? ⟨b, 5, none⟩ = false ∧ w.frozen? ⟨b, 6, none⟩ = false ∧ w.frozen? ⟨b, 7, none⟩ = false := by
  unfold World.frozen?
  refine ⟨?_, ?_, ?_, ?_, ?_, ?_, ?_, ?_⟩
  · rw [show w.heap[(⟨b, 0, none⟩ : Addr).block]? = _ from h]; rfl
  · rw [show w.heap[(⟨b, 1, none⟩ : Addr).block]? = _ from h]; rfl
  · rw [show w.heap[(⟨b, 2, none⟩ : Addr).block]? = _ from h]; rfl
  · rw [show w.heap[(⟨b, 3, none⟩ : Addr).block]? = _ from h]; rfl
  · rw [show w.heap[(⟨b, 4, none⟩ : Addr).block]? = _ from h]; rfl
  · rw [show w.heap[(⟨b, 5, none⟩ : Addr).block]? = _ from h]; rfl
  · rw [show w.heap[(⟨b, 6, none⟩ : Addr).block]? = _ from h]; rfl
  · rw [show w.heap[(⟨b, 7, none⟩ : Addr).block]? = _ from h]; rfl
def set8 (w : World) (b : Nat) (u0 u1 u2 u3 u4 u5 u6 u7 : Value) : World := ((((((((w.setCell ⟨b, 0, none⟩ u0).setCell ⟨b, 1, none⟩ u1).setCell ⟨b, 2, none⟩ u2).setCell ⟨b, 3, none⟩ u3).setCell ⟨b, 4, none⟩ u4).setCell ⟨b, 5, none⟩ u5).setCell ⟨b, 6, none⟩ u6).setCell ⟨b, 7, none⟩ u7)
theorem B8.set {w : World} {b T : Nat} {v0 v1 v2 v3 v4 v5 v6 v7 : Value} (h : B8 w b T v0 v1 v2 v3 v4 v5 v6 v7) (u0 u1 u2 u3 u4 u5 u6 u7 : Value) : B8 (set8 w b u0 u1 u2 u3 u4 u5 u6 u7) b T u0 u1 u2 u3 u4 u5 u6 u7 := by
  unfold set8
  have h0 := heap_setCell_same w b 0 _ _ u0 h
  have h1 := heap_setCell_same (w.setCell ⟨b, 0, none⟩ u0) b 1 _ _ u1 h0
  have h2 := heap_setCell_same ((w.setCell ⟨b, 0, none⟩ u0).setCell ⟨b, 1, none⟩ u1) b 2 _ _ u2 h1
  have h3 := heap_setCell_same (((w.setCell ⟨b, 0, none⟩ u0).setCell ⟨b, 1, none⟩ u1).setCell ⟨b, 2, none⟩ u2) b 3 _ _ u3 h2
  have h4 := heap_setCell_same ((((w.setCell ⟨b, 0, none⟩ u0).setCell ⟨b, 1, none⟩ u1).setCell ⟨b, 2, none⟩ u2).setCell ⟨b, 3, none⟩ u3) b 4 _ _ u4 h3
  have h5 := heap_setCell_same (((((w.setCell ⟨b, 0, none⟩ u0).setCell ⟨b, 1, none⟩ u1).setCell ⟨b, 2, none⟩ u2).setCell ⟨b, 3, none⟩ u3).setCell ⟨b, 4, none⟩ u4) b 5 _ _ u5 h4
  have h6 := heap_setCell_same ((((((w.setCell ⟨b, 0, none⟩ u0).setCell ⟨b, 1, none⟩ u1).setCell ⟨b, 2, none⟩ u2).setCell ⟨b, 3, none⟩ u3).setCell ⟨b, 4, none⟩ u4).setCell ⟨b, 5, none⟩ u5) b 6 _ _ u6 h5
  have h7 := heap_setCell_same (((((((w.setCell ⟨b, 0, none⟩ u0).setCell ⟨b, 1, none⟩ u1).setCell ⟨b, 2, none⟩ u2).setCell ⟨b, 3, none⟩ u3).setCell ⟨b, 4, none⟩ u4).setCell ⟨b, 5, none⟩ u5).setCell ⟨b, 6, none⟩ u6) b 7 _ _ u7 h6
  unfold B8
  rw [h7]
  simp
theorem B8.put0 {w : World} {b T : Nat} {v0 v1 v2 v3 v4 v5 v6 v7 : Value} (h : B8 w b T v0 v1 v2 v3 v4 v5 v6 v7) (u : Value) : B8 (w.setCell ⟨b, 0, none⟩ u) b T u v1 v2 v3 v4 v5 v6 v7 := heap_setCell_same w b 0 _ _ u h
theorem B8.put1 {w : World} {b T : Nat} {v0 v1 v2 v3 v4 v5 v6 v7 : Value} (h : B8 w b T v0 v1 v2 v3 v4 v5 v6 v7) (u : Value) : B8 (w.setCell ⟨b, 1, none⟩ u) b T v0 u v2 v3 v4 v5 v6 v7 := heap_setCell_same w b 1 _ _ u h
theorem B8.put2 {w : World} {b T : Nat} {v0 v1 v2 v3 v4 v5 v6 v7 : Value} (h : B8 w b T v0 v1 v2 v3 v4 v5 v6 v7) (u : Value) : B8 (w.setCell ⟨b, 2, none⟩ u) b T v0 v1 u v3 v4 v5 v6 v7 := heap_setCell_same w b 2 _ _ u h
theorem B8.put3 {w : World} {b T : Nat} {v0 v1 v2 v3 v4 v5 v6 v7 : Value} (h : B8 w b T v0 v1 v2 v3 v4 v5 v6 v7) (u : Value) : B8 (w.setCell ⟨b, 3, none⟩ u) b T v0 v1 v2 u v4 v5 v6 v7 := heap_setCell_same w b 3 _ _ u h
theorem B8.put4 {w : World} {b T : Nat} {v0 v1 v2 v3 v4 v5 v6 v7 : Value} (h : B8 w b T v0 v1 v2 v3 v4 v5 v6 v7) (u : Value) : B8 (w.setCell ⟨b, 4, none⟩ u) b T v0 v1 v2 v3 u v5 v6 v7 := heap_setCell_same w b 4 _ _ u h
theorem B8.put5 {w : World} {b T : Nat} {v0 v1 v2 v3 v4 v5 v6 v7 : Value} (h : B8 w b T v0 v1 v2 v3 v4 v5 v6 v7) (u : Value) : B8 (w.setCell ⟨b, 5, none⟩ u) b T v0 v1 v2 v3 v4 u v6 v7 := heap_setCell_same w b 5 _ _ u h
theorem B8.put6 {w : World} {b T : Nat} {v0 v1 v2 v3 v4 v5 v6 v7 : Value} (h : B8 w b T v0 v1 v2 v3 v4 v5 v6 v7) (u : Value) : B8 (w.setCell ⟨b, 6, none⟩ u) b T v0 v1 v2 v3 v4 v5 u v7 := heap_setCell_same w b 6 _ _ u h
theorem B8.put7 {w : World} {b T : Nat} {v0 v1 v2 v3 v4 v5 v6 v7 : Value} (h : B8 w b T v0 v1 v2 v3 v4 v5 v6 v7) (u : Value) : B8 (w.setCell ⟨b, 7, none⟩ u) b T v0 v1 v2 v3 v4 v5 v6 u := heap_setCell_same w b 7 _ _ u h
theorem B8.else {w : World} {b T : Nat} {v0 v1 v2 v3 v4 v5 v6 v7 : Value} (h : B8 w b T v0 v1 v2 v3 v4 v5 v6 v7) {c i : Nat} (u : Value) (hne : b ≠ c) : B8 (w.setCell ⟨c, i, none⟩ u) b T v0 v1 v2 v3 v4 v5 v6 v7 := h.kept (heap_setCell_other _ ⟨c, i, none⟩ b _ hne)
theorem set8_else {w : World} {b k : Nat} (u0 u1 u2 u3 u4 u5 u6 u7 : Value) (h : k ≠ b) : (set8 w b u0 u1 u2 u3 u4 u5 u6 u7).heap[k]? = w.heap[k]? := by
  unfold set8
  rw [heap_setCell_other _ ⟨b, 7, none⟩ k _ h, heap_setCell_other _ ⟨b, 6, none⟩ k _ h, heap_setCell_other _ ⟨b, 5, none⟩ k _ h, heap_setCell_other _ ⟨b, 4, none⟩ k _ h, heap_setCell_other _ ⟨b, 3, none⟩ k _ h, heap_setCell_other _ ⟨b, 2, none⟩ k _ h, heap_setCell_other _ ⟨b, 1, none⟩ k _ h, heap_setCell_other _ ⟨b, 0, none⟩ k _ h]
theorem set8_below {N : Nat} {w0 w : World} {b : Nat} (h : Below N w0 w) (hb : N ≤ b) (u0 u1 u2 u3 u4 u5 u6 u7 : Value) : Below N w0 (set8 w b u0 u1 u2 u3 u4 u5 u6 u7) := ((((((((h.setCell (p := ⟨b, 0, none⟩) hb _).setCell (p := ⟨b, 1, none⟩) hb _).setCell (p := ⟨b, 2, none⟩) hb _).setCell (p := ⟨b, 3, none⟩) hb _).setCell (p := ⟨b, 4, none⟩) hb _).setCell (p := ⟨b, 5, none⟩) hb _).setCell (p := ⟨b, 6, none⟩) hb _).setCell (p := ⟨b, 7, none⟩) hb _)
theorem addr_add (b off i : Nat) : (⟨b, off, none⟩ : Addr).add i = ⟨b, off + i, none⟩ := by
  simp [Addr.add]
theorem cell_block {w w' : World} {b i : Nat} (h : w'.heap[b]? = w.heap[b]?) : w'.cell? ⟨b, i, none⟩ = w.cell? ⟨b, i, none⟩ := by
  unfold World.cell?
  rw [show w'.heap[(⟨b, i, none⟩ : Addr).block]? = w.heap[(⟨b, i, none⟩ : Addr).block]? from h]
theorem own_nothing (w : World) (B E size : Nat) : w.ownsRow B E size (.slice none 0 0) 0 [] := ⟨by simp, .inl ⟨rfl, rfl⟩⟩
def Lies (w : World) (a : Option Addr) (len : Nat) (xs : List Value) : Prop := len = 0 ∨ ∃ b off, a = some ⟨b, off, none⟩ ∧ ∀ j u, xs[j]? = some u → w.cell? ⟨b, off + j, none⟩ = some u
theorem own_caps {w : World} {B T sz n : Nat} {a : Option Addr} {cap : Nat} {xs : List Value} (h : w.ownsRow B T sz (.slice a n cap) n xs) : n ≤ cap ∧ cap ≤ maxLen ∧ (a = none → cap = 0) := by
  rcases h.2 with ⟨e, h0⟩ | ⟨g, cap', cur, hv, hB, hh, hcc, hcm, -⟩
  · injection e with e1 e2 e3
    subst e1 e2 e3
    exact ⟨Nat.le_refl _, Nat.zero_le _, fun _ => rfl⟩
  · injection hv with ha hn hc'
    subst ha
    exact ⟨by omega, by omega, fun h => by simp at h⟩
theorem own_lies {w : World} {B T sz n : Nat} {a : Option Addr} {cap : Nat} {xs : List Value} (h : w.ownsRow B T sz (.slice a n cap) n xs) : Lies w a n xs := by
  rcases h.2 with ⟨e, h0⟩ | ⟨g, cap', cur, hv, hB, hh, hcc, hcm, -⟩
  · exact .inl h0
  · injection hv with ha hn hc'
    subst ha
    refine .inr ⟨g, 0, rfl, fun j u hj => ?_⟩
    have hlt : j < xs.length := (List.getElem?_eq_some_iff.1 hj).1
    rw [Nat.zero_add, h.cellAt j (by rw [← h.1]; exact hlt)]
    exact hj
theorem own_below {a b : World} {B E s : Nat} {v : Value} {n : Nat} {xs : List Value} (h : a.ownsRow B E s v n xs) (hb : Below a.heap.size a b) : b.ownsRow B E s v n xs := by
  refine ⟨h.1, ?_⟩
  rcases h.2 with h | ⟨g, cap, cur, hv, hg, hh, r⟩
  · exact .inl h
  · exact .inr ⟨g, cap, cur, hv, hg, (hb.block g (Array.getElem?_eq_some_iff.1 hh).1).trans hh, r⟩
theorem own_base {w : World} {B B' T m : Nat} {v : Value} {n : Nat} {xs : List Value} (h : w.ownsRow B' T m v n xs) (hB : B ≤ B') : w.ownsRow B T m v n xs := by
  refine ⟨h.1, ?_⟩
  rcases h.2 with h | ⟨g, cap, cur, hv, hg, r⟩
  · exact .inl h
  · exact .inr ⟨g, cap, cur, hv, Nat.le_trans hB hg, r⟩
theorem own_type {w w' : World} {B s n : Nat} {e : TypeId} {v : Value} {xs : List Value} {b : Nat} {cb : Array Value} {tb : TypeId} {fz : Nat × Nat} (h : w.ownsRow B e s v n xs) (hg : w.grownBy w' (some b)) (hb : w.heap[b]? = some (.cells cb tb fz)) (ht : tb ≠ e) : w'.ownsRow B e s v n xs := by
  refine h.kept hg ?_
  rcases h.2 with ⟨rfl, _⟩ | ⟨g, cap, cur, rfl, _, hh, _⟩
  · exact .inl rfl
  · right
    intro e0
    simp [Value.ownBlock] at e0
    subst e0
    rw [hh] at hb
    simp at hb
    exact ht hb.2.1.symm
def intCells (l : List Int) : List Value := l.map (Value.int .i64)
theorem eq_of_getD {l r : List Int} {n : Nat} (hl : l.length = n) (hr : r.length = n) (h : ∀ j, j < n → l.getD j 0 = r.getD j 0) : l = r := by
  apply List.ext_getElem (by omega)
  intro i h1 h2
  have := h i (by omega)
  simpa [h1, h2] using this
theorem set_grownBy (w : World) (b i : Nat) (v : Value) : w.grownBy (w.setCell ⟨b, i, none⟩ v) (some b) := by
  refine ⟨rfl, rfl, rfl, by simp, fun k hk hne => ?_⟩
  have hkb : k ≠ b := fun h => hne (by rw [h])
  simp [World.setCell, Array.getElem?_modify, Ne.symm hkb]
/-- a slice of ints that reads as these -/
def RowI (w : World) (a : Option Addr) (len cap : Nat) (l : List Int) : Prop :=
  l.length = len ∧ len ≤ cap ∧ cap ≤ maxLen ∧ (a = none → cap = 0) ∧ (len = 0 ∨ ∃ b off, a = some ⟨b, off, none⟩ ∧ ∀ i, i < len → w.cell? ⟨b, off + i, none⟩ = some (.int .i64 (l.getD i 0)))
theorem RowI.some {w : World} {a : Option Addr} {len cap : Nat} {l : List Int} (h : RowI w a len cap l) (h0 : 0 < len) :
    ∃ b off, a = Option.some ⟨b, off, none⟩ ∧ b < w.heap.size ∧ ∀ i, i < len → w.cell? ⟨b, off + i, none⟩ = Option.some (.int .i64 (l.getD i 0)) := by
  rcases h.2.2.2.2 with h | ⟨b, off, e, h⟩
  · omega
  · exact ⟨b, off, e, World.block_lt_of_cell? w ⟨b, off + 0, none⟩ (h 0 h0), h⟩
theorem RowI.below {w w' : World} {a : Option Addr} {len cap : Nat} {l : List Int} (h : RowI w a len cap l) (hb : Below w.heap.size w w') : RowI w' a len cap l := by
  refine ⟨h.1, h.2.1, h.2.2.1, h.2.2.2.1, ?_⟩
  rcases h.2.2.2.2 with h0 | ⟨b, off, e, hc⟩
  · exact .inl h0
  · refine .inr ⟨b, off, e, fun i hi => ?_⟩
    have hlt : b < w.heap.size := World.block_lt_of_cell? w ⟨b, off + i, none⟩ (hc i hi)
    exact (hb.cell (p := ⟨b, off + i, none⟩) hlt).trans (hc i hi)
theorem RowI.nil (w : World) : RowI w none 0 0 [] := ⟨rfl, Nat.le_refl _, Nat.zero_le _, fun _ => rfl, .inl rfl⟩
theorem own_rowI {w : World} {B n cap : Nat} {a : Option Addr} {l : List Int} (h : w.ownsRow B 3 1 (.slice a n cap) n (intCells l)) : RowI w a n cap l := by
  have hl : l.length = n := by have := h.1; simpa [intCells] using this
  have hc := own_caps h
  refine ⟨hl, hc.1, hc.2.1, hc.2.2, ?_⟩
  rcases own_lies h with h0 | ⟨b, off, e, hx⟩
  · exact .inl h0
  · exact .inr ⟨b, off, e, fun i hi => hx i _ (by simp [intCells, show i < l.length by omega])⟩
/-- a delta -/
structure Dl where
  k : Int
  id : Int
  zn : Int
  rk : Int
  wt : Int
  g : Int
  ns : List Int
def dl0 : Dl := ⟨0, 0, 0, 0, 0, 0, []⟩
/-- what was accepted -/
structure Acd where
  b : Int
  d : Dl
def acd0 : Acd := ⟨0, dl0⟩
/-- its eight cells: its list lies at a -/
structure Cel where
  x : Acd
  a : Option Addr
  l : Nat
  c : Nat
def cel0 : Cel := ⟨acd0, none, 0, 0⟩
def Cel.vs (c : Cel) : List Value := [.int .i64 c.x.b, .int .i64 c.x.d.k, .int .i64 c.x.d.id, .int .i64 c.x.d.zn, .int .i64 c.x.d.rk, .int .i64 c.x.d.wt, .int .i64 c.x.d.g, .slice c.a c.l c.c]
def celsV (L : List Cel) : List Value := L.flatMap Cel.vs
theorem vs_len (c : Cel) : c.vs.length = 8 := rfl
theorem celsV_len (L : List Cel) : (celsV L).length = L.length * 8 := by
  induction L with
  | nil => rfl
  | cons c L ih => show (c.vs ++ celsV L).length = _; rw [List.length_append, ih, vs_len]; simp; omega
theorem celsV_append (L M : List Cel) : celsV (L ++ M) = celsV L ++ celsV M := by simp [celsV]
theorem celsV_get (L : List Cel) (i j : Nat) (hi : i < L.length) (hj : j < 8) : (celsV L)[i * 8 + j]? = (L[i].vs)[j]? := by
  induction L generalizing i with
  | nil => simp at hi
  | cons c L ih =>
    show (c.vs ++ celsV L)[i * 8 + j]? = _
    cases i with
    | zero => rw [Nat.zero_mul, Nat.zero_add, List.getElem?_append_left (by rw [vs_len]; exact hj)]; rfl
    | succ i =>
      rw [List.getElem?_append_right (by rw [vs_len]; omega), vs_len, show (i + 1) * 8 + j - 8 = i * 8 + j by omega, ih i (by simpa using hi)]
      rfl
theorem vs_one (c : Cel) : ∀ u ∈ c.vs, u.oneCell' = true := by
  intro u hu
  simp only [Cel.vs, List.mem_cons, List.not_mem_nil, or_false] at hu
  rcases hu with rfl | rfl | rfl | rfl | rfl | rfl | rfl | rfl <;> rfl
theorem celsV_one (L : List Cel) : ∀ u ∈ celsV L, u.oneCell' = true := by
  intro u hu
  obtain ⟨c, _, hu⟩ := List.mem_flatMap.1 hu
  exact vs_one c u hu
theorem ints_one (l : List Int) : ∀ u ∈ intCells l, u.oneCell' = true := by
  intro u hu
  simp [intCells] at hu
  obtain ⟨x, _, rfl⟩ := hu
  rfl
/-- a list of what was accepted, wherever it lies -/
def AcsAt (w : World) (a : Option Addr) (len cap : Nat) (ls : List Acd) : Prop :=
  ls.length = len ∧ len ≤ cap ∧ cap ≤ maxLen ∧ (a = none → cap = 0) ∧ ∃ L : List Cel, L.map Cel.x = ls ∧ Lies w a len (celsV L) ∧ ∀ c ∈ L, RowI w c.a c.l c.c c.x.d.ns
theorem Lies.below {w w' : World} {a : Option Addr} {len : Nat} {xs : List Value} (h : Lies w a len xs) (hb : Below w.heap.size w w') : Lies w' a len xs := by
  rcases h with h0 | ⟨b, off, e, hc⟩
  · exact .inl h0
  · exact .inr ⟨b, off, e, fun j u hj => (hb.cell (p := ⟨b, off + j, none⟩) (World.block_lt_of_cell? w ⟨b, off + j, none⟩ (hc j u hj))).trans (hc j u hj)⟩
theorem AcsAt.below {w w' : World} {a : Option Addr} {len cap : Nat} {ls : List Acd} (h : AcsAt w a len cap ls) (hb : Below w.heap.size w w') : AcsAt w' a len cap ls := by
  obtain ⟨h1, h2, h3, h4, L, h5, h6, h7⟩ := h
  exact ⟨h1, h2, h3, h4, L, h5, h6.below hb, fun c hc => (h7 c hc).below hb⟩
theorem AcsAt.nil (w : World) : AcsAt w none 0 0 [] := ⟨rfl, Nat.le_refl _, Nat.zero_le _, fun _ => rfl, [], rfl, .inl rfl, by simp⟩
/-- the cells of one -/
def CelAt (w : World) (b o : Nat) (c : Cel) : Prop := w.cell? ⟨b, o, none⟩ = some (.int .i64 c.x.b) ∧ w.cell? ⟨b, o + 1, none⟩ = some (.int .i64 c.x.d.k) ∧ w.cell? ⟨b, o + 2, none⟩ = some (.int .i64 c.x.d.id) ∧ w.cell? ⟨b, o + 3, none⟩ = some (.int .i64 c.x.d.zn) ∧ w.cell? ⟨b, o + 4, none⟩ = some (.int .i64 c.x.d.rk) ∧ w.cell? ⟨b, o + 5, none⟩ = some (.int .i64 c.x.d.wt) ∧ w.cell? ⟨b, o + 6, none⟩ = some (.int .i64 c.x.d.g) ∧ w.cell? ⟨b, o + 7, none⟩ = some (.slice c.a c.l c.c)
theorem lies_cel {w : World} {b off : Nat} {L : List Cel} (h : ∀ j u, (celsV L)[j]? = some u → w.cell? ⟨b, off + j, none⟩ = some u) {i : Nat} (hi : i < L.length) : CelAt w b (off + i * 8) L[i] := by
  have g : ∀ j, j < 8 → ∀ u, (L[i].vs)[j]? = some u → w.cell? ⟨b, off + i * 8 + j, none⟩ = some u := fun j hj u hu => by
    rw [Nat.add_assoc]
    exact h _ u ((celsV_get L i j hi hj).trans hu)
  exact ⟨g 0 (by omega) _ rfl, g 1 (by omega) _ rfl, g 2 (by omega) _ rfl, g 3 (by omega) _ rfl, g 4 (by omega) _ rfl, g 5 (by omega) _ rfl, g 6 (by omega) _ rfl, g 7 (by omega) _ rfl⟩
theorem AcsAt.at {w : World} {a : Option Addr} {len cap : Nat} {ls : List Acd} (h : AcsAt w a len cap ls) {i : Nat} (hi : i < len) : ∃ b off, a = some ⟨b, off, none⟩ ∧ b < w.heap.size ∧ ∃ c : Cel, ls.getD i acd0 = c.x ∧ CelAt w b (off + i * 8) c ∧ RowI w c.a c.l c.c c.x.d.ns := by
  obtain ⟨h1, h2, h3, h4, L, h5, h6, h7⟩ := h
  have hl : L.length = len := by rw [← h1, ← h5, List.length_map]
  rcases h6 with h0 | ⟨b, off, e, hc⟩
  · omega
  · have hx := lies_cel hc (i := i) (by omega)
    refine ⟨b, off, e, World.block_lt_of_cell? w ⟨b, off + i * 8, none⟩ hx.1, L[i]'(by omega), ?_, hx, h7 _ (List.getElem_mem _)⟩
    subst h5
    simp [show i < L.length by omega]
/-- a list of one's own, each of whose lists is one's own -/
def OwnA (w : World) (B : Nat) (v : Value) (ls : List Acd) : Prop := ∃ L : List Cel, L.map Cel.x = ls ∧ w.ownsRow B 49 8 v ls.length (celsV L) ∧ ∀ c ∈ L, w.ownsRow B 3 1 (.slice c.a c.l c.c) c.l (intCells c.x.d.ns)
theorem OwnA.below {w w' : World} {B : Nat} {v : Value} {ls : List Acd} (h : OwnA w B v ls) (hb : Below w.heap.size w w') : OwnA w' B v ls := by
  obtain ⟨L, h1, h2, h3⟩ := h
  exact ⟨L, h1, own_below h2 hb, fun c hc => own_below (h3 c hc) hb⟩
theorem OwnA.base {w : World} {B B' : Nat} {v : Value} {ls : List Acd} (h : OwnA w B' v ls) (hB : B ≤ B') : OwnA w B v ls := by
  obtain ⟨L, h1, h2, h3⟩ := h
  exact ⟨L, h1, own_base h2 hB, fun c hc => own_base (h3 c hc) hB⟩
theorem own_slice {w : World} {B E s n : Nat} {v : Value} {xs : List Value} (h : w.ownsRow B E s v n xs) : ∃ a c, v = .slice a n c := by
  rcases h.2 with ⟨rfl, rfl⟩ | ⟨g, cap, cur, rfl, _⟩
  · exact ⟨none, 0, rfl⟩
  · exact ⟨_, _, rfl⟩
theorem OwnA.at {w : World} {B : Nat} {v : Value} {ls : List Acd} (h : OwnA w B v ls) : ∃ a c, v = .slice a ls.length c ∧ AcsAt w a ls.length c ls := by
  obtain ⟨L, h1, h2, h3⟩ := h
  obtain ⟨a, c, rfl⟩ := own_slice h2
  have hc := own_caps h2
  exact ⟨a, c, rfl, rfl, hc.1, hc.2.1, hc.2.2, L, h1, own_lies h2, fun c hc => own_rowI (h3 c hc)⟩
theorem OwnA.nil (w : World) (B : Nat) : OwnA w B (.slice none 0 0) [] := ⟨[], rfl, own_nothing w B 49 8, by simp⟩
end Go.Proofs.Ytejhmacbbdnlbaa.Ac
