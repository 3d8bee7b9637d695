/-
  A sample in a box of one's own; the contracts of size, minus and plus.
-/
import Derived.Test.YtcdlkdbnlomghaaDoorBkP
import Derived.Laws.Rows
import Derived.Laws.OwnMore
namespace Go.Proofs.YtcdlkdbnlomghaaDoor.Bk
open Go.ChangeShapes Go.WideShapes Go.ChangeAt Go.RowKit
theorem size_any (n : Int) (m : Nat) (w : World) (h0 : 0 ≤ n) (h1 : n ≤ 100000) (hm : 2 * n + 1 = (m : Int)) : Calls Tryd.prog 49 #[.int .i64 n] w fun e w' => e = .returned (.int .i64 (m : Int)) ∧ w' = w := by
  go_enter Tryd.func49, Tryd.ntmps49
  go_wp2
  go_ret
  exact ⟨ret_int (by omega), rfl⟩
theorem w64_id {x : Int} (h1 : -9223372036854775808 ≤ x) (h2 : x < 9223372036854775808) : wrap64 x = x := by
  unfold wrap64; omega
/-- a block that holds one sample -/
def SmBox (w : World) (b : Nat) (x y : Int) : Prop := w.heap[b]? = some (.cells #[.int .i64 x, .int .i64 y] 46 (0, 0))
theorem SmBox.lt {w : World} {b : Nat} {x y : Int} (h : SmBox w b x y) : b < w.heap.size := (Array.getElem?_eq_some_iff.1 h).1
theorem SmBox.c0 {w : World} {b : Nat} {x y : Int} (h : SmBox w b x y) : w.cell? ⟨b, 0, none⟩ = some (.int .i64 x) := by unfold World.cell?; rw [show w.heap[(⟨b, 0, none⟩ : Addr).block]? = _ from h]; rfl
theorem SmBox.c1 {w : World} {b : Nat} {x y : Int} (h : SmBox w b x y) : w.cell? ⟨b, 1, none⟩ = some (.int .i64 y) := by unfold World.cell?; rw [show w.heap[(⟨b, 1, none⟩ : Addr).block]? = _ from h]; rfl
theorem SmBox.f0 {w : World} {b : Nat} {x y : Int} (h : SmBox w b x y) : w.frozen? ⟨b, 0, none⟩ = false := by unfold World.frozen?; rw [show w.heap[(⟨b, 0, none⟩ : Addr).block]? = _ from h]; rfl
theorem SmBox.f1 {w : World} {b : Nat} {x y : Int} (h : SmBox w b x y) : w.frozen? ⟨b, 1, none⟩ = false := by unfold World.frozen?; rw [show w.heap[(⟨b, 1, none⟩ : Addr).block]? = _ from h]; rfl
theorem SmBox.kept {w w' : World} {b : Nat} {x y : Int} (h : SmBox w b x y) (e : w'.heap[b]? = w.heap[b]?) : SmBox w' b x y := e.trans h
theorem SmBox.below {w w' : World} {b : Nat} {x y : Int} (h : SmBox w b x y) (hb : Below w.heap.size w w') : SmBox w' b x y := h.kept (hb.block b h.lt)
theorem SmBox.new (w : World) (x y : Int) : SmBox (w.alloc (.cells #[.int .i64 x, .int .i64 y] 46)) w.heap.size x y := heap_alloc_new w _
/-- both cells of a block written -/
def set2 (w : World) (b : Nat) (x y : Value) : World := (w.setCell ⟨b, 0, none⟩ x).setCell ⟨b, 1, none⟩ y
theorem SmBox.set {w : World} {b : Nat} {x y : Int} (h : SmBox w b x y) (x' y' : Int) : SmBox (set2 w b (.int .i64 x') (.int .i64 y')) b x' y' := by
  have h1 := heap_setCell_same w b 0 _ _ (.int .i64 x') h
  have h2 := heap_setCell_same (w.setCell ⟨b, 0, none⟩ (.int .i64 x')) b 1 _ _ (.int .i64 y') h1
  exact h2
theorem set2_else {w : World} {b k : Nat} (x y : Value) (h : k ≠ b) : (set2 w b x y).heap[k]? = w.heap[k]? :=
  (heap_setCell_other _ ⟨b, 1, none⟩ k _ h).trans (heap_setCell_other _ ⟨b, 0, none⟩ k _ h)
theorem SmBox.else {w : World} {b c : Nat} {x y : Int} (h : SmBox w c x y) (u v : Value) (hne : c ≠ b) : SmBox (set2 w b u v) c x y := h.kept (set2_else u v hne)
theorem set2_below {N : Nat} {w0 w : World} {b : Nat} (h : Below N w0 w) (hb : N ≤ b) (x y : Value) : Below N w0 (set2 w b x y) := (h.setCell (p := ⟨b, 0, none⟩) hb _).setCell (p := ⟨b, 1, none⟩) hb _
theorem set2_size (w : World) (b : Nat) (x y : Value) : (set2 w b x y).heap.size = w.heap.size := by unfold set2 World.setCell; simp
/-- a row of another type lies elsewhere -/
theorem SmBox.apart {w : World} {b B s n : Nat} {e : TypeId} {x y : Int} {v : Value} {xs : List Value} (h : SmBox w b x y) (ho : w.ownsRow B e s v n xs) (he : e ≠ 46) : v.ownBlock ≠ some b := by
  obtain ⟨_, ⟨rfl, _⟩ | ⟨g, cap, cur, rfl, _, hh, _⟩⟩ := ho
  · simp [Value.ownBlock]
  · intro hg
    simp [Value.ownBlock] at hg
    subst hg
    rw [h] at hh
    simp at hh
    exact he hh.2.symm
theorem own_set2 {w : World} {b B s n : Nat} {e : TypeId} {v : Value} {xs : List Value} (ho : w.ownsRow B e s v n xs) (hne : v.ownBlock ≠ some b) (x y : Value) : (set2 w b x y).ownsRow B e s v n xs := by
  obtain ⟨h1, ⟨rfl, h2⟩ | ⟨g, cap, cur, rfl, h2, hh, h3⟩⟩ := ho
  · exact ⟨h1, .inl ⟨rfl, h2⟩⟩
  · refine ⟨h1, .inr ⟨g, cap, cur, rfl, h2, (set2_else x y fun e => hne (by rw [← e]; rfl)).trans hh, h3⟩⟩
theorem addr_add2 (b off i : Nat) : (⟨b, off, none⟩ : Addr).add i = ⟨b, off + i, none⟩ := by
  by_cases h : i = 0
  · subst h; simp [Addr.add]
  · simp [Addr.add, h]
theorem cells_lit (w : World) (cs : List Value) (t : TypeId) : ∀ j u, cs[j]? = some u → (w.alloc (.cells cs.toArray t)).cell? ((⟨w.heap.size, 0, none⟩ : Addr).add j) = some u := by
  intro j u hj
  rw [addr_add2, Nat.zero_add]
  unfold World.cell?
  rw [heap_alloc_new]
  simpa using hj
theorem SmBox.grown {w w' : World} {b : Nat} {x y : Int} {row : Option Nat} (h : SmBox w b x y) (hg : w.grownBy w' row) (hr : row ≠ some b) : SmBox w' b x y := h.kept (hg.block b h.lt fun e => hr e.symm)
theorem ret_smbox {fn : Func} {p : Tmp} (h : fn.results = #[.cell p 46]) (tmps : Array Value) (w : World) (b : Nat) (x y : Int) (hp : tmps.getD p undef = .pointer (some ⟨b, 0, none⟩))
    (hb : SmBox w b x y) : (results fn tmps).run Tryd.prog w = .ok (.agg #[.int .i64 x, .int .i64 y]) w := by
  have h0 := hb.c0
  have h1 := hb.c1
  simp only [Array.getD_eq_getD_getElem?] at hp
  simp only [results, h]
  simp [go_sem, hp, h0, h1]
set_option maxRecDepth 60000 in
theorem minus_any (a b c d : Int) (w : World) : Calls Tryd.prog 50 #[.agg #[.int .i64 a, .int .i64 b], .agg #[.int .i64 c, .int .i64 d]] w fun e w' => e = .returned (.agg #[.int .i64 (wrap64 (a - c)), .int .i64 (wrap64 (b - d))]) ∧ Grown w w' := by
  go_enter Tryd.func50, Tryd.ntmps50
  go_wp2
  refine bodyPost_ret (ret_smbox rfl _ _ (w.heap.size + 2) (wrap64 (a - c)) (wrap64 (b - d)) rfl ?_) rfl ?_
  · have := SmBox.new ((w.alloc (Obj.cells #[Value.int IntKind.i64 a, Value.int IntKind.i64 b] 46)).alloc (Obj.cells #[Value.int IntKind.i64 c, Value.int IntKind.i64 d] 46)) (wrap64 (a - c)) (wrap64 (b - d))
    simpa using this
  exact ⟨rfl, grown2 (grown2 (grown_alloc _ _) (grown_alloc _ _)) (grown_alloc _ _)⟩
set_option maxRecDepth 60000 in
theorem plus_any (a b c d : Int) (w : World) : Calls Tryd.prog 78 #[.agg #[.int .i64 a, .int .i64 b], .agg #[.int .i64 c, .int .i64 d]] w fun e w' => e = .returned (.agg #[.int .i64 (wrap64 (a + c)), .int .i64 (wrap64 (b + d))]) ∧ Grown w w' := by
  go_enter Tryd.func78, Tryd.ntmps78
  go_wp2
  refine bodyPost_ret (ret_smbox rfl _ _ (w.heap.size + 2) (wrap64 (a + c)) (wrap64 (b + d)) rfl ?_) rfl ?_
  · have := SmBox.new ((w.alloc (Obj.cells #[Value.int IntKind.i64 a, Value.int IntKind.i64 b] 46)).alloc (Obj.cells #[Value.int IntKind.i64 c, Value.int IntKind.i64 d] 46)) (wrap64 (a + c)) (wrap64 (b + d))
    simpa using this
  exact ⟨rfl, grown2 (grown2 (grown_alloc _ _) (grown_alloc _ _)) (grown_alloc _ _)⟩
theorem minus_to (a b c d p q : Int) (w : World) (h1 : wrap64 (a - c) = p) (h2 : wrap64 (b - d) = q) : Calls Tryd.prog 50 #[.agg #[.int .i64 a, .int .i64 b], .agg #[.int .i64 c, .int .i64 d]] w fun e w' => e = .returned (.agg #[.int .i64 p, .int .i64 q]) ∧ Grown w w' := by
  subst h1; subst h2; exact minus_any a b c d w
theorem plus_to (a b c d p q : Int) (w : World) (h1 : wrap64 (a + c) = p) (h2 : wrap64 (b + d) = q) : Calls Tryd.prog 78 #[.agg #[.int .i64 a, .int .i64 b], .agg #[.int .i64 c, .int .i64 d]] w fun e w' => e = .returned (.agg #[.int .i64 p, .int .i64 q]) ∧ Grown w w' := by
  subst h1; subst h2; exact plus_any a b c d w
end Go.Proofs.YtcdlkdbnlomghaaDoor.Bk
