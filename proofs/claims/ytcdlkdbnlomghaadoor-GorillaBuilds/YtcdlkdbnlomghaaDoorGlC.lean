/-
  A chunk's box; the region of Build that writes.
-/
import Derived.Test.YtcdlkdbnlomghaaDoorGlB
import Derived.Test.YtcdlkdbnlomghaaDoorBkJ
namespace Go.Proofs.YtcdlkdbnlomghaaDoor.Gl
open Go.ChangeShapes Go.WideShapes Go.ChangeAt Go.RowKit
open Go.Proofs.YtcdlkdbnlomghaaDoor.Bi
open Go.Proofs.YtcdlkdbnlomghaaDoor.Fr (RowAt cellsI cellsI_get)
open Go.Proofs.YtcdlkdbnlomghaaDoor.Bk (rT rV)
def B5 (w : World) (b T : Nat) (v0 v1 v2 v3 v4 : Value) : Prop := w.heap[b]? = some (.cells #[v0, v1, v2, v3, v4] T (0, 0))
theorem B5.lt {w : World} {b T : Nat} {v0 v1 v2 v3 v4 : Value} (h : B5 w b T v0 v1 v2 v3 v4) : b < w.heap.size := (Array.getElem?_eq_some_iff.1 h).1
theorem B5.kept {w : World} {b T : Nat} {v0 v1 v2 v3 v4 : Value} (h : B5 w b T v0 v1 v2 v3 v4) {w' : World} (e : w'.heap[b]? = w.heap[b]?) : B5 w' b T v0 v1 v2 v3 v4 := e.trans h
theorem B5.below {w : World} {b T : Nat} {v0 v1 v2 v3 v4 : Value} (h : B5 w b T v0 v1 v2 v3 v4) {w' : World} (hb : Below w.heap.size w w') : B5 w' b T v0 v1 v2 v3 v4 := h.kept (hb.block b h.lt)
theorem B5.new (w : World) (T : Nat) (v0 v1 v2 v3 v4 : Value) : B5 (w.alloc (.cells #[v0, v1, v2, v3, v4] T)) w.heap.size T v0 v1 v2 v3 v4 := heap_alloc_new w _
theorem B5.cells {w : World} {b T : Nat} {v0 v1 v2 v3 v4 : Value} (h : B5 w b T v0 v1 v2 v3 v4) : w.cell? ⟨b, 0, none⟩ = some v0 ∧ w.cell? ⟨b, 1, none⟩ = some v1 ∧ w.cell? ⟨b, 2, none⟩ = some v2 ∧ w.cell? ⟨b, 3, none⟩ = some v3 ∧ w.cell? ⟨b, 4, none⟩ = some v4 := by
  unfold World.cell?
  refine ⟨?_, ?_, ?_, ?_, ?_⟩
  · rw [show w.heap[(⟨b, 0, none⟩ : Addr).block]? = _ from h]; rfl
  · rw [show w.heap[(⟨b, 1, none⟩ : Addr).block]? = _ from h]; rfl
  · rw [show w.heap[(⟨b, 2, none⟩ : Addr).block]? = _ from h]; rfl
  · rw [show w.heap[(⟨b, 3, none⟩ : Addr).block]? = _ from h]; rfl
  · rw [show w.heap[(⟨b, 4, none⟩ : Addr).block]? = _ from h]; rfl
theorem B5.frz {w : World} {b T : Nat} {v0 v1 v2 v3 v4 : Value} (h : B5 w b T v0 v1 v2 v3 v4) : w.frozen? ⟨b, 0, none⟩ = false ∧ w.frozen? ⟨b, 1, none⟩ = false ∧ w.frozen? ⟨b, 2, none⟩ = false ∧ w.frozen? ⟨b, 3, none⟩ = false ∧ w.frozen? ⟨b, 4, none⟩ = false := by
  unfold World.frozen?
  refine ⟨?_, ?_, ?_, ?_, ?_⟩
  · rw [show w.heap[(⟨b, 0, none⟩ : Addr).block]? = _ from h]; rfl
  · rw [show w.heap[(⟨b, 1, none⟩ : Addr).block]? = _ from h]; rfl
  · rw [show w.heap[(⟨b, 2, none⟩ : Addr).block]? = _ from h]; rfl
  · rw [show w.heap[(⟨b, 3, none⟩ : Addr).block]? = _ from h]; rfl
  · rw [show w.heap[(⟨b, 4, none⟩ : Addr).block]? = _ from h]; rfl
def set5 (w : World) (b : Nat) (u0 u1 u2 u3 u4 : Value) : World := (((((w.setCell ⟨b, 0, none⟩ u0).setCell ⟨b, 1, none⟩ u1).setCell ⟨b, 2, none⟩ u2).setCell ⟨b, 3, none⟩ u3).setCell ⟨b, 4, none⟩ u4)
theorem B5.set {w : World} {b T : Nat} {v0 v1 v2 v3 v4 : Value} (h : B5 w b T v0 v1 v2 v3 v4) (u0 u1 u2 u3 u4 : Value) : B5 (set5 w b u0 u1 u2 u3 u4) b T u0 u1 u2 u3 u4 := by
  unfold set5
  have h0 := heap_setCell_same w b 0 _ _ u0 h
  have h1 := heap_setCell_same (w.setCell ⟨b, 0, none⟩ u0) b 1 _ _ u1 h0
  have h2 := heap_setCell_same ((w.setCell ⟨b, 0, none⟩ u0).setCell ⟨b, 1, none⟩ u1) b 2 _ _ u2 h1
  have h3 := heap_setCell_same (((w.setCell ⟨b, 0, none⟩ u0).setCell ⟨b, 1, none⟩ u1).setCell ⟨b, 2, none⟩ u2) b 3 _ _ u3 h2
  have h4 := heap_setCell_same ((((w.setCell ⟨b, 0, none⟩ u0).setCell ⟨b, 1, none⟩ u1).setCell ⟨b, 2, none⟩ u2).setCell ⟨b, 3, none⟩ u3) b 4 _ _ u4 h3
  unfold B5
  rw [h4]
  simp
theorem B5.put0 {w : World} {b T : Nat} {v0 v1 v2 v3 v4 : Value} (h : B5 w b T v0 v1 v2 v3 v4) (u : Value) : B5 (w.setCell ⟨b, 0, none⟩ u) b T u v1 v2 v3 v4 := heap_setCell_same w b 0 _ _ u h
theorem B5.put1 {w : World} {b T : Nat} {v0 v1 v2 v3 v4 : Value} (h : B5 w b T v0 v1 v2 v3 v4) (u : Value) : B5 (w.setCell ⟨b, 1, none⟩ u) b T v0 u v2 v3 v4 := heap_setCell_same w b 1 _ _ u h
theorem B5.put2 {w : World} {b T : Nat} {v0 v1 v2 v3 v4 : Value} (h : B5 w b T v0 v1 v2 v3 v4) (u : Value) : B5 (w.setCell ⟨b, 2, none⟩ u) b T v0 v1 u v3 v4 := heap_setCell_same w b 2 _ _ u h
theorem B5.put3 {w : World} {b T : Nat} {v0 v1 v2 v3 v4 : Value} (h : B5 w b T v0 v1 v2 v3 v4) (u : Value) : B5 (w.setCell ⟨b, 3, none⟩ u) b T v0 v1 v2 u v4 := heap_setCell_same w b 3 _ _ u h
theorem B5.put4 {w : World} {b T : Nat} {v0 v1 v2 v3 v4 : Value} (h : B5 w b T v0 v1 v2 v3 v4) (u : Value) : B5 (w.setCell ⟨b, 4, none⟩ u) b T v0 v1 v2 v3 u := heap_setCell_same w b 4 _ _ u h
theorem B5.else {w : World} {b T : Nat} {v0 v1 v2 v3 v4 : Value} (h : B5 w b T v0 v1 v2 v3 v4) {c i : Nat} (u : Value) (hne : b ≠ c) : B5 (w.setCell ⟨c, i, none⟩ u) b T v0 v1 v2 v3 v4 := h.kept (heap_setCell_other _ ⟨c, i, none⟩ b _ hne)
theorem set5_else {w : World} {b k : Nat} (u0 u1 u2 u3 u4 : Value) (h : k ≠ b) : (set5 w b u0 u1 u2 u3 u4).heap[k]? = w.heap[k]? := by
  unfold set5
  rw [heap_setCell_other _ ⟨b, 4, none⟩ k _ h, heap_setCell_other _ ⟨b, 3, none⟩ k _ h, heap_setCell_other _ ⟨b, 2, none⟩ k _ h, heap_setCell_other _ ⟨b, 1, none⟩ k _ h, heap_setCell_other _ ⟨b, 0, none⟩ k _ h]
theorem set5_below {N : Nat} {w0 w : World} {b : Nat} (h : Below N w0 w) (hb : N ≤ b) (u0 u1 u2 u3 u4 : Value) : Below N w0 (set5 w b u0 u1 u2 u3 u4) := (((((h.setCell (p := ⟨b, 0, none⟩) hb _).setCell (p := ⟨b, 1, none⟩) hb _).setCell (p := ⟨b, 2, none⟩) hb _).setCell (p := ⟨b, 3, none⟩) hb _).setCell (p := ⟨b, 4, none⟩) hb _)
theorem ret_5b {fn : Func} {p q : Tmp} (h : fn.results = #[.cell p 28, .tmp q]) (tmps : Array Value) (w : World) (b : Nat) (v0 v1 v2 v3 v4 u : Value) (hp : tmps.getD p undef = .pointer (some ⟨b, 0, none⟩)) (hq : tmps.getD q undef = u)
    (hb : B5 w b 28 v0 v1 v2 v3 v4) : (results fn tmps).run Tryd.prog w = .ok (.tuple #[.agg #[v0, v1, v2, v3, v4], u]) w := by
  obtain ⟨h0, h1, h2, h3, h4⟩ := hb.cells
  simp only [Array.getD_eq_getD_getElem?] at hp hq
  simp only [results, h]
  simp [go_sem, hp, hq, h0, h1, h2, h3, h4]
theorem ret_5 {fn : Func} {p : Tmp} (h : fn.results = #[.cell p 28]) (tmps : Array Value) (w : World) (b : Nat) (v0 v1 v2 v3 v4 : Value) (hp : tmps.getD p undef = .pointer (some ⟨b, 0, none⟩))
    (hb : B5 w b 28 v0 v1 v2 v3 v4) : (results fn tmps).run Tryd.prog w = .ok (.agg #[v0, v1, v2, v3, v4]) w := by
  obtain ⟨h0, h1, h2, h3, h4⟩ := hb.cells
  simp only [Array.getD_eq_getD_getElem?] at hp
  simp only [results, h]
  simp [go_sem, hp, h0, h1, h2, h3, h4]
/-- samples' bits -/
def IsCh (ls : List Bk.Sm) (L : List Bool) : Prop := Bk.MayS ls ∧ 0 < ls.length ∧ Told (Bk.tell (Bk.tS ls)) (Bk.tell (Bk.vS ls)) ls.length L
def firstT (ls : List Bk.Sm) : Int := Bk.tS ls 0
def lastT (ls : List Bk.Sm) : Int := Bk.tS ls (ls.length - 1)
def zeroC : Value := .agg #[.int .i64 0, .int .i64 0, .int .i64 0, .slice none 0 0, .int .i64 0]
/-- a chunk's value: its bits lie somewhere -/
def ChV (n : Nat) (f l : Int) (a : Option Addr) (len cap k : Nat) : Value := .agg #[.int .i64 (n : Int), .int .i64 f, .int .i64 l, .slice a len cap, .int .i64 (k : Int)]
def BuildPost (ls : List Bk.Sm) (w : World) (e : Ending) (w' : World) : Prop := Below w.heap.size w w' ∧ ((¬ (Bk.MayS ls ∧ 0 < ls.length) ∧ e = .returned (.tuple #[zeroC, .int .i64 1])) ∨ (∃ (L : List Bool) (a : Option Addr) (len cap k : Nat), IsCh ls L ∧ e = .returned (.tuple #[ChV ls.length (firstT ls) (lastT ls) a len cap k, .int .i64 0]) ∧ ByAt w' a len cap (pack L len) ∧ len = need k ∧ k = L.length ∧ (k : Int) ≤ 9000))
theorem B5.only {w : World} {b T : Nat} {v0 v1 v2 v3 v4 v : Value} (h : B5 w b T v0 v1 v2 v3 v4) {i : Nat} (hc : w.cell? ⟨b, i, none⟩ = some v) : v = v0 ∨ v = v1 ∨ v = v2 ∨ v = v3 ∨ v = v4 := by
  obtain ⟨c0, c1, c2, c3, c4⟩ := h.cells
  match i with
  | 0 => rw [c0] at hc; exact .inl (Option.some.inj hc).symm
  | 1 => rw [c1] at hc; exact .inr (.inl (Option.some.inj hc).symm)
  | 2 => rw [c2] at hc; exact .inr (.inr (.inl (Option.some.inj hc).symm))
  | 3 => rw [c3] at hc; exact .inr (.inr (.inr (.inl (Option.some.inj hc).symm)))
  | 4 => rw [c4] at hc; exact .inr (.inr (.inr (.inr (Option.some.inj hc).symm)))
  | i + 5 =>
    unfold World.cell? at hc
    rw [show w.heap[(⟨b, i + 5, none⟩ : Addr).block]? = _ from h] at hc
    simp at hc
/-- bytes do not lie in a chunk's box -/
theorem byAt_box5 {w : World} {X T len cap : Nat} {v0 v1 v2 v3 v4 : Value} {a : Option Addr} {l : List Nat} (h : ByAt w a len cap l) (hx : B5 w X T v0 v1 v2 v3 v4) (h0 : ∀ x, Value.int .u8 x ≠ v0) (h1 : ∀ x, Value.int .u8 x ≠ v1) (h2 : ∀ x, Value.int .u8 x ≠ v2) (h3 : ∀ x, Value.int .u8 x ≠ v3) (h4 : ∀ x, Value.int .u8 x ≠ v4) (u0 u1 u2 u3 u4 : Value) : ByAt (set5 w X u0 u1 u2 u3 u4) a len cap l := by
  by_cases hl : len = 0
  · exact ⟨h.1, h.2.1, h.2.2.1, h.2.2.2.1, h.2.2.2.2.1, .inl hl⟩
  · obtain ⟨b, off, rfl, hb, hc⟩ := h.some (by omega)
    have hne : b ≠ X := by
      rintro rfl
      rcases B5.only hx (hc 0 (by omega)) with e | e | e | e | e
      · exact h0 _ e
      · exact h1 _ e
      · exact h2 _ e
      · exact h3 _ e
      · exact h4 _ e
    exact byAt_keep h (((((KeepR.refl X w).set 0 u0).set 1 u1).set 2 u2).set 3 u3 |>.set 4 u4) (fun p hp => by cases hp; exact hne)
set_option maxHeartbeats 4000000 in
set_option maxRecDepth 60000 in
theorem build_4 (t1 t3 t5 t6 t7 t8 t9 t10 t11 t12 t13 t14 t15 t16 t17 t18 t19 t20 t21 t22 t23 t24 t25 t26 t27 t28 t29 t30 t31 t32 t33 t34 t35 t36 : Value) (X D b off n cap m g n1 c1 : Nat) (f0 fm : Int) (TT VV : Nat → Int) (w0 : World) (w1 : World) (Q : Exit → Act → World → Prop)
    (hn2 : ¬ n = 0) (hm : (m : Int) < (n : Int)) (P1 : IntKind.i64.wrap ((n : Int) - 1) = (m : Int)) (hn1 : (1 : Int) ≤ (n1 : Int)) (hc1 : ¬ c1 = 1)
    (HX : Hid (B5 w1 X 28 (.int .i64 0) (.int .i64 0) (.int .i64 0) (.slice none 0 0) (.int .i64 0))) (HD : Hid (Bk.DBox w1 D (.slice (some ⟨g, 0, none⟩) n1 c1) (.slice none 0 0))) (hne : Hid (D ≠ X)) (hX : Hid (w0.heap.size ≤ X)) (hB : Hid (Below w0.heap.size w0 w1))
    (H0 : Hid (w0.cell? ⟨b, off, none⟩ = some (.int .i64 f0))) (Hm : Hid (w0.cell? ⟨b, off + m * 2, none⟩ = some (.int .i64 fm)))
    (HN : Hid (∀ W, Below w1.heap.size w1 W → Calls Tryd.prog 32 #[.slice (some ⟨g, 1, none⟩) (n1 - 1) (c1 - 1)] W fun e w' => TellPost TT VV n W e w'))
    (hQ : Hid (∀ (u19 u20 u21 u22 u23 u24 u25 u26 u27 u28 u29 u30 u31 u32 u33 u34 u35 u36 : Value) (L : List Bool) (a2 : Option Addr) (len2 cap2 k2 : Nat) (wC : World), Below w0.heap.size w0 wC → B5 wC X 28 (.int .i64 (n : Int)) (.int .i64 f0) (.int .i64 fm) (.slice a2 len2 cap2) (.int .i64 (k2 : Int)) → ByAt wC a2 len2 cap2 (pack L len2) → (Told TT VV n L ∧ len2 = need k2 ∧ k2 = L.length ∧ (k2 : Int) ≤ 9000) → Q .normal ⟨#[.slice (some ⟨b, off, none⟩) n cap, t1, .pointer (some ⟨X, 0, none⟩), .int .i64 0, .pointer (some ⟨D, 0, none⟩), t5, t6, t7, t8, t9, t10, t11, t12, t13, t14, t15, t16, t17, t18, u19, u20, u21, u22, u23, u24, u25, u26, u27, u28, u29, u30, u31, u32, u33, u34, u35, u36], []⟩ wC)) :
    Code.wp Tryd.prog ((Tryd.f10.body.bind (regionOf 4)).getD .skip) Q ⟨#[.slice (some ⟨b, off, none⟩) n cap, t1, .pointer (some ⟨X, 0, none⟩), t3, .pointer (some ⟨D, 0, none⟩), t5, t6, t7, t8, t9, t10, t11, t12, t13, t14, t15, t16, t17, t18, t19, t20, t21, t22, t23, t24, t25, t26, t27, t28, t29, t30, t31, t32, t33, t34, t35, t36], []⟩ w1 := by
  have hS : (fun w' => Below w0.heap.size w0 w' ∧ Bk.DBox w' D (.slice (some ⟨g, 0, none⟩) n1 c1) (.slice none 0 0)) w1.drew := ⟨below2 hB.out (below_drew w1), HD.out.below (below_drew w1)⟩
  conv => arg 2; whnf
  refine held_start (S := fun w' => Below w0.heap.size w0 w' ∧ Bk.DBox w' D (.slice (some ⟨g, 0, none⟩) n1 c1) (.slice none 0 0)) mixed9 ?_
  refine held_take (i := 0) (v := .slice (some ⟨b, off, none⟩) n cap) rfl (by kernel_rfl) (fun _ _ _ h => h) (.inl ⟨rfl, fun w hS => ?_⟩) hS ?_
  · clear hS
    go_simp
  try simp only [Act.put, List.setIfInBounds_toArray, List.set_cons_zero, List.set_cons_succ]
  refine held_take (i := 1) (v := .int .i64 (n : Int)) rfl (by kernel_rfl) (fun _ _ _ h => h) (.inl ⟨rfl, fun w hS => ?_⟩) hS ?_
  · clear hS
    go_simp
  try simp only [Act.put, List.setIfInBounds_toArray, List.set_cons_zero, List.set_cons_succ]
  refine held_take (i := 2) (v := .slice (some ⟨b, off, none⟩) n cap) rfl (by kernel_rfl) (fun _ _ _ h => h) (.inl ⟨rfl, fun w hS => ?_⟩) hS ?_
  · clear hS
    go_simp
  try simp only [Act.put, List.setIfInBounds_toArray, List.set_cons_zero, List.set_cons_succ]
  refine held_take (i := 3) (v := .pointer (some ⟨b, off, none⟩)) rfl (by kernel_rfl) (fun _ _ _ h => h) (.inl ⟨rfl, fun w hS => ?_⟩) hS ?_
  · clear hS
    go_simp
  try simp only [Act.put, List.setIfInBounds_toArray, List.set_cons_zero, List.set_cons_succ]
  refine held_take (i := 4) (v := .pointer (some ⟨b, off, none⟩)) rfl (by kernel_rfl) (fun _ _ _ h => h) (.inl ⟨rfl, fun w hS => ?_⟩) hS ?_
  · clear hS
    go_simp
  try simp only [Act.put, List.setIfInBounds_toArray, List.set_cons_zero, List.set_cons_succ]
  refine held_take (i := 5) (v := .int .i64 f0) rfl (by kernel_rfl) (fun _ _ _ h => h) (.inl ⟨rfl, fun w hS => ?_⟩) hS ?_
  · have qc := (hS.1.cell (p := ⟨b, off, none⟩) (World.block_lt_of_cell? w0 ⟨b, off, none⟩ H0.out)).trans H0.out
    clear hS
    go_simp
  try simp only [Act.put, List.setIfInBounds_toArray, List.set_cons_zero, List.set_cons_succ]
  refine held_take (i := 6) (v := .slice (some ⟨b, off, none⟩) n cap) rfl (by kernel_rfl) (fun _ _ _ h => h) (.inl ⟨rfl, fun w hS => ?_⟩) hS ?_
  · clear hS
    go_simp
  try simp only [Act.put, List.setIfInBounds_toArray, List.set_cons_zero, List.set_cons_succ]
  refine held_take (i := 7) (v := .slice (some ⟨b, off, none⟩) n cap) rfl (by kernel_rfl) (fun _ _ _ h => h) (.inl ⟨rfl, fun w hS => ?_⟩) hS ?_
  · clear hS
    go_simp
  try simp only [Act.put, List.setIfInBounds_toArray, List.set_cons_zero, List.set_cons_succ]
  refine held_take (i := 8) (v := .int .i64 (n : Int)) rfl (by kernel_rfl) (fun _ _ _ h => h) (.inl ⟨rfl, fun w hS => ?_⟩) hS ?_
  · clear hS
    go_simp
  try simp only [Act.put, List.setIfInBounds_toArray, List.set_cons_zero, List.set_cons_succ]
  refine held_take (i := 9) (v := .int .i64 (m : Int)) rfl (by kernel_rfl) (fun _ _ _ h => h) (.inl ⟨rfl, fun w hS => ?_⟩) hS ?_
  · clear hS
    go_simp
  try simp only [Act.put, List.setIfInBounds_toArray, List.set_cons_zero, List.set_cons_succ]
  refine held_take (i := 10) (v := .pointer (some ⟨b, off + m * 2, none⟩)) rfl (by kernel_rfl) (fun _ _ _ h => h) (.inl ⟨rfl, fun w hS => ?_⟩) hS ?_
  · clear hS
    go_simp
  try simp only [Act.put, List.setIfInBounds_toArray, List.set_cons_zero, List.set_cons_succ]
  refine held_take (i := 11) (v := .pointer (some ⟨b, off + m * 2, none⟩)) rfl (by kernel_rfl) (fun _ _ _ h => h) (.inl ⟨rfl, fun w hS => ?_⟩) hS ?_
  · clear hS
    go_simp
  try simp only [Act.put, List.setIfInBounds_toArray, List.set_cons_zero, List.set_cons_succ]
  refine held_take (i := 12) (v := .int .i64 fm) rfl (by kernel_rfl) (fun _ _ _ h => h) (.inl ⟨rfl, fun w hS => ?_⟩) hS ?_
  · have qc := (hS.1.cell (p := ⟨b, off + m * 2, none⟩) (World.block_lt_of_cell? w0 ⟨b, off + m * 2, none⟩ Hm.out)).trans Hm.out
    clear hS
    go_simp
  try simp only [Act.put, List.setIfInBounds_toArray, List.set_cons_zero, List.set_cons_succ]
  refine held_take (i := 13) (v := .pointer (some ⟨D, 0, none⟩)) rfl (by kernel_rfl) (fun _ _ _ h => h) (.inl ⟨rfl, fun w hS => ?_⟩) hS ?_
  · clear hS
    go_simp
  try simp only [Act.put, List.setIfInBounds_toArray, List.set_cons_zero, List.set_cons_succ]
  refine held_take (i := 14) (v := .slice (some ⟨g, 0, none⟩) n1 c1) rfl (by kernel_rfl) (fun _ _ _ h => h) (.inl ⟨rfl, fun w hS => ?_⟩) hS ?_
  · have q0 := hS.2.c0
    clear hS
    go_simp
  try simp only [Act.put, List.setIfInBounds_toArray, List.set_cons_zero, List.set_cons_succ]
  refine held_take (i := 15) (v := .slice (some ⟨g, 1, none⟩) (n1 - 1) (c1 - 1)) rfl (by kernel_rfl) (fun _ _ _ h => h) (.inl ⟨rfl, fun w hS => ?_⟩) hS ?_
  · clear hS
    go_simp
  try simp only [Act.put, List.setIfInBounds_toArray, List.set_cons_zero, List.set_cons_succ]
  obtain ⟨w2, hw2⟩ : ∃ w2, w2 = w1.drew := ⟨_, rfl⟩
  have hb12 : Below w1.heap.size w1 w2 := by rw [hw2]; exact below_drew w1
  rw [← hw2] at hS ⊢
  have HX2 := HX.out.below hb12
  clear hw2
  refine held_one (i := 16) (by kernel_rfl) rfl rfl ?_
  intro K hK
  go_simp
  go_at_call 32
  refine (HN.out _ hb12).mono ?_
  rintro en w3 ⟨hb3, a2, len2, cap2, k2, L, rfl, hT2, hby, hl2, hk2, h92⟩
  have HX3 := HX2.below hb3
  have hN : (fun w' => Below w0.heap.size w0 w' ∧ Bk.DBox w' D (.slice (some ⟨g, 0, none⟩) n1 c1) (.slice none 0 0)) w3 := ⟨below2 hS.1 hb3, hS.2.below hb3⟩
  have HP2 : Hid (Told TT VV n L ∧ len2 = need k2 ∧ k2 = L.length ∧ (k2 : Int) ≤ 9000) := ⟨hT2, hl2, hk2, h92⟩
  clear hT2 hl2 hk2 h92
  refine hK.out _ _ hN ?_
  clear hK hS
  have hS := hN
  clear hN
  try simp only [Act.put, List.setIfInBounds_toArray, List.set_cons_zero, List.set_cons_succ]
  refine held_take (i := 17) (v := .agg #[.int .i64 (n : Int), .int .i64 f0, .int .i64 fm, .slice a2 len2 cap2, .int .i64 (k2 : Int)]) rfl (by kernel_rfl) (fun _ _ _ h => h) (.inl ⟨rfl, fun w hS => ?_⟩) hS ?_
  · clear hS
    go_simp
  try simp only [Act.put, List.setIfInBounds_toArray, List.set_cons_zero, List.set_cons_succ]
  obtain ⟨z0, z1, z2, z3, z4⟩ := HX3.cells
  obtain ⟨y0, y1, y2, y3, y4⟩ := HX3.frz
  refine held_one (i := 18) (by kernel_rfl) rfl rfl ?_
  intro K hK
  go_simp
  have hB9 := HX3.set (.int .i64 (n : Int)) (.int .i64 f0) (.int .i64 fm) (.slice a2 len2 cap2) (.int .i64 (k2 : Int))
  have hR9 : ByAt (set5 w3 X (.int .i64 (n : Int)) (.int .i64 f0) (.int .i64 fm) (.slice a2 len2 cap2) (.int .i64 (k2 : Int))) a2 len2 cap2 (pack L len2) := byAt_box5 hby HX3 (fun _ h => by cases h) (fun _ h => by cases h) (fun _ h => by cases h) (fun _ h => by cases h) (fun _ h => by cases h) _ _ _ _ _
  have hN : (fun w' => Below w0.heap.size w0 w' ∧ Bk.DBox w' D (.slice (some ⟨g, 0, none⟩) n1 c1) (.slice none 0 0)) (set5 w3 X (.int .i64 (n : Int)) (.int .i64 f0) (.int .i64 fm) (.slice a2 len2 cap2) (.int .i64 (k2 : Int))) := ⟨set5_below hS.1 hX.out _ _ _ _ _, hS.2.kept (set5_else _ _ _ _ _ hne.out)⟩
  refine hK.out _ (set5 w3 X (.int .i64 (n : Int)) (.int .i64 f0) (.int .i64 fm) (.slice a2 len2 cap2) (.int .i64 (k2 : Int))) hN ?_
  clear hK hS z0 z1 z2 z3 z4 y0 y1 y2 y3 y4
  have hS := hN
  try simp only [Act.put, List.setIfInBounds_toArray, List.set_cons_zero, List.set_cons_succ]
  refine held_take (i := 19) (v := .int .i64 0) rfl (by kernel_rfl) (fun _ _ _ h => h) (.inl ⟨rfl, fun w hS => ?_⟩) hS ?_
  · clear hS
    go_simp
  try simp only [Act.put, List.setIfInBounds_toArray, List.set_cons_zero, List.set_cons_succ]
  refine wpAnyH_done (by kernel_rfl) ?_ _
  refine NoPanic.normal ?_
  exact hQ.out _ _ _ _ _ _ _ _ _ _ _ _ _ _ _ _ _ _ L a2 len2 cap2 k2 _ hS.1 hB9 hR9 HP2.out
end Go.Proofs.YtcdlkdbnlomghaaDoor.Gl
