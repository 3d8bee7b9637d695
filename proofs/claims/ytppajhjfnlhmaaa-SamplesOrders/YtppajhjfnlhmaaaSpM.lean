/-
  A row of samples in which two change places; what is handed in as turns.
-/
import Derived.Test.YtppajhjfnlhmaaaSpI
namespace Go.Proofs.Ytppajhjfnlhmaaa.Bk
open Go.ChangeShapes Go.WideShapes Go.ChangeAt Go.RowKit
theorem held_two {P : Program} {ops : Array Oper} {Q : Exit → Act → World → Prop} {md : Region.Mode} {S : World → Prop} {i j : Nat} {o o2 : Oper} {fuel : Nat} {listed : Array Bool} {a : Act} {w : World} (hr : Region.ready md ops listed = [i, j]) (hi : ops.toList[i]? = some o) (hj : ops.toList[j]? = some o2) (hg : Region.wanted o (yielded ops a.tmps) = true) (hg2 : Region.wanted o2 (yielded ops a.tmps) = true)
    (h : ∀ K : Act → World → Prop, Hid (∀ a' w', S w' → wpAnyH P md ops Q S fuel (listed.setIfInBounds i true) a' w' → K a' w') → o.wp P a w K Q)
    (h2 : ∀ K : Act → World → Prop, Hid (∀ a' w', S w' → wpAnyH P md ops Q S fuel (listed.setIfInBounds j true) a' w' → K a' w') → o2.wp P a w K Q) : wpAnyH P md ops Q S (fuel + 1) listed a w := by
  have ho : ops[i]? = some o := by simpa using hi
  have ho2 : ops[j]? = some o2 := by simpa using hj
  refine wpAnyH_all hr (by simp) (fun l hl => ?_)
  have hl2 : l = i ∨ l = j := by simpa using hl
  rcases hl2 with rfl | rfl
  · unfold wpOp
    simp only [ho]
    rw [if_pos hg]
    exact .inl (h _ (fun _ _ h1 h2 => ⟨h1, h2⟩))
  · unfold wpOp
    simp only [ho2]
    rw [if_pos hg2]
    exact .inl (h2 _ (fun _ _ h1 h2 => ⟨h1, h2⟩))
/-- a slice of integers that came in: nil, or a row of cells -/
def IsRow (k : IntKind) (w : World) (a : Option Addr) (len cap : Nat) (zs : List Int) : Prop :=
  (a = none ∧ len = 0 ∧ cap = 0 ∧ zs = []) ∨
  ∃ x, a = some x ∧ len ≤ cap ∧ cap ≤ maxLen ∧ zs.length = cap ∧ (∀ i, i < zs.length → w.cell? (x.add i) = some (.int k (zs.getD i 0))) ∧ ∀ n ∈ zs, (Lit.int k n).wf = true
/-- turns, as they lie -/
def TurnAt (w : World) (a : Option Addr) (len : Nat) : Prop :=
  len ≤ maxLen ∧ (len = 0 ∨ ∃ (b off : Nat) (f : Nat → Nat), a = some ⟨b, off, none⟩ ∧ ∀ i, i < len → w.cell? ⟨b, off + i, none⟩ = some (.int .u8 (f i : Int)) ∧ f i ≤ 255)
theorem TurnAt.below {w w' : World} {a : Option Addr} {len : Nat} (h : TurnAt w a len) (hb : Below w.heap.size w w') : TurnAt w' a len := by
  refine ⟨h.1, ?_⟩
  rcases h.2 with h0 | ⟨b, off, f, e, hc⟩
  · exact .inl h0
  · exact .inr ⟨b, off, f, e, fun i hi => ⟨kept3 (hc i hi).1 hb, (hc i hi).2⟩⟩
theorem isRow_turn {w : World} {a : Option Addr} {len cap : Nat} {zs : List Int} (h : IsRow .u8 w a len cap zs) : TurnAt w a len := by
  rcases h with ⟨rfl, rfl, rfl, _⟩ | ⟨x, rfl, hl, hm, hz, hcell, hwz⟩
  · exact ⟨Nat.zero_le _, .inl rfl⟩
  · refine ⟨by omega, ?_⟩
    by_cases h0 : len = 0
    · exact .inl h0
    · obtain ⟨b, off, spot⟩ := x
      have h1 := hcell 0 (by omega)
      have hspot : spot = none := by simpa [Addr.add] using World.cell?_spot h1
      subst hspot
      refine .inr ⟨b, off, fun i => (zs.getD i 0).toNat, rfl, fun i hi => ?_⟩
      have hi' : i < zs.length := by omega
      have hw := hwz (zs.getD i 0) (by rw [List.getD_eq_getElem?_getD, List.getElem?_eq_getElem hi']; exact List.getElem_mem hi')
      simp [Lit.wf] at hw
      have e5 : IntKind.u8.min = 0 := rfl
      have e6 : IntKind.u8.max = 255 := rfl
      have e := hcell i hi'
      rw [addr_add2] at e
      have e2 : ((zs.getD i 0).toNat : Int) = zs.getD i 0 := by simp only [List.getD_eq_getElem?_getD] at *; omega
      refine ⟨?_, ?_⟩
      · show w.cell? ⟨b, off + i, none⟩ = some (.int .u8 ((zs.getD i 0).toNat : Int))
        rw [e2]; exact e
      · show (zs.getD i 0).toNat ≤ 255
        simp only [List.getD_eq_getElem?_getD] at *; omega
/-- a row of samples, as one block -/
def MRow (w : World) (g n : Nat) (L : List Sm) : Prop :=
  ∃ cur, w.heap[g]? = some (.cells cur 24 (0, 0)) ∧ n * 2 ≤ cur.size ∧ L.length = n ∧ ∀ j, j < n → cur[j * 2]? = some (.int .i64 (L.getD j sm0).1) ∧ cur[j * 2 + 1]? = some (.int .i64 (L.getD j sm0).2)
theorem MRow.kept {w w' : World} {g n : Nat} {L : List Sm} (h : MRow w g n L) (e : w'.heap[g]? = w.heap[g]?) : MRow w' g n L := by
  obtain ⟨cur, h1, h2⟩ := h
  exact ⟨cur, e.trans h1, h2⟩
theorem MRow.lt {w : World} {g n : Nat} {L : List Sm} (h : MRow w g n L) : g < w.heap.size := by
  obtain ⟨cur, h1, h2⟩ := h
  exact (Array.getElem?_eq_some_iff.1 h1).1
theorem MRow.below {w w' : World} {g n : Nat} {L : List Sm} (h : MRow w g n L) (hb : Below w.heap.size w w') : MRow w' g n L := h.kept (hb.block g h.lt)
theorem MRow.at {w : World} {g n : Nat} {L : List Sm} (h : MRow w g n L) (j : Nat) (hj : j < n) : w.cell? ⟨g, j * 2, none⟩ = some (.int .i64 (L.getD j sm0).1) ∧ w.cell? ⟨g, j * 2 + 1, none⟩ = some (.int .i64 (L.getD j sm0).2) ∧ w.frozen? ⟨g, j * 2, none⟩ = false ∧ w.frozen? ⟨g, j * 2 + 1, none⟩ = false := by
  obtain ⟨cur, h1, h2, _, h3⟩ := h
  obtain ⟨q1, q2⟩ := h3 j hj
  refine ⟨?_, ?_, ?_, ?_⟩
  · unfold World.cell?; rw [show w.heap[(⟨g, j * 2, none⟩ : Addr).block]? = _ from h1]; simpa using q1
  · unfold World.cell?; rw [show w.heap[(⟨g, j * 2 + 1, none⟩ : Addr).block]? = _ from h1]; simpa using q2
  · unfold World.frozen?; rw [show w.heap[(⟨g, j * 2, none⟩ : Addr).block]? = _ from h1]; simp
  · unfold World.frozen?; rw [show w.heap[(⟨g, j * 2 + 1, none⟩ : Addr).block]? = _ from h1]; simp
theorem MRow.sms {w : World} {g n c : Nat} {L : List Sm} (h : MRow w g n L) (h1 : n ≤ c) (h2 : c ≤ maxLen) : SmsAt w (some ⟨g, 0, none⟩) n c L := by
  have hl : L.length = n := by obtain ⟨_, _, _, q, _⟩ := h; exact q
  refine ⟨hl, h1, h2, .inr ⟨g, 0, rfl, fun i hi => ?_⟩⟩
  rw [Nat.zero_add]
  exact ⟨(h.at i hi).1, (h.at i hi).2.1⟩
theorem mrow_own {w : World} {B n g cp : Nat} {L : List Sm} (h : w.ownsRow B 24 2 (.slice (some ⟨g, 0, none⟩) n cp) n (cellsS L)) : MRow w g n L := by
  have hl : L.length = n := by have := h.1; rw [cellsS_length] at this; omega
  obtain ⟨h1, ⟨e, _⟩ | ⟨g', cap, cur, e, hB, hh, h2, h3, h4, h5⟩⟩ := h
  · simp at e
  · simp at e
    obtain ⟨rfl, rfl⟩ := e
    have hle : n * 2 ≤ cur.size := by rw [h4]; exact Nat.mul_le_mul_right 2 h2
    refine ⟨cur, hh, hle, hl, fun j hj => ?_⟩
    obtain ⟨q1, q2⟩ := cellsS_at L j (by omega)
    rw [← h5] at q1 q2
    rw [List.getElem?_take_of_lt (by omega)] at q1 q2
    exact ⟨by simpa using q1, by simpa using q2⟩
def putS (w : World) (G i : Nat) (x y : Int) : World := (w.setCell ⟨G, i * 2, none⟩ (.int .i64 x)).setCell ⟨G, i * 2 + 1, none⟩ (.int .i64 y)
theorem putS_else {w : World} {G i k : Nat} (x y : Int) (h : k ≠ G) : (putS w G i x y).heap[k]? = w.heap[k]? :=
  (heap_setCell_other _ ⟨G, i * 2 + 1, none⟩ k _ h).trans (heap_setCell_other _ ⟨G, i * 2, none⟩ k _ h)
theorem putS_below {N : Nat} {w0 w : World} {G i : Nat} (h : Below N w0 w) (hb : N ≤ G) (x y : Int) : Below N w0 (putS w G i x y) := (h.setCell (p := ⟨G, i * 2, none⟩) hb _).setCell (p := ⟨G, i * 2 + 1, none⟩) hb _
theorem MRow.put {w : World} {g n : Nat} {L : List Sm} (h : MRow w g n L) (i : Nat) (hi : i < n) (x y : Int) : MRow (putS w g i x y) g n (L.set i (x, y)) := by
  obtain ⟨cur, h1, h2, h4, h3⟩ := h
  have e1 := heap_setCell_same w g (i * 2) _ _ (.int .i64 x) h1
  have e2 := heap_setCell_same (w.setCell ⟨g, i * 2, none⟩ (.int .i64 x)) g (i * 2 + 1) _ _ (.int .i64 y) e1
  refine ⟨_, e2, by simp only [Array.size_setIfInBounds]; omega, by simp [h4], fun j hj => ?_⟩
  by_cases hji : j = i
  · subst hji
    have e : (L.set j (x, y)).getD j sm0 = (x, y) := by rw [List.getD_eq_getElem?_getD, List.getElem?_set_self (by omega)]; rfl
    rw [e]
    simp only [Array.getElem?_setIfInBounds, Array.size_setIfInBounds]
    rw [if_neg (by omega), if_pos trivial, if_pos (by omega), if_pos trivial, if_pos (by omega)]
    exact ⟨rfl, rfl⟩
  · have e : (L.set i (x, y)).getD j sm0 = L.getD j sm0 := by rw [List.getD_eq_getElem?_getD, List.getElem?_set_ne (fun h => hji h.symm), ← List.getD_eq_getElem?_getD]
    rw [e]
    have := h3 j hj
    simp only [Array.getElem?_setIfInBounds]
    rw [if_neg (by omega), if_neg (by omega), if_neg (by omega), if_neg (by omega)]
    exact this
theorem swap_perm {L : List Sm} {i k : Nat} (hi : i < L.length) (hk : k < L.length) : ((L.set i (L.getD k sm0)).set k (L.getD i sm0)).Perm L := by
  rw [getD_get hi, getD_get hk]
  exact List.set_set_perm hi hk
set_option maxHeartbeats 4000000 in
set_option maxRecDepth 60000 in
theorem swap_8 (t0 t1 t2 t3 t4 t8 t9 t10 t11 t12 t13 t14 t15 t16 t17 t18 t19 t20 t21 t22 t23 t24 t25 t26 t27 t28 t29 t30 t31 t32 t33 t34 t35 t36 t37 t38 t39 t40 t41 t42 t43 t44 t45 t46 t47 t48 t49 t50 t51 t52 t53 t54 t55 t56 t57 t58 t59 t60 t61 t62 t63 t64 t65 t66 t67 t68 t69 t70 t71 t72 t73 t74 t75 t76 t77 t78 t79 t80 t81 t82 t83 t84 t85 t86 t87 t88 t89 t90 t91 t92 t93 t94 t95 t96 t97 t98 t99 t100 t101 t102 t103 t104 t105 t106 t107 t108 t109 t110 t111 t112 : Value) (g len cp i k : Nat) (p1 p2 q1 q2 : Int) (L : List Sm) (w1 : World) (Q : Exit → Act → World → Prop)
    (hR : MRow w1 g len L) (hi : i < len) (hk : k < len) (hp : L.getD i sm0 = (p1, p2)) (hq : L.getD k sm0 = (q1, q2))
    (hQ : Hid (∀ (u52 u53 u54 u55 u56 u57 u58 u59 u60 u61 u62 u63 u64 u65 : Value) , True → Q .normal ⟨#[t0, t1, t2, t3, t4, .slice (some ⟨g, 0, none⟩) len cp, .int .i64 (i : Int), .int .i64 (k : Int), t8, t9, t10, t11, t12, t13, t14, t15, t16, t17, t18, t19, t20, t21, t22, t23, t24, t25, t26, t27, t28, t29, t30, t31, t32, t33, t34, t35, t36, t37, t38, t39, t40, t41, t42, t43, t44, t45, t46, t47, t48, t49, t50, t51, u52, u53, u54, u55, u56, u57, u58, u59, u60, u61, u62, u63, u64, u65, t66, t67, t68, t69, t70, t71, t72, t73, t74, t75, t76, t77, t78, t79, t80, t81, t82, t83, t84, t85, t86, t87, t88, t89, t90, t91, t92, t93, t94, t95, t96, t97, t98, t99, t100, t101, t102, t103, t104, t105, t106, t107, t108, t109, t110, t111, t112], []⟩ (putS (putS w1.drew g i q1 q2) g k p1 p2))) :
    Code.wp Try.prog ((Try.f6.body.bind (regionOf 8)).getD .skip) Q ⟨#[t0, t1, t2, t3, t4, .slice (some ⟨g, 0, none⟩) len cp, .int .i64 (i : Int), .int .i64 (k : Int), t8, t9, t10, t11, t12, t13, t14, t15, t16, t17, t18, t19, t20, t21, t22, t23, t24, t25, t26, t27, t28, t29, t30, t31, t32, t33, t34, t35, t36, t37, t38, t39, t40, t41, t42, t43, t44, t45, t46, t47, t48, t49, t50, t51, t52, t53, t54, t55, t56, t57, t58, t59, t60, t61, t62, t63, t64, t65, t66, t67, t68, t69, t70, t71, t72, t73, t74, t75, t76, t77, t78, t79, t80, t81, t82, t83, t84, t85, t86, t87, t88, t89, t90, t91, t92, t93, t94, t95, t96, t97, t98, t99, t100, t101, t102, t103, t104, t105, t106, t107, t108, t109, t110, t111, t112], []⟩ w1 := by
  have HR := Hid.mk9 (hR.below (below_drew w1))
  have HP := Hid.mk9 hp
  have HQ := Hid.mk9 hq
  have j1 : (i : Int) < (len : Int) := by omega
  have j2 : (k : Int) < (len : Int) := by omega
  have j3 : (0 : Int) ≤ (i : Int) := by omega
  have j4 : (0 : Int) ≤ (k : Int) := by omega
  clear hR hp hq
  have hS : (fun _ => True) w1.drew := trivial
  conv => arg 2; whnf
  refine held_start (S := fun _ => True) mixed5 ?_
  refine held_take (i := 0) (v := .slice (some ⟨g, 0, none⟩) len cp) rfl (by kernel_rfl) (fun _ _ _ h => h) (.inl ⟨rfl, fun w hS => ?_⟩) hS ?_
  · clear hS
    go_simp
  try simp only [Act.put, List.setIfInBounds_toArray, List.set_cons_zero, List.set_cons_succ]
  refine held_take (i := 1) (v := .int .i64 (i : Int)) rfl (by kernel_rfl) (fun _ _ _ h => h) (.inl ⟨rfl, fun w hS => ?_⟩) hS ?_
  · clear hS
    go_simp
  try simp only [Act.put, List.setIfInBounds_toArray, List.set_cons_zero, List.set_cons_succ]
  refine held_take (i := 2) (v := .slice (some ⟨g, 0, none⟩) len cp) rfl (by kernel_rfl) (fun _ _ _ h => h) (.inl ⟨rfl, fun w hS => ?_⟩) hS ?_
  · clear hS
    go_simp
  try simp only [Act.put, List.setIfInBounds_toArray, List.set_cons_zero, List.set_cons_succ]
  refine held_take (i := 3) (v := .int .i64 (k : Int)) rfl (by kernel_rfl) (fun _ _ _ h => h) (.inl ⟨rfl, fun w hS => ?_⟩) hS ?_
  · clear hS
    go_simp
  try simp only [Act.put, List.setIfInBounds_toArray, List.set_cons_zero, List.set_cons_succ]
  refine held_take (i := 4) (v := .slice (some ⟨g, 0, none⟩) len cp) rfl (by kernel_rfl) (fun _ _ _ h => h) (.inl ⟨rfl, fun w hS => ?_⟩) hS ?_
  · clear hS
    go_simp
  try simp only [Act.put, List.setIfInBounds_toArray, List.set_cons_zero, List.set_cons_succ]
  refine held_take (i := 5) (v := .int .i64 (k : Int)) rfl (by kernel_rfl) (fun _ _ _ h => h) (.inl ⟨rfl, fun w hS => ?_⟩) hS ?_
  · clear hS
    go_simp
  try simp only [Act.put, List.setIfInBounds_toArray, List.set_cons_zero, List.set_cons_succ]
  refine held_take (i := 6) (v := .pointer (some ⟨g, k * 2, none⟩)) rfl (by kernel_rfl) (fun _ _ _ h => h) (.inl ⟨rfl, fun w hS => ?_⟩) hS ?_
  · clear hS
    go_simp
  try simp only [Act.put, List.setIfInBounds_toArray, List.set_cons_zero, List.set_cons_succ]
  refine held_take (i := 8) (v := .slice (some ⟨g, 0, none⟩) len cp) rfl (by kernel_rfl) (fun _ _ _ h => h) (.inl ⟨rfl, fun w hS => ?_⟩) hS ?_
  · clear hS
    go_simp
  try simp only [Act.put, List.setIfInBounds_toArray, List.set_cons_zero, List.set_cons_succ]
  refine held_take (i := 9) (v := .int .i64 (i : Int)) rfl (by kernel_rfl) (fun _ _ _ h => h) (.inl ⟨rfl, fun w hS => ?_⟩) hS ?_
  · clear hS
    go_simp
  try simp only [Act.put, List.setIfInBounds_toArray, List.set_cons_zero, List.set_cons_succ]
  refine held_take (i := 10) (v := .pointer (some ⟨g, i * 2, none⟩)) rfl (by kernel_rfl) (fun _ _ _ h => h) (.inl ⟨rfl, fun w hS => ?_⟩) hS ?_
  · clear hS
    go_simp
  try simp only [Act.put, List.setIfInBounds_toArray, List.set_cons_zero, List.set_cons_succ]
  generalize w1.drew = w2 at *
  refine held_two (i := 7) (j := 11) (by kernel_rfl) rfl rfl rfl rfl ?_ ?_
  · intro K hK
    have c := HR.out.at k hk
    rw [HQ.out] at c
    obtain ⟨c0, c1, -, -⟩ := c
    go_simp
    refine hK.out _ _ trivial ?_
    clear hK c0 c1
    try simp only [Act.put, List.setIfInBounds_toArray, List.set_cons_zero, List.set_cons_succ]
    refine held_one (i := 11) (by kernel_rfl) rfl rfl ?_
    intro K hK
    have c := HR.out.at i hi
    rw [HP.out] at c
    obtain ⟨c0, c1, -, -⟩ := c
    go_simp
    refine hK.out _ _ trivial ?_
    clear hK c0 c1
    try simp only [Act.put, List.setIfInBounds_toArray, List.set_cons_zero, List.set_cons_succ]
    refine held_take (i := 12) (v := .pointer (some ⟨g, i * 2, none⟩)) rfl (by kernel_rfl) (fun _ _ _ h => h) (.inl ⟨rfl, fun w hS => ?_⟩) hS ?_
    · clear hS
      go_simp
    try simp only [Act.put, List.setIfInBounds_toArray, List.set_cons_zero, List.set_cons_succ]
    refine held_one (i := 13) (by kernel_rfl) rfl rfl ?_
    intro K hK
    obtain ⟨c0, c1, c2, c3⟩ := HR.out.at i hi
    go_simp
    refine hK.out _ _ trivial ?_
    clear hK c0 c1 c2 c3
    try simp only [Act.put, List.setIfInBounds_toArray, List.set_cons_zero, List.set_cons_succ]
    have hw : (w2.setCell ⟨g, i * 2, none⟩ (.int .i64 q1)).setCell ⟨g, i * 2 + 1, none⟩ (.int .i64 q2) = putS w2 g i q1 q2 := rfl
    rw [hw]
    have HR2 := Hid.mk9 (HR.out.put i hi q1 q2)
    clear hw
    generalize putS w2 g i q1 q2 = w3 at *
    refine held_take (i := 14) (v := .pointer (some ⟨g, k * 2, none⟩)) rfl (by kernel_rfl) (fun _ _ _ h => h) (.inl ⟨rfl, fun w hS => ?_⟩) hS ?_
    · clear hS
      go_simp
    try simp only [Act.put, List.setIfInBounds_toArray, List.set_cons_zero, List.set_cons_succ]
    refine held_one (i := 15) (by kernel_rfl) rfl rfl ?_
    intro K hK
    obtain ⟨c0, c1, c2, c3⟩ := HR2.out.at k hk
    go_simp
    refine hK.out _ _ trivial ?_
    clear hK c0 c1 c2 c3
    try simp only [Act.put, List.setIfInBounds_toArray, List.set_cons_zero, List.set_cons_succ]
    refine wpAnyH_done (by kernel_rfl) ?_ _
    refine NoPanic.normal ?_
    exact hQ.out _ _ _ _ _ _ _ _ _ _ _ _ _ _ trivial
  · intro K hK
    have c := HR.out.at i hi
    rw [HP.out] at c
    obtain ⟨c0, c1, -, -⟩ := c
    go_simp
    refine hK.out _ _ trivial ?_
    clear hK c0 c1
    try simp only [Act.put, List.setIfInBounds_toArray, List.set_cons_zero, List.set_cons_succ]
    refine held_one (i := 7) (by kernel_rfl) rfl rfl ?_
    intro K hK
    have c := HR.out.at k hk
    rw [HQ.out] at c
    obtain ⟨c0, c1, -, -⟩ := c
    go_simp
    refine hK.out _ _ trivial ?_
    clear hK c0 c1
    try simp only [Act.put, List.setIfInBounds_toArray, List.set_cons_zero, List.set_cons_succ]
    refine held_take (i := 12) (v := .pointer (some ⟨g, i * 2, none⟩)) rfl (by kernel_rfl) (fun _ _ _ h => h) (.inl ⟨rfl, fun w hS => ?_⟩) hS ?_
    · clear hS
      go_simp
    try simp only [Act.put, List.setIfInBounds_toArray, List.set_cons_zero, List.set_cons_succ]
    refine held_one (i := 13) (by kernel_rfl) rfl rfl ?_
    intro K hK
    obtain ⟨c0, c1, c2, c3⟩ := HR.out.at i hi
    go_simp
    refine hK.out _ _ trivial ?_
    clear hK c0 c1 c2 c3
    try simp only [Act.put, List.setIfInBounds_toArray, List.set_cons_zero, List.set_cons_succ]
    have hw : (w2.setCell ⟨g, i * 2, none⟩ (.int .i64 q1)).setCell ⟨g, i * 2 + 1, none⟩ (.int .i64 q2) = putS w2 g i q1 q2 := rfl
    rw [hw]
    have HR2 := Hid.mk9 (HR.out.put i hi q1 q2)
    clear hw
    generalize putS w2 g i q1 q2 = w3 at *
    refine held_take (i := 14) (v := .pointer (some ⟨g, k * 2, none⟩)) rfl (by kernel_rfl) (fun _ _ _ h => h) (.inl ⟨rfl, fun w hS => ?_⟩) hS ?_
    · clear hS
      go_simp
    try simp only [Act.put, List.setIfInBounds_toArray, List.set_cons_zero, List.set_cons_succ]
    refine held_one (i := 15) (by kernel_rfl) rfl rfl ?_
    intro K hK
    obtain ⟨c0, c1, c2, c3⟩ := HR2.out.at k hk
    go_simp
    refine hK.out _ _ trivial ?_
    clear hK c0 c1 c2 c3
    try simp only [Act.put, List.setIfInBounds_toArray, List.set_cons_zero, List.set_cons_succ]
    refine wpAnyH_done (by kernel_rfl) ?_ _
    refine NoPanic.normal ?_
    exact hQ.out _ _ _ _ _ _ _ _ _ _ _ _ _ _ trivial
end Go.Proofs.Ytppajhjfnlhmaaa.Bk
