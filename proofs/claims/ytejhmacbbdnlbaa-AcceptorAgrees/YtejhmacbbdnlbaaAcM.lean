/-
  Append of one to a list of one's own; Accept's region 11.
-/
import Derived.Test.YtejhmacbbdnlbaaAcL
namespace Go.Proofs.Ytejhmacbbdnlbaa.Ac
open Go.ChangeShapes Go.WideShapes Go.ChangeAt Go.RowKit
theorem own_lt {w : World} {B E s n : Nat} {v : Value} {xs : List Value} (h : w.ownsRow B E s v n xs) : ∀ k, v.ownBlock = some k → B ≤ k := by
  intro k hk
  rcases h.2 with ⟨rfl, _⟩ | ⟨g, cap, cur, rfl, hg, _⟩
  · simp [Value.ownBlock] at hk
  · simp [Value.ownBlock] at hk
    omega
/-- blocks of other types are kept where a row of one's own grows -/
theorem kept_own {w w' : World} {k T B E s n : Nat} {cs : Array Value} {fz : Nat × Nat} {v : Value} {xs : List Value} (hk : w.heap[k]? = some (.cells cs T fz)) (ho : w.ownsRow B E s v n xs) (hT : T ≠ E) (hg : w.grownBy w' v.ownBlock) : w'.heap[k]? = w.heap[k]? := by
  refine hg.block k (Array.getElem?_eq_some_iff.1 hk).1 fun e => ?_
  rcases ho.2 with ⟨rfl, _⟩ | ⟨g, cap, cur, rfl, _, hh, _⟩
  · simp [Value.ownBlock] at e
  · simp [Value.ownBlock] at e
    subst e
    rw [hh] at hk
    simp at hk
    exact hT hk.2.1.symm
theorem own_past {w w' : World} {B E s n B' E' s' n' : Nat} {v v' : Value} {xs xs' : List Value} (h : w.ownsRow B E s v n xs) (ho : w.ownsRow B' E' s' v' n' xs') (hT : E ≠ E') (hg : w.grownBy w' v'.ownBlock) : w'.ownsRow B E s v n xs := by
  refine ⟨h.1, ?_⟩
  rcases h.2 with h | ⟨g, cap, cur, hv, hg', hh, r⟩
  · exact .inl h
  · exact .inr ⟨g, cap, cur, hv, hg', (kept_own hh ho hT hg).trans hh, r⟩
theorem append_acd {w w0 : World} {ops : Array Oper} {rest : List Oper} {o : Oper} {a : Act} {Q : Exit → Act → World → Prop} (hgd : o.guard = none) (s0 x : Operand) (ho : o.op = .call { callee := .builtin .append, args := #[s0, x], argTypes := #[22, 22] })
    (v : Value) (ls : List Acd) (hs : a.eval s0 = v) (hown : OwnA w w0.heap.size v ls) (hb : Below w0.heap.size w0 w) (g : Nat) (c : Cel) (hx : a.eval x = .slice (some ⟨g, 0, none⟩) 1 1) (hc : CelAt w g 0 c) (hn : w.ownsRow w0.heap.size 3 1 (.slice c.a c.l c.c) c.l (intCells c.x.d.ns)) (hm : (ls.length : Int) ≤ 1000)
    (h : ∀ a' c' w', OwnA w' w0.heap.size (.slice a' (ls.length + 1) c') (ls ++ [c.x]) → Below w0.heap.size w0 w' → (∀ (k T : Nat) (cs : Array Value) (fz : Nat × Nat), w.heap[k]? = some (.cells cs T fz) → T ≠ 49 → w'.heap[k]? = w.heap[k]?) → wpList Try.prog ops Q rest (a.put o.dst (.slice a' (ls.length + 1) c')) w') : wpList Try.prog ops Q (o :: rest) a w := by
  obtain ⟨i0, hi, hz0, hz1, hz2⟩ := info_parts info49
  obtain ⟨L, h1, h2, h3⟩ := hown
  obtain ⟨x0, x1, x2, x3, x4, x5, x6, x7⟩ := hc
  refine wpList_append_own _ hgd s0 x 22 ho w0.heap.size 49 i0 _ 8 80 rfl hi hz0 hz1 hz2 rfl (by decide) v ls.length (celsV L) hs h2 ⟨g, 0, none⟩ 1 1 c.vs hx rfl ?_ (vs_one c) (by unfold maxLen; omega) (by omega) hb.size ?_
  · intro j u hj
    have hj8 : j < 8 := (List.getElem?_eq_some_iff.1 hj).1
    rw [addr_add]
    match j, hj8 with
    | 0, _ => exact x0.trans hj
    | 1, _ => exact x1.trans hj
    | 2, _ => exact x2.trans hj
    | 3, _ => exact x3.trans hj
    | 4, _ => exact x4.trans hj
    | 5, _ => exact x5.trans hj
    | 6, _ => exact x6.trans hj
    | 7, _ => exact x7.trans hj
  · intro v' w' hown' hg _
    obtain ⟨a', c', rfl⟩ := own_slice hown'
    refine h a' c' w' ⟨L ++ [c], by rw [List.map_append, h1]; rfl, ?_, ?_⟩ (hb.grown hg hb.size (fun k hk => own_lt h2 k hk)) (fun k T cs fz hk hT => kept_own hk h2 hT hg)
    · rw [celsV_append, List.length_append]
      have e : celsV [c] = c.vs := by simp [celsV]
      rw [e]
      exact hown'
    · intro y hy
      rcases List.mem_append.1 hy with hy | hy
      · exact own_past (h3 y hy) h2 (by decide) hg
      · obtain rfl : y = c := by simpa using hy
        exact own_past hn h2 (by decide) hg
theorem OwnA.set8 {w : World} {B n g cap k : Nat} {ls : List Acd} (hl0 : ls.length = n) (h : OwnA w B (.slice (some ⟨g, 0, none⟩) n cap) ls) (hk : k < n) (c : Cel) (hn : w.ownsRow B 3 1 (.slice c.a c.l c.c) c.l (intCells c.x.d.ns)) :
    OwnA (((((((((w.setCell ⟨g, k * 8 + 0, none⟩ (.int .i64 c.x.b)).setCell ⟨g, k * 8 + 1, none⟩ (.int .i64 c.x.d.k)).setCell ⟨g, k * 8 + 2, none⟩ (.int .i64 c.x.d.id)).setCell ⟨g, k * 8 + 3, none⟩ (.int .i64 c.x.d.zn)).setCell ⟨g, k * 8 + 4, none⟩ (.int .i64 c.x.d.rk)).setCell ⟨g, k * 8 + 5, none⟩ (.int .i64 c.x.d.wt)).setCell ⟨g, k * 8 + 6, none⟩ (.int .i64 c.x.d.g)).setCell ⟨g, k * 8 + 7, none⟩ (.slice c.a c.l c.c))) B (.slice (some ⟨g, 0, none⟩) n cap) (ls.set k c.x) ∧ w.grownBy (((((((((w.setCell ⟨g, k * 8 + 0, none⟩ (.int .i64 c.x.b)).setCell ⟨g, k * 8 + 1, none⟩ (.int .i64 c.x.d.k)).setCell ⟨g, k * 8 + 2, none⟩ (.int .i64 c.x.d.id)).setCell ⟨g, k * 8 + 3, none⟩ (.int .i64 c.x.d.zn)).setCell ⟨g, k * 8 + 4, none⟩ (.int .i64 c.x.d.rk)).setCell ⟨g, k * 8 + 5, none⟩ (.int .i64 c.x.d.wt)).setCell ⟨g, k * 8 + 6, none⟩ (.int .i64 c.x.d.g)).setCell ⟨g, k * 8 + 7, none⟩ (.slice c.a c.l c.c))) (some g) := by
  subst hl0
  obtain ⟨L, h1, h2, h3⟩ := h
  have hkL : k < L.length := by rw [← h1, List.length_map] at hk; exact hk
  obtain ⟨r, gb⟩ := row_store8 h2 k hkL c
  obtain ⟨cur, hh, hB⟩ := own_whole h2
  refine ⟨⟨L.set k c, by rw [List.map_set, h1], by rw [List.length_set]; exact r, fun y hy => ?_⟩, gb⟩
  rcases List.mem_or_eq_of_mem_set hy with hy | rfl
  · exact own_type (h3 y hy) gb hh (by decide)
  · exact own_type hn gb hh (by decide)
set_option maxHeartbeats 4000000 in
set_option maxRecDepth 60000 in
theorem accept_11 (t0 t3 t4 t5 t6 t8 t9 t11 t12 t13 t14 t15 t16 t17 t18 t19 t20 t21 t22 t23 t24 t25 t26 t27 t28 t29 t30 t31 t32 t33 t34 t35 t36 t37 t38 t39 t40 t41 t42 t43 t44 t45 t46 t47 t48 t49 t50 t51 t52 t53 t54 t55 t56 t57 t58 : Value) (Y D g n cap k : Nat) (ballot : Int) (d : Dl) (a : Option Addr) (l c : Nat) (LL : List Acd) (w0 : World) (w1 : World) (Q : Exit → Act → World → Prop)
    (hwr : IntKind.i64.wrap (k : Int) = (k : Int)) (hkn : k < n) (hki : (k : Int) < (n : Int)) (hYg : ¬ Y = g) (hDg : ¬ D = g) (hlm : (l : Int) ≤ 1000) (HL : Hid (LL.length = n)) (HB : Hid (Below w0.heap.size w0 w1))
    (HY : B2 w1 Y 24 (.int .i64 ballot) (.slice (some ⟨g, 0, none⟩) n cap)) (HD : B7 w1 D 28 (.int .i64 d.k) (.int .i64 d.id) (.int .i64 d.zn) (.int .i64 d.rk) (.int .i64 d.wt) (.int .i64 d.g) (.slice a l c)) (HRd : Hid (RowI w1 a l c d.ns)) (HO : Hid (OwnA w1 w0.heap.size (.slice (some ⟨g, 0, none⟩) n cap) LL))
    (hQ : Hid (∀ (u49 u50 u51 u52 u53 u54 u55 u56 u57 u58 : Value) (a6 : Option Addr) (c6 : Nat) (w3 : World), Below w1.heap.size w1 w3 → OwnA ((((((((w3.setCell ⟨g, k * 8, none⟩ (.int .i64 ballot)).setCell ⟨g, k * 8 + 1, none⟩ (.int .i64 d.k)).setCell ⟨g, k * 8 + 2, none⟩ (.int .i64 d.id)).setCell ⟨g, k * 8 + 3, none⟩ (.int .i64 d.zn)).setCell ⟨g, k * 8 + 4, none⟩ (.int .i64 d.rk)).setCell ⟨g, k * 8 + 5, none⟩ (.int .i64 d.wt)).setCell ⟨g, k * 8 + 6, none⟩ (.int .i64 d.g)).setCell ⟨g, k * 8 + 7, none⟩ (.slice a6 d.ns.length c6)) w0.heap.size (.slice (some ⟨g, 0, none⟩) n cap) (LL.set k ⟨ballot, d⟩) → w3.grownBy ((((((((w3.setCell ⟨g, k * 8, none⟩ (.int .i64 ballot)).setCell ⟨g, k * 8 + 1, none⟩ (.int .i64 d.k)).setCell ⟨g, k * 8 + 2, none⟩ (.int .i64 d.id)).setCell ⟨g, k * 8 + 3, none⟩ (.int .i64 d.zn)).setCell ⟨g, k * 8 + 4, none⟩ (.int .i64 d.rk)).setCell ⟨g, k * 8 + 5, none⟩ (.int .i64 d.wt)).setCell ⟨g, k * 8 + 6, none⟩ (.int .i64 d.g)).setCell ⟨g, k * 8 + 7, none⟩ (.slice a6 d.ns.length c6)) (some g) → B2 ((((((((w3.setCell ⟨g, k * 8, none⟩ (.int .i64 ballot)).setCell ⟨g, k * 8 + 1, none⟩ (.int .i64 d.k)).setCell ⟨g, k * 8 + 2, none⟩ (.int .i64 d.id)).setCell ⟨g, k * 8 + 3, none⟩ (.int .i64 d.zn)).setCell ⟨g, k * 8 + 4, none⟩ (.int .i64 d.rk)).setCell ⟨g, k * 8 + 5, none⟩ (.int .i64 d.wt)).setCell ⟨g, k * 8 + 6, none⟩ (.int .i64 d.g)).setCell ⟨g, k * 8 + 7, none⟩ (.slice a6 d.ns.length c6)) Y 24 (.int .i64 ballot) (.slice (some ⟨g, 0, none⟩) n cap) → Q .normal ⟨#[t0, .int .i64 ballot, .int .i64 ((k : Int) + 1), t3, t4, t5, t6, .pointer (some ⟨D, 0, none⟩), t8, t9, .pointer (some ⟨Y, 0, none⟩), t11, t12, t13, t14, t15, t16, t17, t18, t19, t20, t21, t22, t23, t24, t25, t26, t27, t28, t29, t30, t31, t32, t33, t34, t35, t36, t37, t38, t39, t40, t41, t42, t43, t44, t45, t46, t47, t48, u49, u50, u51, u52, u53, u54, u55, u56, u57, u58], []⟩ ((((((((w3.setCell ⟨g, k * 8, none⟩ (.int .i64 ballot)).setCell ⟨g, k * 8 + 1, none⟩ (.int .i64 d.k)).setCell ⟨g, k * 8 + 2, none⟩ (.int .i64 d.id)).setCell ⟨g, k * 8 + 3, none⟩ (.int .i64 d.zn)).setCell ⟨g, k * 8 + 4, none⟩ (.int .i64 d.rk)).setCell ⟨g, k * 8 + 5, none⟩ (.int .i64 d.wt)).setCell ⟨g, k * 8 + 6, none⟩ (.int .i64 d.g)).setCell ⟨g, k * 8 + 7, none⟩ (.slice a6 d.ns.length c6)))) :
    Code.wp Try.prog ((Try.f8.body.bind (regionOf 11)).getD .skip) Q ⟨#[t0, .int .i64 ballot, .int .i64 ((k : Int) + 1), t3, t4, t5, t6, .pointer (some ⟨D, 0, none⟩), t8, t9, .pointer (some ⟨Y, 0, none⟩), t11, t12, t13, t14, t15, t16, t17, t18, t19, t20, t21, t22, t23, t24, t25, t26, t27, t28, t29, t30, t31, t32, t33, t34, t35, t36, t37, t38, t39, t40, t41, t42, t43, t44, t45, t46, t47, t48, t49, t50, t51, t52, t53, t54, t55, t56, t57, t58], []⟩ w1 := by
  have hS : (fun w' => B2 w' Y 24 (.int .i64 ballot) (.slice (some ⟨g, 0, none⟩) n cap) ∧ B7 w' D 28 (.int .i64 d.k) (.int .i64 d.id) (.int .i64 d.zn) (.int .i64 d.rk) (.int .i64 d.wt) (.int .i64 d.g) (.slice a l c)) w1.drew := ⟨HY, HD⟩
  conv => arg 2; whnf
  refine held_start (S := fun w' => B2 w' Y 24 (.int .i64 ballot) (.slice (some ⟨g, 0, none⟩) n cap) ∧ B7 w' D 28 (.int .i64 d.k) (.int .i64 d.id) (.int .i64 d.zn) (.int .i64 d.rk) (.int .i64 d.wt) (.int .i64 d.g) (.slice a l c)) mixed5 ?_
  refine held_take (i := 0) (v := .pointer (some ⟨Y, 1, none⟩)) rfl (by kernel_rfl) (fun _ _ _ h => h) (.inl ⟨rfl, fun w hS => ?_⟩) hS ?_
  · clear hS
    go_simp
  try simp only [Act.put, List.setIfInBounds_toArray, List.set_cons_zero, List.set_cons_succ]
  refine held_take (i := 1) (v := .slice (some ⟨g, 0, none⟩) n cap) rfl (by kernel_rfl) (fun _ _ _ h => h) (.inl ⟨rfl, fun w hS => ?_⟩) hS ?_
  · obtain ⟨q, -⟩ := hS
    obtain ⟨c0, c1⟩ := q.cells
    go_simp
  try simp only [Act.put, List.setIfInBounds_toArray, List.set_cons_zero, List.set_cons_succ]
  refine held_take (i := 2) (v := .int .i64 ((k : Int) + 1)) rfl (by kernel_rfl) (fun _ _ _ h => h) (.inl ⟨rfl, fun w hS => ?_⟩) hS ?_
  · clear hS
    go_simp
  try simp only [Act.put, List.setIfInBounds_toArray, List.set_cons_zero, List.set_cons_succ]
  refine held_take (i := 3) (v := .int .i64 (k : Int)) rfl (by kernel_rfl) (fun _ _ _ h => h) (.inl ⟨rfl, fun w hS => ?_⟩) hS ?_
  · clear hS
    go_simp
  try simp only [Act.put, List.setIfInBounds_toArray, List.set_cons_zero, List.set_cons_succ]
  refine held_take (i := 4) (v := .int .i64 ballot) rfl (by kernel_rfl) (fun _ _ _ h => h) (.inl ⟨rfl, fun w hS => ?_⟩) hS ?_
  · clear hS
    go_simp
  try simp only [Act.put, List.setIfInBounds_toArray, List.set_cons_zero, List.set_cons_succ]
  refine held_take (i := 5) (v := .agg #[.int .i64 d.k, .int .i64 d.id, .int .i64 d.zn, .int .i64 d.rk, .int .i64 d.wt, .int .i64 d.g, .slice a l c]) rfl (by kernel_rfl) (fun _ _ _ h => h) (.inl ⟨rfl, fun w hS => ?_⟩) hS ?_
  · obtain ⟨-, q⟩ := hS
    obtain ⟨c0, c1, c2, c3, c4, c5, c6⟩ := q.cells
    go_simp
  try simp only [Act.put, List.setIfInBounds_toArray, List.set_cons_zero, List.set_cons_succ]
  refine held_one (i := 6) (by kernel_rfl) rfl rfl ?_
  intro K hK
  go_simp
  go_at_call 23
  refine (copyOf_any d a l c w1.drew (HRd.out.below (below_drew w1)) hlm).mono ?_
  rintro en w3 ⟨hb3, a6, c6, rfl, ho3⟩
  have hN : (fun w' => B2 w' Y 24 (.int .i64 ballot) (.slice (some ⟨g, 0, none⟩) n cap) ∧ B7 w' D 28 (.int .i64 d.k) (.int .i64 d.id) (.int .i64 d.zn) (.int .i64 d.rk) (.int .i64 d.wt) (.int .i64 d.g) (.slice a l c)) w3 := ⟨hS.1.below hb3, hS.2.below hb3⟩
  refine hK.out _ _ hN ?_
  clear hK hS
  have hS := hN
  clear hN
  try simp only [Act.put, List.setIfInBounds_toArray, List.set_cons_zero, List.set_cons_succ]
  refine held_take (i := 7) (v := .agg #[.int .i64 ballot, .int .i64 d.k, .int .i64 d.id, .int .i64 d.zn, .int .i64 d.rk, .int .i64 d.wt, .int .i64 d.g, .slice a6 d.ns.length c6]) rfl (by kernel_rfl) (fun _ _ _ h => h) (.inl ⟨rfl, fun w hS => ?_⟩) hS ?_
  · clear hS
    go_simp
  try simp only [Act.put, List.setIfInBounds_toArray, List.set_cons_zero, List.set_cons_succ]
  refine held_take (i := 8) (v := .pointer (some ⟨g, k * 8, none⟩)) rfl (by kernel_rfl) (fun _ _ _ h => h) (.inl ⟨rfl, fun w hS => ?_⟩) hS ?_
  · clear hS
    go_simp
  try simp only [Act.put, List.setIfInBounds_toArray, List.set_cons_zero, List.set_cons_succ]
  have hO3 := HO.out.below (below2 (below_drew w1) hb3)
  obtain ⟨g9, cap9, ev, -, -, c9, -, ⟨x0, x1, x2, x3, x4, x5, x6, x7⟩, ⟨f0, f1, f2, f3, f4, f5, f6, f7⟩, -, -⟩ := (OwnA.part (w0 := w3) hO3).at (i := k) (by rw [HL.out]; exact hkn)
  simp at ev
  obtain ⟨e1, -⟩ := ev
  subst e1
  have hst := hO3.set8 HL.out hkn ⟨⟨ballot, d⟩, a6, d.ns.length, c6⟩ (own_base ho3 HB.out.size)
  have hN : (fun w' => B2 w' Y 24 (.int .i64 ballot) (.slice (some ⟨g, 0, none⟩) n cap) ∧ B7 w' D 28 (.int .i64 d.k) (.int .i64 d.id) (.int .i64 d.zn) (.int .i64 d.rk) (.int .i64 d.wt) (.int .i64 d.g) (.slice a l c)) ((((((((w3.setCell ⟨g, k * 8, none⟩ (.int .i64 ballot)).setCell ⟨g, k * 8 + 1, none⟩ (.int .i64 d.k)).setCell ⟨g, k * 8 + 2, none⟩ (.int .i64 d.id)).setCell ⟨g, k * 8 + 3, none⟩ (.int .i64 d.zn)).setCell ⟨g, k * 8 + 4, none⟩ (.int .i64 d.rk)).setCell ⟨g, k * 8 + 5, none⟩ (.int .i64 d.wt)).setCell ⟨g, k * 8 + 6, none⟩ (.int .i64 d.g)).setCell ⟨g, k * 8 + 7, none⟩ (.slice a6 d.ns.length c6)) := ⟨hS.1.kept (hst.2.block _ hS.1.lt (by simp; exact hYg)), hS.2.kept (hst.2.block _ hS.2.lt (by simp; exact hDg))⟩
  refine held_one (i := 9) (by kernel_rfl) rfl rfl ?_
  intro K hK
  go_simp
  refine hK.out _ _ hN ?_
  clear hK hS x0 x1 x2 x3 x4 x5 x6 x7 f0 f1 f2 f3 f4 f5 f6 f7
  have hS := hN
  clear hN
  try simp only [Act.put, List.setIfInBounds_toArray, List.set_cons_zero, List.set_cons_succ]
  refine wpAnyH_done (by kernel_rfl) ?_ _
  refine NoPanic.normal ?_
  exact hQ.out _ _ _ _ _ _ _ _ _ _ a6 c6 w3 (below2 (below_drew w1) hb3) hst.1 hst.2 hS.1
end Go.Proofs.Ytejhmacbbdnlbaa.Ac
