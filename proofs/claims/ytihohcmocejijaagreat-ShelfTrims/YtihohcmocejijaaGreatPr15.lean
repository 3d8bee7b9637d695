/-
  slices.Insert of one Node, of one Temp, into a row of one's own: at its end, in place, grown.
-/
import Derived.Test.YtihohcmocejijaaGreatPr14
import Derived.Shelf.Spec.SlicesInsertGrow
namespace Go.Proofs.YtihohcmocejijaaGreat.Bk
open Go.ChangeShapes Go.WideShapes Go.ChangeAt Go.RowKit
theorem run_copy_many {P : Program} (w : World) (dT sT ty e : TypeId) (i : TypeInfo) (size : Nat) (hu : P.underlying dT = some (.slice e)) (hi : P.info? e = some i) (hs : i.size = size) (g o dLen dCap : Nat) (a : Addr) (sLen sCap k : Nat) (cur cs : List Value) (te : TypeId) (hg : w.heap[g]? = some (.cells cur.toArray te (0, 0)))
    (hk : Nat.min sLen dLen = k) (hl : cs.length = k * size) (hsrc : ∀ j u, cs[j]? = some u → w.cell? (a.add j) = some u) (h1 : ∀ u ∈ cs, u.oneCell' = true) (hfit : o + cs.length ≤ cur.length) :
    (Builtin.copy_ #[dT, sT] ty #[.slice (some ⟨g, o, none⟩) dLen dCap, .slice (some a) sLen sCap]).run P w = .ok (goInt k) (w.setRow g (splice cur o cs).toArray) := by
  subst hs
  have hfc := run_firstCells_some (P := P) w i.size k a sLen sCap cs hl hsrc
  have hst := run_store_row (P := P) g o te cs cur w hg hfit h1
  simp [Builtin.copy_, run_underlying hu, Builtin.lenOf, sizeOf, typeInfo, hi, hk, hfc, hst]
theorem take_splice_two (L vs us : List Value) (o p : Nat) (hp : o + vs.length = p) (hl : p ≤ L.length) : (splice (splice L o vs) p us).take (p + us.length) = L.take o ++ (vs ++ us) := by
  have hl2 : p ≤ (splice L o vs).length := by rw [length_splice _ _ _ (by omega)]; exact hl
  rw [take_splice_all _ _ _ hl2, ← hp, take_splice_all _ _ _ (by omega), List.append_assoc]
theorem take_splice_back (L vs us : List Value) (o p : Nat) (hp : o + vs.length = p) (hl : p ≤ L.length) : (splice (splice L p us) o vs).take (p + us.length) = L.take o ++ (vs ++ us) := by
  have e1 : (splice L p us).take o = L.take o := take_splice _ _ _ _ (by omega) hl
  have e2 : (splice L p us).drop p = us ++ L.drop (p + us.length) := by
    unfold splice
    rw [List.drop_append_of_le_length (by simp; omega), List.drop_of_length_le (by simp; omega), List.nil_append]
  have e3 : splice (splice L p us) o vs = (L.take o ++ vs ++ us) ++ L.drop (p + us.length) := by
    have e4 : splice (splice L p us) o vs = (splice L p us).take o ++ (vs ++ (splice L p us).drop (o + vs.length)) := rfl
    rw [e4, hp, e1, e2]
    simp [List.append_assoc]
  have e5 : (L.take o ++ vs ++ us).length = p + us.length := by simp; omega
  rw [e3, List.take_append_of_le_length (by omega), List.take_of_length_le (by omega), List.append_assoc]
theorem setRow_below {B : Nat} {w : World} {g : Nat} (X : Array Value) (hB : B ≤ g) : Below B w (w.setRow g X) := ⟨rfl, rfl, rfl, by simp [World.setRow], fun k hk => setRow_other w g k X (by omega)⟩
def InsP (w : World) (B : Nat) (E : TypeId) (s n : Nat) (v : Value) (ys : List Value) (e : Ending) (w' : World) : Prop := ∃ g cap, e = .returned (.slice (some ⟨g, 0, none⟩) (n + 1) cap) ∧ w'.ownsRow B E s (.slice (some ⟨g, 0, none⟩) (n + 1) cap) (n + 1) ys ∧ w.grownBy w' v.ownBlock
set_option maxHeartbeats 4000000 in
set_option maxRecDepth 60000 in
theorem insDn_15 (t2 t3 t4 t5 t6 t8 t9 t10 t11 t12 t13 t14 t15 t16 t17 t18 t19 t20 t21 t22 t23 t24 t25 t26 t27 t28 t29 t30 t31 t32 t33 t34 t35 t36 t37 t38 t39 t40 t41 t42 t43 t44 t45 t46 t47 t48 t49 t50 t51 t52 t53 t54 t55 t56 t57 t58 t59 t60 t61 t62 t63 t64 t65 t66 t67 t68 t69 t70 t71 t72 t73 t74 t75 t76 t77 t78 t79 t80 t81 t82 t83 t84 t85 t86 t87 t88 t89 t90 t91 t92 t93 t94 : Value) (g n cap i j : Nat) (w1 w2 : World) (Q : Exit → Act → World → Prop) (hij : (i : Int) + 1 = (j : Int)) (hn : (n : Int) ≤ 2000) (hjn : (j : Int) ≤ (n : Int)) (hx : (j : Int) < (cap : Int))
    (hA : Hid (∀ ty, ∃ r, (Builtin.copy_ #[23, 23] ty #[.slice (some ⟨g, j * 5, none⟩) (n - j) (cap - j), .slice (some ⟨g, i * 5, none⟩) (n - i) (cap - i)]).run Tryz.prog w1.drew = .ok r w2))
    (hQ : Hid (∀ (u69 u70 u71 u72 u73 u74 u75 u76 u77 : Value), Q .normal ⟨#[.slice (some ⟨g, 0, none⟩) n cap, .int .i64 (i : Int), t2, t3, t4, t5, t6, .int .i64 1, t8, t9, t10, t11, t12, t13, t14, t15, t16, t17, t18, t19, t20, t21, t22, t23, t24, t25, t26, t27, t28, t29, t30, t31, t32, t33, t34, t35, t36, t37, t38, t39, t40, t41, t42, t43, t44, t45, t46, t47, t48, t49, t50, t51, t52, t53, t54, t55, t56, t57, t58, t59, t60, t61, t62, t63, t64, t65, t66, t67, t68, u69, u70, u71, u72, u73, u74, u75, u76, u77, t78, t79, t80, t81, t82, t83, t84, t85, t86, t87, t88, t89, t90, t91, t92, t93, t94], []⟩ w2)) :
    Code.wp Tryz.prog ((Tryz.f70.body.bind (regionOf 15)).getD .skip) Q ⟨#[.slice (some ⟨g, 0, none⟩) n cap, .int .i64 (i : Int), t2, t3, t4, t5, t6, .int .i64 1, t8, t9, t10, t11, t12, t13, t14, t15, t16, t17, t18, t19, t20, t21, t22, t23, t24, t25, t26, t27, t28, t29, t30, t31, t32, t33, t34, t35, t36, t37, t38, t39, t40, t41, t42, t43, t44, t45, t46, t47, t48, t49, t50, t51, t52, t53, t54, t55, t56, t57, t58, t59, t60, t61, t62, t63, t64, t65, t66, t67, t68, t69, t70, t71, t72, t73, t74, t75, t76, t77, t78, t79, t80, t81, t82, t83, t84, t85, t86, t87, t88, t89, t90, t91, t92, t93, t94], []⟩ w1 := by
  have hw1 : IntKind.i64.wrap (j : Int) = (j : Int) := by rw [IntKind.wrap_i64]; omega
  have hci : ¬ ((cap : Nat) : Int) = (i : Int) := by omega
  have hcj : ¬ ((cap : Nat) : Int) = (j : Int) := by omega
  have hci' : ¬ (cap = i) := by omega
  have hcj' : ¬ (cap = j) := by omega
  conv => arg 2; whnf
  refine wp_region_but (S := fun _ => True) (n := 8) mixed5 ?_
  refine but_take (i := 0) (v := .slice (some ⟨g, 0, none⟩) n cap) rfl (by kernel_rfl) (fun _ _ _ h => h) (.inl ⟨rfl, fun w _ => ?_⟩) trivial ?_
  · go_simp
    try omega
  simp only [Act.put, List.setIfInBounds_toArray, List.set_cons_zero, List.set_cons_succ]
  refine but_take (i := 1) (v := .int .i64 (i : Int)) rfl (by kernel_rfl) (fun _ _ _ h => h) (.inl ⟨rfl, fun w _ => ?_⟩) trivial ?_
  · go_simp
    try omega
  simp only [Act.put, List.setIfInBounds_toArray, List.set_cons_zero, List.set_cons_succ]
  refine but_take (i := 2) (v := .int .i64 1) rfl (by kernel_rfl) (fun _ _ _ h => h) (.inl ⟨rfl, fun w _ => ?_⟩) trivial ?_
  · go_simp
    try omega
  simp only [Act.put, List.setIfInBounds_toArray, List.set_cons_zero, List.set_cons_succ]
  refine but_take (i := 3) (v := .int .i64 (j : Int)) rfl (by kernel_rfl) (fun _ _ _ h => h) (.inl ⟨rfl, fun w _ => ?_⟩) trivial ?_
  · go_simp
    try omega
  simp only [Act.put, List.setIfInBounds_toArray, List.set_cons_zero, List.set_cons_succ]
  refine but_take (i := 4) (v := .slice (some ⟨g, j * 5, none⟩) (n - j) (cap - j)) rfl (by kernel_rfl) (fun _ _ _ h => h) (.inl ⟨rfl, fun w _ => ?_⟩) trivial ?_
  · go_simp
    try omega
  simp only [Act.put, List.setIfInBounds_toArray, List.set_cons_zero, List.set_cons_succ]
  refine but_take (i := 5) (v := .slice (some ⟨g, 0, none⟩) n cap) rfl (by kernel_rfl) (fun _ _ _ h => h) (.inl ⟨rfl, fun w _ => ?_⟩) trivial ?_
  · go_simp
    try omega
  simp only [Act.put, List.setIfInBounds_toArray, List.set_cons_zero, List.set_cons_succ]
  refine but_take (i := 6) (v := .int .i64 (i : Int)) rfl (by kernel_rfl) (fun _ _ _ h => h) (.inl ⟨rfl, fun w _ => ?_⟩) trivial ?_
  · go_simp
    try omega
  simp only [Act.put, List.setIfInBounds_toArray, List.set_cons_zero, List.set_cons_succ]
  refine but_take (i := 7) (v := .slice (some ⟨g, i * 5, none⟩) (n - i) (cap - i)) rfl (by kernel_rfl) (fun _ _ _ h => h) (.inl ⟨rfl, fun w _ => ?_⟩) trivial ?_
  · go_simp
    try omega
  simp only [Act.put, List.setIfInBounds_toArray, List.set_cons_zero, List.set_cons_succ]
  refine but_one (i := 8) (by kernel_rfl) rfl rfl ?_
  intro K hK
  obtain ⟨r, e⟩ := hA.out 3
  refine wp_of_run8 (v := r) (w' := w2) ?_ ?_
  · simp [execOp, Act.eval, resolve, invoke, builtin]
    rw [e]
    simp
  refine hK.out _ _ (fun h => absurd rfl h) ?_
  clear hK
  try simp only [Act.put, List.setIfInBounds_toArray, List.set_cons_zero, List.set_cons_succ]
  refine AnyBut.done (by kernel_rfl) ?_ _
  refine NoPanic.normal ?_
  exact hQ.out _ _ _ _ _ _ _ _ _
set_option maxHeartbeats 4000000 in
set_option maxRecDepth 60000 in
theorem insDn_11 (t2 t3 t4 t5 t6 t8 t10 t11 t12 t13 t14 t15 t16 t17 t18 t19 t20 t21 t22 t23 t24 t25 t26 t27 t28 t29 t30 t31 t32 t33 t34 t35 t36 t37 t38 t39 t40 t41 t42 t43 t44 t45 t46 t47 t48 t49 t50 t51 t52 t53 t54 t55 t56 t57 t58 t59 t60 t61 t62 t63 t64 t65 t66 t67 t68 t69 t70 t71 t72 t73 t74 t75 t76 t77 t78 t79 t80 t81 t82 t83 t84 t85 t86 t87 t88 t89 t90 t91 t92 t93 t94 : Value) (g h n m cap c i j : Nat) (w1 w2 : World) (Q : Exit → Act → World → Prop) (hij : (i : Int) + 1 = (j : Int)) (hn : (n : Int) ≤ 2000) (hjn : (j : Int) ≤ (n : Int)) (hx : (j : Int) < (cap : Int)) (him : (i : Int) < (m : Int)) (hmc : (m : Int) < (c : Int) + 1)
    (hA : Hid (∀ ty, ∃ r, (Builtin.copy_ #[23, 23] ty #[.slice (some ⟨h, j * 5, none⟩) (n - j) (cap - j), .slice (some ⟨g, i * 5, none⟩) (m - i) (c - i)]).run Tryz.prog w1.drew = .ok r w2))
    (hQ : Hid (∀ (u46 u47 u48 u49 u50 u51 u52 u53 u54 : Value), Q .normal ⟨#[.slice (some ⟨g, 0, none⟩) m c, .int .i64 (i : Int), t2, t3, t4, t5, t6, .int .i64 1, t8, .slice (some ⟨h, 0, none⟩) n cap, t10, t11, t12, t13, t14, t15, t16, t17, t18, t19, t20, t21, t22, t23, t24, t25, t26, t27, t28, t29, t30, t31, t32, t33, t34, t35, t36, t37, t38, t39, t40, t41, t42, t43, t44, t45, u46, u47, u48, u49, u50, u51, u52, u53, u54, t55, t56, t57, t58, t59, t60, t61, t62, t63, t64, t65, t66, t67, t68, t69, t70, t71, t72, t73, t74, t75, t76, t77, t78, t79, t80, t81, t82, t83, t84, t85, t86, t87, t88, t89, t90, t91, t92, t93, t94], []⟩ w2)) :
    Code.wp Tryz.prog ((Tryz.f70.body.bind (regionOf 11)).getD .skip) Q ⟨#[.slice (some ⟨g, 0, none⟩) m c, .int .i64 (i : Int), t2, t3, t4, t5, t6, .int .i64 1, t8, .slice (some ⟨h, 0, none⟩) n cap, t10, t11, t12, t13, t14, t15, t16, t17, t18, t19, t20, t21, t22, t23, t24, t25, t26, t27, t28, t29, t30, t31, t32, t33, t34, t35, t36, t37, t38, t39, t40, t41, t42, t43, t44, t45, t46, t47, t48, t49, t50, t51, t52, t53, t54, t55, t56, t57, t58, t59, t60, t61, t62, t63, t64, t65, t66, t67, t68, t69, t70, t71, t72, t73, t74, t75, t76, t77, t78, t79, t80, t81, t82, t83, t84, t85, t86, t87, t88, t89, t90, t91, t92, t93, t94], []⟩ w1 := by
  have hw1 : IntKind.i64.wrap (j : Int) = (j : Int) := by rw [IntKind.wrap_i64]; omega
  have hci : ¬ ((c : Nat) : Int) = (i : Int) := by omega
  have hcj : ¬ ((cap : Nat) : Int) = (j : Int) := by omega
  have hci' : ¬ (c = i) := by omega
  have hcj' : ¬ (cap = j) := by omega
  conv => arg 2; whnf
  refine wp_region_but (S := fun _ => True) (n := 8) mixed5 ?_
  refine but_take (i := 0) (v := .slice (some ⟨h, 0, none⟩) n cap) rfl (by kernel_rfl) (fun _ _ _ h => h) (.inl ⟨rfl, fun w _ => ?_⟩) trivial ?_
  · go_simp
    try omega
  simp only [Act.put, List.setIfInBounds_toArray, List.set_cons_zero, List.set_cons_succ]
  refine but_take (i := 1) (v := .int .i64 (i : Int)) rfl (by kernel_rfl) (fun _ _ _ h => h) (.inl ⟨rfl, fun w _ => ?_⟩) trivial ?_
  · go_simp
    try omega
  simp only [Act.put, List.setIfInBounds_toArray, List.set_cons_zero, List.set_cons_succ]
  refine but_take (i := 2) (v := .int .i64 1) rfl (by kernel_rfl) (fun _ _ _ h => h) (.inl ⟨rfl, fun w _ => ?_⟩) trivial ?_
  · go_simp
    try omega
  simp only [Act.put, List.setIfInBounds_toArray, List.set_cons_zero, List.set_cons_succ]
  refine but_take (i := 3) (v := .int .i64 (j : Int)) rfl (by kernel_rfl) (fun _ _ _ h => h) (.inl ⟨rfl, fun w _ => ?_⟩) trivial ?_
  · go_simp
    try omega
  simp only [Act.put, List.setIfInBounds_toArray, List.set_cons_zero, List.set_cons_succ]
  refine but_take (i := 4) (v := .slice (some ⟨h, j * 5, none⟩) (n - j) (cap - j)) rfl (by kernel_rfl) (fun _ _ _ h => h) (.inl ⟨rfl, fun w _ => ?_⟩) trivial ?_
  · go_simp
    try omega
  simp only [Act.put, List.setIfInBounds_toArray, List.set_cons_zero, List.set_cons_succ]
  refine but_take (i := 5) (v := .slice (some ⟨g, 0, none⟩) m c) rfl (by kernel_rfl) (fun _ _ _ h => h) (.inl ⟨rfl, fun w _ => ?_⟩) trivial ?_
  · go_simp
    try omega
  simp only [Act.put, List.setIfInBounds_toArray, List.set_cons_zero, List.set_cons_succ]
  refine but_take (i := 6) (v := .int .i64 (i : Int)) rfl (by kernel_rfl) (fun _ _ _ h => h) (.inl ⟨rfl, fun w _ => ?_⟩) trivial ?_
  · go_simp
    try omega
  simp only [Act.put, List.setIfInBounds_toArray, List.set_cons_zero, List.set_cons_succ]
  refine but_take (i := 7) (v := .slice (some ⟨g, i * 5, none⟩) (m - i) (c - i)) rfl (by kernel_rfl) (fun _ _ _ h => h) (.inl ⟨rfl, fun w _ => ?_⟩) trivial ?_
  · go_simp
    try omega
  simp only [Act.put, List.setIfInBounds_toArray, List.set_cons_zero, List.set_cons_succ]
  refine but_one (i := 8) (by kernel_rfl) rfl rfl ?_
  intro K hK
  obtain ⟨r, e⟩ := hA.out 3
  refine wp_of_run8 (v := r) (w' := w2) ?_ ?_
  · simp [execOp, Act.eval, resolve, invoke, builtin]
    rw [e]
    simp
  refine hK.out _ _ (fun h => absurd rfl h) ?_
  clear hK
  try simp only [Act.put, List.setIfInBounds_toArray, List.set_cons_zero, List.set_cons_succ]
  refine AnyBut.done (by kernel_rfl) ?_ _
  refine NoPanic.normal ?_
  exact hQ.out _ _ _ _ _ _ _ _ _
set_option maxHeartbeats 4000000 in
set_option maxRecDepth 60000 in
theorem insDn_end {B n vb : Nat} {v : Value} {xs vs : List Value} (w : World) (hown : w.ownsRow B 51 5 v n xs) (hB : B ≤ w.heap.size) (hn : (n : Int) ≤ 1000) (hvl : vs.length = 5) (hvb : w.heap[vb]? = some (.cells vs.toArray 51 (0, 0))) (h1v : ∀ u ∈ vs, u.oneCell' = true) :
    Calls Tryz.prog 70 #[v, .int .i64 (n : Int), .slice (some ⟨vb, 0, none⟩) 1 1] w fun e w' => InsP w B 51 5 n v (xs ++ vs) e w' := by
  obtain ⟨i0, hi, hz0, hz1, hz2⟩ := info_parts infoDn9
  have hnews : ∀ j u, vs[j]? = some u → w.cell? ((⟨vb, 0, none⟩ : Addr).add j) = some u := fun j u hj => by
    rw [addr_add]
    simp only [World.cell?, hvb]
    simpa using hj
  have HVL : Hid (vs.length = 5) := hvl
  have H1 : Hid (∀ u ∈ vs, u.oneCell' = true) := h1v
  have HO0 : Hid (w.ownsRow B 51 5 v n xs) := hown
  have HN : Hid ((n : Int) ≤ 1000) := hn
  clear hvl h1v hvb
  rcases hown.2 with ⟨rfl, rfl⟩ | ⟨g, cap, cur, rfl, -, -, hnc, hcm, -, -⟩
  · clear hown
    go_enter Tryz.func70, Tryz.ntmps70
    go_wp2_with (at_builtin; refine wpList_append_own _ rfl _ _ 23 rfl B 51 i0 (.agg #[.int .i64 0, .int .i64 0, .int .i64 0, .bool false, .int .i64 0]) 5 40 Tryz.underlying23 hi hz0 hz1 hz2 rfl (by decide) _ _ _ rfl HO0.out ⟨vb, 0, none⟩ 1 1 vs rfl (by rw [HVL.out]) hnews H1.out (by unfold maxLen; omega) (by omega) hB ?_)
    intro v7 w7 hown7 hg7 hiff
    obtain ⟨g, c, rfl, -, -, -⟩ := own_some hown7 (by decide)
    have HO : Hid (w7.ownsRow B 51 5 (.slice (some ⟨g, 0, none⟩) (0 + 1) c) (0 + 1) (xs ++ vs)) := hown7
    have HG : Hid (w.grownBy w7 (Value.slice none 0 0).ownBlock) := hg7
    clear hown7 hg7 hiff hnews
    go_wp2_with fail
    go_ret
    exact ⟨g, c, rfl, HO.out, HG.out⟩
  · clear hown
    have hcap : (cap : Int) ≤ 9223372036854775807 := by unfold maxLen at hcm; omega
    have hnc' : (n : Int) ≤ (cap : Int) := by omega
    have hbig : n + 1 ≤ maxLen := by unfold maxLen; omega
    go_enter Tryz.func70, Tryz.ntmps70
    go_wp2_with (at_builtin; refine wpList_append_own _ rfl _ _ 23 rfl B 51 i0 (.agg #[.int .i64 0, .int .i64 0, .int .i64 0, .bool false, .int .i64 0]) 5 40 Tryz.underlying23 hi hz0 hz1 hz2 rfl (by decide) _ _ _ rfl HO0.out ⟨vb, 0, none⟩ 1 1 vs rfl (by rw [HVL.out]) hnews H1.out hbig (by omega) hB ?_)
    all_goals
      intro v7 w7 hown7 hg7 hiff
      obtain ⟨g7, c7, rfl, -, -, -⟩ := own_some hown7 (by omega)
      have HO : Hid (w7.ownsRow B 51 5 (.slice (some ⟨g7, 0, none⟩) (n + 1) c7) (n + 1) (xs ++ vs)) := hown7
      have HG : Hid (w.grownBy w7 (Value.slice (some ⟨g, 0, none⟩) n cap).ownBlock) := hg7
      clear hown7 hg7 hiff hnews
      go_wp2_with fail
      go_ret
      exact ⟨g7, c7, rfl, HO.out, HG.out⟩
theorem ovDn_no {vb g S : Nat} {vs cur : List Value} (w : World) (hne : vb ≠ g) (hvb : w.heap[vb]? = some (.cells vs.toArray 51 (0, 0))) (hg : w.heap[g]? = some (.cells cur.toArray 51 (0, 0))) (hc : 0 < cur.length) (lb cb : Nat) :
    (callFunc 97 #[.slice (some ⟨vb, 0, none⟩) 1 1, .slice (some ⟨g, S, none⟩) lb cb]).run Tryz.prog w = .ok (.value (.bool false)) w := by
  rw [run_callFunc_extern Tryz.func97 (by kernel_rfl) (by kernel_rfl) (by kernel_rfl) (e := Extern.SlicesOverlaps.overlaps #[23, 23] #[4]) (by kernel_rfl),
    Lib.run_overlaps_apart w 23 4 51 Tryz.underlying23 5 Tryz.sizeOf51 ⟨vb, 0, none⟩ ⟨g, S, none⟩ 1 1 lb cb hne 51 51 vs.length cur.length (by simp [World.shape?, hvb]) (by simp [World.shape?, hg]) (by omega) (by simp [World.frozen?, hvb]) (by simp [World.frozen?, hvb])]
  rfl
set_option maxHeartbeats 4000000 in
set_option maxRecDepth 60000 in
theorem insDn_shift {B g n cap vb : Nat} {xs vs : List Value} (w : World) (hown : w.ownsRow B 51 5 (.slice (some ⟨g, 0, none⟩) n cap) n xs) (i j : Nat) (hi : i < n) (hj : j = i + 1) (hn : (n : Int) ≤ 1000) (hroom : n < cap) (hvl : vs.length = 5) (hvb : w.heap[vb]? = some (.cells vs.toArray 51 (0, 0))) (hne : vb ≠ g) (h1v : ∀ u ∈ vs, u.oneCell' = true) (h1 : ∀ u ∈ xs, u.oneCell' = true) :
    Calls Tryz.prog 70 #[.slice (some ⟨g, 0, none⟩) n cap, .int .i64 (i : Int), .slice (some ⟨vb, 0, none⟩) 1 1] w fun e w' => InsP w B 51 5 n (.slice (some ⟨g, 0, none⟩) n cap) (xs.take (i * 5) ++ (vs ++ xs.drop (i * 5))) e w' := by
  obtain ⟨cur, hg, hcl, hct, hB, hnc, hcm, hxl⟩ := own_whole hown
  obtain ⟨i0, hi0, hz0, hz1, hz2⟩ := info_parts infoDn9
  have hcap : (cap : Int) ≤ 9223372036854775807 := by unfold maxLen at hcm; omega
  have hdl : (xs.drop (i * 5)).length = (n - i) * 5 := by rw [List.length_drop, hxl, Nat.sub_mul]
  have hxc : ∀ q u, xs[q]? = some u → w.cell? ⟨g, q, none⟩ = some u := fun q u hq => by
    rw [← hct, List.getElem?_take] at hq
    split at hq
    · simp only [World.cell?, hg]
      simpa using hq
    · cases hq
  have hvc : ∀ q u, vs[q]? = some u → w.cell? ⟨vb, q, none⟩ = some u := fun q u hq => by
    simp only [World.cell?, hvb]
    simpa using hq
  have h1d : ∀ u ∈ xs.drop (i * 5), u.oneCell' = true := fun u hu => h1 u (List.mem_of_mem_drop hu)
  have hxt : cur.take (i * 5) = xs.take (i * 5) := by rw [← hct, List.take_take, Nat.min_eq_left (by omega)]
  have hyl : (xs.take (i * 5) ++ (vs ++ xs.drop (i * 5))).length = (n + 1) * 5 := by rw [List.length_append, List.length_append, List.length_take, hdl, hxl, hvl]; omega
  obtain ⟨cur2, hcur2⟩ : ∃ c2, c2 = splice cur (j * 5) (xs.drop (i * 5)) := ⟨_, rfl⟩
  obtain ⟨cur3, hcur3⟩ : ∃ c3, c3 = splice cur2 (i * 5) vs := ⟨_, rfl⟩
  have hl2 : cur2.length = cap * 5 := by rw [hcur2, length_splice _ _ _ (by rw [hdl, hcl]; omega)]; exact hcl
  have hl3 : cur3.length = cap * 5 := by rw [hcur3, length_splice _ _ _ (by rw [hvl, hl2]; omega)]; exact hl2
  obtain ⟨w2, hw2⟩ : ∃ w2, w2 = w.drew.setRow g cur2.toArray := ⟨_, rfl⟩
  obtain ⟨w3, hw3⟩ : ∃ w3, w3 = w2.setRow g cur3.toArray := ⟨_, rfl⟩
  have hg2 : w2.heap[g]? = some (.cells cur2.toArray 51 (0, 0)) := by rw [hw2]; exact setRow_heap w.drew g _ _ _ _ hg
  have hg3 : w3.heap[g]? = some (.cells cur3.toArray 51 (0, 0)) := by rw [hw3]; exact setRow_heap w2 g _ _ _ _ hg2
  have hvb2 : w2.heap[vb]? = some (.cells vs.toArray 51 (0, 0)) := by rw [hw2, setRow_other _ _ _ _ hne]; exact hvb
  have HO : Hid (w3.ownsRow B 51 5 (.slice (some ⟨g, 0, none⟩) (n + 1) cap) (n + 1) (xs.take (i * 5) ++ (vs ++ xs.drop (i * 5)))) := by
    refine whole_own (cur := cur3) hg3 hl3 ?_ hB (by omega) hcm hyl
    have e := take_splice_back cur vs (xs.drop (i * 5)) (i * 5) (j * 5) (by rw [hvl]; omega) (by rw [hcl]; omega)
    rw [hdl, hxt, show j * 5 + (n - i) * 5 = (n + 1) * 5 by omega] at e
    rw [hcur3, hcur2]
    exact e
  have HG : Hid (w.grownBy w3 (Value.slice (some ⟨g, 0, none⟩) n cap).ownBlock) := by
    have a1 : w.grownBy w.drew (some g) := ⟨rfl, rfl, rfl, Nat.le_refl _, fun _ _ _ => rfl⟩
    show w.grownBy w3 (some g)
    rw [hw3, hw2]
    exact grownBy_trans a1 (grownBy_trans (setRow_grownBy _) (setRow_grownBy _))
  have HA : Hid (∀ ty, ∃ r, (Builtin.copy_ #[23, 23] ty #[.slice (some ⟨g, j * 5, none⟩) (n + 1 - j) (cap - j), .slice (some ⟨g, i * 5, none⟩) (n + 1 - i) (cap - i)]).run Tryz.prog w.drew = .ok r w2) := fun ty => ⟨_, by
    rw [hw2, hcur2]
    exact run_copy_many w.drew 23 23 ty 51 i0 5 Tryz.underlying23 hi0 hz1 g (j * 5) (n + 1 - j) (cap - j) ⟨g, i * 5, none⟩ (n + 1 - i) (cap - i) (n - i) cur _ 51 hg (by rw [show n + 1 - j = n - i by omega]; exact Nat.min_eq_right (by omega)) hdl (fun q u hq => by
      rw [addr_add]
      rw [List.getElem?_drop] at hq
      exact hxc _ _ hq) h1d (by rw [hdl, hcl]; omega)⟩
  have hcp : ∀ ty, (Builtin.copy_ #[23, 23] ty #[.slice (some ⟨g, i * 5, none⟩) (n + 1 - i) (cap - i), .slice (some ⟨vb, 0, none⟩) 1 1]).run Tryz.prog w2 = .ok (goInt 1) w3 := fun ty => by
    rw [hw3, hcur3]
    exact run_copy_many w2 23 23 ty 51 i0 5 Tryz.underlying23 hi0 hz1 g (i * 5) (n + 1 - i) (cap - i) ⟨vb, 0, none⟩ 1 1 1 cur2 vs 51 hg2 (Nat.min_eq_left (by omega)) (by rw [hvl]) (fun q u hq => by
      rw [addr_add, Nat.zero_add]
      simp only [World.cell?, hvb2]
      simpa using hq) h1v (by rw [hvl, hl2]; omega)
  have hov : ∀ lb cb, (callFunc 97 #[.slice (some ⟨vb, 0, none⟩) 1 1, .slice (some ⟨g, j * 5, none⟩) lb cb]).run Tryz.prog w = .ok (.value (.bool false)) w := fun lb cb => ovDn_no w hne hvb hg (by rw [hcl]; omega) lb cb
  have hij : (i : Int) + 1 = (j : Int) := by omega
  have hin : ¬ (i : Int) = (n : Int) := by omega
  have hrm : ¬ (cap : Int) < (n : Int) + 1 := by omega
  have hb1 : (n : Int) + 1 ≤ (cap : Int) := by omega
  have hb2 : (i : Int) ≤ (n : Int) := by omega
  have hb3 : (j : Int) ≤ (n : Int) + 1 := by omega
  have hb4 : ¬ (cap = j) := by omega
  have hb5 : ¬ (cap = i) := by omega
  have hb6 : (i : Int) ≤ (n : Int) + 1 := by omega
  have HQ : Hid (((n + 1 : Nat) : Int) ≤ 2000 ∧ (j : Int) ≤ ((n + 1 : Nat) : Int) ∧ ((n + 1 : Nat) : Int) < (cap : Int) + 1 ∧ (j : Int) < (cap : Int)) := by show _ ∧ _; omega
  clear hown hj hi hg hcl hct hB hnc hcm hxl hi0 hz0 hz1 hz2 hdl hxc hvc h1d hxt hyl hcur2 hcur3 hl2 hl3 hw2 hw3 hg2 hg3 hvb2 hvb hvl h1 h1v hroom
  go_enter Tryz.func70, Tryz.ntmps70
  go_upto_region 15 with (simp only [hov])
  refine insDn_15 _ _ _ _ _ _ _ _ _ _ _ _ _ _ _ _ _ _ _ _ _ _ _ _ _ _ _ _ _ _ _ _ _ _ _ _ _ _ _ _ _ _ _ _ _ _ _ _ _ _ _ _ _ _ _ _ _ _ _ _ _ _ _ _ _ _ _ _ _ _ _ _ _ _ _ _ _ _ _ _ _ _ _ _ _ _ _ _ _ _ _ _ g (n + 1) cap i j w w2 _ hij HQ.out.1 HQ.out.2.1 HQ.out.2.2.2 HA (fun u69 u70 u71 u72 u73 u74 u75 u76 u77 => ?_)
  dsimp only
  go_wp2_with fail
  go_ret
  exact ⟨g, cap, rfl, HO.out, HG.out⟩
set_option maxHeartbeats 4000000 in
set_option maxRecDepth 60000 in
theorem insDn_grow {B g n cap vb : Nat} {xs vs : List Value} (w : World) (hown : w.ownsRow B 51 5 (.slice (some ⟨g, 0, none⟩) n cap) n xs) (hBw : B ≤ w.heap.size) (i j : Nat) (hi : i < n) (hj : j = i + 1) (hn : (n : Int) ≤ 1000) (hroom : cap < n + 1) (hvl : vs.length = 5) (hvb : w.heap[vb]? = some (.cells vs.toArray 51 (0, 0))) (h1v : ∀ u ∈ vs, u.oneCell' = true) (h1 : ∀ u ∈ xs, u.oneCell' = true) :
    Calls Tryz.prog 70 #[.slice (some ⟨g, 0, none⟩) n cap, .int .i64 (i : Int), .slice (some ⟨vb, 0, none⟩) 1 1] w fun e w' => InsP w B 51 5 n (.slice (some ⟨g, 0, none⟩) n cap) (xs.take (i * 5) ++ (vs ++ xs.drop (i * 5))) e w' := by
  obtain ⟨cur, hg, hcl, hct, hB, hnc, hcm, hxl⟩ := own_whole hown
  obtain ⟨i0, hi0, hz0, hz1, hz2⟩ := info_parts infoDn9
  have hcap : (cap : Int) ≤ 9223372036854775807 := by unfold maxLen at hcm; omega
  have hdl : (xs.drop (i * 5)).length = (n - i) * 5 := by rw [List.length_drop, hxl, Nat.sub_mul]
  have hxc : ∀ q u, xs[q]? = some u → w.cell? ⟨g, q, none⟩ = some u := fun q u hq => by
    rw [← hct, List.getElem?_take] at hq
    split at hq
    · simp only [World.cell?, hg]
      simpa using hq
    · cases hq
  have hvc : ∀ q u, vs[q]? = some u → w.cell? ⟨vb, q, none⟩ = some u := fun q u hq => by
    simp only [World.cell?, hvb]
    simpa using hq
  have h1d : ∀ u ∈ xs.drop (i * 5), u.oneCell' = true := fun u hu => h1 u (List.mem_of_mem_drop hu)
  have hxt : cur.take (i * 5) = xs.take (i * 5) := by rw [← hct, List.take_take, Nat.min_eq_left (by omega)]
  have hyl : (xs.take (i * 5) ++ (vs ++ xs.drop (i * 5))).length = (n + 1) * 5 := by rw [List.length_append, List.length_append, List.length_take, hdl, hxl, hvl]; omega
  have hgw : g < w.heap.size := (Array.getElem?_eq_some_iff.1 hg).1
  have hvw : vb < w.heap.size := (Array.getElem?_eq_some_iff.1 hvb).1
  have hik : i + (n + 1 - i) = n + 1 := by omega
  have hkk : (n : Int) + 1 - (i : Int) = ((n + 1 - i : Nat) : Int) := by omega
  have hold : (Builtin.firstCells i0.size i (.slice (some ⟨g, 0, none⟩) i cap)).run Tryz.prog w.drew = .ok (xs.take (i * 5)).toArray w.drew := by
    rw [hz1]
    exact run_firstCells_some w.drew 5 i ⟨g, 0, none⟩ i cap (xs.take (i * 5)) (by rw [List.length_take, hxl]; omega) (fun q u hq => by
      rw [addr_add, Nat.zero_add]
      rw [List.getElem?_take] at hq
      split at hq
      · exact hxc _ _ hq
      · cases hq)
  have hGn := grownCap_ge w (n + 1) cap 51
  have hGm := grownCap_le_maxLen w (n + 1) cap 51 (by unfold maxLen; omega)
  have hrz0 := fun ty => Lib.run_append_grow_zeros w 23 3 ty 51 i0 (.agg #[.int .i64 0, .int .i64 0, .int .i64 0, .bool false, .int .i64 0]) .i64 .i64 Tryz.underlying23 Tryz.underlying3 hi0 hz0 (some ⟨g, 0, none⟩) i cap (xs.take (i * 5)) hold (n + 1 - i) (by omega) (by rw [hz1]; decide) (by omega) (by omega) (by rw [hz2]; omega) (by rw [hz2, hik]; exact growslice_fits hroom (by omega))
  rw [hik] at hrz0
  generalize grownCap w (n + 1) cap 51 = G at hGn hGm hrz0
  obtain ⟨cur1, hcur1⟩ : ∃ c1 : List Value, c1.toArray = (xs.take (i * 5)).toArray ++ Builtin.zeroCells (Value.cells (.agg #[.int .i64 0, .int .i64 0, .int .i64 0, .bool false, .int .i64 0])) (n + 1 - i) ++ Builtin.zeroCells (Value.cells (.agg #[.int .i64 0, .int .i64 0, .int .i64 0, .bool false, .int .i64 0])) (G - (n + 1)) := ⟨_, Array.toArray_toList⟩
  have hzc : (Value.cells (.agg #[.int .i64 0, .int .i64 0, .int .i64 0, .bool false, .int .i64 0])).size = 5 := by rfl
  have hl1 : cur1.length = G * 5 := by
    have e := congrArg Array.size hcur1
    rw [List.size_toArray, Array.size_append, Array.size_append, size_zeroCells, size_zeroCells, hzc, List.size_toArray, List.length_take, hxl] at e
    omega
  have ht1 : cur1.take (i * 5) = xs.take (i * 5) := by
    have e := congrArg Array.toList hcur1
    rw [Array.toList_append, Array.toList_append] at e
    have e' : cur1 = xs.take (i * 5) ++ ((Builtin.zeroCells (Value.cells (.agg #[.int .i64 0, .int .i64 0, .int .i64 0, .bool false, .int .i64 0])) (n + 1 - i)).toList ++ (Builtin.zeroCells (Value.cells (.agg #[.int .i64 0, .int .i64 0, .int .i64 0, .bool false, .int .i64 0])) (G - (n + 1))).toList) := by simpa [List.append_assoc] using e
    have hle : (xs.take (i * 5)).length = i * 5 := by rw [List.length_take, hxl]; omega
    rw [e', List.take_append_of_le_length (by omega), List.take_of_length_le (by omega)]
  rw [← hcur1] at hrz0
  clear hcur1
  obtain ⟨cur2, hcur2⟩ : ∃ c2, c2 = splice cur1 (i * 5) vs := ⟨_, rfl⟩
  obtain ⟨cur3, hcur3⟩ : ∃ c3, c3 = splice cur2 (j * 5) (xs.drop (i * 5)) := ⟨_, rfl⟩
  have hl2 : cur2.length = G * 5 := by rw [hcur2, length_splice _ _ _ (by rw [hvl, hl1]; omega)]; exact hl1
  have hl3 : cur3.length = G * 5 := by rw [hcur3, length_splice _ _ _ (by rw [hdl, hl2]; omega)]; exact hl2
  obtain ⟨h, hh⟩ : ∃ h, h = w.heap.size := ⟨_, rfl⟩
  obtain ⟨w1, hw1⟩ : ∃ w1, w1 = w.drew.alloc (.cells cur1.toArray 51) := ⟨_, rfl⟩
  rw [← hw1, ← hh] at hrz0
  obtain ⟨w2, hw2⟩ : ∃ w2, w2 = w1.setRow h cur2.toArray := ⟨_, rfl⟩
  obtain ⟨w3, hw3⟩ : ∃ w3, w3 = w2.drew.setRow h cur3.toArray := ⟨_, rfl⟩
  have hb01 : Below w.heap.size w w1 := by rw [hw1]; exact below2 (below_drew w) (below_alloc w.drew _)
  have hg1 : w1.heap[h]? = some (.cells cur1.toArray 51 (0, 0)) := by rw [hw1, hh]; exact Array.getElem?_push_size
  have hg2 : w2.heap[h]? = some (.cells cur2.toArray 51 (0, 0)) := by rw [hw2]; exact setRow_heap w1 h _ _ _ _ hg1
  have hg3 : w3.heap[h]? = some (.cells cur3.toArray 51 (0, 0)) := by rw [hw3]; exact setRow_heap w2.drew h _ _ _ _ hg2
  have hb02 : Below w.heap.size w w2 := by rw [hw2]; exact hb01.trans (setRow_below _ (by omega))
  have hb03 : Below w.heap.size w w3 := by rw [hw3]; exact (hb02.trans ⟨rfl, rfl, rfl, Nat.le_refl _, fun _ _ => rfl⟩ : Below w.heap.size w w2.drew).trans (setRow_below _ (by omega))
  have HO : Hid (w3.ownsRow B 51 5 (.slice (some ⟨h, 0, none⟩) (n + 1) G) (n + 1) (xs.take (i * 5) ++ (vs ++ xs.drop (i * 5)))) := by
    refine whole_own (cur := cur3) hg3 hl3 ?_ (by omega) hGn hGm hyl
    have e := take_splice_two cur1 vs (xs.drop (i * 5)) (i * 5) (j * 5) (by rw [hvl]; omega) (by rw [hl1]; omega)
    rw [hdl, ht1, show j * 5 + (n - i) * 5 = (n + 1) * 5 by omega] at e
    rw [hcur3, hcur2]
    exact e
  have HG : Hid (w.grownBy w3 (Value.slice (some ⟨g, 0, none⟩) n cap).ownBlock) := below_grownBy hb03 _
  have hrz : ∀ ty, (Builtin.append_ #[23, 3] ty #[.slice (some ⟨g, 0, none⟩) i cap, .int .i64 ((n : Int) + 1 - (i : Int))]).run Tryz.prog w = .ok (.slice (some ⟨h, 0, none⟩) (n + 1) G) w1 := fun ty => by
    rw [hkk]
    exact hrz0 ty
  have hcp : ∀ ty, (Builtin.copy_ #[23, 23] ty #[.slice (some ⟨h, i * 5, none⟩) (n + 1 - i) (G - i), .slice (some ⟨vb, 0, none⟩) 1 1]).run Tryz.prog w1 = .ok (goInt 1) w2 := fun ty => by
    rw [hw2, hcur2]
    exact run_copy_many w1 23 23 ty 51 i0 5 Tryz.underlying23 hi0 hz1 h (i * 5) (n + 1 - i) (G - i) ⟨vb, 0, none⟩ 1 1 1 cur1 vs 51 hg1 (Nat.min_eq_left (by omega)) (by rw [hvl]) (fun q u hq => by
      rw [addr_add, Nat.zero_add, World.cell?_of_block (hb01.block vb hvw)]
      exact hvc _ _ hq) h1v (by rw [hvl, hl1]; omega)
  have HA : Hid (∀ ty, ∃ r, (Builtin.copy_ #[23, 23] ty #[.slice (some ⟨h, j * 5, none⟩) (n + 1 - j) (G - j), .slice (some ⟨g, i * 5, none⟩) (n - i) (cap - i)]).run Tryz.prog w2.drew = .ok r w3) := fun ty => ⟨_, by
    rw [hw3, hcur3]
    exact run_copy_many w2.drew 23 23 ty 51 i0 5 Tryz.underlying23 hi0 hz1 h (j * 5) (n + 1 - j) (G - j) ⟨g, i * 5, none⟩ (n - i) (cap - i) (n - i) cur2 _ 51 hg2 (by rw [show n + 1 - j = n - i by omega]; exact Nat.min_self _) hdl (fun q u hq => by
      rw [addr_add]
      rw [List.getElem?_drop] at hq
      show w2.cell? _ = _
      rw [World.cell?_of_block (hb02.block g hgw)]
      exact hxc _ _ hq) h1d (by rw [hdl, hl2]; omega)⟩
  have hij : (i : Int) + 1 = (j : Int) := by omega
  have hin : ¬ (i : Int) = (n : Int) := by omega
  have hrm : (cap : Int) < (n : Int) + 1 := by omega
  have hb1 : (n : Int) ≤ (cap : Int) := by omega
  have hb2 : (i : Int) ≤ (n : Int) := by omega
  have hb3 : (i : Int) ≤ (n : Int) + 1 := by omega
  have hb4 : ¬ (G = i) := by omega
  have hb5 : ¬ (cap = i) := by omega
  have hGc : (G : Int) ≤ 9223372036854775807 := by unfold maxLen at hGm; omega
  have hb6 : (n : Int) + 1 ≤ (G : Int) := by omega
  have HQ : Hid (((n + 1 : Nat) : Int) ≤ 2000 ∧ (j : Int) ≤ ((n + 1 : Nat) : Int) ∧ ((n + 1 : Nat) : Int) < (G : Int) + 1 ∧ (j : Int) < (G : Int) ∧ (i : Int) < (n : Int) ∧ (n : Int) < (cap : Int) + 1) := by show _ ∧ _; omega
  clear hown hj hi hg hcl hct hB hnc hcm hxl hi0 hz0 hz1 hz2 hdl hxc hvc h1d hxt hyl hcur2 hcur3 hl1 hl2 hl3 hw1 hw2 hw3 hg1 hg2 hg3 hvb hvl h1 h1v hroom hb01 hb02 hb03 hrz0 hkk hik hold hGn hGm ht1 hzc hh hgw hvw
  go_enter Tryz.func70, Tryz.ntmps70
  go_upto_region 11 with (at_builtin; refine Lib.wpList_append_run _ rfl _ _ _ _ rfl _ _ rfl rfl _ _ (hrz _) ?_)
  refine insDn_11 _ _ _ _ _ _ _ _ _ _ _ _ _ _ _ _ _ _ _ _ _ _ _ _ _ _ _ _ _ _ _ _ _ _ _ _ _ _ _ _ _ _ _ _ _ _ _ _ _ _ _ _ _ _ _ _ _ _ _ _ _ _ _ _ _ _ _ _ _ _ _ _ _ _ _ _ _ _ _ _ _ _ _ _ _ _ _ _ _ _ _ g h (n + 1) n G cap i j w2 w3 _ hij HQ.out.1 HQ.out.2.1 HQ.out.2.2.2.1 HQ.out.2.2.2.2.1 HQ.out.2.2.2.2.2 HA (fun u46 u47 u48 u49 u50 u51 u52 u53 u54 => ?_)
  dsimp only
  go_wp2_with fail
  go_ret
  exact ⟨h, G, rfl, HO.out, HG.out⟩
theorem insDn_any {B n vb : Nat} {v : Value} {xs vs : List Value} (w : World) (hown : w.ownsRow B 51 5 v n xs) (hBw : B ≤ w.heap.size) (i : Nat) (hi : i ≤ n) (hn : (n : Int) ≤ 1000) (hvl : vs.length = 5) (hvb : w.heap[vb]? = some (.cells vs.toArray 51 (0, 0))) (hne : v.ownBlock ≠ some vb) (h1v : ∀ u ∈ vs, u.oneCell' = true) (h1 : ∀ u ∈ xs, u.oneCell' = true) :
    Calls Tryz.prog 70 #[v, .int .i64 (i : Int), .slice (some ⟨vb, 0, none⟩) 1 1] w fun e w' => InsP w B 51 5 n v (xs.take (i * 5) ++ (vs ++ xs.drop (i * 5))) e w' := by
  by_cases he : i = n
  · subst he
    have hx := hown.1
    rw [List.take_of_length_le (by omega), List.drop_of_length_le (by omega), List.append_nil]
    exact insDn_end w hown hBw hn hvl hvb h1v
  · rcases hown.2 with ⟨-, rfl⟩ | ⟨g, cap, cur, rfl, -, -, hnc, -, -, -⟩
    · omega
    · have hne' : vb ≠ g := fun e => hne (by rw [e]; rfl)
      by_cases hr : n < cap
      · exact insDn_shift w hown i (i + 1) (by omega) rfl hn hr hvl hvb hne' h1v h1
      · exact insDn_grow w hown hBw i (i + 1) (by omega) rfl hn (by omega) hvl hvb h1v h1
theorem infoLn9 : (Tryz.prog.info? 55).map (fun i => (i.zero, i.size, i.bytes)) = some (some (.agg #[.string ⟨#[]⟩, .slice none 0 0]), 2, 40) := by kernel_rfl
set_option maxHeartbeats 4000000 in
set_option maxRecDepth 60000 in
theorem insLn_15 (t2 t3 t4 t5 t6 t8 t9 t10 t11 t12 t13 t14 t15 t16 t17 t18 t19 t20 t21 t22 t23 t24 t25 t26 t27 t28 t29 t30 t31 t32 t33 t34 t35 t36 t37 t38 t39 t40 t41 t42 t43 t44 t45 t46 t47 t48 t49 t50 t51 t52 t53 t54 t55 t56 t57 t58 t59 t60 t61 t62 t63 t64 t65 t66 t67 t68 t69 t70 t71 t72 t73 t74 t75 t76 t77 t78 t79 t80 t81 t82 t83 t84 t85 t86 t87 t88 t89 t90 t91 t92 t93 t94 : Value) (g n cap i j : Nat) (w1 w2 : World) (Q : Exit → Act → World → Prop) (hij : (i : Int) + 1 = (j : Int)) (hn : (n : Int) ≤ 2000) (hjn : (j : Int) ≤ (n : Int)) (hx : (j : Int) < (cap : Int))
    (hA : Hid (∀ ty, ∃ r, (Builtin.copy_ #[22, 22] ty #[.slice (some ⟨g, j * 2, none⟩) (n - j) (cap - j), .slice (some ⟨g, i * 2, none⟩) (n - i) (cap - i)]).run Tryz.prog w1.drew = .ok r w2))
    (hQ : Hid (∀ (u69 u70 u71 u72 u73 u74 u75 u76 u77 : Value), Q .normal ⟨#[.slice (some ⟨g, 0, none⟩) n cap, .int .i64 (i : Int), t2, t3, t4, t5, t6, .int .i64 1, t8, t9, t10, t11, t12, t13, t14, t15, t16, t17, t18, t19, t20, t21, t22, t23, t24, t25, t26, t27, t28, t29, t30, t31, t32, t33, t34, t35, t36, t37, t38, t39, t40, t41, t42, t43, t44, t45, t46, t47, t48, t49, t50, t51, t52, t53, t54, t55, t56, t57, t58, t59, t60, t61, t62, t63, t64, t65, t66, t67, t68, u69, u70, u71, u72, u73, u74, u75, u76, u77, t78, t79, t80, t81, t82, t83, t84, t85, t86, t87, t88, t89, t90, t91, t92, t93, t94], []⟩ w2)) :
    Code.wp Tryz.prog ((Tryz.f78.body.bind (regionOf 15)).getD .skip) Q ⟨#[.slice (some ⟨g, 0, none⟩) n cap, .int .i64 (i : Int), t2, t3, t4, t5, t6, .int .i64 1, t8, t9, t10, t11, t12, t13, t14, t15, t16, t17, t18, t19, t20, t21, t22, t23, t24, t25, t26, t27, t28, t29, t30, t31, t32, t33, t34, t35, t36, t37, t38, t39, t40, t41, t42, t43, t44, t45, t46, t47, t48, t49, t50, t51, t52, t53, t54, t55, t56, t57, t58, t59, t60, t61, t62, t63, t64, t65, t66, t67, t68, t69, t70, t71, t72, t73, t74, t75, t76, t77, t78, t79, t80, t81, t82, t83, t84, t85, t86, t87, t88, t89, t90, t91, t92, t93, t94], []⟩ w1 := by
  have hw1 : IntKind.i64.wrap (j : Int) = (j : Int) := by rw [IntKind.wrap_i64]; omega
  have hci : ¬ ((cap : Nat) : Int) = (i : Int) := by omega
  have hcj : ¬ ((cap : Nat) : Int) = (j : Int) := by omega
  have hci' : ¬ (cap = i) := by omega
  have hcj' : ¬ (cap = j) := by omega
  conv => arg 2; whnf
  refine wp_region_but (S := fun _ => True) (n := 8) mixed5 ?_
  refine but_take (i := 0) (v := .slice (some ⟨g, 0, none⟩) n cap) rfl (by kernel_rfl) (fun _ _ _ h => h) (.inl ⟨rfl, fun w _ => ?_⟩) trivial ?_
  · go_simp
    try omega
  simp only [Act.put, List.setIfInBounds_toArray, List.set_cons_zero, List.set_cons_succ]
  refine but_take (i := 1) (v := .int .i64 (i : Int)) rfl (by kernel_rfl) (fun _ _ _ h => h) (.inl ⟨rfl, fun w _ => ?_⟩) trivial ?_
  · go_simp
    try omega
  simp only [Act.put, List.setIfInBounds_toArray, List.set_cons_zero, List.set_cons_succ]
  refine but_take (i := 2) (v := .int .i64 1) rfl (by kernel_rfl) (fun _ _ _ h => h) (.inl ⟨rfl, fun w _ => ?_⟩) trivial ?_
  · go_simp
    try omega
  simp only [Act.put, List.setIfInBounds_toArray, List.set_cons_zero, List.set_cons_succ]
  refine but_take (i := 3) (v := .int .i64 (j : Int)) rfl (by kernel_rfl) (fun _ _ _ h => h) (.inl ⟨rfl, fun w _ => ?_⟩) trivial ?_
  · go_simp
    try omega
  simp only [Act.put, List.setIfInBounds_toArray, List.set_cons_zero, List.set_cons_succ]
  refine but_take (i := 4) (v := .slice (some ⟨g, j * 2, none⟩) (n - j) (cap - j)) rfl (by kernel_rfl) (fun _ _ _ h => h) (.inl ⟨rfl, fun w _ => ?_⟩) trivial ?_
  · go_simp
    try omega
  simp only [Act.put, List.setIfInBounds_toArray, List.set_cons_zero, List.set_cons_succ]
  refine but_take (i := 5) (v := .slice (some ⟨g, 0, none⟩) n cap) rfl (by kernel_rfl) (fun _ _ _ h => h) (.inl ⟨rfl, fun w _ => ?_⟩) trivial ?_
  · go_simp
    try omega
  simp only [Act.put, List.setIfInBounds_toArray, List.set_cons_zero, List.set_cons_succ]
  refine but_take (i := 6) (v := .int .i64 (i : Int)) rfl (by kernel_rfl) (fun _ _ _ h => h) (.inl ⟨rfl, fun w _ => ?_⟩) trivial ?_
  · go_simp
    try omega
  simp only [Act.put, List.setIfInBounds_toArray, List.set_cons_zero, List.set_cons_succ]
  refine but_take (i := 7) (v := .slice (some ⟨g, i * 2, none⟩) (n - i) (cap - i)) rfl (by kernel_rfl) (fun _ _ _ h => h) (.inl ⟨rfl, fun w _ => ?_⟩) trivial ?_
  · go_simp
    try omega
  simp only [Act.put, List.setIfInBounds_toArray, List.set_cons_zero, List.set_cons_succ]
  refine but_one (i := 8) (by kernel_rfl) rfl rfl ?_
  intro K hK
  obtain ⟨r, e⟩ := hA.out 3
  refine wp_of_run8 (v := r) (w' := w2) ?_ ?_
  · simp [execOp, Act.eval, resolve, invoke, builtin]
    rw [e]
    simp
  refine hK.out _ _ (fun h => absurd rfl h) ?_
  clear hK
  try simp only [Act.put, List.setIfInBounds_toArray, List.set_cons_zero, List.set_cons_succ]
  refine AnyBut.done (by kernel_rfl) ?_ _
  refine NoPanic.normal ?_
  exact hQ.out _ _ _ _ _ _ _ _ _
set_option maxHeartbeats 4000000 in
set_option maxRecDepth 60000 in
theorem insLn_11 (t2 t3 t4 t5 t6 t8 t10 t11 t12 t13 t14 t15 t16 t17 t18 t19 t20 t21 t22 t23 t24 t25 t26 t27 t28 t29 t30 t31 t32 t33 t34 t35 t36 t37 t38 t39 t40 t41 t42 t43 t44 t45 t46 t47 t48 t49 t50 t51 t52 t53 t54 t55 t56 t57 t58 t59 t60 t61 t62 t63 t64 t65 t66 t67 t68 t69 t70 t71 t72 t73 t74 t75 t76 t77 t78 t79 t80 t81 t82 t83 t84 t85 t86 t87 t88 t89 t90 t91 t92 t93 t94 : Value) (g h n m cap c i j : Nat) (w1 w2 : World) (Q : Exit → Act → World → Prop) (hij : (i : Int) + 1 = (j : Int)) (hn : (n : Int) ≤ 2000) (hjn : (j : Int) ≤ (n : Int)) (hx : (j : Int) < (cap : Int)) (him : (i : Int) < (m : Int)) (hmc : (m : Int) < (c : Int) + 1)
    (hA : Hid (∀ ty, ∃ r, (Builtin.copy_ #[22, 22] ty #[.slice (some ⟨h, j * 2, none⟩) (n - j) (cap - j), .slice (some ⟨g, i * 2, none⟩) (m - i) (c - i)]).run Tryz.prog w1.drew = .ok r w2))
    (hQ : Hid (∀ (u46 u47 u48 u49 u50 u51 u52 u53 u54 : Value), Q .normal ⟨#[.slice (some ⟨g, 0, none⟩) m c, .int .i64 (i : Int), t2, t3, t4, t5, t6, .int .i64 1, t8, .slice (some ⟨h, 0, none⟩) n cap, t10, t11, t12, t13, t14, t15, t16, t17, t18, t19, t20, t21, t22, t23, t24, t25, t26, t27, t28, t29, t30, t31, t32, t33, t34, t35, t36, t37, t38, t39, t40, t41, t42, t43, t44, t45, u46, u47, u48, u49, u50, u51, u52, u53, u54, t55, t56, t57, t58, t59, t60, t61, t62, t63, t64, t65, t66, t67, t68, t69, t70, t71, t72, t73, t74, t75, t76, t77, t78, t79, t80, t81, t82, t83, t84, t85, t86, t87, t88, t89, t90, t91, t92, t93, t94], []⟩ w2)) :
    Code.wp Tryz.prog ((Tryz.f78.body.bind (regionOf 11)).getD .skip) Q ⟨#[.slice (some ⟨g, 0, none⟩) m c, .int .i64 (i : Int), t2, t3, t4, t5, t6, .int .i64 1, t8, .slice (some ⟨h, 0, none⟩) n cap, t10, t11, t12, t13, t14, t15, t16, t17, t18, t19, t20, t21, t22, t23, t24, t25, t26, t27, t28, t29, t30, t31, t32, t33, t34, t35, t36, t37, t38, t39, t40, t41, t42, t43, t44, t45, t46, t47, t48, t49, t50, t51, t52, t53, t54, t55, t56, t57, t58, t59, t60, t61, t62, t63, t64, t65, t66, t67, t68, t69, t70, t71, t72, t73, t74, t75, t76, t77, t78, t79, t80, t81, t82, t83, t84, t85, t86, t87, t88, t89, t90, t91, t92, t93, t94], []⟩ w1 := by
  have hw1 : IntKind.i64.wrap (j : Int) = (j : Int) := by rw [IntKind.wrap_i64]; omega
  have hci : ¬ ((c : Nat) : Int) = (i : Int) := by omega
  have hcj : ¬ ((cap : Nat) : Int) = (j : Int) := by omega
  have hci' : ¬ (c = i) := by omega
  have hcj' : ¬ (cap = j) := by omega
  conv => arg 2; whnf
  refine wp_region_but (S := fun _ => True) (n := 8) mixed5 ?_
  refine but_take (i := 0) (v := .slice (some ⟨h, 0, none⟩) n cap) rfl (by kernel_rfl) (fun _ _ _ h => h) (.inl ⟨rfl, fun w _ => ?_⟩) trivial ?_
  · go_simp
    try omega
  simp only [Act.put, List.setIfInBounds_toArray, List.set_cons_zero, List.set_cons_succ]
  refine but_take (i := 1) (v := .int .i64 (i : Int)) rfl (by kernel_rfl) (fun _ _ _ h => h) (.inl ⟨rfl, fun w _ => ?_⟩) trivial ?_
  · go_simp
    try omega
  simp only [Act.put, List.setIfInBounds_toArray, List.set_cons_zero, List.set_cons_succ]
  refine but_take (i := 2) (v := .int .i64 1) rfl (by kernel_rfl) (fun _ _ _ h => h) (.inl ⟨rfl, fun w _ => ?_⟩) trivial ?_
  · go_simp
    try omega
  simp only [Act.put, List.setIfInBounds_toArray, List.set_cons_zero, List.set_cons_succ]
  refine but_take (i := 3) (v := .int .i64 (j : Int)) rfl (by kernel_rfl) (fun _ _ _ h => h) (.inl ⟨rfl, fun w _ => ?_⟩) trivial ?_
  · go_simp
    try omega
  simp only [Act.put, List.setIfInBounds_toArray, List.set_cons_zero, List.set_cons_succ]
  refine but_take (i := 4) (v := .slice (some ⟨h, j * 2, none⟩) (n - j) (cap - j)) rfl (by kernel_rfl) (fun _ _ _ h => h) (.inl ⟨rfl, fun w _ => ?_⟩) trivial ?_
  · go_simp
    try omega
  simp only [Act.put, List.setIfInBounds_toArray, List.set_cons_zero, List.set_cons_succ]
  refine but_take (i := 5) (v := .slice (some ⟨g, 0, none⟩) m c) rfl (by kernel_rfl) (fun _ _ _ h => h) (.inl ⟨rfl, fun w _ => ?_⟩) trivial ?_
  · go_simp
    try omega
  simp only [Act.put, List.setIfInBounds_toArray, List.set_cons_zero, List.set_cons_succ]
  refine but_take (i := 6) (v := .int .i64 (i : Int)) rfl (by kernel_rfl) (fun _ _ _ h => h) (.inl ⟨rfl, fun w _ => ?_⟩) trivial ?_
  · go_simp
    try omega
  simp only [Act.put, List.setIfInBounds_toArray, List.set_cons_zero, List.set_cons_succ]
  refine but_take (i := 7) (v := .slice (some ⟨g, i * 2, none⟩) (m - i) (c - i)) rfl (by kernel_rfl) (fun _ _ _ h => h) (.inl ⟨rfl, fun w _ => ?_⟩) trivial ?_
  · go_simp
    try omega
  simp only [Act.put, List.setIfInBounds_toArray, List.set_cons_zero, List.set_cons_succ]
  refine but_one (i := 8) (by kernel_rfl) rfl rfl ?_
  intro K hK
  obtain ⟨r, e⟩ := hA.out 3
  refine wp_of_run8 (v := r) (w' := w2) ?_ ?_
  · simp [execOp, Act.eval, resolve, invoke, builtin]
    rw [e]
    simp
  refine hK.out _ _ (fun h => absurd rfl h) ?_
  clear hK
  try simp only [Act.put, List.setIfInBounds_toArray, List.set_cons_zero, List.set_cons_succ]
  refine AnyBut.done (by kernel_rfl) ?_ _
  refine NoPanic.normal ?_
  exact hQ.out _ _ _ _ _ _ _ _ _
set_option maxHeartbeats 4000000 in
set_option maxRecDepth 60000 in
theorem insLn_end {B n vb : Nat} {v : Value} {xs vs : List Value} (w : World) (hown : w.ownsRow B 55 2 v n xs) (hB : B ≤ w.heap.size) (hn : (n : Int) ≤ 1000) (hvl : vs.length = 2) (hvb : w.heap[vb]? = some (.cells vs.toArray 55 (0, 0))) (h1v : ∀ u ∈ vs, u.oneCell' = true) :
    Calls Tryz.prog 78 #[v, .int .i64 (n : Int), .slice (some ⟨vb, 0, none⟩) 1 1] w fun e w' => InsP w B 55 2 n v (xs ++ vs) e w' := by
  obtain ⟨i0, hi, hz0, hz1, hz2⟩ := info_parts infoLn9
  have hnews : ∀ j u, vs[j]? = some u → w.cell? ((⟨vb, 0, none⟩ : Addr).add j) = some u := fun j u hj => by
    rw [addr_add]
    simp only [World.cell?, hvb]
    simpa using hj
  have HVL : Hid (vs.length = 2) := hvl
  have H1 : Hid (∀ u ∈ vs, u.oneCell' = true) := h1v
  have HO0 : Hid (w.ownsRow B 55 2 v n xs) := hown
  have HN : Hid ((n : Int) ≤ 1000) := hn
  clear hvl h1v hvb
  rcases hown.2 with ⟨rfl, rfl⟩ | ⟨g, cap, cur, rfl, -, -, hnc, hcm, -, -⟩
  · clear hown
    go_enter Tryz.func78, Tryz.ntmps78
    go_wp2_with (at_builtin; refine wpList_append_own _ rfl _ _ 22 rfl B 55 i0 (.agg #[.string ⟨#[]⟩, .slice none 0 0]) 2 40 Tryz.underlying22 hi hz0 hz1 hz2 rfl (by decide) _ _ _ rfl HO0.out ⟨vb, 0, none⟩ 1 1 vs rfl (by rw [HVL.out]) hnews H1.out (by unfold maxLen; omega) (by omega) hB ?_)
    intro v7 w7 hown7 hg7 hiff
    obtain ⟨g, c, rfl, -, -, -⟩ := own_some hown7 (by decide)
    have HO : Hid (w7.ownsRow B 55 2 (.slice (some ⟨g, 0, none⟩) (0 + 1) c) (0 + 1) (xs ++ vs)) := hown7
    have HG : Hid (w.grownBy w7 (Value.slice none 0 0).ownBlock) := hg7
    clear hown7 hg7 hiff hnews
    go_wp2_with fail
    go_ret
    exact ⟨g, c, rfl, HO.out, HG.out⟩
  · clear hown
    have hcap : (cap : Int) ≤ 9223372036854775807 := by unfold maxLen at hcm; omega
    have hnc' : (n : Int) ≤ (cap : Int) := by omega
    have hbig : n + 1 ≤ maxLen := by unfold maxLen; omega
    go_enter Tryz.func78, Tryz.ntmps78
    go_wp2_with (at_builtin; refine wpList_append_own _ rfl _ _ 22 rfl B 55 i0 (.agg #[.string ⟨#[]⟩, .slice none 0 0]) 2 40 Tryz.underlying22 hi hz0 hz1 hz2 rfl (by decide) _ _ _ rfl HO0.out ⟨vb, 0, none⟩ 1 1 vs rfl (by rw [HVL.out]) hnews H1.out hbig (by omega) hB ?_)
    all_goals
      intro v7 w7 hown7 hg7 hiff
      obtain ⟨g7, c7, rfl, -, -, -⟩ := own_some hown7 (by omega)
      have HO : Hid (w7.ownsRow B 55 2 (.slice (some ⟨g7, 0, none⟩) (n + 1) c7) (n + 1) (xs ++ vs)) := hown7
      have HG : Hid (w.grownBy w7 (Value.slice (some ⟨g, 0, none⟩) n cap).ownBlock) := hg7
      clear hown7 hg7 hiff hnews
      go_wp2_with fail
      go_ret
      exact ⟨g7, c7, rfl, HO.out, HG.out⟩
theorem ovLn_no {vb g S : Nat} {vs cur : List Value} (w : World) (hne : vb ≠ g) (hvb : w.heap[vb]? = some (.cells vs.toArray 55 (0, 0))) (hg : w.heap[g]? = some (.cells cur.toArray 55 (0, 0))) (hc : 0 < cur.length) (lb cb : Nat) :
    (callFunc 114 #[.slice (some ⟨vb, 0, none⟩) 1 1, .slice (some ⟨g, S, none⟩) lb cb]).run Tryz.prog w = .ok (.value (.bool false)) w := by
  rw [run_callFunc_extern Tryz.func114 (by kernel_rfl) (by kernel_rfl) (by kernel_rfl) (e := Extern.SlicesOverlaps.overlaps #[22, 22] #[4]) (by kernel_rfl),
    Lib.run_overlaps_apart w 22 4 55 Tryz.underlying22 2 Tryz.sizeOf55 ⟨vb, 0, none⟩ ⟨g, S, none⟩ 1 1 lb cb hne 55 55 vs.length cur.length (by simp [World.shape?, hvb]) (by simp [World.shape?, hg]) (by omega) (by simp [World.frozen?, hvb]) (by simp [World.frozen?, hvb])]
  rfl
set_option maxHeartbeats 4000000 in
set_option maxRecDepth 60000 in
theorem insLn_shift {B g n cap vb : Nat} {xs vs : List Value} (w : World) (hown : w.ownsRow B 55 2 (.slice (some ⟨g, 0, none⟩) n cap) n xs) (i j : Nat) (hi : i < n) (hj : j = i + 1) (hn : (n : Int) ≤ 1000) (hroom : n < cap) (hvl : vs.length = 2) (hvb : w.heap[vb]? = some (.cells vs.toArray 55 (0, 0))) (hne : vb ≠ g) (h1v : ∀ u ∈ vs, u.oneCell' = true) (h1 : ∀ u ∈ xs, u.oneCell' = true) :
    Calls Tryz.prog 78 #[.slice (some ⟨g, 0, none⟩) n cap, .int .i64 (i : Int), .slice (some ⟨vb, 0, none⟩) 1 1] w fun e w' => InsP w B 55 2 n (.slice (some ⟨g, 0, none⟩) n cap) (xs.take (i * 2) ++ (vs ++ xs.drop (i * 2))) e w' := by
  obtain ⟨cur, hg, hcl, hct, hB, hnc, hcm, hxl⟩ := own_whole hown
  obtain ⟨i0, hi0, hz0, hz1, hz2⟩ := info_parts infoLn9
  have hcap : (cap : Int) ≤ 9223372036854775807 := by unfold maxLen at hcm; omega
  have hdl : (xs.drop (i * 2)).length = (n - i) * 2 := by rw [List.length_drop, hxl, Nat.sub_mul]
  have hxc : ∀ q u, xs[q]? = some u → w.cell? ⟨g, q, none⟩ = some u := fun q u hq => by
    rw [← hct, List.getElem?_take] at hq
    split at hq
    · simp only [World.cell?, hg]
      simpa using hq
    · cases hq
  have hvc : ∀ q u, vs[q]? = some u → w.cell? ⟨vb, q, none⟩ = some u := fun q u hq => by
    simp only [World.cell?, hvb]
    simpa using hq
  have h1d : ∀ u ∈ xs.drop (i * 2), u.oneCell' = true := fun u hu => h1 u (List.mem_of_mem_drop hu)
  have hxt : cur.take (i * 2) = xs.take (i * 2) := by rw [← hct, List.take_take, Nat.min_eq_left (by omega)]
  have hyl : (xs.take (i * 2) ++ (vs ++ xs.drop (i * 2))).length = (n + 1) * 2 := by rw [List.length_append, List.length_append, List.length_take, hdl, hxl, hvl]; omega
  obtain ⟨cur2, hcur2⟩ : ∃ c2, c2 = splice cur (j * 2) (xs.drop (i * 2)) := ⟨_, rfl⟩
  obtain ⟨cur3, hcur3⟩ : ∃ c3, c3 = splice cur2 (i * 2) vs := ⟨_, rfl⟩
  have hl2 : cur2.length = cap * 2 := by rw [hcur2, length_splice _ _ _ (by rw [hdl, hcl]; omega)]; exact hcl
  have hl3 : cur3.length = cap * 2 := by rw [hcur3, length_splice _ _ _ (by rw [hvl, hl2]; omega)]; exact hl2
  obtain ⟨w2, hw2⟩ : ∃ w2, w2 = w.drew.setRow g cur2.toArray := ⟨_, rfl⟩
  obtain ⟨w3, hw3⟩ : ∃ w3, w3 = w2.setRow g cur3.toArray := ⟨_, rfl⟩
  have hg2 : w2.heap[g]? = some (.cells cur2.toArray 55 (0, 0)) := by rw [hw2]; exact setRow_heap w.drew g _ _ _ _ hg
  have hg3 : w3.heap[g]? = some (.cells cur3.toArray 55 (0, 0)) := by rw [hw3]; exact setRow_heap w2 g _ _ _ _ hg2
  have hvb2 : w2.heap[vb]? = some (.cells vs.toArray 55 (0, 0)) := by rw [hw2, setRow_other _ _ _ _ hne]; exact hvb
  have HO : Hid (w3.ownsRow B 55 2 (.slice (some ⟨g, 0, none⟩) (n + 1) cap) (n + 1) (xs.take (i * 2) ++ (vs ++ xs.drop (i * 2)))) := by
    refine whole_own (cur := cur3) hg3 hl3 ?_ hB (by omega) hcm hyl
    have e := take_splice_back cur vs (xs.drop (i * 2)) (i * 2) (j * 2) (by rw [hvl]; omega) (by rw [hcl]; omega)
    rw [hdl, hxt, show j * 2 + (n - i) * 2 = (n + 1) * 2 by omega] at e
    rw [hcur3, hcur2]
    exact e
  have HG : Hid (w.grownBy w3 (Value.slice (some ⟨g, 0, none⟩) n cap).ownBlock) := by
    have a1 : w.grownBy w.drew (some g) := ⟨rfl, rfl, rfl, Nat.le_refl _, fun _ _ _ => rfl⟩
    show w.grownBy w3 (some g)
    rw [hw3, hw2]
    exact grownBy_trans a1 (grownBy_trans (setRow_grownBy _) (setRow_grownBy _))
  have HA : Hid (∀ ty, ∃ r, (Builtin.copy_ #[22, 22] ty #[.slice (some ⟨g, j * 2, none⟩) (n + 1 - j) (cap - j), .slice (some ⟨g, i * 2, none⟩) (n + 1 - i) (cap - i)]).run Tryz.prog w.drew = .ok r w2) := fun ty => ⟨_, by
    rw [hw2, hcur2]
    exact run_copy_many w.drew 22 22 ty 55 i0 2 Tryz.underlying22 hi0 hz1 g (j * 2) (n + 1 - j) (cap - j) ⟨g, i * 2, none⟩ (n + 1 - i) (cap - i) (n - i) cur _ 55 hg (by rw [show n + 1 - j = n - i by omega]; exact Nat.min_eq_right (by omega)) hdl (fun q u hq => by
      rw [addr_add]
      rw [List.getElem?_drop] at hq
      exact hxc _ _ hq) h1d (by rw [hdl, hcl]; omega)⟩
  have hcp : ∀ ty, (Builtin.copy_ #[22, 22] ty #[.slice (some ⟨g, i * 2, none⟩) (n + 1 - i) (cap - i), .slice (some ⟨vb, 0, none⟩) 1 1]).run Tryz.prog w2 = .ok (goInt 1) w3 := fun ty => by
    rw [hw3, hcur3]
    exact run_copy_many w2 22 22 ty 55 i0 2 Tryz.underlying22 hi0 hz1 g (i * 2) (n + 1 - i) (cap - i) ⟨vb, 0, none⟩ 1 1 1 cur2 vs 55 hg2 (Nat.min_eq_left (by omega)) (by rw [hvl]) (fun q u hq => by
      rw [addr_add, Nat.zero_add]
      simp only [World.cell?, hvb2]
      simpa using hq) h1v (by rw [hvl, hl2]; omega)
  have hov : ∀ lb cb, (callFunc 114 #[.slice (some ⟨vb, 0, none⟩) 1 1, .slice (some ⟨g, j * 2, none⟩) lb cb]).run Tryz.prog w = .ok (.value (.bool false)) w := fun lb cb => ovLn_no w hne hvb hg (by rw [hcl]; omega) lb cb
  have hij : (i : Int) + 1 = (j : Int) := by omega
  have hin : ¬ (i : Int) = (n : Int) := by omega
  have hrm : ¬ (cap : Int) < (n : Int) + 1 := by omega
  have hb1 : (n : Int) + 1 ≤ (cap : Int) := by omega
  have hb2 : (i : Int) ≤ (n : Int) := by omega
  have hb3 : (j : Int) ≤ (n : Int) + 1 := by omega
  have hb4 : ¬ (cap = j) := by omega
  have hb5 : ¬ (cap = i) := by omega
  have hb6 : (i : Int) ≤ (n : Int) + 1 := by omega
  have HQ : Hid (((n + 1 : Nat) : Int) ≤ 2000 ∧ (j : Int) ≤ ((n + 1 : Nat) : Int) ∧ ((n + 1 : Nat) : Int) < (cap : Int) + 1 ∧ (j : Int) < (cap : Int)) := by show _ ∧ _; omega
  clear hown hj hi hg hcl hct hB hnc hcm hxl hi0 hz0 hz1 hz2 hdl hxc hvc h1d hxt hyl hcur2 hcur3 hl2 hl3 hw2 hw3 hg2 hg3 hvb2 hvb hvl h1 h1v hroom
  go_enter Tryz.func78, Tryz.ntmps78
  go_upto_region 15 with (simp only [hov])
  refine insLn_15 _ _ _ _ _ _ _ _ _ _ _ _ _ _ _ _ _ _ _ _ _ _ _ _ _ _ _ _ _ _ _ _ _ _ _ _ _ _ _ _ _ _ _ _ _ _ _ _ _ _ _ _ _ _ _ _ _ _ _ _ _ _ _ _ _ _ _ _ _ _ _ _ _ _ _ _ _ _ _ _ _ _ _ _ _ _ _ _ _ _ _ _ g (n + 1) cap i j w w2 _ hij HQ.out.1 HQ.out.2.1 HQ.out.2.2.2 HA (fun u69 u70 u71 u72 u73 u74 u75 u76 u77 => ?_)
  dsimp only
  go_wp2_with fail
  go_ret
  exact ⟨g, cap, rfl, HO.out, HG.out⟩
set_option maxHeartbeats 4000000 in
set_option maxRecDepth 60000 in
theorem insLn_grow {B g n cap vb : Nat} {xs vs : List Value} (w : World) (hown : w.ownsRow B 55 2 (.slice (some ⟨g, 0, none⟩) n cap) n xs) (hBw : B ≤ w.heap.size) (i j : Nat) (hi : i < n) (hj : j = i + 1) (hn : (n : Int) ≤ 1000) (hroom : cap < n + 1) (hvl : vs.length = 2) (hvb : w.heap[vb]? = some (.cells vs.toArray 55 (0, 0))) (h1v : ∀ u ∈ vs, u.oneCell' = true) (h1 : ∀ u ∈ xs, u.oneCell' = true) :
    Calls Tryz.prog 78 #[.slice (some ⟨g, 0, none⟩) n cap, .int .i64 (i : Int), .slice (some ⟨vb, 0, none⟩) 1 1] w fun e w' => InsP w B 55 2 n (.slice (some ⟨g, 0, none⟩) n cap) (xs.take (i * 2) ++ (vs ++ xs.drop (i * 2))) e w' := by
  obtain ⟨cur, hg, hcl, hct, hB, hnc, hcm, hxl⟩ := own_whole hown
  obtain ⟨i0, hi0, hz0, hz1, hz2⟩ := info_parts infoLn9
  have hcap : (cap : Int) ≤ 9223372036854775807 := by unfold maxLen at hcm; omega
  have hdl : (xs.drop (i * 2)).length = (n - i) * 2 := by rw [List.length_drop, hxl, Nat.sub_mul]
  have hxc : ∀ q u, xs[q]? = some u → w.cell? ⟨g, q, none⟩ = some u := fun q u hq => by
    rw [← hct, List.getElem?_take] at hq
    split at hq
    · simp only [World.cell?, hg]
      simpa using hq
    · cases hq
  have hvc : ∀ q u, vs[q]? = some u → w.cell? ⟨vb, q, none⟩ = some u := fun q u hq => by
    simp only [World.cell?, hvb]
    simpa using hq
  have h1d : ∀ u ∈ xs.drop (i * 2), u.oneCell' = true := fun u hu => h1 u (List.mem_of_mem_drop hu)
  have hxt : cur.take (i * 2) = xs.take (i * 2) := by rw [← hct, List.take_take, Nat.min_eq_left (by omega)]
  have hyl : (xs.take (i * 2) ++ (vs ++ xs.drop (i * 2))).length = (n + 1) * 2 := by rw [List.length_append, List.length_append, List.length_take, hdl, hxl, hvl]; omega
  have hgw : g < w.heap.size := (Array.getElem?_eq_some_iff.1 hg).1
  have hvw : vb < w.heap.size := (Array.getElem?_eq_some_iff.1 hvb).1
  have hik : i + (n + 1 - i) = n + 1 := by omega
  have hkk : (n : Int) + 1 - (i : Int) = ((n + 1 - i : Nat) : Int) := by omega
  have hold : (Builtin.firstCells i0.size i (.slice (some ⟨g, 0, none⟩) i cap)).run Tryz.prog w.drew = .ok (xs.take (i * 2)).toArray w.drew := by
    rw [hz1]
    exact run_firstCells_some w.drew 2 i ⟨g, 0, none⟩ i cap (xs.take (i * 2)) (by rw [List.length_take, hxl]; omega) (fun q u hq => by
      rw [addr_add, Nat.zero_add]
      rw [List.getElem?_take] at hq
      split at hq
      · exact hxc _ _ hq
      · cases hq)
  have hGn := grownCap_ge w (n + 1) cap 55
  have hGm := grownCap_le_maxLen w (n + 1) cap 55 (by unfold maxLen; omega)
  have hrz0 := fun ty => Lib.run_append_grow_zeros w 22 3 ty 55 i0 (.agg #[.string ⟨#[]⟩, .slice none 0 0]) .i64 .i64 Tryz.underlying22 Tryz.underlying3 hi0 hz0 (some ⟨g, 0, none⟩) i cap (xs.take (i * 2)) hold (n + 1 - i) (by omega) (by rw [hz1]; decide) (by omega) (by omega) (by rw [hz2]; omega) (by rw [hz2, hik]; exact growslice_fits hroom (by omega))
  rw [hik] at hrz0
  generalize grownCap w (n + 1) cap 55 = G at hGn hGm hrz0
  obtain ⟨cur1, hcur1⟩ : ∃ c1 : List Value, c1.toArray = (xs.take (i * 2)).toArray ++ Builtin.zeroCells (Value.cells (.agg #[.string ⟨#[]⟩, .slice none 0 0])) (n + 1 - i) ++ Builtin.zeroCells (Value.cells (.agg #[.string ⟨#[]⟩, .slice none 0 0])) (G - (n + 1)) := ⟨_, Array.toArray_toList⟩
  have hzc : (Value.cells (.agg #[.string ⟨#[]⟩, .slice none 0 0])).size = 2 := by rfl
  have hl1 : cur1.length = G * 2 := by
    have e := congrArg Array.size hcur1
    rw [List.size_toArray, Array.size_append, Array.size_append, size_zeroCells, size_zeroCells, hzc, List.size_toArray, List.length_take, hxl] at e
    omega
  have ht1 : cur1.take (i * 2) = xs.take (i * 2) := by
    have e := congrArg Array.toList hcur1
    rw [Array.toList_append, Array.toList_append] at e
    have e' : cur1 = xs.take (i * 2) ++ ((Builtin.zeroCells (Value.cells (.agg #[.string ⟨#[]⟩, .slice none 0 0])) (n + 1 - i)).toList ++ (Builtin.zeroCells (Value.cells (.agg #[.string ⟨#[]⟩, .slice none 0 0])) (G - (n + 1))).toList) := by simpa [List.append_assoc] using e
    have hle : (xs.take (i * 2)).length = i * 2 := by rw [List.length_take, hxl]; omega
    rw [e', List.take_append_of_le_length (by omega), List.take_of_length_le (by omega)]
  rw [← hcur1] at hrz0
  clear hcur1
  obtain ⟨cur2, hcur2⟩ : ∃ c2, c2 = splice cur1 (i * 2) vs := ⟨_, rfl⟩
  obtain ⟨cur3, hcur3⟩ : ∃ c3, c3 = splice cur2 (j * 2) (xs.drop (i * 2)) := ⟨_, rfl⟩
  have hl2 : cur2.length = G * 2 := by rw [hcur2, length_splice _ _ _ (by rw [hvl, hl1]; omega)]; exact hl1
  have hl3 : cur3.length = G * 2 := by rw [hcur3, length_splice _ _ _ (by rw [hdl, hl2]; omega)]; exact hl2
  obtain ⟨h, hh⟩ : ∃ h, h = w.heap.size := ⟨_, rfl⟩
  obtain ⟨w1, hw1⟩ : ∃ w1, w1 = w.drew.alloc (.cells cur1.toArray 55) := ⟨_, rfl⟩
  rw [← hw1, ← hh] at hrz0
  obtain ⟨w2, hw2⟩ : ∃ w2, w2 = w1.setRow h cur2.toArray := ⟨_, rfl⟩
  obtain ⟨w3, hw3⟩ : ∃ w3, w3 = w2.drew.setRow h cur3.toArray := ⟨_, rfl⟩
  have hb01 : Below w.heap.size w w1 := by rw [hw1]; exact below2 (below_drew w) (below_alloc w.drew _)
  have hg1 : w1.heap[h]? = some (.cells cur1.toArray 55 (0, 0)) := by rw [hw1, hh]; exact Array.getElem?_push_size
  have hg2 : w2.heap[h]? = some (.cells cur2.toArray 55 (0, 0)) := by rw [hw2]; exact setRow_heap w1 h _ _ _ _ hg1
  have hg3 : w3.heap[h]? = some (.cells cur3.toArray 55 (0, 0)) := by rw [hw3]; exact setRow_heap w2.drew h _ _ _ _ hg2
  have hb02 : Below w.heap.size w w2 := by rw [hw2]; exact hb01.trans (setRow_below _ (by omega))
  have hb03 : Below w.heap.size w w3 := by rw [hw3]; exact (hb02.trans ⟨rfl, rfl, rfl, Nat.le_refl _, fun _ _ => rfl⟩ : Below w.heap.size w w2.drew).trans (setRow_below _ (by omega))
  have HO : Hid (w3.ownsRow B 55 2 (.slice (some ⟨h, 0, none⟩) (n + 1) G) (n + 1) (xs.take (i * 2) ++ (vs ++ xs.drop (i * 2)))) := by
    refine whole_own (cur := cur3) hg3 hl3 ?_ (by omega) hGn hGm hyl
    have e := take_splice_two cur1 vs (xs.drop (i * 2)) (i * 2) (j * 2) (by rw [hvl]; omega) (by rw [hl1]; omega)
    rw [hdl, ht1, show j * 2 + (n - i) * 2 = (n + 1) * 2 by omega] at e
    rw [hcur3, hcur2]
    exact e
  have HG : Hid (w.grownBy w3 (Value.slice (some ⟨g, 0, none⟩) n cap).ownBlock) := below_grownBy hb03 _
  have hrz : ∀ ty, (Builtin.append_ #[22, 3] ty #[.slice (some ⟨g, 0, none⟩) i cap, .int .i64 ((n : Int) + 1 - (i : Int))]).run Tryz.prog w = .ok (.slice (some ⟨h, 0, none⟩) (n + 1) G) w1 := fun ty => by
    rw [hkk]
    exact hrz0 ty
  have hcp : ∀ ty, (Builtin.copy_ #[22, 22] ty #[.slice (some ⟨h, i * 2, none⟩) (n + 1 - i) (G - i), .slice (some ⟨vb, 0, none⟩) 1 1]).run Tryz.prog w1 = .ok (goInt 1) w2 := fun ty => by
    rw [hw2, hcur2]
    exact run_copy_many w1 22 22 ty 55 i0 2 Tryz.underlying22 hi0 hz1 h (i * 2) (n + 1 - i) (G - i) ⟨vb, 0, none⟩ 1 1 1 cur1 vs 55 hg1 (Nat.min_eq_left (by omega)) (by rw [hvl]) (fun q u hq => by
      rw [addr_add, Nat.zero_add, World.cell?_of_block (hb01.block vb hvw)]
      exact hvc _ _ hq) h1v (by rw [hvl, hl1]; omega)
  have HA : Hid (∀ ty, ∃ r, (Builtin.copy_ #[22, 22] ty #[.slice (some ⟨h, j * 2, none⟩) (n + 1 - j) (G - j), .slice (some ⟨g, i * 2, none⟩) (n - i) (cap - i)]).run Tryz.prog w2.drew = .ok r w3) := fun ty => ⟨_, by
    rw [hw3, hcur3]
    exact run_copy_many w2.drew 22 22 ty 55 i0 2 Tryz.underlying22 hi0 hz1 h (j * 2) (n + 1 - j) (G - j) ⟨g, i * 2, none⟩ (n - i) (cap - i) (n - i) cur2 _ 55 hg2 (by rw [show n + 1 - j = n - i by omega]; exact Nat.min_self _) hdl (fun q u hq => by
      rw [addr_add]
      rw [List.getElem?_drop] at hq
      show w2.cell? _ = _
      rw [World.cell?_of_block (hb02.block g hgw)]
      exact hxc _ _ hq) h1d (by rw [hdl, hl2]; omega)⟩
  have hij : (i : Int) + 1 = (j : Int) := by omega
  have hin : ¬ (i : Int) = (n : Int) := by omega
  have hrm : (cap : Int) < (n : Int) + 1 := by omega
  have hb1 : (n : Int) ≤ (cap : Int) := by omega
  have hb2 : (i : Int) ≤ (n : Int) := by omega
  have hb3 : (i : Int) ≤ (n : Int) + 1 := by omega
  have hb4 : ¬ (G = i) := by omega
  have hb5 : ¬ (cap = i) := by omega
  have hGc : (G : Int) ≤ 9223372036854775807 := by unfold maxLen at hGm; omega
  have hb6 : (n : Int) + 1 ≤ (G : Int) := by omega
  have HQ : Hid (((n + 1 : Nat) : Int) ≤ 2000 ∧ (j : Int) ≤ ((n + 1 : Nat) : Int) ∧ ((n + 1 : Nat) : Int) < (G : Int) + 1 ∧ (j : Int) < (G : Int) ∧ (i : Int) < (n : Int) ∧ (n : Int) < (cap : Int) + 1) := by show _ ∧ _; omega
  clear hown hj hi hg hcl hct hB hnc hcm hxl hi0 hz0 hz1 hz2 hdl hxc hvc h1d hxt hyl hcur2 hcur3 hl1 hl2 hl3 hw1 hw2 hw3 hg1 hg2 hg3 hvb hvl h1 h1v hroom hb01 hb02 hb03 hrz0 hkk hik hold hGn hGm ht1 hzc hh hgw hvw
  go_enter Tryz.func78, Tryz.ntmps78
  go_upto_region 11 with (at_builtin; refine Lib.wpList_append_run _ rfl _ _ _ _ rfl _ _ rfl rfl _ _ (hrz _) ?_)
  refine insLn_11 _ _ _ _ _ _ _ _ _ _ _ _ _ _ _ _ _ _ _ _ _ _ _ _ _ _ _ _ _ _ _ _ _ _ _ _ _ _ _ _ _ _ _ _ _ _ _ _ _ _ _ _ _ _ _ _ _ _ _ _ _ _ _ _ _ _ _ _ _ _ _ _ _ _ _ _ _ _ _ _ _ _ _ _ _ _ _ _ _ _ _ g h (n + 1) n G cap i j w2 w3 _ hij HQ.out.1 HQ.out.2.1 HQ.out.2.2.2.1 HQ.out.2.2.2.2.1 HQ.out.2.2.2.2.2 HA (fun u46 u47 u48 u49 u50 u51 u52 u53 u54 => ?_)
  dsimp only
  go_wp2_with fail
  go_ret
  exact ⟨h, G, rfl, HO.out, HG.out⟩
theorem insLn_any {B n vb : Nat} {v : Value} {xs vs : List Value} (w : World) (hown : w.ownsRow B 55 2 v n xs) (hBw : B ≤ w.heap.size) (i : Nat) (hi : i ≤ n) (hn : (n : Int) ≤ 1000) (hvl : vs.length = 2) (hvb : w.heap[vb]? = some (.cells vs.toArray 55 (0, 0))) (hne : v.ownBlock ≠ some vb) (h1v : ∀ u ∈ vs, u.oneCell' = true) (h1 : ∀ u ∈ xs, u.oneCell' = true) :
    Calls Tryz.prog 78 #[v, .int .i64 (i : Int), .slice (some ⟨vb, 0, none⟩) 1 1] w fun e w' => InsP w B 55 2 n v (xs.take (i * 2) ++ (vs ++ xs.drop (i * 2))) e w' := by
  by_cases he : i = n
  · subst he
    have hx := hown.1
    rw [List.take_of_length_le (by omega), List.drop_of_length_le (by omega), List.append_nil]
    exact insLn_end w hown hBw hn hvl hvb h1v
  · rcases hown.2 with ⟨-, rfl⟩ | ⟨g, cap, cur, rfl, -, -, hnc, -, -, -⟩
    · omega
    · have hne' : vb ≠ g := fun e => hne (by rw [e]; rfl)
      by_cases hr : n < cap
      · exact insLn_shift w hown i (i + 1) (by omega) rfl hn hr hvl hvb hne' h1v h1
      · exact insLn_grow w hown hBw i (i + 1) (by omega) rfl hn (by omega) hvl hvb h1v h1
end Go.Proofs.YtihohcmocejijaaGreat.Bk
