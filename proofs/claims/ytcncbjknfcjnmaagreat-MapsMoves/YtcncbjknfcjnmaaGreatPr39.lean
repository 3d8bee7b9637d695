/-
  The texts that the law's Light is told beside.
  The law MapsMoves: the region that asks who stands, ahead and behind.
-/
import Derived.Test.YtcncbjknfcjnmaaGreatPr37
import Derived.Test.YtcncbjknfcjnmaaGreatPr38
import Derived.Test.YtcncbjknfcjnmaaGreatPr22

namespace Go.Proofs.YtcncbjknfcjnmaaGreat.Tp
open Go.ChangeShapes Go.WideShapes Go.ChangeAt Go.RowKit
set_option maxHeartbeats 4000000 in
set_option maxRecDepth 60000 in
theorem mv_raw (t0 t1 t4 t6 t8 t9 t10 t11 t12 t13 t14 t15 t16 t17 t18 t19 t20 t21 t22 t23 t24 t25 t26 t27 t28 t29 t30 t31 t32 t33 t34 t35 t36 t37 t38 t39 t40 t41 t42 t43 t44 t45 t46 t47 t48 t49 t50 t51 t52 t53 t54 t55 t56 t57 t58 t59 t60 t61 t62 t63 t64 t65 t66 t67 t68 t69 t70 t71 t72 t73 t74 t75 t76 t77 t78 t79 t80 t81 t82 t83 t84 t85 t86 t87 t88 t89 t90 t91 t92 t93 t94 : Value) (bm bd bx : Nat) (g : Int) (rq rx : List Int) (ep sz mn gr : Int) (aN aT aR : Option Addr) (lN cN lT cT lR cR : Nat) (epx szx mnx grx : Int) (aNx aTx aRx : Option Addr) (lNx cNx lTx cTx lRx cRx : Nat) (w1 : World) (Q : Exit → Act → World → Prop)
    (HS : Hid (∀ w', Below w1.heap.size w1 w' → (fun w' => Box7 w' bm (.int .i64 ep) (.int .i64 sz) (.int .i64 mn) (.int .i64 gr) (.slice aN lN cN) (.slice aT lT cT) (.slice aR lR cR) ∧ Box7 w' bx (.int .i64 epx) (.int .i64 szx) (.int .i64 mnx) (.int .i64 grx) (.slice aNx lNx cNx) (.slice aTx lTx cTx) (.slice aRx lRx cRx) ∧ Below w1.heap.size w1 w') w'))
    (H1 : Hid (∀ W, Below w1.heap.size w1 W → Calls Tryz.prog 23 #[.agg #[.int .i64 ep, .int .i64 sz, .int .i64 mn, .int .i64 gr, .slice aN lN cN, .slice aT lT cT, .slice aR lR cR], .int .i64 g] W fun e w' => RowPost rq W e w'))
    (H2 : Hid (∀ W, Below w1.heap.size w1 W → Calls Tryz.prog 23 #[.agg #[.int .i64 epx, .int .i64 szx, .int .i64 mnx, .int .i64 grx, .slice aNx lNx cNx, .slice aTx lTx cTx, .slice aRx lRx cRx], .int .i64 g] W fun e w' => RowPost rx W e w'))
    (hQ : Hid (∀ (u46 u47 u48 u49 u50 u51 : Value) (a1 a2 : Option Addr) (c1 c2 : Nat) (wC : World), RowL wC a1 rq.length rq → RowL wC a2 rx.length rx → Below w1.heap.size w1 wC → Q .normal ⟨#[t0, t1, .pointer (some ⟨bm, 0, none⟩), .pointer (some ⟨bd, 0, none⟩), t4, .pointer (some ⟨bx, 0, none⟩), t6, .int .i64 g, .slice a1 rq.length c1, .slice a2 rx.length c2, t10, t11, t12, t13, t14, t15, t16, t17, t18, t19, t20, t21, t22, t23, t24, t25, t26, t27, t28, t29, t30, t31, t32, t33, t34, t35, t36, t37, t38, t39, t40, t41, t42, t43, t44, t45, u46, u47, u48, u49, u50, u51, t52, t53, t54, t55, t56, t57, t58, t59, t60, t61, t62, t63, t64, t65, t66, t67, t68, t69, t70, t71, t72, t73, t74, t75, t76, t77, t78, t79, t80, t81, t82, t83, t84, t85, t86, t87, t88, t89, t90, t91, t92, t93, t94], []⟩ wC)) :
    Code.wp Tryz.prog ((Tryz.f7.body.bind (regionOf 9)).getD .skip) Q ⟨#[t0, t1, .pointer (some ⟨bm, 0, none⟩), .pointer (some ⟨bd, 0, none⟩), t4, .pointer (some ⟨bx, 0, none⟩), t6, .int .i64 g, t8, t9, t10, t11, t12, t13, t14, t15, t16, t17, t18, t19, t20, t21, t22, t23, t24, t25, t26, t27, t28, t29, t30, t31, t32, t33, t34, t35, t36, t37, t38, t39, t40, t41, t42, t43, t44, t45, t46, t47, t48, t49, t50, t51, t52, t53, t54, t55, t56, t57, t58, t59, t60, t61, t62, t63, t64, t65, t66, t67, t68, t69, t70, t71, t72, t73, t74, t75, t76, t77, t78, t79, t80, t81, t82, t83, t84, t85, t86, t87, t88, t89, t90, t91, t92, t93, t94], []⟩ w1 := by
  have hS : (fun w' => Box7 w' bm (.int .i64 ep) (.int .i64 sz) (.int .i64 mn) (.int .i64 gr) (.slice aN lN cN) (.slice aT lT cT) (.slice aR lR cR) ∧ Box7 w' bx (.int .i64 epx) (.int .i64 szx) (.int .i64 mnx) (.int .i64 grx) (.slice aNx lNx cNx) (.slice aTx lTx cTx) (.slice aRx lRx cRx) ∧ Below w1.heap.size w1 w') w1.drew := HS.out _ (below_drew w1)
  conv => arg 2; whnf
  refine held_start (S := fun w' => Box7 w' bm (.int .i64 ep) (.int .i64 sz) (.int .i64 mn) (.int .i64 gr) (.slice aN lN cN) (.slice aT lT cT) (.slice aR lR cR) ∧ Box7 w' bx (.int .i64 epx) (.int .i64 szx) (.int .i64 mnx) (.int .i64 grx) (.slice aNx lNx cNx) (.slice aTx lTx cTx) (.slice aRx lRx cRx) ∧ Below w1.heap.size w1 w') mixed5 ?_
  refine held_take (i := 0) (v := .agg #[.int .i64 ep, .int .i64 sz, .int .i64 mn, .int .i64 gr, .slice aN lN cN, .slice aT lT cT, .slice aR lR cR]) rfl (by kernel_rfl) (fun _ _ _ h => h) (.inl ⟨rfl, fun w hS => ?_⟩) hS ?_
  · obtain ⟨⟨⟨s0, s1, s2, s3, s4, s5, s6⟩, -⟩, ⟨⟨r0, r1, r2, r3, r4, r5, r6⟩, -⟩, -⟩ := hS
    go_simp
  try simp only [Act.put, List.setIfInBounds_toArray, List.set_cons_zero, List.set_cons_succ]
  refine held_take (i := 1) (v := .int .i64 g) rfl (by kernel_rfl) (fun _ _ _ h => h) (.inl ⟨rfl, fun w hS => ?_⟩) hS ?_
  · obtain ⟨⟨⟨s0, s1, s2, s3, s4, s5, s6⟩, -⟩, ⟨⟨r0, r1, r2, r3, r4, r5, r6⟩, -⟩, -⟩ := hS
    go_simp
  try simp only [Act.put, List.setIfInBounds_toArray, List.set_cons_zero, List.set_cons_succ]
  refine held_take (i := 3) (v := .agg #[.int .i64 epx, .int .i64 szx, .int .i64 mnx, .int .i64 grx, .slice aNx lNx cNx, .slice aTx lTx cTx, .slice aRx lRx cRx]) rfl (by kernel_rfl) (fun _ _ _ h => h) (.inl ⟨rfl, fun w hS => ?_⟩) hS ?_
  · obtain ⟨⟨⟨s0, s1, s2, s3, s4, s5, s6⟩, -⟩, ⟨⟨r0, r1, r2, r3, r4, r5, r6⟩, -⟩, -⟩ := hS
    go_simp
  try simp only [Act.put, List.setIfInBounds_toArray, List.set_cons_zero, List.set_cons_succ]
  refine held_take (i := 4) (v := .int .i64 g) rfl (by kernel_rfl) (fun _ _ _ h => h) (.inl ⟨rfl, fun w hS => ?_⟩) hS ?_
  · obtain ⟨⟨⟨s0, s1, s2, s3, s4, s5, s6⟩, -⟩, ⟨⟨r0, r1, r2, r3, r4, r5, r6⟩, -⟩, -⟩ := hS
    go_simp
  try simp only [Act.put, List.setIfInBounds_toArray, List.set_cons_zero, List.set_cons_succ]
  refine held_one (i := 2) (by kernel_rfl) rfl rfl ?_
  intro K hK
  go_simp
  go_at_call 23
  refine (H1.out _ (below_drew w1)).mono ?_
  rintro en v1 ⟨hv1, a1, c1, rfl, hr1⟩
  have hb1 : Below w1.heap.size w1 v1 := below2 (below_drew w1) hv1
  have HR1 : Hid (RowL v1 a1 rq.length rq) := hr1
  clear hr1
  refine hK.out _ _ (HS.out _ hb1) ?_
  have hS9 := HS.out _ hb1
  clear hK hS
  have hS := hS9
  clear hS9
  try simp only [Act.put, List.setIfInBounds_toArray, List.set_cons_zero, List.set_cons_succ]
  refine held_one (i := 5) (by kernel_rfl) rfl rfl ?_
  intro K hK
  go_simp
  go_at_call 23
  refine (H2.out _ hb1).mono ?_
  rintro en v2 ⟨hv2, a2, c2, rfl, hr2⟩
  have hb2 : Below w1.heap.size w1 v2 := below2 hb1 hv2
  have HR2 : Hid (RowL v2 a2 rx.length rx) := hr2
  clear hr2
  refine hK.out _ _ (HS.out _ hb2) ?_
  have hS9 := HS.out _ hb2
  clear hK hS
  have hS := hS9
  clear hS9
  try simp only [Act.put, List.setIfInBounds_toArray, List.set_cons_zero, List.set_cons_succ]
  refine held_take (i := 6) (v := .slice a1 rq.length c1) rfl (by kernel_rfl) (fun _ _ _ h => h) (.inl ⟨rfl, fun w hS => ?_⟩) hS ?_
  · obtain ⟨⟨⟨s0, s1, s2, s3, s4, s5, s6⟩, -⟩, ⟨⟨r0, r1, r2, r3, r4, r5, r6⟩, -⟩, -⟩ := hS
    go_simp
  try simp only [Act.put, List.setIfInBounds_toArray, List.set_cons_zero, List.set_cons_succ]
  refine held_take (i := 7) (v := .slice a2 rx.length c2) rfl (by kernel_rfl) (fun _ _ _ h => h) (.inl ⟨rfl, fun w hS => ?_⟩) hS ?_
  · obtain ⟨⟨⟨s0, s1, s2, s3, s4, s5, s6⟩, -⟩, ⟨⟨r0, r1, r2, r3, r4, r5, r6⟩, -⟩, -⟩ := hS
    go_simp
  try simp only [Act.put, List.setIfInBounds_toArray, List.set_cons_zero, List.set_cons_succ]
  refine wpAnyH_done (by kernel_rfl) ?_ _
  refine NoPanic.normal ?_
  exact hQ.out _ _ _ _ _ _ a1 a2 c1 c2 _ (HR1.out.below hv2) HR2.out hb2
end Go.Proofs.YtcncbjknfcjnmaaGreat.Tp
