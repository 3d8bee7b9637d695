/-
  The answer's Bits: regions that append.
-/
import Derived.Test.YtcdlkdbnlomghaaDoorGlF
import Derived.Test.YtcdlkdbnlomghaaDoorBiCo
import Derived.Test.YtcdlkdbnlomghaaDoorBkF
namespace Go.Proofs.YtcdlkdbnlomghaaDoor.Gl
open Go.ChangeShapes Go.WideShapes Go.ChangeAt Go.RowKit
open Go.Proofs.YtcdlkdbnlomghaaDoor.Bi
open Go.Proofs.YtcdlkdbnlomghaaDoor.Fr (RowAt cellsI cellsI_get)
open Go.Proofs.YtcdlkdbnlomghaaDoor.Bk (rT rV)
set_option maxHeartbeats 2000000 in
set_option maxRecDepth 60000 in
theorem ref_9 (t0 t1 t2 t3 t5 t6 t8 t9 t10 t11 t12 t13 t14 t15 t16 t17 t18 t19 t20 t21 t22 t23 t24 t25 t26 t27 t28 t29 t30 t31 t32 t33 t34 t35 t36 t37 t38 t39 t40 t41 t42 t43 t44 t45 t46 t47 t48 t49 t50 t51 t52 t53 t54 t55 t56 t57 t58 t59 t60 t61 t62 t63 t64 t65 t66 t67 t68 t69 t70 t71 t72 t73 t74 t75 t76 t77 t78 t79 t80 t81 t82 t83 t84 t85 t86 t87 t88 t89 t90 t91 t92 t93 t94 t95 t96 : Value) (v : Value) (m m1 : Nat) (x : Int) (l : List Bool) (w0 : World) (w1 : World) (Q : Exit → Act → World → Prop)
    (HB1 : Hid (Below w0.heap.size w0 w1)) (HO1 : Hid (w1.ownsRow w0.heap.size 4 1 v m (boV l))) (hm : (m : Int) ≤ 20000) (Hm1 : Hid (m1 = (coded x).length)) (hm1 : (m1 : Int) ≤ 68)
    (HC : Hid (∀ W, Calls Tryd.prog 61 #[.int .i64 x] W fun e w' => BoPost (coded x) W e w'))
    (hQ : Hid (∀ (u41 u42 u43 u44 : Value) (v7 : Value) (wC : World), Below w0.heap.size w0 wC → wC.ownsRow w0.heap.size 4 1 v7 (m + m1) (boV (l ++ coded x)) → Q .normal ⟨#[t0, t1, t2, t3, v7, t5, t6, .int .i64 x, t8, t9, t10, t11, t12, t13, t14, t15, t16, t17, t18, t19, t20, t21, t22, t23, t24, t25, t26, t27, t28, t29, t30, t31, t32, t33, t34, t35, t36, t37, t38, t39, t40, u41, u42, u43, u44, t45, t46, t47, t48, t49, t50, t51, t52, t53, t54, t55, t56, t57, t58, t59, t60, t61, t62, t63, t64, t65, t66, t67, t68, t69, t70, t71, t72, t73, t74, t75, t76, t77, t78, t79, t80, t81, t82, t83, t84, t85, t86, t87, t88, t89, t90, t91, t92, t93, t94, t95, t96], []⟩ wC)) :
    Code.wp Tryd.prog ((Tryd.f37.body.bind (regionOf 9)).getD .skip) Q ⟨#[t0, t1, t2, t3, v, t5, t6, .int .i64 x, t8, t9, t10, t11, t12, t13, t14, t15, t16, t17, t18, t19, t20, t21, t22, t23, t24, t25, t26, t27, t28, t29, t30, t31, t32, t33, t34, t35, t36, t37, t38, t39, t40, t41, t42, t43, t44, t45, t46, t47, t48, t49, t50, t51, t52, t53, t54, t55, t56, t57, t58, t59, t60, t61, t62, t63, t64, t65, t66, t67, t68, t69, t70, t71, t72, t73, t74, t75, t76, t77, t78, t79, t80, t81, t82, t83, t84, t85, t86, t87, t88, t89, t90, t91, t92, t93, t94, t95, t96], []⟩ w1 := by
  conv => arg 2; whnf
  go_wp2_with (first | (go_at_call 61; refine (HC.out w1).mono ?_; rintro e w4 ⟨hb4, al4, c4, rfl, hl4⟩; rw [← Hm1.out] at hl4; rw [← Hm1.out]; have HB4 := Hid.mk9 (HB1.out.trans (hb4.mono HB1.out.size)); have HO4 := Hid.mk9 (own_below HO1.out hb4); have HL4 := Hid.mk9 hl4; clear hb4 hl4) | (at_builtin; refine append_vu (w0 := w0) Tryd.underlying80 infoBo rfl (by decide) rfl _ _ rfl v m _ rfl HO4.out HB4.out _ m1 _ _ rfl HL4.out (boV_one _) (by omega) (by omega) ?_; intro v5 w5 ho5 hb5 hg5; rw [← boV_append] at ho5; have HO7 := Hid.mk9 ho5; have HB7 := Hid.mk9 hb5; clear ho5 hb5 hg5))
  exact hQ.out _ _ _ _ _ _ HB7.out HO7.out
set_option maxHeartbeats 2000000 in
set_option maxRecDepth 60000 in
theorem ref_10 (t0 t1 t2 t3 t5 t6 t7 t9 t10 t11 t12 t13 t14 t15 t16 t17 t18 t19 t20 t21 t22 t23 t24 t25 t26 t27 t28 t29 t30 t31 t32 t33 t34 t35 t36 t37 t38 t39 t40 t41 t42 t43 t44 t45 t46 t47 t48 t49 t50 t51 t52 t53 t54 t55 t56 t57 t58 t59 t60 t61 t62 t63 t64 t65 t66 t67 t68 t69 t70 t71 t72 t73 t74 t75 t76 t77 t78 t79 t80 t81 t82 t83 t84 t85 t86 t87 t88 t89 t90 t91 t92 t93 t94 t95 t96 : Value) (v : Value) (m m1 : Nat) (x : Int) (l : List Bool) (w0 : World) (w1 : World) (Q : Exit → Act → World → Prop)
    (HB1 : Hid (Below w0.heap.size w0 w1)) (HO1 : Hid (w1.ownsRow w0.heap.size 4 1 v m (boV l))) (hm : (m : Int) ≤ 20000) (Hm1 : Hid (m1 = (coded x).length)) (hm1 : (m1 : Int) ≤ 68)
    (HC : Hid (∀ W, Calls Tryd.prog 61 #[.int .i64 x] W fun e w' => BoPost (coded x) W e w'))
    (hQ : Hid (∀ (u45 u46 u47 u48 : Value) (v7 : Value) (wC : World), Below w0.heap.size w0 wC → wC.ownsRow w0.heap.size 4 1 v7 (m + m1) (boV (l ++ coded x)) → Q .normal ⟨#[t0, t1, t2, t3, v7, t5, t6, t7, .int .i64 x, t9, t10, t11, t12, t13, t14, t15, t16, t17, t18, t19, t20, t21, t22, t23, t24, t25, t26, t27, t28, t29, t30, t31, t32, t33, t34, t35, t36, t37, t38, t39, t40, t41, t42, t43, t44, u45, u46, u47, u48, t49, t50, t51, t52, t53, t54, t55, t56, t57, t58, t59, t60, t61, t62, t63, t64, t65, t66, t67, t68, t69, t70, t71, t72, t73, t74, t75, t76, t77, t78, t79, t80, t81, t82, t83, t84, t85, t86, t87, t88, t89, t90, t91, t92, t93, t94, t95, t96], []⟩ wC)) :
    Code.wp Tryd.prog ((Tryd.f37.body.bind (regionOf 10)).getD .skip) Q ⟨#[t0, t1, t2, t3, v, t5, t6, t7, .int .i64 x, t9, t10, t11, t12, t13, t14, t15, t16, t17, t18, t19, t20, t21, t22, t23, t24, t25, t26, t27, t28, t29, t30, t31, t32, t33, t34, t35, t36, t37, t38, t39, t40, t41, t42, t43, t44, t45, t46, t47, t48, t49, t50, t51, t52, t53, t54, t55, t56, t57, t58, t59, t60, t61, t62, t63, t64, t65, t66, t67, t68, t69, t70, t71, t72, t73, t74, t75, t76, t77, t78, t79, t80, t81, t82, t83, t84, t85, t86, t87, t88, t89, t90, t91, t92, t93, t94, t95, t96], []⟩ w1 := by
  conv => arg 2; whnf
  go_wp2_with (first | (go_at_call 61; refine (HC.out w1).mono ?_; rintro e w4 ⟨hb4, al4, c4, rfl, hl4⟩; rw [← Hm1.out] at hl4; rw [← Hm1.out]; have HB4 := Hid.mk9 (HB1.out.trans (hb4.mono HB1.out.size)); have HO4 := Hid.mk9 (own_below HO1.out hb4); have HL4 := Hid.mk9 hl4; clear hb4 hl4) | (at_builtin; refine append_vu (w0 := w0) Tryd.underlying80 infoBo rfl (by decide) rfl _ _ rfl v m _ rfl HO4.out HB4.out _ m1 _ _ rfl HL4.out (boV_one _) (by omega) (by omega) ?_; intro v5 w5 ho5 hb5 hg5; rw [← boV_append] at ho5; have HO7 := Hid.mk9 ho5; have HB7 := Hid.mk9 hb5; clear ho5 hb5 hg5))
  exact hQ.out _ _ _ _ _ _ HB7.out HO7.out
theorem own_lit2 (w : World) (x y : Bool) : VsU (w.alloc (.cells #[.bool x, .bool y] 4)) (some ⟨w.heap.size, 0, none⟩) 2 2 (boV [x, y]) := by
  refine ⟨rfl, Nat.le_refl _, by unfold maxLen; omega, .inr ⟨w.heap.size, 0, rfl, fun i v hv => ?_⟩⟩
  unfold World.cell?
  rw [show (w.alloc (.cells #[.bool x, .bool y] 4)).heap[(⟨w.heap.size, 0 + i, none⟩ : Addr).block]? = _ from heap_alloc_new w _]
  match i with
  | 0 => exact hv
  | 1 => exact hv
  | i + 2 => simp [boV] at hv
set_option maxHeartbeats 2000000 in
set_option maxRecDepth 60000 in
theorem ref_17 (t0 t1 t2 t3 t5 t6 t7 t8 t9 t10 t11 t12 t13 t14 t15 t16 t17 t18 t19 t20 t21 t22 t23 t24 t25 t26 t27 t28 t29 t30 t31 t32 t33 t34 t35 t36 t37 t38 t39 t40 t41 t42 t43 t44 t45 t46 t47 t48 t49 t50 t51 t52 t53 t54 t55 t56 t57 t58 t59 t60 t61 t62 t63 t64 t65 t66 t67 t68 t69 t70 t71 t72 t73 t74 t75 t76 t77 t78 t79 t80 t81 t82 t83 t84 t85 t86 t87 t88 t89 t90 t91 t92 t93 t94 t95 t96 : Value) (v : Value) (m : Nat) (l : List Bool) (w0 : World) (w1 : World) (Q : Exit → Act → World → Prop)
    (HB1 : Hid (Below w0.heap.size w0 w1)) (HO1 : Hid (w1.ownsRow w0.heap.size 4 1 v m (boV l))) (hm : (m : Int) ≤ 20000)
    (hQ : Hid (∀ (u88 u89 u90 : Value) (v7 : Value) (wC : World), Below w0.heap.size w0 wC → wC.ownsRow w0.heap.size 4 1 v7 (m + 2) (boV (l ++ [false, false])) → Q .normal ⟨#[t0, t1, t2, t3, v7, t5, t6, t7, t8, t9, t10, t11, t12, t13, t14, t15, t16, t17, t18, t19, t20, t21, t22, t23, t24, t25, t26, t27, t28, t29, t30, t31, t32, t33, t34, t35, t36, t37, t38, t39, t40, t41, t42, t43, t44, t45, t46, t47, t48, t49, t50, t51, t52, t53, t54, t55, t56, t57, t58, t59, t60, t61, t62, t63, t64, t65, t66, t67, t68, t69, t70, t71, t72, t73, t74, t75, t76, t77, t78, t79, t80, t81, t82, t83, t84, t85, t86, t87, u88, u89, u90, t91, t92, t93, t94, t95, t96], []⟩ wC)) :
    Code.wp Tryd.prog ((Tryd.f37.body.bind (regionOf 17)).getD .skip) Q ⟨#[t0, t1, t2, t3, v, t5, t6, t7, t8, t9, t10, t11, t12, t13, t14, t15, t16, t17, t18, t19, t20, t21, t22, t23, t24, t25, t26, t27, t28, t29, t30, t31, t32, t33, t34, t35, t36, t37, t38, t39, t40, t41, t42, t43, t44, t45, t46, t47, t48, t49, t50, t51, t52, t53, t54, t55, t56, t57, t58, t59, t60, t61, t62, t63, t64, t65, t66, t67, t68, t69, t70, t71, t72, t73, t74, t75, t76, t77, t78, t79, t80, t81, t82, t83, t84, t85, t86, t87, t88, t89, t90, t91, t92, t93, t94, t95, t96], []⟩ w1 := by
  conv => arg 2; whnf
  have HO4 := Hid.mk9 (own_below HO1.out (below_alloc w1 (.cells #[.bool false, .bool false] 4)))
  have HB4 := Hid.mk9 (HB1.out.trans ((below_alloc w1 (.cells #[.bool false, .bool false] 4)).mono HB1.out.size))
  have HL4 := Hid.mk9 (own_lit2 w1 false false)
  go_wp2_with (at_builtin; refine append_vu (w0 := w0) Tryd.underlying80 infoBo rfl (by decide) rfl _ _ rfl v m _ rfl HO4.out HB4.out _ 2 _ _ rfl HL4.out (boV_one _) (by omega) (by decide) ?_; intro v5 w5 ho5 hb5 hg5; rw [← boV_append] at ho5; have HO7 := Hid.mk9 ho5; have HB7 := Hid.mk9 hb5; clear ho5 hb5 hg5)
  exact hQ.out _ _ _ _ _ HB7.out HO7.out
set_option maxHeartbeats 2000000 in
set_option maxRecDepth 60000 in
theorem ref_18 (t0 t1 t2 t3 t6 t7 t8 t9 t10 t11 t12 t13 t14 t15 t16 t17 t18 t19 t20 t21 t22 t23 t24 t25 t26 t27 t28 t29 t30 t31 t32 t33 t34 t35 t36 t37 t38 t39 t40 t41 t42 t43 t44 t45 t46 t47 t48 t49 t50 t51 t52 t53 t54 t55 t56 t57 t58 t59 t60 t61 t62 t63 t64 t65 t66 t67 t68 t69 t70 t71 t72 t73 t74 t75 t76 t77 t78 t79 t80 t81 t82 t83 t84 t85 t86 t87 t88 t89 t90 t91 t92 t93 t94 t95 t96 : Value) (v : Value) (m q : Nat) (l : List Bool) (w0 : World) (w1 : World) (Q : Exit → Act → World → Prop)
    (HB1 : Hid (Below w0.heap.size w0 w1)) (HO1 : Hid (w1.ownsRow w0.heap.size 4 1 v m (boV l))) (hm : (m : Int) ≤ 20000) (hq : (q : Int) ≤ 15) (P3 : IntKind.u64.wrap (q : Int) = (q : Int))
    (hQ : Hid (∀ (u91 u92 u93 u94 u95 : Value) (v7 : Value) (wC : World), Below w0.heap.size w0 wC → wC.ownsRow w0.heap.size 4 1 v7 (m + 4) (boV (l ++ low q 4)) → Q .normal ⟨#[t0, t1, t2, t3, v7, .int .i64 (q : Int), t6, t7, t8, t9, t10, t11, t12, t13, t14, t15, t16, t17, t18, t19, t20, t21, t22, t23, t24, t25, t26, t27, t28, t29, t30, t31, t32, t33, t34, t35, t36, t37, t38, t39, t40, t41, t42, t43, t44, t45, t46, t47, t48, t49, t50, t51, t52, t53, t54, t55, t56, t57, t58, t59, t60, t61, t62, t63, t64, t65, t66, t67, t68, t69, t70, t71, t72, t73, t74, t75, t76, t77, t78, t79, t80, t81, t82, t83, t84, t85, t86, t87, t88, t89, t90, u91, u92, u93, u94, u95, t96], []⟩ wC)) :
    Code.wp Tryd.prog ((Tryd.f37.body.bind (regionOf 18)).getD .skip) Q ⟨#[t0, t1, t2, t3, v, .int .i64 (q : Int), t6, t7, t8, t9, t10, t11, t12, t13, t14, t15, t16, t17, t18, t19, t20, t21, t22, t23, t24, t25, t26, t27, t28, t29, t30, t31, t32, t33, t34, t35, t36, t37, t38, t39, t40, t41, t42, t43, t44, t45, t46, t47, t48, t49, t50, t51, t52, t53, t54, t55, t56, t57, t58, t59, t60, t61, t62, t63, t64, t65, t66, t67, t68, t69, t70, t71, t72, t73, t74, t75, t76, t77, t78, t79, t80, t81, t82, t83, t84, t85, t86, t87, t88, t89, t90, t91, t92, t93, t94, t95, t96], []⟩ w1 := by
  conv => arg 2; whnf
  have HLo : Hid (∀ W, Calls Tryd.prog 62 #[.int .u64 (q : Int), .int .i64 4] W fun e w' => BoPost (low q 4) W e w') := fun W => low_any q 4 W (by decide) (by unfold inU; omega)
  go_wp2_with (first | (go_at_call 62; refine (HLo.out w1).mono ?_; rintro e w4 ⟨hb4, al4, c4, rfl, hl4⟩; rw [low_len] at hl4; rw [low_len]; have HB4 := Hid.mk9 (HB1.out.trans (hb4.mono HB1.out.size)); have HO4 := Hid.mk9 (own_below HO1.out hb4); have HL4 := Hid.mk9 hl4; clear hb4 hl4) | (at_builtin; refine append_vu (w0 := w0) Tryd.underlying80 infoBo rfl (by decide) rfl _ _ rfl v m _ rfl HO4.out HB4.out _ 4 _ _ rfl HL4.out (boV_one _) (by omega) (by decide) ?_; intro v5 w5 ho5 hb5 hg5; rw [← boV_append] at ho5; have HO7 := Hid.mk9 ho5; have HB7 := Hid.mk9 hb5; clear ho5 hb5 hg5))
  exact hQ.out _ _ _ _ _ _ _ HB7.out HO7.out
end Go.Proofs.YtcdlkdbnlomghaaDoor.Gl
