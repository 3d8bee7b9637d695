/-
  The law's region 5.
-/
import Derived.Test.YtejhmacbbdnlbaaAcS0
import Derived.Test.YtejhmacbbdnlbaaAcH
namespace Go.Proofs.Ytejhmacbbdnlbaa.Ac
open Go.ChangeShapes Go.WideShapes Go.ChangeAt Go.RowKit
set_option maxHeartbeats 4000000 in
set_option maxRecDepth 60000 in
theorem law_5 (t0 t1 t2 t4 t6 t7 t8 t9 t10 t11 t12 t13 t14 t15 t16 t17 t18 t19 t20 t21 t22 t23 t24 t25 t26 t27 t28 t29 t30 t31 t32 t33 t34 t35 t36 t37 t38 t39 t40 t41 t42 t43 t44 t45 t46 t47 t48 t49 t50 t51 t52 t53 t54 t55 t56 t57 t58 t59 t60 t61 t62 t63 t64 t65 t66 t67 t68 t69 t70 t71 t72 t73 t74 t75 t76 t77 t78 t79 t80 t81 t82 t83 t84 t85 t86 t87 t88 t89 t90 t91 t92 t93 t94 t95 t96 t97 t98 t99 t100 t101 t102 t103 t104 t105 t106 t107 t108 t109 t110 t111 t112 t113 t114 t115 t116 t117 t118 t119 t120 t121 t122 t123 t124 t125 t126 t127 t128 t129 t130 t131 t132 t133 t134 t135 t136 t137 t138 t139 t140 t141 t142 t143 t144 t145 t146 t147 t148 t149 t150 t151 t152 : Value) (X D : Nat) (p : Int) (a : Option Addr) (len cap : Nat) (ls : List Acd) (d : Dl) (ad : Option Addr) (ld cd : Nat) (e1 e2 : Int) (q1 q2 : Bool) (w1 : World) (Q : Exit → Act → World → Prop)
    (hq1 : (e1 == 0) = q1) (hq2 : (e2 == 0) = q2) (HE1 : Hid (e1 = if okA p ls = true then 0 else 1)) (HQ1 : Hid (q1 = okA p ls)) (HE2 : Hid (e2 = if okD d = true then 0 else 1)) (HQ2 : Hid (q2 = okD d)) (HX : Hid (B2 w1 X 24 (.int .i64 p) (.slice a len cap))) (HD : Hid (B7 w1 D 28 (.int .i64 d.k) (.int .i64 d.id) (.int .i64 d.zn) (.int .i64 d.rk) (.int .i64 d.wt) (.int .i64 d.g) (.slice ad ld cd))) (HA : Hid (AcsAt w1 a len cap ls)) (HR : Hid (RowI w1 ad ld cd d.ns))
    (hQ : Hid (∀ (u48 u49 u50 u51 u52 u53 u54 u55 u56 u57 u58 u59 u60 : Value) (wC : World), Below w1.heap.size w1 wC → Q .normal ⟨#[t0, t1, t2, .pointer (some ⟨X, 0, none⟩), t4, .pointer (some ⟨D, 0, none⟩), t6, t7, t8, t9, t10, t11, t12, t13, t14, t15, t16, t17, t18, t19, t20, t21, t22, t23, t24, t25, t26, t27, t28, t29, t30, t31, t32, t33, t34, t35, t36, t37, t38, t39, t40, t41, t42, t43, t44, t45, t46, t47, u48, u49, u50, u51, u52, u53, u54, u55, u56, u57, u58, u59, u60, .bool false, t62, t63, t64, t65, t66, t67, t68, t69, t70, t71, t72, t73, t74, t75, t76, t77, t78, t79, t80, t81, t82, t83, t84, t85, t86, t87, t88, t89, t90, t91, t92, t93, t94, t95, t96, t97, t98, t99, t100, t101, t102, t103, t104, t105, t106, t107, t108, t109, t110, t111, t112, t113, t114, t115, t116, t117, t118, t119, t120, t121, t122, t123, t124, t125, t126, t127, t128, t129, t130, t131, t132, t133, t134, t135, t136, t137, t138, t139, t140, t141, t142, t143, t144, t145, t146, t147, t148, t149, t150, t151, t152], []⟩ wC)) :
    Code.wp Try.prog ((Try.f3.body.bind (regionOf 5)).getD .skip) Q ⟨#[t0, t1, t2, .pointer (some ⟨X, 0, none⟩), t4, .pointer (some ⟨D, 0, none⟩), t6, t7, t8, t9, t10, t11, t12, t13, t14, t15, t16, t17, t18, t19, t20, t21, t22, t23, t24, t25, t26, t27, t28, t29, t30, t31, t32, t33, t34, t35, t36, t37, t38, t39, t40, t41, t42, t43, t44, t45, t46, t47, t48, t49, t50, t51, t52, t53, t54, t55, t56, t57, t58, t59, t60, t61, t62, t63, t64, t65, t66, t67, t68, t69, t70, t71, t72, t73, t74, t75, t76, t77, t78, t79, t80, t81, t82, t83, t84, t85, t86, t87, t88, t89, t90, t91, t92, t93, t94, t95, t96, t97, t98, t99, t100, t101, t102, t103, t104, t105, t106, t107, t108, t109, t110, t111, t112, t113, t114, t115, t116, t117, t118, t119, t120, t121, t122, t123, t124, t125, t126, t127, t128, t129, t130, t131, t132, t133, t134, t135, t136, t137, t138, t139, t140, t141, t142, t143, t144, t145, t146, t147, t148, t149, t150, t151, t152], []⟩ w1 := by
  have hS : (fun w' => Below w1.heap.size w1 w') w1.drew := below_drew w1
  conv => arg 2; whnf
  refine held_start (S := fun w' => Below w1.heap.size w1 w') mixed5 ?_
  refine held_take (i := 0) (v := .agg #[.int .i64 p, .slice a len cap]) rfl (by kernel_rfl) (fun _ _ _ h => h) (.inl ⟨rfl, fun w hS => ?_⟩) hS ?_
  · have q := HX.out.below hS
    obtain ⟨c0, c1⟩ := q.cells
    go_simp
  try simp only [Act.put, List.setIfInBounds_toArray, List.set_cons_zero, List.set_cons_succ]
  refine held_take (i := 3) (v := .agg #[.int .i64 p, .slice a len cap]) rfl (by kernel_rfl) (fun _ _ _ h => h) (.inl ⟨rfl, fun w hS => ?_⟩) hS ?_
  · have q := HX.out.below hS
    obtain ⟨c0, c1⟩ := q.cells
    go_simp
  try simp only [Act.put, List.setIfInBounds_toArray, List.set_cons_zero, List.set_cons_succ]
  refine held_one (i := 1) (by kernel_rfl) rfl rfl ?_
  intro K hK
  go_simp
  go_at_call 9
  refine (check_any p a len cap ls _ (HA.out.below hS)).mono ?_
  rintro en w3 ⟨rfl, hb3⟩
  rw [← HE1.out]
  have hN := below2 hS hb3
  refine hK.out _ _ hN ?_
  clear hK hS
  have hS := hN
  clear hN hb3
  try simp only [Act.put, List.setIfInBounds_toArray, List.set_cons_zero, List.set_cons_succ]
  refine held_take (i := 2) (v := .bool q1) rfl (by kernel_rfl) (fun _ _ _ h => h) (.inl ⟨rfl, fun w hS => ?_⟩) hS ?_
  · clear hS
    go_simp
  try simp only [Act.put, List.setIfInBounds_toArray, List.set_cons_zero, List.set_cons_succ]
  refine held_one (i := 4) (by kernel_rfl) rfl rfl ?_
  intro K hK
  go_simp
  go_at_call 10
  refine (refMay_any p a len cap ls _ (HA.out.below hS)).mono ?_
  rintro en w3 ⟨rfl, hb3⟩
  rw [← HQ1.out]
  have hN := below2 hS hb3
  refine hK.out _ _ hN ?_
  clear hK hS
  have hS := hN
  clear hN hb3
  try simp only [Act.put, List.setIfInBounds_toArray, List.set_cons_zero, List.set_cons_succ]
  refine held_take (i := 5) (v := .bool false) rfl (by kernel_rfl) (fun _ _ _ h => h) (.inl ⟨rfl, fun w hS => ?_⟩) hS ?_
  · clear hS
    go_simp
  try simp only [Act.put, List.setIfInBounds_toArray, List.set_cons_zero, List.set_cons_succ]
  refine held_take (i := 6) (v := .bool false) rfl (by kernel_rfl) (fun _ _ _ h => h) (.inl ⟨rfl, fun w hS => ?_⟩) hS ?_
  · clear hS
    go_simp
  try simp only [Act.put, List.setIfInBounds_toArray, List.set_cons_zero, List.set_cons_succ]
  refine held_take (i := 7) (v := .agg #[.int .i64 d.k, .int .i64 d.id, .int .i64 d.zn, .int .i64 d.rk, .int .i64 d.wt, .int .i64 d.g, .slice ad ld cd]) rfl (by kernel_rfl) (fun _ _ _ h => h) (.inl ⟨rfl, fun w hS => ?_⟩) hS ?_
  · have q := HD.out.below hS
    obtain ⟨c0, c1, c2, c3, c4, c5, c6⟩ := q.cells
    go_simp
  try simp only [Act.put, List.setIfInBounds_toArray, List.set_cons_zero, List.set_cons_succ]
  refine held_take (i := 10) (v := .agg #[.int .i64 d.k, .int .i64 d.id, .int .i64 d.zn, .int .i64 d.rk, .int .i64 d.wt, .int .i64 d.g, .slice ad ld cd]) rfl (by kernel_rfl) (fun _ _ _ h => h) (.inl ⟨rfl, fun w hS => ?_⟩) hS ?_
  · have q := HD.out.below hS
    obtain ⟨c0, c1, c2, c3, c4, c5, c6⟩ := q.cells
    go_simp
  try simp only [Act.put, List.setIfInBounds_toArray, List.set_cons_zero, List.set_cons_succ]
  refine held_one (i := 8) (by kernel_rfl) rfl rfl ?_
  intro K hK
  go_simp
  go_at_call 11
  refine (checkDelta_any d ad ld cd _ (HR.out.below hS)).mono ?_
  rintro en w3 ⟨rfl, hb3⟩
  rw [← HE2.out]
  have hN := below2 hS hb3
  refine hK.out _ _ hN ?_
  clear hK hS
  have hS := hN
  clear hN hb3
  try simp only [Act.put, List.setIfInBounds_toArray, List.set_cons_zero, List.set_cons_succ]
  refine held_take (i := 9) (v := .bool q2) rfl (by kernel_rfl) (fun _ _ _ h => h) (.inl ⟨rfl, fun w hS => ?_⟩) hS ?_
  · clear hS
    go_simp
  try simp only [Act.put, List.setIfInBounds_toArray, List.set_cons_zero, List.set_cons_succ]
  refine held_one (i := 11) (by kernel_rfl) rfl rfl ?_
  intro K hK
  go_simp
  go_at_call 12
  refine (refDelta_any d ad ld cd _ (HR.out.below hS)).mono ?_
  rintro en w3 ⟨rfl, hb3⟩
  rw [← HQ2.out]
  have hN := below2 hS hb3
  refine hK.out _ _ hN ?_
  clear hK hS
  have hS := hN
  clear hN hb3
  try simp only [Act.put, List.setIfInBounds_toArray, List.set_cons_zero, List.set_cons_succ]
  refine held_take (i := 12) (v := .bool false) rfl (by kernel_rfl) (fun _ _ _ h => h) (.inl ⟨rfl, fun w hS => ?_⟩) hS ?_
  · clear hS
    go_simp
  try simp only [Act.put, List.setIfInBounds_toArray, List.set_cons_zero, List.set_cons_succ]
  refine held_take (i := 13) (v := .bool false) rfl (by kernel_rfl) (fun _ _ _ h => h) (.inl ⟨rfl, fun w hS => ?_⟩) hS ?_
  · clear hS
    go_simp
  try simp only [Act.put, List.setIfInBounds_toArray, List.set_cons_zero, List.set_cons_succ]
  refine wpAnyH_done (by kernel_rfl) ?_ _
  refine NoPanic.normal ?_
  exact hQ.out _ _ _ _ _ _ _ _ _ _ _ _ _ _ hS
end Go.Proofs.Ytejhmacbbdnlbaa.Ac
