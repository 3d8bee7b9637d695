/-
  The law BitsPuts: its drawn region 16.
-/
import Derived.Test.YtjdgcbdpeooogaaDoorBiCo
import Derived.Test.YtjdgcbdpeooogaaDoorBiMy
namespace Go.Proofs.YtjdgcbdpeooogaaDoor.Bi
open Go.ChangeShapes Go.WideShapes Go.ChangeAt Go.RowKit
theorem told_yes (a : Option Addr) (len cap k : Nat) (l : List Bool) (er : Int) (al : Option Addr) (capl : Nat) (w : World) (h : ByAt w a len cap (pack l len)) (hl : len = need k) (hb : BoAt w al k capl l) (h9 : k ≤ 20000) : Calls Tryd.prog 14 #[.agg #[.slice a len cap, .int .i64 (k : Int)], .int .i64 er, .slice al k capl, .int .i64 er] w fun e w' => e = .returned (.bool true) ∧ Below w.heap.size w w' := by
  have := told_any a len cap (k : Int) (pack l len) er er al k capl l w h hb h9
  have e : toldP (pack l len) (k : Int) er er l k = true := by unfold toldP; rw [hl, sameP_yes]; simp
  rwa [e] at this
set_option maxHeartbeats 4000000 in
set_option maxRecDepth 60000 in
theorem puts_16 (t0 t1 t2 t3 t5 t6 t7 t8 t9 t10 t11 t12 t16 t17 t18 t19 t20 t21 t22 t23 t24 t25 t26 t27 t28 t29 t30 t31 t32 t33 t34 t35 t36 t37 t38 t39 t40 t41 t42 t43 t44 t45 t46 t47 t48 t49 t50 t51 t52 t53 t54 t55 t56 t57 t58 t59 t60 t61 t62 t63 t64 t65 t66 t67 t68 t69 t70 t71 t72 t73 t74 t75 t76 t77 t78 t79 t80 t81 t82 t83 t84 t85 t86 t87 t88 t89 t90 t91 t92 t93 t94 t95 t96 t97 t98 t99 t100 t101 t102 t103 t104 t105 t106 t107 t108 t109 t110 t111 t112 t113 t114 t115 t116 t117 t118 t119 t120 t121 t122 t123 t124 t125 t126 t127 t128 t129 t130 t131 t132 t133 t134 t135 t136 t137 t138 t139 t140 t141 t142 t143 t144 t145 t146 t147 t148 t149 t150 t151 t152 t153 t154 : Value) (Y C lenj capj kj M cw len1 cap1 : Nat) (n1 : Int) (aj aw a1 : Option Addr) (L L2 : List Bool) (w1 : World) (Q : Exit → Act → World → Prop)
    (HC : Hid (B2 w1 C 24 (.slice aj lenj capj) (.int .i64 (kj : Int)))) (HY : Hid (B2 w1 Y 24 (.slice a1 len1 cap1) (.int .i64 n1))) (HL : Hid (BoAt w1 aw M cw L))
    (HJ : Hid (ByAt w1 aj lenj capj (pack (L ++ L2) lenj))) (HJl : Hid (lenj = need kj)) (HK : Hid (kj = M + L2.length)) (hM : (M : Int) ≤ 2400) (hL2 : (L2.length : Int) ≤ 2400) (hkj : (kj : Int) ≤ 4800)
    (HLi : Hid (∀ W, Below w1.heap.size w1 W → Calls Tryd.prog 15 #[.agg #[.slice a1 len1 cap1, .int .i64 n1]] W fun e w' => BoPost L2 W e w'))
    (hQ : Hid (∀ (u108 u109 u110 u111 u112 u113 u114 u115 u116 : Value) (wC : World), Below w1.heap.size w1 wC → Q .normal ⟨#[t0, t1, t2, t3, .pointer (some ⟨Y, 0, none⟩), t5, t6, t7, t8, t9, t10, t11, t12, .pointer (some ⟨C, 0, none⟩), .int .i64 0, .slice aw M cw, t16, t17, t18, t19, t20, t21, t22, t23, t24, t25, t26, t27, t28, t29, t30, t31, t32, t33, t34, t35, t36, t37, t38, t39, t40, t41, t42, t43, t44, t45, t46, t47, t48, t49, t50, t51, t52, t53, t54, t55, t56, t57, t58, t59, t60, t61, t62, t63, t64, t65, t66, t67, t68, t69, t70, t71, t72, t73, t74, t75, t76, t77, t78, t79, t80, t81, t82, t83, t84, t85, t86, t87, t88, t89, t90, t91, t92, t93, t94, t95, t96, t97, t98, t99, t100, t101, t102, t103, t104, t105, t106, t107, u108, u109, u110, u111, u112, u113, u114, u115, u116, .bool false, t118, t119, t120, t121, t122, t123, t124, t125, t126, t127, t128, t129, t130, t131, t132, t133, t134, t135, t136, t137, t138, t139, t140, t141, t142, t143, t144, t145, t146, t147, t148, t149, t150, t151, t152, t153, t154], []⟩ wC)) :
    Code.wp Tryd.prog ((Tryd.f3.body.bind (regionOf 16)).getD .skip) Q ⟨#[t0, t1, t2, t3, .pointer (some ⟨Y, 0, none⟩), t5, t6, t7, t8, t9, t10, t11, t12, .pointer (some ⟨C, 0, none⟩), .int .i64 0, .slice aw M cw, t16, t17, t18, t19, t20, t21, t22, t23, t24, t25, t26, t27, t28, t29, t30, t31, t32, t33, t34, t35, t36, t37, t38, t39, t40, t41, t42, t43, t44, t45, t46, t47, t48, t49, t50, t51, t52, t53, t54, t55, t56, t57, t58, t59, t60, t61, t62, t63, t64, t65, t66, t67, t68, t69, t70, t71, t72, t73, t74, t75, t76, t77, t78, t79, t80, t81, t82, t83, t84, t85, t86, t87, t88, t89, t90, t91, t92, t93, t94, t95, t96, t97, t98, t99, t100, t101, t102, t103, t104, t105, t106, t107, t108, t109, t110, t111, t112, t113, t114, t115, t116, t117, t118, t119, t120, t121, t122, t123, t124, t125, t126, t127, t128, t129, t130, t131, t132, t133, t134, t135, t136, t137, t138, t139, t140, t141, t142, t143, t144, t145, t146, t147, t148, t149, t150, t151, t152, t153, t154], []⟩ w1 := by
  have hS : (fun w' => Below w1.heap.size w1 w') w1.drew := below_drew w1
  conv => arg 2; whnf
  refine held_start (S := fun w' => Below w1.heap.size w1 w') mixed9 ?_
  refine held_take (i := 0) (v := .agg #[.slice aj lenj capj, .int .i64 (kj : Int)]) rfl (by kernel_rfl) (fun _ _ _ h => h) (.inl ⟨rfl, fun w hS => ?_⟩) hS ?_
  · obtain ⟨q0, q1⟩ := (HC.out.below hS).cells
    go_simp
  try simp only [Act.put, List.setIfInBounds_toArray, List.set_cons_zero, List.set_cons_succ]
  refine held_take (i := 1) (v := .int .i64 0) rfl (by kernel_rfl) (fun _ _ _ h => h) (.inl ⟨rfl, fun w hS => ?_⟩) hS ?_
  · clear hS
    go_simp
  try simp only [Act.put, List.setIfInBounds_toArray, List.set_cons_zero, List.set_cons_succ]
  refine held_take (i := 3) (v := .slice aw M cw) rfl (by kernel_rfl) (fun _ _ _ h => h) (.inl ⟨rfl, fun w hS => ?_⟩) hS ?_
  · clear hS
    go_simp
  try simp only [Act.put, List.setIfInBounds_toArray, List.set_cons_zero, List.set_cons_succ]
  refine held_take (i := 5) (v := .agg #[.slice a1 len1 cap1, .int .i64 n1]) rfl (by kernel_rfl) (fun _ _ _ h => h) (.inl ⟨rfl, fun w hS => ?_⟩) hS ?_
  · obtain ⟨q0, q1⟩ := (HY.out.below hS).cells
    go_simp
  try simp only [Act.put, List.setIfInBounds_toArray, List.set_cons_zero, List.set_cons_succ]
  obtain ⟨w2, hw2⟩ : ∃ w2, w2 = w1.drew := ⟨_, rfl⟩
  rw [← hw2] at hS ⊢
  clear hw2
  refine held_one (i := 2) (by kernel_rfl) rfl rfl ?_
  intro K hK
  go_simp
  have hO := own_none w2 w1.heap.size hS.size
  have hN := below2 hS (below_alloc w2 (.cells #[] 4))
  refine hK.out _ _ hN ?_
  clear hK hS
  have hS := hN
  clear hN
  try simp only [Act.put, List.setIfInBounds_toArray, List.set_cons_zero, List.set_cons_succ]
  refine held_one (i := 4) (by kernel_rfl) rfl rfl ?_
  intro K hK
  refine append_op Tryd.underlying35 infoBo rfl (by decide) _ _ rfl _ 0 (boV ([])) rfl hO hS aw M cw (boV (L)) rfl (HL.out.below hS) (boV_one _) (by omega) (by omega) ?_
  intro v4 w4 ho4 hb4 hg4
  have hN := hb4
  rw [← boV_append] at ho4
  clear hg4 hb4
  refine hK.out _ _ hN ?_
  clear hK hS
  have hS := hN
  clear hN
  try simp only [Act.put, List.setIfInBounds_toArray, List.set_cons_zero, List.set_cons_succ]
  refine held_one (i := 6) (by kernel_rfl) rfl rfl ?_
  intro K hK
  go_simp
  go_at_call 15
  refine (HLi.out _ hS).mono ?_
  rintro en w6 ⟨hb6, al, cl, rfl, hl6⟩
  have ho6 := own_below ho4 hb6
  have hN := below2 hS hb6
  clear hb6 ho4
  refine hK.out _ _ hN ?_
  clear hK hS
  have hS := hN
  clear hN
  try simp only [Act.put, List.setIfInBounds_toArray, List.set_cons_zero, List.set_cons_succ]
  refine held_one (i := 7) (by kernel_rfl) rfl rfl ?_
  intro K hK
  refine append_op Tryd.underlying35 infoBo rfl (by decide) _ _ rfl _ _ (boV ([] ++ L)) rfl ho6 hS al L2.length cl (boV (L2)) rfl hl6 (boV_one _) (by omega) (by omega) ?_
  intro v7 w7 ho7 hb7 hg7
  have hN := hb7
  rw [← boV_append] at ho7
  clear hg7 hb7
  refine hK.out _ _ hN ?_
  clear hK hS
  have hS := hN
  clear hN
  try simp only [Act.put, List.setIfInBounds_toArray, List.set_cons_zero, List.set_cons_succ]
  have ho8 := ho7
  rw [show 0 + M + L2.length = kj by have := HK.out; omega, List.nil_append] at ho8
  obtain ⟨af, cf, rfl, hvf⟩ := own_vu ho8
  refine held_one (i := 8) (by kernel_rfl) rfl rfl ?_
  intro K hK
  go_simp
  go_at_call 14
  refine (told_yes aj lenj capj kj (L ++ L2) 0 af cf _ (HJ.out.below hS) HJl.out hvf (by omega)).mono ?_
  rintro en wt ⟨rfl, hbt⟩
  have hN := below2 hS hbt
  clear hbt hvf
  refine hK.out _ _ hN ?_
  clear hK hS
  have hS := hN
  clear hN
  try simp only [Act.put, List.setIfInBounds_toArray, List.set_cons_zero, List.set_cons_succ]
  refine held_take (i := 9) (v := .bool false) rfl (by kernel_rfl) (fun _ _ _ h => h) (.inl ⟨rfl, fun w hS => ?_⟩) hS ?_
  · clear hS
    go_simp
  try simp only [Act.put, List.setIfInBounds_toArray, List.set_cons_zero, List.set_cons_succ]
  refine wpAnyH_done (by kernel_rfl) ?_ _
  refine NoPanic.normal ?_
  exact hQ.out _ _ _ _ _ _ _ _ _ _ hS
end Go.Proofs.YtjdgcbdpeooogaaDoor.Bi
