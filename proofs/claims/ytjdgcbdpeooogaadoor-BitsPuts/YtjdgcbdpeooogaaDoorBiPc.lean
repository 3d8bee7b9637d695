/-
  The law BitsPuts: its drawn region 11.
-/
import Derived.Test.YtjdgcbdpeooogaaDoorBiPa
namespace Go.Proofs.YtjdgcbdpeooogaaDoor.Bi
open Go.ChangeShapes Go.WideShapes Go.ChangeAt Go.RowKit
set_option maxHeartbeats 4000000 in
set_option maxRecDepth 60000 in
theorem puts_11 (t0 t1 t2 t3 t4 t5 t6 t8 t9 t10 t13 t14 t17 t18 t19 t20 t21 t22 t23 t24 t25 t26 t27 t28 t29 t30 t31 t32 t33 t34 t35 t36 t37 t38 t39 t40 t41 t42 t43 t44 t45 t46 t47 t48 t49 t50 t51 t52 t53 t54 t55 t56 t57 t58 t59 t60 t61 t62 t63 t64 t65 t66 t67 t68 t69 t70 t71 t72 t73 t74 t75 t76 t77 t78 t79 t80 t81 t82 t83 t84 t85 t86 t87 t88 t89 t90 t91 t92 t93 t94 t95 t96 t97 t98 t99 t100 t101 t102 t103 t104 t105 t106 t107 t108 t109 t110 t111 t112 t113 t114 t115 t116 t117 t118 t119 t120 t121 t122 t123 t124 t125 t126 t127 t128 t129 t130 t131 t132 t133 t134 t135 t136 t137 t138 t139 t140 t141 t142 t143 t144 t145 t146 t147 t148 t149 t150 t151 t152 t153 t154 : Value) (C lenj capj kj M cw kc cc cv : Nat) (u v : Int) (aj aw ac : Option Addr) (L cod : List Bool) (w1 : World) (Q : Exit → Act → World → Prop)
    (HC : Hid (B2 w1 C 24 (.slice aj lenj capj) (.int .i64 (kj : Int)))) (HL : Hid (BoAt w1 aw M cw L)) (HCo : Hid (BoAt w1 ac kc cc cod)) (HV : Hid (IntKind.i64.wrap u = v))
    (HJ : Hid (ByAt w1 aj lenj capj (pack (L ++ cod) lenj))) (HJl : Hid (lenj = need kj)) (HK : Hid (kj = M + kc)) (hM : (M : Int) ≤ 2400) (hkc : (kc : Int) ≤ 68) (hkj : (kj : Int) ≤ 4800)
    (HCa : Hid (∀ W, Below w1.heap.size w1 W → Calls Tryd.prog 17 #[.int .i64 v] W fun e w' => e = .returned (.int .i64 (cv : Int)) ∧ w' = W)) (HCb : Hid (∀ W, Calls Tryd.prog 18 #[.int .i64 v] W fun e w' => e = .returned (.int .i64 (cv : Int)) ∧ w' = W)) (HSz : Hid (∀ W, Below w1.heap.size w1 W → Calls Tryd.prog 19 #[.int .i64 v] W fun e w' => e = .returned (.int .i64 (kc : Int)) ∧ Grown W w'))
    (hQ : Hid (∀ (u75 u76 u77 u78 u79 u80 u81 u82 u83 u84 u85 u86 u87 u88 u89 u90 u91 u92 u93 u94 u95 u96 u97 u98 u99 : Value) (wC : World), Below w1.heap.size w1 wC → Q .normal ⟨#[t0, t1, t2, t3, t4, t5, t6, .int .u64 u, t8, t9, t10, .pointer (some ⟨C, 0, none⟩), .int .i64 0, t13, t14, .slice aw M cw, .slice ac kc cc, t17, t18, t19, t20, t21, t22, t23, t24, t25, t26, t27, t28, t29, t30, t31, t32, t33, t34, t35, t36, t37, t38, t39, t40, t41, t42, t43, t44, t45, t46, t47, t48, t49, t50, t51, t52, t53, t54, t55, t56, t57, t58, t59, t60, t61, t62, t63, t64, t65, t66, t67, t68, t69, t70, t71, t72, t73, t74, u75, u76, u77, u78, u79, u80, u81, u82, u83, u84, u85, u86, u87, u88, u89, u90, u91, u92, u93, u94, u95, u96, u97, u98, u99, .bool false, t101, t102, t103, t104, t105, t106, t107, t108, t109, t110, t111, t112, t113, t114, t115, t116, t117, t118, t119, t120, t121, t122, t123, t124, t125, t126, t127, t128, t129, t130, t131, t132, t133, t134, t135, t136, t137, t138, t139, t140, t141, t142, t143, t144, t145, t146, t147, t148, t149, t150, t151, t152, t153, t154], []⟩ wC)) :
    Code.wp Tryd.prog ((Tryd.f3.body.bind (regionOf 11)).getD .skip) Q ⟨#[t0, t1, t2, t3, t4, t5, t6, .int .u64 u, t8, t9, t10, .pointer (some ⟨C, 0, none⟩), .int .i64 0, t13, t14, .slice aw M cw, .slice ac kc cc, t17, t18, t19, t20, t21, t22, t23, t24, t25, t26, t27, t28, t29, t30, t31, t32, t33, t34, t35, t36, t37, t38, t39, t40, t41, t42, t43, t44, t45, t46, t47, t48, t49, t50, t51, t52, t53, t54, t55, t56, t57, t58, t59, t60, t61, t62, t63, t64, t65, t66, t67, t68, t69, t70, t71, t72, t73, t74, t75, t76, t77, t78, t79, t80, t81, t82, t83, t84, t85, t86, t87, t88, t89, t90, t91, t92, t93, t94, t95, t96, t97, t98, t99, t100, t101, t102, t103, t104, t105, t106, t107, t108, t109, t110, t111, t112, t113, t114, t115, t116, t117, t118, t119, t120, t121, t122, t123, t124, t125, t126, t127, t128, t129, t130, t131, t132, t133, t134, t135, t136, t137, t138, t139, t140, t141, t142, t143, t144, t145, t146, t147, t148, t149, t150, t151, t152, t153, t154], []⟩ w1 := by
  have hS : (fun w' => Below w1.heap.size w1 w') w1.drew := below_drew w1
  conv => arg 2; whnf
  refine held_start (S := fun w' => Below w1.heap.size w1 w') mixed9 ?_
  refine held_take (i := 0) (v := .agg #[.slice aj lenj capj, .int .i64 (kj : Int)]) rfl (by kernel_rfl) (fun _ _ _ h => h) (.inl ⟨rfl, fun w hS => ?_⟩) hS ?_
  · obtain ⟨q0, q1⟩ := (HC.out.below hS).cells
    go_simp
  try simp only [Act.put, List.setIfInBounds_toArray, List.set_cons_zero, List.set_cons_succ]
  refine held_take (i := 1) (v := .int .i64 0) rfl (by kernel_rfl) (fun _ _ _ h => h) (.inl ⟨rfl, fun w hS => ?_⟩) hS ?_
  · clear hS
    go_simp
  try simp only [Act.put, List.setIfInBounds_toArray, List.set_cons_zero, List.set_cons_succ]
  refine held_take (i := 3) (v := .slice aw M cw) rfl (by kernel_rfl) (fun _ _ _ h => h) (.inl ⟨rfl, fun w hS => ?_⟩) hS ?_
  · clear hS
    go_simp
  try simp only [Act.put, List.setIfInBounds_toArray, List.set_cons_zero, List.set_cons_succ]
  refine held_take (i := 5) (v := .slice ac kc cc) rfl (by kernel_rfl) (fun _ _ _ h => h) (.inl ⟨rfl, fun w hS => ?_⟩) hS ?_
  · clear hS
    go_simp
  try simp only [Act.put, List.setIfInBounds_toArray, List.set_cons_zero, List.set_cons_succ]
  obtain ⟨w2, hw2⟩ : ∃ w2, w2 = w1.drew := ⟨_, rfl⟩
  rw [← hw2] at hS ⊢
  clear hw2
  refine held_one (i := 2) (by kernel_rfl) rfl rfl ?_
  intro K hK
  go_simp
  have hO := own_none w2 w1.heap.size hS.size
  have hN := below2 hS (below_alloc w2 (.cells #[] 4))
  refine hK.out _ _ hN ?_
  clear hK hS
  have hS := hN
  clear hN
  try simp only [Act.put, List.setIfInBounds_toArray, List.set_cons_zero, List.set_cons_succ]
  refine held_one (i := 4) (by kernel_rfl) rfl rfl ?_
  intro K hK
  refine append_op Tryd.underlying35 infoBo rfl (by decide) _ _ rfl _ 0 (boV ([])) rfl hO hS aw M cw (boV (L)) rfl (HL.out.below hS) (boV_one _) (by omega) (by omega) ?_
  intro v4 w4 ho4 hb4 hg4
  have hN := hb4
  rw [← boV_append] at ho4
  clear hg4 hb4
  refine hK.out _ _ hN ?_
  clear hK hS
  have hS := hN
  clear hN
  try simp only [Act.put, List.setIfInBounds_toArray, List.set_cons_zero, List.set_cons_succ]
  refine held_one (i := 6) (by kernel_rfl) rfl rfl ?_
  intro K hK
  refine append_op Tryd.underlying35 infoBo rfl (by decide) _ _ rfl _ _ (boV ([] ++ L)) rfl ho4 hS ac kc cc (boV (cod)) rfl (HCo.out.below hS) (boV_one _) (by omega) (by omega) ?_
  intro v6 w6 ho6 hb6 hg6
  have hN := hb6
  rw [← boV_append] at ho6
  clear hg6 hb6
  refine hK.out _ _ hN ?_
  clear hK hS
  have hS := hN
  clear hN
  try simp only [Act.put, List.setIfInBounds_toArray, List.set_cons_zero, List.set_cons_succ]
  have ho8 := ho6
  rw [show 0 + M + kc = kj by have := HK.out; omega, List.nil_append] at ho8
  obtain ⟨af, cf, rfl, hvf⟩ := own_vu ho8
  refine held_one (i := 7) (by kernel_rfl) rfl rfl ?_
  intro K hK
  go_simp
  go_at_call 14
  refine (told_yes aj lenj capj kj (L ++ cod) 0 af cf _ (HJ.out.below hS) HJl.out hvf (by omega)).mono ?_
  rintro en wt ⟨rfl, hbt⟩
  have hN := below2 hS hbt
  clear hbt hvf
  refine hK.out _ _ hN ?_
  clear hK hS
  have hS := hN
  clear hN
  try simp only [Act.put, List.setIfInBounds_toArray, List.set_cons_zero, List.set_cons_succ]
  refine held_take (i := 8) (v := .bool false) rfl (by kernel_rfl) (fun _ _ _ h => h) (.inl ⟨rfl, fun w hS => ?_⟩) hS ?_
  · clear hS
    go_simp
  try simp only [Act.put, List.setIfInBounds_toArray, List.set_cons_zero, List.set_cons_succ]
  refine held_take (i := 9) (v := .bool false) rfl (by kernel_rfl) (fun _ _ _ h => h) (.inl ⟨rfl, fun w hS => ?_⟩) hS ?_
  · clear hS
    go_simp
  try simp only [Act.put, List.setIfInBounds_toArray, List.set_cons_zero, List.set_cons_succ]
  refine held_take (i := 10) (v := .int .u64 u) rfl (by kernel_rfl) (fun _ _ _ h => h) (.inl ⟨rfl, fun w hS => ?_⟩) hS ?_
  · clear hS
    go_simp
  try simp only [Act.put, List.setIfInBounds_toArray, List.set_cons_zero, List.set_cons_succ]
  refine held_take (i := 11) (v := .int .i64 v) rfl (by kernel_rfl) (fun _ _ _ h => h) (.inl ⟨rfl, fun w hS => ?_⟩) hS ?_
  · clear hS
    have hv := HV.out
    go_simp
  try simp only [Act.put, List.setIfInBounds_toArray, List.set_cons_zero, List.set_cons_succ]
  refine held_take (i := 13) (v := .int .u64 u) rfl (by kernel_rfl) (fun _ _ _ h => h) (.inl ⟨rfl, fun w hS => ?_⟩) hS ?_
  · clear hS
    go_simp
  try simp only [Act.put, List.setIfInBounds_toArray, List.set_cons_zero, List.set_cons_succ]
  refine held_take (i := 14) (v := .int .i64 v) rfl (by kernel_rfl) (fun _ _ _ h => h) (.inl ⟨rfl, fun w hS => ?_⟩) hS ?_
  · clear hS
    have hv := HV.out
    go_simp
  try simp only [Act.put, List.setIfInBounds_toArray, List.set_cons_zero, List.set_cons_succ]
  refine held_one (i := 12) (by kernel_rfl) rfl rfl ?_
  intro K hK
  go_simp
  go_at_call 17
  refine (HCa.out _ hS).mono ?_
  rintro en wt ⟨rfl, hbt⟩
  obtain rfl := hbt.symm
  have hN := hS
  refine hK.out _ _ hN ?_
  clear hK hS
  have hS := hN
  clear hN
  try simp only [Act.put, List.setIfInBounds_toArray, List.set_cons_zero, List.set_cons_succ]
  refine held_one (i := 15) (by kernel_rfl) rfl rfl ?_
  intro K hK
  go_simp
  go_at_call 18
  refine (HCb.out _).mono ?_
  rintro en wt ⟨rfl, hbt⟩
  obtain rfl := hbt.symm
  have hN := hS
  refine hK.out _ _ hN ?_
  clear hK hS
  have hS := hN
  clear hN
  try simp only [Act.put, List.setIfInBounds_toArray, List.set_cons_zero, List.set_cons_succ]
  refine held_take (i := 16) (v := .bool false) rfl (by kernel_rfl) (fun _ _ _ h => h) (.inl ⟨rfl, fun w hS => ?_⟩) hS ?_
  · clear hS
    go_simp
  try simp only [Act.put, List.setIfInBounds_toArray, List.set_cons_zero, List.set_cons_succ]
  refine held_take (i := 17) (v := .bool false) rfl (by kernel_rfl) (fun _ _ _ h => h) (.inl ⟨rfl, fun w hS => ?_⟩) hS ?_
  · clear hS
    go_simp
  try simp only [Act.put, List.setIfInBounds_toArray, List.set_cons_zero, List.set_cons_succ]
  refine held_take (i := 18) (v := .bool false) rfl (by kernel_rfl) (fun _ _ _ h => h) (.inl ⟨rfl, fun w hS => ?_⟩) hS ?_
  · clear hS
    go_simp
  try simp only [Act.put, List.setIfInBounds_toArray, List.set_cons_zero, List.set_cons_succ]
  refine held_take (i := 19) (v := .int .u64 u) rfl (by kernel_rfl) (fun _ _ _ h => h) (.inl ⟨rfl, fun w hS => ?_⟩) hS ?_
  · clear hS
    go_simp
  try simp only [Act.put, List.setIfInBounds_toArray, List.set_cons_zero, List.set_cons_succ]
  refine held_take (i := 20) (v := .int .i64 v) rfl (by kernel_rfl) (fun _ _ _ h => h) (.inl ⟨rfl, fun w hS => ?_⟩) hS ?_
  · clear hS
    have hv := HV.out
    go_simp
  try simp only [Act.put, List.setIfInBounds_toArray, List.set_cons_zero, List.set_cons_succ]
  refine held_take (i := 22) (v := .slice ac kc cc) rfl (by kernel_rfl) (fun _ _ _ h => h) (.inl ⟨rfl, fun w hS => ?_⟩) hS ?_
  · clear hS
    go_simp
  try simp only [Act.put, List.setIfInBounds_toArray, List.set_cons_zero, List.set_cons_succ]
  refine held_take (i := 23) (v := .int .i64 (kc : Int)) rfl (by kernel_rfl) (fun _ _ _ h => h) (.inl ⟨rfl, fun w hS => ?_⟩) hS ?_
  · clear hS
    go_simp
  try simp only [Act.put, List.setIfInBounds_toArray, List.set_cons_zero, List.set_cons_succ]
  refine held_one (i := 21) (by kernel_rfl) rfl rfl ?_
  intro K hK
  go_simp
  go_at_call 19
  refine (HSz.out _ hS).mono ?_
  rintro en wt ⟨rfl, hbt⟩
  have hN := below2 hS (grown_below hbt)
  clear hbt
  refine hK.out _ _ hN ?_
  clear hK hS
  have hS := hN
  clear hN
  try simp only [Act.put, List.setIfInBounds_toArray, List.set_cons_zero, List.set_cons_succ]
  refine held_take (i := 24) (v := .bool false) rfl (by kernel_rfl) (fun _ _ _ h => h) (.inl ⟨rfl, fun w hS => ?_⟩) hS ?_
  · clear hS
    go_simp
  try simp only [Act.put, List.setIfInBounds_toArray, List.set_cons_zero, List.set_cons_succ]
  refine held_take (i := 25) (v := .bool false) rfl (by kernel_rfl) (fun _ _ _ h => h) (.inl ⟨rfl, fun w hS => ?_⟩) hS ?_
  · clear hS
    go_simp
  try simp only [Act.put, List.setIfInBounds_toArray, List.set_cons_zero, List.set_cons_succ]
  refine wpAnyH_done (by kernel_rfl) ?_ _
  refine NoPanic.normal ?_
  exact hQ.out _ _ _ _ _ _ _ _ _ _ _ _ _ _ _ _ _ _ _ _ _ _ _ _ _ _ hS
end Go.Proofs.YtjdgcbdpeooogaaDoor.Bi
