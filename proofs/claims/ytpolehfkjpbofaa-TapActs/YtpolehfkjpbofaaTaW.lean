/-
  TapActs' drawn regions.
-/
import Derived.Test.YtpolehfkjpbofaaTaU
import Derived.Test.YtpolehfkjpbofaaTaV
import Derived.Test.YtpolehfkjpbofaaTaO
namespace Go.Proofs.Ytpolehfkjpbofaa.Ta
open Go.ChangeShapes Go.WideShapes Go.ChangeAt Go.RowKit
theorem TapG.put3 {B : Nat} {w : World} {p : Nat} {P : List (List Int)} {R t g : Nat} {cs : List Nat} {r : Nat} {v0 v1 v2 : Value} (h : TapG B w p P R t g cs) (hx : Bx3 w r 30 v0 v1 v2) (u0 u1 u2 : Value) : TapG B (put3 w r u0 u1 u2) p P R t g cs := by
  refine ⟨h.bp, h.bg, h.bc, h.nd, h.len, h.box.kept (put3_else _ _ _ (hx.apart h.box (by decide))), ?_, fun i c hc => ?_⟩
  · exact (put3_else _ _ _ (hx.apart h.row (by decide))).trans h.row
  · obtain ⟨s, r2, hh⟩ := h.chs i c hc
    refine ⟨s, r2, (put3_else _ _ _ fun e => ?_).trans hh⟩
    subst e
    unfold Bx3 at hx
    rw [hx] at hh
    simp at hh
theorem TapAt.put3 {B : Nat} {w : World} {p : Nat} {P : List (List Int)} {R t : Nat} {r : Nat} {v0 v1 v2 : Value} (h : TapAt B w p P R t) (hx : Bx3 w r 30 v0 v1 v2) (u0 u1 u2 : Value) : TapAt B (put3 w r u0 u1 u2) p P R t := by
  obtain ⟨g, cs, hg⟩ := h
  exact ⟨g, cs, hg.put3 hx u0 u1 u2⟩
set_option maxHeartbeats 4000000 in
set_option maxRecDepth 60000 in
theorem acts_16 (t0 t1 t3 t4 t5 t6 t8 t9 t11 t12 t13 t14 t15 t16 t17 t18 t19 t20 t21 t22 t23 t24 t25 t26 t27 t28 t29 t30 t31 t32 t33 t34 t35 t36 t37 t38 t39 t40 t41 t42 t43 t44 t45 t46 t47 t48 t49 t50 t51 t52 t53 t54 t55 t56 t57 t58 t59 t60 t61 t62 t63 t64 t65 t66 t67 t68 t69 t70 t71 t72 t73 t74 t75 t76 t77 t78 t79 t80 t81 t82 t83 t84 t85 t86 t87 t88 t89 t90 t91 t92 t93 t94 t95 t96 t97 t98 t99 t100 t101 t102 t103 t104 t105 t106 t107 t108 t109 t110 t111 t112 t113 t114 t115 t116 t117 t118 t119 t120 t121 t122 t123 t124 t125 t126 t127 t128 t129 t130 t131 t132 t133 t134 t135 t136 t137 t138 t139 t140 t141 t142 t143 t144 t145 t146 t147 t148 t149 t150 t151 t152 t153 t154 t155 t156 t157 t158 t159 t160 t161 t162 t163 t164 t165 t166 t167 t168 t169 t170 t171 t172 t173 t174 t175 t176 t177 t178 t179 t180 t181 t182 t183 t184 t185 t186 t187 t188 t189 t190 t191 t192 t193 t194 t195 t196 : Value) (b off len cap i p : Nat) (pp nn x : Int) (P : List (List Int)) (R t : Nat) (w0 : World) (w1 : World) (Q : Exit → Act → World → Prop)
    (hb0 : Below w0.heap.size w0 w1) (hbN : Hid (b < w0.heap.size)) (hi : (i : Int) < (len : Int)) (ha1 : Hid (w0.cell? ⟨b, off + i * 3 + 1, none⟩ = some (.int .i64 pp))) (ha2 : Hid (w0.cell? ⟨b, off + i * 3 + 2, none⟩ = some (.int .i64 nn))) (HC : Hid (Calls Try.prog 9 #[.pointer (some ⟨p, 0, none⟩), .int .i64 pp, .int .i64 nn] w1.drew fun e w' => TaPost w0.heap.size w1.drew p (.int .i64 x) P R t e w'))
    (hQ : Hid (∀ (u96 u97 u98 u99 u100 u101 u102 u103 u104 u105 u106 u107 : Value) (wC : World), TapAt w0.heap.size wC p P R t → Below w0.heap.size w1 wC → KpT p w1 wC → Q .normal ⟨#[t0, t1, .slice (some ⟨b, off, none⟩) len cap, t3, t4, t5, t6, .pointer (some ⟨p, 0, none⟩), t8, t9, .int .i64 (i : Int), t11, t12, t13, t14, .int .i64 x, t16, t17, t18, t19, t20, t21, t22, t23, t24, t25, t26, t27, t28, t29, t30, t31, t32, t33, t34, t35, t36, t37, t38, t39, t40, t41, t42, t43, t44, t45, t46, t47, t48, t49, t50, t51, t52, t53, t54, t55, t56, t57, t58, t59, t60, t61, t62, t63, t64, t65, t66, t67, t68, t69, t70, t71, t72, t73, t74, t75, t76, t77, t78, t79, t80, t81, t82, t83, t84, t85, t86, t87, t88, t89, t90, t91, t92, t93, t94, t95, u96, u97, u98, u99, u100, u101, u102, u103, u104, u105, u106, u107, t108, t109, t110, t111, t112, t113, t114, t115, t116, t117, t118, t119, t120, t121, t122, t123, t124, t125, t126, t127, t128, t129, t130, t131, t132, t133, t134, t135, t136, t137, t138, t139, t140, t141, t142, t143, t144, t145, t146, t147, t148, t149, t150, t151, t152, t153, t154, t155, t156, t157, t158, t159, t160, t161, t162, t163, t164, t165, t166, t167, t168, t169, t170, t171, t172, t173, t174, t175, t176, t177, t178, t179, t180, t181, t182, t183, t184, t185, t186, t187, t188, t189, t190, t191, t192, t193, t194, t195, t196], []⟩ wC)) :
    Code.wp Try.prog ((Try.f3.body.bind (regionOf 16)).getD .skip) Q ⟨#[t0, t1, .slice (some ⟨b, off, none⟩) len cap, t3, t4, t5, t6, .pointer (some ⟨p, 0, none⟩), t8, t9, .int .i64 (i : Int), t11, t12, t13, t14, t15, t16, t17, t18, t19, t20, t21, t22, t23, t24, t25, t26, t27, t28, t29, t30, t31, t32, t33, t34, t35, t36, t37, t38, t39, t40, t41, t42, t43, t44, t45, t46, t47, t48, t49, t50, t51, t52, t53, t54, t55, t56, t57, t58, t59, t60, t61, t62, t63, t64, t65, t66, t67, t68, t69, t70, t71, t72, t73, t74, t75, t76, t77, t78, t79, t80, t81, t82, t83, t84, t85, t86, t87, t88, t89, t90, t91, t92, t93, t94, t95, t96, t97, t98, t99, t100, t101, t102, t103, t104, t105, t106, t107, t108, t109, t110, t111, t112, t113, t114, t115, t116, t117, t118, t119, t120, t121, t122, t123, t124, t125, t126, t127, t128, t129, t130, t131, t132, t133, t134, t135, t136, t137, t138, t139, t140, t141, t142, t143, t144, t145, t146, t147, t148, t149, t150, t151, t152, t153, t154, t155, t156, t157, t158, t159, t160, t161, t162, t163, t164, t165, t166, t167, t168, t169, t170, t171, t172, t173, t174, t175, t176, t177, t178, t179, t180, t181, t182, t183, t184, t185, t186, t187, t188, t189, t190, t191, t192, t193, t194, t195, t196], []⟩ w1 := by
  have hdr := below_drew w1
  have hS : (fun w' => Below w0.heap.size w0 w') w1.drew := hb0.trans (hdr.mono hb0.size)
  conv => arg 2; whnf
  refine held_start (S := fun w' => Below w0.heap.size w0 w') mixed9 ?_
  refine held_take (i := 0) (v := .pointer (some ⟨p, 0, none⟩)) rfl (by kernel_rfl) (fun _ _ _ h => h) (.inl ⟨rfl, fun w hS => ?_⟩) hS ?_
  · go_simp
  try simp only [Act.put, List.setIfInBounds_toArray, List.set_cons_zero, List.set_cons_succ]
  refine held_take (i := 1) (v := .slice (some ⟨b, off, none⟩) len cap) rfl (by kernel_rfl) (fun _ _ _ h => h) (.inl ⟨rfl, fun w hS => ?_⟩) hS ?_
  · go_simp
  try simp only [Act.put, List.setIfInBounds_toArray, List.set_cons_zero, List.set_cons_succ]
  refine held_take (i := 2) (v := .int .i64 (i : Int)) rfl (by kernel_rfl) (fun _ _ _ h => h) (.inl ⟨rfl, fun w hS => ?_⟩) hS ?_
  · go_simp
  try simp only [Act.put, List.setIfInBounds_toArray, List.set_cons_zero, List.set_cons_succ]
  refine held_take (i := 3) (v := .pointer (some ⟨b, off + i * 3, none⟩)) rfl (by kernel_rfl) (fun _ _ _ h => h) (.inl ⟨rfl, fun w hS => ?_⟩) hS ?_
  · go_simp
  try simp only [Act.put, List.setIfInBounds_toArray, List.set_cons_zero, List.set_cons_succ]
  refine held_take (i := 4) (v := .pointer (some ⟨b, off + i * 3 + 1, none⟩)) rfl (by kernel_rfl) (fun _ _ _ h => h) (.inl ⟨rfl, fun w hS => ?_⟩) hS ?_
  · go_simp
  try simp only [Act.put, List.setIfInBounds_toArray, List.set_cons_zero, List.set_cons_succ]
  refine held_take (i := 5) (v := .int .i64 pp) rfl (by kernel_rfl) (fun _ _ _ h => h) (.inl ⟨rfl, fun w hS => ?_⟩) hS ?_
  · have q : w.cell? ⟨b, off + i * 3 + 1, none⟩ = some (.int .i64 pp) := by rw [cell_block (hS.block b hbN.out)]; exact ha1.out
    go_simp
  try simp only [Act.put, List.setIfInBounds_toArray, List.set_cons_zero, List.set_cons_succ]
  refine held_take (i := 6) (v := .slice (some ⟨b, off, none⟩) len cap) rfl (by kernel_rfl) (fun _ _ _ h => h) (.inl ⟨rfl, fun w hS => ?_⟩) hS ?_
  · go_simp
  try simp only [Act.put, List.setIfInBounds_toArray, List.set_cons_zero, List.set_cons_succ]
  refine held_take (i := 7) (v := .int .i64 (i : Int)) rfl (by kernel_rfl) (fun _ _ _ h => h) (.inl ⟨rfl, fun w hS => ?_⟩) hS ?_
  · go_simp
  try simp only [Act.put, List.setIfInBounds_toArray, List.set_cons_zero, List.set_cons_succ]
  refine held_take (i := 8) (v := .pointer (some ⟨b, off + i * 3, none⟩)) rfl (by kernel_rfl) (fun _ _ _ h => h) (.inl ⟨rfl, fun w hS => ?_⟩) hS ?_
  · go_simp
  try simp only [Act.put, List.setIfInBounds_toArray, List.set_cons_zero, List.set_cons_succ]
  refine held_take (i := 9) (v := .pointer (some ⟨b, off + i * 3 + 2, none⟩)) rfl (by kernel_rfl) (fun _ _ _ h => h) (.inl ⟨rfl, fun w hS => ?_⟩) hS ?_
  · go_simp
  try simp only [Act.put, List.setIfInBounds_toArray, List.set_cons_zero, List.set_cons_succ]
  refine held_take (i := 10) (v := .int .i64 nn) rfl (by kernel_rfl) (fun _ _ _ h => h) (.inl ⟨rfl, fun w hS => ?_⟩) hS ?_
  · have q : w.cell? ⟨b, off + i * 3 + 2, none⟩ = some (.int .i64 nn) := by rw [cell_block (hS.block b hbN.out)]; exact ha2.out
    go_simp
  try simp only [Act.put, List.setIfInBounds_toArray, List.set_cons_zero, List.set_cons_succ]
  refine held_one (i := 11) (by kernel_rfl) rfl rfl ?_
  intro K hK
  go_simp
  go_at_call 9
  refine HC.out.mono ?_
  rintro e wC ⟨rfl, hT, hb2, hk2, hs2⟩
  have hN : (fun w' => Below w0.heap.size w0 w') wC := hS.trans hb2
  refine hK.out _ _ hN ?_
  clear hK hS
  have hS := hN
  clear hN
  try simp only [Act.put, List.setIfInBounds_toArray, List.set_cons_zero, List.set_cons_succ]
  refine held_take (i := 12) (v := .int .i64 x) rfl (by kernel_rfl) (fun _ _ _ h => h) (.inl ⟨rfl, fun w hS => ?_⟩) hS ?_
  · go_simp
  try simp only [Act.put, List.setIfInBounds_toArray, List.set_cons_zero, List.set_cons_succ]
  refine wpAnyH_done (by kernel_rfl) ?_ _
  refine NoPanic.normal ?_
  exact hQ.out _ _ _ _ _ _ _ _ _ _ _ _ _ hT ((hdr.mono hb0.size).trans hb2) ((KpT.below hdr).trans hk2)
set_option maxHeartbeats 4000000 in
set_option maxRecDepth 60000 in
theorem acts_17 (t0 t1 t3 t4 t5 t6 t7 t8 t11 t12 t13 t14 t15 t16 t17 t18 t19 t20 t21 t22 t23 t24 t25 t26 t27 t28 t29 t30 t31 t32 t33 t34 t35 t36 t37 t38 t39 t40 t41 t42 t43 t44 t45 t46 t47 t48 t49 t50 t51 t52 t53 t54 t55 t56 t57 t58 t59 t60 t61 t62 t63 t64 t65 t66 t67 t68 t69 t70 t71 t72 t73 t74 t75 t76 t77 t78 t79 t80 t81 t82 t83 t84 t85 t86 t87 t88 t89 t90 t91 t92 t93 t94 t95 t96 t97 t98 t99 t100 t101 t102 t103 t104 t105 t106 t107 t108 t109 t110 t111 t112 t113 t114 t115 t116 t117 t118 t119 t120 t121 t122 t123 t124 t125 t126 t127 t128 t129 t130 t131 t132 t133 t134 t135 t136 t137 t138 t139 t140 t141 t142 t143 t144 t145 t146 t147 t148 t149 t150 t151 t152 t153 t154 t155 t156 t157 t158 t159 t160 t161 t162 t163 t164 t165 t166 t167 t168 t169 t170 t171 t172 t173 t174 t175 t176 t177 t178 t179 t180 t181 t182 t183 t184 t185 t186 t187 t188 t189 t190 t191 t192 t193 t194 t195 t196 : Value) (b off len cap i r9 k c : Nat) (ra : Option Addr) (pp nn x : Int) (P : List (List Int)) (R t t2 : Nat) (w0 : World) (w1 : World) (Q : Exit → Act → World → Prop)
    (hb0 : Below w0.heap.size w0 w1) (hbN : Hid (b < w0.heap.size)) (hi : (i : Int) < (len : Int)) (ha1 : Hid (w0.cell? ⟨b, off + i * 3 + 1, none⟩ = some (.int .i64 pp))) (ha2 : Hid (w0.cell? ⟨b, off + i * 3 + 2, none⟩ = some (.int .i64 nn))) (hX : Hid (Bx3 w1 r9 30 (.slice ra k c) (.int .i64 R) (.int .i64 t))) (h9 : Hid (w0.heap.size ≤ r9)) (hkP : Hid (P.length = k)) (HC : Hid (Calls Try.prog 10 #[.agg #[.slice ra k c, .int .i64 R, .int .i64 t], .int .i64 pp, .int .i64 nn] w1.drew fun e w' => RpPost P R t2 x w1.drew e w'))
    (hQ : Hid (∀ (u108 u109 u110 u111 u112 u113 u114 u115 u116 u117 u118 u119 u120 u121 u122 : Value) (ra2 : Option Addr) (c3 : Nat) (wC : World), Below w1.heap.size w1 wC → Bx3 wC r9 30 (.slice ra k c) (.int .i64 R) (.int .i64 t) → RowsAt wC ra2 k c3 P → Q .normal ⟨#[t0, t1, .slice (some ⟨b, off, none⟩) len cap, t3, t4, t5, t6, t7, t8, .pointer (some ⟨r9, 0, none⟩), .int .i64 (i : Int), t11, t12, t13, t14, t15, .int .i64 x, t17, t18, t19, t20, t21, t22, t23, t24, t25, t26, t27, t28, t29, t30, t31, t32, t33, t34, t35, t36, t37, t38, t39, t40, t41, t42, t43, t44, t45, t46, t47, t48, t49, t50, t51, t52, t53, t54, t55, t56, t57, t58, t59, t60, t61, t62, t63, t64, t65, t66, t67, t68, t69, t70, t71, t72, t73, t74, t75, t76, t77, t78, t79, t80, t81, t82, t83, t84, t85, t86, t87, t88, t89, t90, t91, t92, t93, t94, t95, t96, t97, t98, t99, t100, t101, t102, t103, t104, t105, t106, t107, u108, u109, u110, u111, u112, u113, u114, u115, u116, u117, u118, u119, u120, u121, u122, t123, t124, t125, t126, t127, t128, t129, t130, t131, t132, t133, t134, t135, t136, t137, t138, t139, t140, t141, t142, t143, t144, t145, t146, t147, t148, t149, t150, t151, t152, t153, t154, t155, t156, t157, t158, t159, t160, t161, t162, t163, t164, t165, t166, t167, t168, t169, t170, t171, t172, t173, t174, t175, t176, t177, t178, t179, t180, t181, t182, t183, t184, t185, t186, t187, t188, t189, t190, t191, t192, t193, t194, t195, t196], []⟩ (put3 wC r9 (.slice ra2 k c3) (.int .i64 R) (.int .i64 t2)))) :
    Code.wp Try.prog ((Try.f3.body.bind (regionOf 17)).getD .skip) Q ⟨#[t0, t1, .slice (some ⟨b, off, none⟩) len cap, t3, t4, t5, t6, t7, t8, .pointer (some ⟨r9, 0, none⟩), .int .i64 (i : Int), t11, t12, t13, t14, t15, t16, t17, t18, t19, t20, t21, t22, t23, t24, t25, t26, t27, t28, t29, t30, t31, t32, t33, t34, t35, t36, t37, t38, t39, t40, t41, t42, t43, t44, t45, t46, t47, t48, t49, t50, t51, t52, t53, t54, t55, t56, t57, t58, t59, t60, t61, t62, t63, t64, t65, t66, t67, t68, t69, t70, t71, t72, t73, t74, t75, t76, t77, t78, t79, t80, t81, t82, t83, t84, t85, t86, t87, t88, t89, t90, t91, t92, t93, t94, t95, t96, t97, t98, t99, t100, t101, t102, t103, t104, t105, t106, t107, t108, t109, t110, t111, t112, t113, t114, t115, t116, t117, t118, t119, t120, t121, t122, t123, t124, t125, t126, t127, t128, t129, t130, t131, t132, t133, t134, t135, t136, t137, t138, t139, t140, t141, t142, t143, t144, t145, t146, t147, t148, t149, t150, t151, t152, t153, t154, t155, t156, t157, t158, t159, t160, t161, t162, t163, t164, t165, t166, t167, t168, t169, t170, t171, t172, t173, t174, t175, t176, t177, t178, t179, t180, t181, t182, t183, t184, t185, t186, t187, t188, t189, t190, t191, t192, t193, t194, t195, t196], []⟩ w1 := by
  have hdr := below_drew w1
  have hS : (fun w' => Below w0.heap.size w0 w') w1.drew := hb0.trans (hdr.mono hb0.size)
  conv => arg 2; whnf
  refine held_start (S := fun w' => Below w0.heap.size w0 w') mixed9 ?_
  refine held_take (i := 1) (v := .slice (some ⟨b, off, none⟩) len cap) rfl (by kernel_rfl) (fun _ _ _ h => h) (.inl ⟨rfl, fun w hS => ?_⟩) hS ?_
  · go_simp
  try simp only [Act.put, List.setIfInBounds_toArray, List.set_cons_zero, List.set_cons_succ]
  refine held_take (i := 2) (v := .int .i64 (i : Int)) rfl (by kernel_rfl) (fun _ _ _ h => h) (.inl ⟨rfl, fun w hS => ?_⟩) hS ?_
  · go_simp
  try simp only [Act.put, List.setIfInBounds_toArray, List.set_cons_zero, List.set_cons_succ]
  refine held_take (i := 3) (v := .pointer (some ⟨b, off + i * 3, none⟩)) rfl (by kernel_rfl) (fun _ _ _ h => h) (.inl ⟨rfl, fun w hS => ?_⟩) hS ?_
  · go_simp
  try simp only [Act.put, List.setIfInBounds_toArray, List.set_cons_zero, List.set_cons_succ]
  refine held_take (i := 4) (v := .pointer (some ⟨b, off + i * 3 + 1, none⟩)) rfl (by kernel_rfl) (fun _ _ _ h => h) (.inl ⟨rfl, fun w hS => ?_⟩) hS ?_
  · go_simp
  try simp only [Act.put, List.setIfInBounds_toArray, List.set_cons_zero, List.set_cons_succ]
  refine held_take (i := 5) (v := .int .i64 pp) rfl (by kernel_rfl) (fun _ _ _ h => h) (.inl ⟨rfl, fun w hS => ?_⟩) hS ?_
  · have q : w.cell? ⟨b, off + i * 3 + 1, none⟩ = some (.int .i64 pp) := by rw [cell_block (hS.block b hbN.out)]; exact ha1.out
    go_simp
  try simp only [Act.put, List.setIfInBounds_toArray, List.set_cons_zero, List.set_cons_succ]
  refine held_take (i := 6) (v := .slice (some ⟨b, off, none⟩) len cap) rfl (by kernel_rfl) (fun _ _ _ h => h) (.inl ⟨rfl, fun w hS => ?_⟩) hS ?_
  · go_simp
  try simp only [Act.put, List.setIfInBounds_toArray, List.set_cons_zero, List.set_cons_succ]
  refine held_take (i := 7) (v := .int .i64 (i : Int)) rfl (by kernel_rfl) (fun _ _ _ h => h) (.inl ⟨rfl, fun w hS => ?_⟩) hS ?_
  · go_simp
  try simp only [Act.put, List.setIfInBounds_toArray, List.set_cons_zero, List.set_cons_succ]
  refine held_take (i := 8) (v := .pointer (some ⟨b, off + i * 3, none⟩)) rfl (by kernel_rfl) (fun _ _ _ h => h) (.inl ⟨rfl, fun w hS => ?_⟩) hS ?_
  · go_simp
  try simp only [Act.put, List.setIfInBounds_toArray, List.set_cons_zero, List.set_cons_succ]
  refine held_take (i := 9) (v := .pointer (some ⟨b, off + i * 3 + 2, none⟩)) rfl (by kernel_rfl) (fun _ _ _ h => h) (.inl ⟨rfl, fun w hS => ?_⟩) hS ?_
  · go_simp
  try simp only [Act.put, List.setIfInBounds_toArray, List.set_cons_zero, List.set_cons_succ]
  refine held_take (i := 10) (v := .int .i64 nn) rfl (by kernel_rfl) (fun _ _ _ h => h) (.inl ⟨rfl, fun w hS => ?_⟩) hS ?_
  · have q : w.cell? ⟨b, off + i * 3 + 2, none⟩ = some (.int .i64 nn) := by rw [cell_block (hS.block b hbN.out)]; exact ha2.out
    go_simp
  try simp only [Act.put, List.setIfInBounds_toArray, List.set_cons_zero, List.set_cons_succ]
  refine held_one (i := 0) (by kernel_rfl) rfl rfl ?_
  intro K hK
  obtain ⟨c0, c1, c2⟩ := hX.out.cells
  go_simp
  refine hK.out _ _ hS ?_
  clear hK c0 c1 c2
  try simp only [Act.put, List.setIfInBounds_toArray, List.set_cons_zero, List.set_cons_succ]
  refine held_one (i := 11) (by kernel_rfl) rfl rfl ?_
  intro K hK
  go_simp
  go_at_call 10
  refine HC.out.mono ?_
  rintro e wC ⟨hb2, v, rfl, hT⟩
  obtain ⟨ra2, c3, rfl, hR⟩ := hT.is hkP.out
  clear hT
  have hN : (fun w' => Below w0.heap.size w0 w') wC := hS.trans (hb2.mono (show w0.heap.size ≤ w1.heap.size from hb0.size))
  have hx9 : Bx3 wC r9 30 (.slice ra k c) (.int .i64 R) (.int .i64 t) := hX.out.below (hdr.trans hb2)
  refine hK.out _ _ hN ?_
  clear hK hS
  have hS := hN
  clear hN
  try simp only [Act.put, List.setIfInBounds_toArray, List.set_cons_zero, List.set_cons_succ]
  refine held_take (i := 12) (v := .tuple #[.agg #[.slice ra2 k c3, .int .i64 R, .int .i64 t2], .int .i64 x]) rfl (by kernel_rfl) (fun _ _ _ h => h) (.inl ⟨rfl, fun w hS => ?_⟩) hS ?_
  · go_simp
  try simp only [Act.put, List.setIfInBounds_toArray, List.set_cons_zero, List.set_cons_succ]
  refine held_take (i := 13) (v := .agg #[.slice ra2 k c3, .int .i64 R, .int .i64 t2]) rfl (by kernel_rfl) (fun _ _ _ h => h) (.inl ⟨rfl, fun w hS => ?_⟩) hS ?_
  · go_simp
  try simp only [Act.put, List.setIfInBounds_toArray, List.set_cons_zero, List.set_cons_succ]
  refine held_take (i := 14) (v := .int .i64 x) rfl (by kernel_rfl) (fun _ _ _ h => h) (.inl ⟨rfl, fun w hS => ?_⟩) hS ?_
  · go_simp
  try simp only [Act.put, List.setIfInBounds_toArray, List.set_cons_zero, List.set_cons_succ]
  refine held_one (i := 15) (by kernel_rfl) rfl rfl ?_
  intro K hK
  obtain ⟨c0, c1, c2⟩ := hx9.cells
  obtain ⟨f0, f1, f2⟩ := hx9.frz
  go_simp
  have hN : (fun w' => Below w0.heap.size w0 w') (put3 wC r9 (.slice ra2 k c3) (.int .i64 R) (.int .i64 t2)) := put3_below hS h9.out _ _ _
  show K _ (put3 wC r9 (.slice ra2 k c3) (.int .i64 R) (.int .i64 t2))
  refine hK.out _ _ hN ?_
  clear hK hS c0 c1 c2 f0 f1 f2
  have hS := hN
  clear hN
  try simp only [Act.put, List.setIfInBounds_toArray, List.set_cons_zero, List.set_cons_succ]
  refine held_take (i := 16) (v := .int .i64 x) rfl (by kernel_rfl) (fun _ _ _ h => h) (.inl ⟨rfl, fun w hS => ?_⟩) hS ?_
  · go_simp
  try simp only [Act.put, List.setIfInBounds_toArray, List.set_cons_zero, List.set_cons_succ]
  refine wpAnyH_done (by kernel_rfl) ?_ _
  refine NoPanic.normal ?_
  exact hQ.out _ _ _ _ _ _ _ _ _ _ _ _ _ _ _ ra2 c3 wC (hdr.trans hb2) hx9 hR
set_option maxHeartbeats 4000000 in
set_option maxRecDepth 60000 in
theorem acts_20 (t0 t1 t3 t4 t5 t6 t7 t8 t11 t12 t13 t14 t15 t16 t17 t18 t19 t20 t21 t22 t23 t24 t25 t26 t27 t28 t29 t30 t31 t32 t33 t34 t35 t36 t37 t38 t39 t40 t41 t42 t43 t44 t45 t46 t47 t48 t49 t50 t51 t52 t53 t54 t55 t56 t57 t58 t59 t60 t61 t62 t63 t64 t65 t66 t67 t68 t69 t70 t71 t72 t73 t74 t75 t76 t77 t78 t79 t80 t81 t82 t83 t84 t85 t86 t87 t88 t89 t90 t91 t92 t93 t94 t95 t96 t97 t98 t99 t100 t101 t102 t103 t104 t105 t106 t107 t108 t109 t110 t111 t112 t113 t114 t115 t116 t117 t118 t119 t120 t121 t122 t123 t124 t125 t126 t127 t128 t129 t130 t131 t132 t133 t134 t135 t136 t137 t138 t139 t140 t141 t142 t143 t144 t145 t146 t147 t148 t149 t150 t151 t152 t153 t154 t155 t156 t157 t158 t159 t160 t161 t162 t163 t164 t165 t166 t167 t168 t169 t170 t171 t172 t173 t174 t175 t176 t177 t178 t179 t180 t181 t182 t183 t184 t185 t186 t187 t188 t189 t190 t191 t192 t193 t194 t195 t196 : Value) (b off len cap i r9 k c : Nat) (ra : Option Addr) (pp x y : Int) (P : List (List Int)) (R t t2 : Nat) (w0 : World) (w1 : World) (Q : Exit → Act → World → Prop)
    (hb0 : Below w0.heap.size w0 w1) (hbN : Hid (b < w0.heap.size)) (hi : (i : Int) < (len : Int)) (ha1 : Hid (w0.cell? ⟨b, off + i * 3 + 1, none⟩ = some (.int .i64 pp))) (hX : Hid (Bx3 w1 r9 30 (.slice ra k c) (.int .i64 R) (.int .i64 t))) (h9 : Hid (w0.heap.size ≤ r9)) (hkP : Hid (P.length = k)) (HC : Hid (Calls Try.prog 12 #[.agg #[.slice ra k c, .int .i64 R, .int .i64 t], .int .i64 pp] w1.drew fun e w' => RtPost P R t2 x y w1.drew e w'))
    (hQ : Hid (∀ (u135 u136 u137 u138 u139 u140 u141 u142 u143 u144 u145 : Value) (ra2 : Option Addr) (c3 : Nat) (wC : World), Below w1.heap.size w1 wC → Bx3 wC r9 30 (.slice ra k c) (.int .i64 R) (.int .i64 t) → RowsAt wC ra2 k c3 P → Q .normal ⟨#[t0, t1, .slice (some ⟨b, off, none⟩) len cap, t3, t4, t5, t6, t7, t8, .pointer (some ⟨r9, 0, none⟩), .int .i64 (i : Int), t11, .int .i64 x, t13, t14, t15, .int .i64 y, t17, t18, t19, t20, t21, t22, t23, t24, t25, t26, t27, t28, t29, t30, t31, t32, t33, t34, t35, t36, t37, t38, t39, t40, t41, t42, t43, t44, t45, t46, t47, t48, t49, t50, t51, t52, t53, t54, t55, t56, t57, t58, t59, t60, t61, t62, t63, t64, t65, t66, t67, t68, t69, t70, t71, t72, t73, t74, t75, t76, t77, t78, t79, t80, t81, t82, t83, t84, t85, t86, t87, t88, t89, t90, t91, t92, t93, t94, t95, t96, t97, t98, t99, t100, t101, t102, t103, t104, t105, t106, t107, t108, t109, t110, t111, t112, t113, t114, t115, t116, t117, t118, t119, t120, t121, t122, t123, t124, t125, t126, t127, t128, t129, t130, t131, t132, t133, t134, u135, u136, u137, u138, u139, u140, u141, u142, u143, u144, u145, t146, t147, t148, t149, t150, t151, t152, t153, t154, t155, t156, t157, t158, t159, t160, t161, t162, t163, t164, t165, t166, t167, t168, t169, t170, t171, t172, t173, t174, t175, t176, t177, t178, t179, t180, t181, t182, t183, t184, t185, t186, t187, t188, t189, t190, t191, t192, t193, t194, t195, t196], []⟩ (put3 wC r9 (.slice ra2 k c3) (.int .i64 R) (.int .i64 t2)))) :
    Code.wp Try.prog ((Try.f3.body.bind (regionOf 20)).getD .skip) Q ⟨#[t0, t1, .slice (some ⟨b, off, none⟩) len cap, t3, t4, t5, t6, t7, t8, .pointer (some ⟨r9, 0, none⟩), .int .i64 (i : Int), t11, t12, t13, t14, t15, t16, t17, t18, t19, t20, t21, t22, t23, t24, t25, t26, t27, t28, t29, t30, t31, t32, t33, t34, t35, t36, t37, t38, t39, t40, t41, t42, t43, t44, t45, t46, t47, t48, t49, t50, t51, t52, t53, t54, t55, t56, t57, t58, t59, t60, t61, t62, t63, t64, t65, t66, t67, t68, t69, t70, t71, t72, t73, t74, t75, t76, t77, t78, t79, t80, t81, t82, t83, t84, t85, t86, t87, t88, t89, t90, t91, t92, t93, t94, t95, t96, t97, t98, t99, t100, t101, t102, t103, t104, t105, t106, t107, t108, t109, t110, t111, t112, t113, t114, t115, t116, t117, t118, t119, t120, t121, t122, t123, t124, t125, t126, t127, t128, t129, t130, t131, t132, t133, t134, t135, t136, t137, t138, t139, t140, t141, t142, t143, t144, t145, t146, t147, t148, t149, t150, t151, t152, t153, t154, t155, t156, t157, t158, t159, t160, t161, t162, t163, t164, t165, t166, t167, t168, t169, t170, t171, t172, t173, t174, t175, t176, t177, t178, t179, t180, t181, t182, t183, t184, t185, t186, t187, t188, t189, t190, t191, t192, t193, t194, t195, t196], []⟩ w1 := by
  have hdr := below_drew w1
  have hS : (fun w' => Below w0.heap.size w0 w') w1.drew := hb0.trans (hdr.mono hb0.size)
  conv => arg 2; whnf
  refine held_start (S := fun w' => Below w0.heap.size w0 w') mixed9 ?_
  refine held_take (i := 1) (v := .slice (some ⟨b, off, none⟩) len cap) rfl (by kernel_rfl) (fun _ _ _ h => h) (.inl ⟨rfl, fun w hS => ?_⟩) hS ?_
  · go_simp
  try simp only [Act.put, List.setIfInBounds_toArray, List.set_cons_zero, List.set_cons_succ]
  refine held_take (i := 2) (v := .int .i64 (i : Int)) rfl (by kernel_rfl) (fun _ _ _ h => h) (.inl ⟨rfl, fun w hS => ?_⟩) hS ?_
  · go_simp
  try simp only [Act.put, List.setIfInBounds_toArray, List.set_cons_zero, List.set_cons_succ]
  refine held_take (i := 3) (v := .pointer (some ⟨b, off + i * 3, none⟩)) rfl (by kernel_rfl) (fun _ _ _ h => h) (.inl ⟨rfl, fun w hS => ?_⟩) hS ?_
  · go_simp
  try simp only [Act.put, List.setIfInBounds_toArray, List.set_cons_zero, List.set_cons_succ]
  refine held_take (i := 4) (v := .pointer (some ⟨b, off + i * 3 + 1, none⟩)) rfl (by kernel_rfl) (fun _ _ _ h => h) (.inl ⟨rfl, fun w hS => ?_⟩) hS ?_
  · go_simp
  try simp only [Act.put, List.setIfInBounds_toArray, List.set_cons_zero, List.set_cons_succ]
  refine held_take (i := 5) (v := .int .i64 pp) rfl (by kernel_rfl) (fun _ _ _ h => h) (.inl ⟨rfl, fun w hS => ?_⟩) hS ?_
  · have q : w.cell? ⟨b, off + i * 3 + 1, none⟩ = some (.int .i64 pp) := by rw [cell_block (hS.block b hbN.out)]; exact ha1.out
    go_simp
  try simp only [Act.put, List.setIfInBounds_toArray, List.set_cons_zero, List.set_cons_succ]
  refine held_one (i := 0) (by kernel_rfl) rfl rfl ?_
  intro K hK
  obtain ⟨c0, c1, c2⟩ := hX.out.cells
  go_simp
  refine hK.out _ _ hS ?_
  clear hK c0 c1 c2
  try simp only [Act.put, List.setIfInBounds_toArray, List.set_cons_zero, List.set_cons_succ]
  refine held_one (i := 6) (by kernel_rfl) rfl rfl ?_
  intro K hK
  go_simp
  go_at_call 12
  refine HC.out.mono ?_
  rintro e wC ⟨hb2, v, rfl, hT⟩
  obtain ⟨ra2, c3, rfl, hR⟩ := hT.is hkP.out
  clear hT
  have hN : (fun w' => Below w0.heap.size w0 w') wC := hS.trans (hb2.mono (show w0.heap.size ≤ w1.heap.size from hb0.size))
  have hx9 : Bx3 wC r9 30 (.slice ra k c) (.int .i64 R) (.int .i64 t) := hX.out.below (hdr.trans hb2)
  refine hK.out _ _ hN ?_
  clear hK hS
  have hS := hN
  clear hN
  try simp only [Act.put, List.setIfInBounds_toArray, List.set_cons_zero, List.set_cons_succ]
  refine held_take (i := 7) (v := .tuple #[.agg #[.slice ra2 k c3, .int .i64 R, .int .i64 t2], .int .i64 x, .int .i64 y]) rfl (by kernel_rfl) (fun _ _ _ h => h) (.inl ⟨rfl, fun w hS => ?_⟩) hS ?_
  · go_simp
  try simp only [Act.put, List.setIfInBounds_toArray, List.set_cons_zero, List.set_cons_succ]
  refine held_take (i := 8) (v := .agg #[.slice ra2 k c3, .int .i64 R, .int .i64 t2]) rfl (by kernel_rfl) (fun _ _ _ h => h) (.inl ⟨rfl, fun w hS => ?_⟩) hS ?_
  · go_simp
  try simp only [Act.put, List.setIfInBounds_toArray, List.set_cons_zero, List.set_cons_succ]
  refine held_take (i := 9) (v := .int .i64 x) rfl (by kernel_rfl) (fun _ _ _ h => h) (.inl ⟨rfl, fun w hS => ?_⟩) hS ?_
  · go_simp
  try simp only [Act.put, List.setIfInBounds_toArray, List.set_cons_zero, List.set_cons_succ]
  refine held_take (i := 10) (v := .int .i64 y) rfl (by kernel_rfl) (fun _ _ _ h => h) (.inl ⟨rfl, fun w hS => ?_⟩) hS ?_
  · go_simp
  try simp only [Act.put, List.setIfInBounds_toArray, List.set_cons_zero, List.set_cons_succ]
  refine held_one (i := 11) (by kernel_rfl) rfl rfl ?_
  intro K hK
  obtain ⟨c0, c1, c2⟩ := hx9.cells
  obtain ⟨f0, f1, f2⟩ := hx9.frz
  go_simp
  have hN : (fun w' => Below w0.heap.size w0 w') (put3 wC r9 (.slice ra2 k c3) (.int .i64 R) (.int .i64 t2)) := put3_below hS h9.out _ _ _
  show K _ (put3 wC r9 (.slice ra2 k c3) (.int .i64 R) (.int .i64 t2))
  refine hK.out _ _ hN ?_
  clear hK hS c0 c1 c2 f0 f1 f2
  have hS := hN
  clear hN
  try simp only [Act.put, List.setIfInBounds_toArray, List.set_cons_zero, List.set_cons_succ]
  refine held_take (i := 12) (v := .int .i64 x) rfl (by kernel_rfl) (fun _ _ _ h => h) (.inl ⟨rfl, fun w hS => ?_⟩) hS ?_
  · go_simp
  try simp only [Act.put, List.setIfInBounds_toArray, List.set_cons_zero, List.set_cons_succ]
  refine held_take (i := 13) (v := .int .i64 y) rfl (by kernel_rfl) (fun _ _ _ h => h) (.inl ⟨rfl, fun w hS => ?_⟩) hS ?_
  · go_simp
  try simp only [Act.put, List.setIfInBounds_toArray, List.set_cons_zero, List.set_cons_succ]
  refine wpAnyH_done (by kernel_rfl) ?_ _
  refine NoPanic.normal ?_
  exact hQ.out _ _ _ _ _ _ _ _ _ _ _ ra2 c3 wC (hdr.trans hb2) hx9 hR
set_option maxHeartbeats 4000000 in
set_option maxRecDepth 60000 in
theorem acts_14 (t0 t1 t3 t4 t5 t6 t7 t8 t11 t12 t13 t14 t15 t16 t17 t18 t19 t20 t21 t22 t23 t24 t25 t26 t27 t28 t29 t30 t31 t32 t33 t34 t35 t36 t37 t38 t39 t40 t41 t42 t43 t44 t45 t46 t47 t48 t49 t50 t51 t52 t53 t54 t55 t56 t57 t58 t59 t60 t61 t62 t63 t64 t65 t66 t67 t68 t69 t70 t71 t72 t73 t74 t75 t76 t77 t78 t79 t80 t81 t82 t83 t84 t85 t86 t87 t88 t89 t90 t91 t92 t93 t94 t95 t96 t97 t98 t99 t100 t101 t102 t103 t104 t105 t106 t107 t108 t109 t110 t111 t112 t113 t114 t115 t116 t117 t118 t119 t120 t121 t122 t123 t124 t125 t126 t127 t128 t129 t130 t131 t132 t133 t134 t135 t136 t137 t138 t139 t140 t141 t142 t143 t144 t145 t146 t147 t148 t149 t150 t151 t152 t153 t154 t155 t156 t157 t158 t159 t160 t161 t162 t163 t164 t165 t166 t167 t168 t169 t170 t171 t172 t173 t174 t175 t176 t177 t178 t179 t180 t181 t182 t183 t184 t185 t186 t187 t188 t189 t190 t191 t192 t193 t194 t195 t196 : Value) (b off len cap i r9 k c : Nat) (ra : Option Addr) (nn x y : Int) (P : List (List Int)) (R t t2 : Nat) (w0 : World) (w1 : World) (Q : Exit → Act → World → Prop)
    (hb0 : Below w0.heap.size w0 w1) (hbN : Hid (b < w0.heap.size)) (hi : (i : Int) < (len : Int)) (ha2 : Hid (w0.cell? ⟨b, off + i * 3 + 2, none⟩ = some (.int .i64 nn))) (hX : Hid (Bx3 w1 r9 30 (.slice ra k c) (.int .i64 R) (.int .i64 t))) (h9 : Hid (w0.heap.size ≤ r9)) (hkP : Hid (P.length = k)) (HC : Hid (Calls Try.prog 16 #[.agg #[.slice ra k c, .int .i64 R, .int .i64 t], .int .i64 nn] w1.drew fun e w' => RtPost P R t2 x y w1.drew e w'))
    (hQ : Hid (∀ (u83 u84 u85 u86 u87 u88 u89 u90 u91 u92 u93 : Value) (ra2 : Option Addr) (c3 : Nat) (wC : World), Below w1.heap.size w1 wC → Bx3 wC r9 30 (.slice ra k c) (.int .i64 R) (.int .i64 t) → RowsAt wC ra2 k c3 P → Q .normal ⟨#[t0, t1, .slice (some ⟨b, off, none⟩) len cap, t3, t4, t5, t6, t7, t8, .pointer (some ⟨r9, 0, none⟩), .int .i64 (i : Int), t11, t12, t13, .int .i64 x, t15, .int .i64 y, t17, t18, t19, t20, t21, t22, t23, t24, t25, t26, t27, t28, t29, t30, t31, t32, t33, t34, t35, t36, t37, t38, t39, t40, t41, t42, t43, t44, t45, t46, t47, t48, t49, t50, t51, t52, t53, t54, t55, t56, t57, t58, t59, t60, t61, t62, t63, t64, t65, t66, t67, t68, t69, t70, t71, t72, t73, t74, t75, t76, t77, t78, t79, t80, t81, t82, u83, u84, u85, u86, u87, u88, u89, u90, u91, u92, u93, t94, t95, t96, t97, t98, t99, t100, t101, t102, t103, t104, t105, t106, t107, t108, t109, t110, t111, t112, t113, t114, t115, t116, t117, t118, t119, t120, t121, t122, t123, t124, t125, t126, t127, t128, t129, t130, t131, t132, t133, t134, t135, t136, t137, t138, t139, t140, t141, t142, t143, t144, t145, t146, t147, t148, t149, t150, t151, t152, t153, t154, t155, t156, t157, t158, t159, t160, t161, t162, t163, t164, t165, t166, t167, t168, t169, t170, t171, t172, t173, t174, t175, t176, t177, t178, t179, t180, t181, t182, t183, t184, t185, t186, t187, t188, t189, t190, t191, t192, t193, t194, t195, t196], []⟩ (put3 wC r9 (.slice ra2 k c3) (.int .i64 R) (.int .i64 t2)))) :
    Code.wp Try.prog ((Try.f3.body.bind (regionOf 14)).getD .skip) Q ⟨#[t0, t1, .slice (some ⟨b, off, none⟩) len cap, t3, t4, t5, t6, t7, t8, .pointer (some ⟨r9, 0, none⟩), .int .i64 (i : Int), t11, t12, t13, t14, t15, t16, t17, t18, t19, t20, t21, t22, t23, t24, t25, t26, t27, t28, t29, t30, t31, t32, t33, t34, t35, t36, t37, t38, t39, t40, t41, t42, t43, t44, t45, t46, t47, t48, t49, t50, t51, t52, t53, t54, t55, t56, t57, t58, t59, t60, t61, t62, t63, t64, t65, t66, t67, t68, t69, t70, t71, t72, t73, t74, t75, t76, t77, t78, t79, t80, t81, t82, t83, t84, t85, t86, t87, t88, t89, t90, t91, t92, t93, t94, t95, t96, t97, t98, t99, t100, t101, t102, t103, t104, t105, t106, t107, t108, t109, t110, t111, t112, t113, t114, t115, t116, t117, t118, t119, t120, t121, t122, t123, t124, t125, t126, t127, t128, t129, t130, t131, t132, t133, t134, t135, t136, t137, t138, t139, t140, t141, t142, t143, t144, t145, t146, t147, t148, t149, t150, t151, t152, t153, t154, t155, t156, t157, t158, t159, t160, t161, t162, t163, t164, t165, t166, t167, t168, t169, t170, t171, t172, t173, t174, t175, t176, t177, t178, t179, t180, t181, t182, t183, t184, t185, t186, t187, t188, t189, t190, t191, t192, t193, t194, t195, t196], []⟩ w1 := by
  have hdr := below_drew w1
  have hS : (fun w' => Below w0.heap.size w0 w') w1.drew := hb0.trans (hdr.mono hb0.size)
  conv => arg 2; whnf
  refine held_start (S := fun w' => Below w0.heap.size w0 w') mixed9 ?_
  refine held_take (i := 1) (v := .slice (some ⟨b, off, none⟩) len cap) rfl (by kernel_rfl) (fun _ _ _ h => h) (.inl ⟨rfl, fun w hS => ?_⟩) hS ?_
  · go_simp
  try simp only [Act.put, List.setIfInBounds_toArray, List.set_cons_zero, List.set_cons_succ]
  refine held_take (i := 2) (v := .int .i64 (i : Int)) rfl (by kernel_rfl) (fun _ _ _ h => h) (.inl ⟨rfl, fun w hS => ?_⟩) hS ?_
  · go_simp
  try simp only [Act.put, List.setIfInBounds_toArray, List.set_cons_zero, List.set_cons_succ]
  refine held_take (i := 3) (v := .pointer (some ⟨b, off + i * 3, none⟩)) rfl (by kernel_rfl) (fun _ _ _ h => h) (.inl ⟨rfl, fun w hS => ?_⟩) hS ?_
  · go_simp
  try simp only [Act.put, List.setIfInBounds_toArray, List.set_cons_zero, List.set_cons_succ]
  refine held_take (i := 4) (v := .pointer (some ⟨b, off + i * 3 + 2, none⟩)) rfl (by kernel_rfl) (fun _ _ _ h => h) (.inl ⟨rfl, fun w hS => ?_⟩) hS ?_
  · go_simp
  try simp only [Act.put, List.setIfInBounds_toArray, List.set_cons_zero, List.set_cons_succ]
  refine held_take (i := 5) (v := .int .i64 nn) rfl (by kernel_rfl) (fun _ _ _ h => h) (.inl ⟨rfl, fun w hS => ?_⟩) hS ?_
  · have q : w.cell? ⟨b, off + i * 3 + 2, none⟩ = some (.int .i64 nn) := by rw [cell_block (hS.block b hbN.out)]; exact ha2.out
    go_simp
  try simp only [Act.put, List.setIfInBounds_toArray, List.set_cons_zero, List.set_cons_succ]
  refine held_one (i := 0) (by kernel_rfl) rfl rfl ?_
  intro K hK
  obtain ⟨c0, c1, c2⟩ := hX.out.cells
  go_simp
  refine hK.out _ _ hS ?_
  clear hK c0 c1 c2
  try simp only [Act.put, List.setIfInBounds_toArray, List.set_cons_zero, List.set_cons_succ]
  refine held_one (i := 6) (by kernel_rfl) rfl rfl ?_
  intro K hK
  go_simp
  go_at_call 16
  refine HC.out.mono ?_
  rintro e wC ⟨hb2, v, rfl, hT⟩
  obtain ⟨ra2, c3, rfl, hR⟩ := hT.is hkP.out
  clear hT
  have hN : (fun w' => Below w0.heap.size w0 w') wC := hS.trans (hb2.mono (show w0.heap.size ≤ w1.heap.size from hb0.size))
  have hx9 : Bx3 wC r9 30 (.slice ra k c) (.int .i64 R) (.int .i64 t) := hX.out.below (hdr.trans hb2)
  refine hK.out _ _ hN ?_
  clear hK hS
  have hS := hN
  clear hN
  try simp only [Act.put, List.setIfInBounds_toArray, List.set_cons_zero, List.set_cons_succ]
  refine held_take (i := 7) (v := .tuple #[.agg #[.slice ra2 k c3, .int .i64 R, .int .i64 t2], .int .i64 x, .int .i64 y]) rfl (by kernel_rfl) (fun _ _ _ h => h) (.inl ⟨rfl, fun w hS => ?_⟩) hS ?_
  · go_simp
  try simp only [Act.put, List.setIfInBounds_toArray, List.set_cons_zero, List.set_cons_succ]
  refine held_take (i := 8) (v := .agg #[.slice ra2 k c3, .int .i64 R, .int .i64 t2]) rfl (by kernel_rfl) (fun _ _ _ h => h) (.inl ⟨rfl, fun w hS => ?_⟩) hS ?_
  · go_simp
  try simp only [Act.put, List.setIfInBounds_toArray, List.set_cons_zero, List.set_cons_succ]
  refine held_take (i := 9) (v := .int .i64 x) rfl (by kernel_rfl) (fun _ _ _ h => h) (.inl ⟨rfl, fun w hS => ?_⟩) hS ?_
  · go_simp
  try simp only [Act.put, List.setIfInBounds_toArray, List.set_cons_zero, List.set_cons_succ]
  refine held_take (i := 10) (v := .int .i64 y) rfl (by kernel_rfl) (fun _ _ _ h => h) (.inl ⟨rfl, fun w hS => ?_⟩) hS ?_
  · go_simp
  try simp only [Act.put, List.setIfInBounds_toArray, List.set_cons_zero, List.set_cons_succ]
  refine held_one (i := 11) (by kernel_rfl) rfl rfl ?_
  intro K hK
  obtain ⟨c0, c1, c2⟩ := hx9.cells
  obtain ⟨f0, f1, f2⟩ := hx9.frz
  go_simp
  have hN : (fun w' => Below w0.heap.size w0 w') (put3 wC r9 (.slice ra2 k c3) (.int .i64 R) (.int .i64 t2)) := put3_below hS h9.out _ _ _
  show K _ (put3 wC r9 (.slice ra2 k c3) (.int .i64 R) (.int .i64 t2))
  refine hK.out _ _ hN ?_
  clear hK hS c0 c1 c2 f0 f1 f2
  have hS := hN
  clear hN
  try simp only [Act.put, List.setIfInBounds_toArray, List.set_cons_zero, List.set_cons_succ]
  refine held_take (i := 12) (v := .int .i64 x) rfl (by kernel_rfl) (fun _ _ _ h => h) (.inl ⟨rfl, fun w hS => ?_⟩) hS ?_
  · go_simp
  try simp only [Act.put, List.setIfInBounds_toArray, List.set_cons_zero, List.set_cons_succ]
  refine held_take (i := 13) (v := .int .i64 y) rfl (by kernel_rfl) (fun _ _ _ h => h) (.inl ⟨rfl, fun w hS => ?_⟩) hS ?_
  · go_simp
  try simp only [Act.put, List.setIfInBounds_toArray, List.set_cons_zero, List.set_cons_succ]
  refine wpAnyH_done (by kernel_rfl) ?_ _
  refine NoPanic.normal ?_
  exact hQ.out _ _ _ _ _ _ _ _ _ _ _ ra2 c3 wC (hdr.trans hb2) hx9 hR
end Go.Proofs.Ytpolehfkjpbofaa.Ta
