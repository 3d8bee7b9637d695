/-
  The law of agreement: a proposer begins anew.
-/
import Derived.Test.YtejhmacbbdnlbaaAcZ3
namespace Go.Proofs.Ytejhmacbbdnlbaa.Ac
open Go.ChangeShapes Go.WideShapes Go.ChangeAt Go.RowKit
set_option maxHeartbeats 8000000 in
set_option maxRecDepth 60000 in
theorem round_anew (t0 t2 t3 t4 t17 t18 t19 t20 t21 t22 t23 t24 t25 t26 t27 t28 t29 t30 t31 t32 t33 t34 t35 t36 t37 t38 t39 t40 t41 t42 t43 t44 t45 t46 t47 t48 t49 t50 t51 t52 t53 t54 t55 t56 t57 t58 t59 t60 t61 t62 t63 t64 t65 t66 t67 t68 t69 t70 t71 t72 t73 t74 t75 t76 t77 t78 t79 t80 t81 t82 t83 t84 t85 t86 t87 t88 t89 t90 t91 t92 t93 t94 t95 t96 t97 t98 t99 t100 t101 t102 t103 t104 t105 t106 t107 t108 t109 t110 t111 t112 t113 t114 t115 t116 t117 t118 t119 t120 t121 t122 t123 t124 t125 t126 t127 t128 t129 t130 t131 t132 t133 t134 t135 t136 t137 t138 t139 t140 t141 t142 t143 t144 t145 t146 t147 t148 t149 t150 t151 t152 t153 t154 t155 t156 t157 t158 t159 t160 t161 t162 t163 t164 t165 t166 t167 t168 t169 t170 t171 t172 t173 t174 t175 t176 t177 t178 t179 t180 t181 t182 t183 t184 t185 t186 t187 t188 t189 t190 t191 t192 t193 t194 t195 t196 t197 t198 t199 t200 t201 t202 t203 t204 t205 t206 t207 t208 t209 t210 t211 t212 t213 t214 t215 t216 t217 t218 t219 t220 t221 t222 t223 t224 t225 t226 t227 t228 t229 t230 t231 t232 t233 t234 t235 t236 t237 t238 t239 t240 t241 t242 t243 t244 t245 t246 t247 t248 t249 t250 t251 t252 t253 t254 t255 t256 t257 t258 t259 t260 t261 t262 t263 t264 t265 t266 t267 t268 t269 t270 t271 t272 t273 t274 t275 t276 t277 t278 t279 t280 t281 t282 t283 t284 t285 t286 t287 t288 t289 t290 t291 t292 t293 : Value) (w wC : World) (k i G B T Y M V C b1 o1 len1 cap1 : Nat) (p q s : Nat) (d : Int) (S : Sy) (A : Int → Nat → Nat → Bool) (W : Int → Nat → Option Dl)
    (hc0 : wC.cell? ⟨b1, o1 + i * 4, none⟩ = some (.int .i64 d)) (HP : Hid (p < 3 ∧ q < k ∧ s < 3)) (hd0 : ¬ d = 0) (hd1 : ¬ d = 1)
    (HS : Hid (SyAt w wC k i ⟨G, B, T, Y, M, V, C⟩ S)) (HI : Hid (Inv k S A W)) (HB : Hid (Bd S i)) (e2 : (k : Int) ≤ 5) (i1 : (i : Int) < (len1 : Int)) (i2 : (i : Int) < 150)
    (Q : Exit → Act → World → Prop) (hQ : Hid (∀ (u17 u18 u19 u20 u21 u22 u23 u24 u66 u67 u68 u69 u70 u71 u72 u73 u74 u75 u76 u77 u78 u79 u80 u81 u82 u83 u84 u85 u86 u87 u88 u89 u90 u91 u92 u93 u94 u95 u96 u97 u98 u99 u100 u101 u102 u103 u104 u105 u106 u107 u108 u109 u110 u111 u112 u113 u114 u115 u116 u117 u118 u119 u120 u121 u122 u123 u124 u125 u126 u127 u128 u129 u130 u131 u132 u133 u134 u135 u136 u137 u138 u139 u140 u141 u142 u143 u144 u145 u146 u147 u148 u149 u150 u151 u152 u153 u154 u155 u156 u157 u158 u159 u160 u161 u162 u163 u164 u165 u166 u167 u168 u169 u170 u171 u172 u173 u174 u175 u176 u177 u178 u179 u180 u181 u182 u183 u184 u185 u186 u187 u188 u189 u190 u191 u192 u193 u194 u195 u196 u197 u198 u199 u200 u201 u202 u203 u204 u205 u206 u207 u208 u209 u210 u211 u212 u213 u214 u215 u216 u217 u218 u219 u220 u221 u222 u223 u224 u225 u226 u227 u228 u229 u230 u231 u232 u233 u234 u235 u236 u237 u238 u239 u240 u241 u242 u243 u244 u245 u246 u247 u248 u249 u250 u251 u252 u253 u254 u255 u256 u257 u258 u259 u260 u261 u262 u263 u264 u265 u266 u267 u268 u269 u270 u271 u272 u273 u274 u275 u276 u277 u278 u279 u280 u281 u282 u283 u284 u285 u286 u287 u288 u289 u290 u291 u292 : Value) (wZ : World), (∃ S A U, SyAt w wZ k (i + 1) ⟨G, B, T, Y, M, V, C⟩ S ∧ Inv k S A U ∧ Bd S (i + 1)) → Q .normal ⟨#[t0, .slice (some ⟨b1, o1, none⟩) len1 cap1, t2, t3, t4, .int .i64 (k : Int), .slice (some ⟨G, 0, none⟩) k k, .pointer (some ⟨B, 0, none⟩), .pointer (some ⟨T, 0, none⟩), .pointer (some ⟨Y, 0, none⟩), .pointer (some ⟨M, 0, none⟩), .map (some V), .pointer (some ⟨C, 0, none⟩), .int .i64 (i : Int), .int .i64 (p : Int), .int .i64 (q : Int), .int .i64 (s : Int), u17, u18, u19, u20, u21, u22, u23, u24, t25, t26, t27, t28, t29, t30, t31, t32, t33, t34, t35, t36, t37, t38, t39, t40, t41, t42, t43, t44, t45, t46, t47, t48, t49, t50, t51, t52, t53, t54, t55, t56, t57, t58, t59, t60, t61, t62, t63, t64, t65, u66, u67, u68, u69, u70, u71, u72, u73, u74, u75, u76, u77, u78, u79, u80, u81, u82, u83, u84, u85, u86, u87, u88, u89, u90, u91, u92, u93, u94, u95, u96, u97, u98, u99, u100, u101, u102, u103, u104, u105, u106, u107, u108, u109, u110, u111, u112, u113, u114, u115, u116, u117, u118, u119, u120, u121, u122, u123, u124, u125, u126, u127, u128, u129, u130, u131, u132, u133, u134, u135, u136, u137, u138, u139, u140, u141, u142, u143, u144, u145, u146, u147, u148, u149, u150, u151, u152, u153, u154, u155, u156, u157, u158, u159, u160, u161, u162, u163, u164, u165, u166, u167, u168, u169, u170, u171, u172, u173, u174, u175, u176, u177, u178, u179, u180, u181, u182, u183, u184, u185, u186, u187, u188, u189, u190, u191, u192, u193, u194, u195, u196, u197, u198, u199, u200, u201, u202, u203, u204, u205, u206, u207, u208, u209, u210, u211, u212, u213, u214, u215, u216, u217, u218, u219, u220, u221, u222, u223, u224, u225, u226, u227, u228, u229, u230, u231, u232, u233, u234, u235, u236, u237, u238, u239, u240, u241, u242, u243, u244, u245, u246, u247, u248, u249, u250, u251, u252, u253, u254, u255, u256, u257, u258, u259, u260, u261, u262, u263, u264, u265, u266, u267, u268, u269, u270, u271, u272, u273, u274, u275, u276, u277, u278, u279, u280, u281, u282, u283, u284, u285, u286, u287, u288, u289, u290, u291, u292, t293], []⟩ wZ)) :
    Code.wp Try.prog ((Try.f4.body.bind (restOf 12)).getD .skip) Q ⟨#[t0, .slice (some ⟨b1, o1, none⟩) len1 cap1, t2, t3, t4, .int .i64 (k : Int), .slice (some ⟨G, 0, none⟩) k k, .pointer (some ⟨B, 0, none⟩), .pointer (some ⟨T, 0, none⟩), .pointer (some ⟨Y, 0, none⟩), .pointer (some ⟨M, 0, none⟩), .map (some V), .pointer (some ⟨C, 0, none⟩), .int .i64 (i : Int), .int .i64 (p : Int), .int .i64 (q : Int), .int .i64 (s : Int), t17, t18, t19, t20, t21, t22, t23, t24, t25, t26, t27, t28, t29, t30, t31, t32, t33, t34, t35, t36, t37, t38, t39, t40, t41, t42, t43, t44, t45, t46, t47, t48, t49, t50, t51, t52, t53, t54, t55, t56, t57, t58, t59, t60, t61, t62, t63, t64, t65, t66, t67, t68, t69, t70, t71, t72, t73, t74, t75, t76, t77, t78, t79, t80, t81, t82, t83, t84, t85, t86, t87, t88, t89, t90, t91, t92, t93, t94, t95, t96, t97, t98, t99, t100, t101, t102, t103, t104, t105, t106, t107, t108, t109, t110, t111, t112, t113, t114, t115, t116, t117, t118, t119, t120, t121, t122, t123, t124, t125, t126, t127, t128, t129, t130, t131, t132, t133, t134, t135, t136, t137, t138, t139, t140, t141, t142, t143, t144, t145, t146, t147, t148, t149, t150, t151, t152, t153, t154, t155, t156, t157, t158, t159, t160, t161, t162, t163, t164, t165, t166, t167, t168, t169, t170, t171, t172, t173, t174, t175, t176, t177, t178, t179, t180, t181, t182, t183, t184, t185, t186, t187, t188, t189, t190, t191, t192, t193, t194, t195, t196, t197, t198, t199, t200, t201, t202, t203, t204, t205, t206, t207, t208, t209, t210, t211, t212, t213, t214, t215, t216, t217, t218, t219, t220, t221, t222, t223, t224, t225, t226, t227, t228, t229, t230, t231, t232, t233, t234, t235, t236, t237, t238, t239, t240, t241, t242, t243, t244, t245, t246, t247, t248, t249, t250, t251, t252, t253, t254, t255, t256, t257, t258, t259, t260, t261, t262, t263, t264, t265, t266, t267, t268, t269, t270, t271, t272, t273, t274, t275, t276, t277, t278, t279, t280, t281, t282, t283, t284, t285, t286, t287, t288, t289, t290, t291, t292, t293], []⟩ wC := by
  conv => arg 2; whnf
  have HC1 := Hid.mk9 hc0
  have HT2 : True := trivial
  have p3 : (p : Int) < 3 := by have := HP.out.1; omega
  have q3 : (q : Int) < (k : Int) := by have := HP.out.2.1; omega
  have q5 : (q : Int) < 5 := by omega
  have s3 : (s : Int) < 3 := by have := HP.out.2.2; omega
  have d1 : decide ((p : Int) < 0) = false := decide_eq_false (by omega)
  have d2 : decide ((q : Int) < 0) = false := decide_eq_false (by omega)
  have d3 : decide ((s : Int) < 0) = false := decide_eq_false (by omega)
  have x0 : (d == 0) = false := by rw [beq_eq_false_iff_ne]; exact hd0
  have x1 : (d == 1) = false := by rw [beq_eq_false_iff_ne]; exact hd1
  clear hd0 hd1 HT2
  obtain ⟨c1, c2⟩ := HS.out.rB HP.out.1
  obtain ⟨x, hx⟩ : ∃ x, S.bal p = x := ⟨_, rfl⟩
  have hx1 : 1 ≤ x := by
    obtain ⟨j, hj⟩ := HI.out.bal p HP.out.1
    omega
  have hx9 : x ≤ 453 := by have := HB.out.1 p HP.out.1; omega
  rw [hx] at c1
  have HS2 := Hid.mk9 (HS.out.setB (p := p) (x + 3))
  have HX := Hid.mk9 hx
  clear hx
  go_upto_region 16 with fail
  clear c1 c2 hc0
  replace HS2 : Hid (SyAt w (wC.setCell ⟨B, p, none⟩ (.int .i64 (x + 3))) k i ⟨G, B, T, Y, M, V, C⟩ { S with bal := upd S.bal p (x + 3) }) := HS2.out
  clear HS HC1
  generalize wC.setCell ⟨B, p, none⟩ (.int .i64 (x + 3)) = wD at *
  have stT := HS2.out.stT HP.out.1
  obtain ⟨wT, hwT⟩ : ∃ x, x = wrs wD T (p * 5) a5.toList := ⟨_, rfl⟩
  rw [← hwT] at stT
  have HST : Hid (SyAt w wT k i ⟨G, B, T, Y, M, V, C⟩ { S with bal := upd S.bal p (x + 3), told := upd S.told p (fun _ => []) }) := by rw [hwT]; exact HS2.out.clearT HP.out.1
  have stY := HST.out.stY HP.out.1
  obtain ⟨wY, hwY⟩ : ∃ x, x = wrs wT Y (p * 5) f5.toList := ⟨_, rfl⟩
  rw [← hwY] at stY
  have HSY : Hid (SyAt w wY k i ⟨G, B, T, Y, M, V, C⟩ { S with bal := upd S.bal p (x + 3), told := upd S.told p (fun _ => []), yes := upd S.yes p (fun _ => false) }) := by rw [hwY]; exact HST.out.clearY HP.out.1
  have stM := HSY.out.stM HP.out.1
  obtain ⟨wM, hwM⟩ : ∃ x, x = wrs wY M (p * 32) a32.toList := ⟨_, rfl⟩
  rw [← hwM] at stM
  have HTf : Hid (∃ S A U, SyAt w wM k (i + 1) ⟨G, B, T, Y, M, V, C⟩ S ∧ Inv k S A U ∧ Bd S (i + 1)) := by
    have h1 := (HSY.out.clearM HP.out.1).more (j := i + 1) (by omega)
    rw [← hwM] at h1
    have h2 := HI.out.anew HP.out.1
    rw [HX.out] at h2
    exact ⟨_, A, W, h1, h2, HB.out.anew (p := p) (by rw [HX.out]) rfl⟩
  have hz50 := zero_of info50
  have hz44 := zero_of info44
  have hz46 := zero_of info46
  have hs50 := size32
  have hs44 := size5
  have hs46 := fize5
  clear HS2 HST HSY hwT hwY hwM hx1 hx9
  go_wp2_with fail
  exact hQ.out _ _ _ _ _ _ _ _ _ _ _ _ _ _ _ _ _ _ _ _ _ _ _ _ _ _ _ _ _ _ _ _ _ _ _ _ _ _ _ _ _ _ _ _ _ _ _ _ _ _ _ _ _ _ _ _ _ _ _ _ _ _ _ _ _ _ _ _ _ _ _ _ _ _ _ _ _ _ _ _ _ _ _ _ _ _ _ _ _ _ _ _ _ _ _ _ _ _ _ _ _ _ _ _ _ _ _ _ _ _ _ _ _ _ _ _ _ _ _ _ _ _ _ _ _ _ _ _ _ _ _ _ _ _ _ _ _ _ _ _ _ _ _ _ _ _ _ _ _ _ _ _ _ _ _ _ _ _ _ _ _ _ _ _ _ _ _ _ _ _ _ _ _ _ _ _ _ _ _ _ _ _ _ _ _ _ _ _ _ _ _ _ _ _ _ _ _ _ _ _ _ _ _ _ _ _ _ _ _ _ _ _ _ _ _ _ _ _ _ _ _ _ _ _ _ _ _ _ _ _ _ _ _ _ _ _ HTf.out
end Go.Proofs.Ytejhmacbbdnlbaa.Ac
