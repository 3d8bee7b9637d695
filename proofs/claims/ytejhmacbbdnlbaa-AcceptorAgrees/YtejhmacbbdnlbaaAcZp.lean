/-
  The law of agreement: an acceptor is asked to prepare.
-/
import Derived.Test.YtejhmacbbdnlbaaAcZ3
import Derived.Test.YtejhmacbbdnlbaaAcX2
import Derived.Test.YtejhmacbbdnlbaaAcX7
namespace Go.Proofs.Ytejhmacbbdnlbaa.Ac
open Go.ChangeShapes Go.WideShapes Go.ChangeAt Go.RowKit
set_option maxHeartbeats 8000000 in
set_option maxRecDepth 60000 in
theorem round_prep (t0 t2 t3 t4 t17 t18 t19 t20 t21 t22 t23 t24 t25 t26 t27 t28 t29 t30 t31 t32 t33 t34 t35 t36 t37 t38 t39 t40 t41 t42 t43 t44 t45 t46 t47 t48 t49 t50 t51 t52 t53 t54 t55 t56 t57 t58 t59 t60 t61 t62 t63 t64 t65 t66 t67 t68 t69 t70 t71 t72 t73 t74 t75 t76 t77 t78 t79 t80 t81 t82 t83 t84 t85 t86 t87 t88 t89 t90 t91 t92 t93 t94 t95 t96 t97 t98 t99 t100 t101 t102 t103 t104 t105 t106 t107 t108 t109 t110 t111 t112 t113 t114 t115 t116 t117 t118 t119 t120 t121 t122 t123 t124 t125 t126 t127 t128 t129 t130 t131 t132 t133 t134 t135 t136 t137 t138 t139 t140 t141 t142 t143 t144 t145 t146 t147 t148 t149 t150 t151 t152 t153 t154 t155 t156 t157 t158 t159 t160 t161 t162 t163 t164 t165 t166 t167 t168 t169 t170 t171 t172 t173 t174 t175 t176 t177 t178 t179 t180 t181 t182 t183 t184 t185 t186 t187 t188 t189 t190 t191 t192 t193 t194 t195 t196 t197 t198 t199 t200 t201 t202 t203 t204 t205 t206 t207 t208 t209 t210 t211 t212 t213 t214 t215 t216 t217 t218 t219 t220 t221 t222 t223 t224 t225 t226 t227 t228 t229 t230 t231 t232 t233 t234 t235 t236 t237 t238 t239 t240 t241 t242 t243 t244 t245 t246 t247 t248 t249 t250 t251 t252 t253 t254 t255 t256 t257 t258 t259 t260 t261 t262 t263 t264 t265 t266 t267 t268 t269 t270 t271 t272 t273 t274 t275 t276 t277 t278 t279 t280 t281 t282 t283 t284 t285 t286 t287 t288 t289 t290 t291 t292 t293 : Value) (w wC : World) (k i G B T Y M V C b1 o1 len1 cap1 : Nat) (p q s : Nat) (d : Int) (S : Sy) (A : Int → Nat → Nat → Bool) (W : Int → Nat → Option Dl)
    (hc0 : wC.cell? ⟨b1, o1 + i * 4, none⟩ = some (.int .i64 d)) (HP : Hid (p < 3 ∧ q < k ∧ s < 3)) (hd0 : d = 0)
    (HS : Hid (SyAt w wC k i ⟨G, B, T, Y, M, V, C⟩ S)) (HI : Hid (Inv k S A W)) (HB : Hid (Bd S i)) (e2 : (k : Int) ≤ 5) (i1 : (i : Int) < (len1 : Int)) (i2 : (i : Int) < 150)
    (Q : Exit → Act → World → Prop) (hQ : Hid (∀ (u17 u18 u19 u20 u21 u22 u23 u24 u66 u67 u68 u69 u70 u71 u72 u73 u74 u75 u76 u77 u78 u79 u80 u81 u82 u83 u84 u85 u86 u87 u88 u89 u90 u91 u92 u93 u94 u95 u96 u97 u98 u99 u100 u101 u102 u103 u104 u105 u106 u107 u108 u109 u110 u111 u112 u113 u114 u115 u116 u117 u118 u119 u120 u121 u122 u123 u124 u125 u126 u127 u128 u129 u130 u131 u132 u133 u134 u135 u136 u137 u138 u139 u140 u141 u142 u143 u144 u145 u146 u147 u148 u149 u150 u151 u152 u153 u154 u155 u156 u157 u158 u159 u160 u161 u162 u163 u164 u165 u166 u167 u168 u169 u170 u171 u172 u173 u174 u175 u176 u177 u178 u179 u180 u181 u182 u183 u184 u185 u186 u187 u188 u189 u190 u191 u192 u193 u194 u195 u196 u197 u198 u199 u200 u201 u202 u203 u204 u205 u206 u207 u208 u209 u210 u211 u212 u213 u214 u215 u216 u217 u218 u219 u220 u221 u222 u223 u224 u225 u226 u227 u228 u229 u230 u231 u232 u233 u234 u235 u236 u237 u238 u239 u240 u241 u242 u243 u244 u245 u246 u247 u248 u249 u250 u251 u252 u253 u254 u255 u256 u257 u258 u259 u260 u261 u262 u263 u264 u265 u266 u267 u268 u269 u270 u271 u272 u273 u274 u275 u276 u277 u278 u279 u280 u281 u282 u283 u284 u285 u286 u287 u288 u289 u290 u291 u292 : Value) (wZ : World), (∃ S A U, SyAt w wZ k (i + 1) ⟨G, B, T, Y, M, V, C⟩ S ∧ Inv k S A U ∧ Bd S (i + 1)) → Q .normal ⟨#[t0, .slice (some ⟨b1, o1, none⟩) len1 cap1, t2, t3, t4, .int .i64 (k : Int), .slice (some ⟨G, 0, none⟩) k k, .pointer (some ⟨B, 0, none⟩), .pointer (some ⟨T, 0, none⟩), .pointer (some ⟨Y, 0, none⟩), .pointer (some ⟨M, 0, none⟩), .map (some V), .pointer (some ⟨C, 0, none⟩), .int .i64 (i : Int), .int .i64 (p : Int), .int .i64 (q : Int), .int .i64 (s : Int), u17, u18, u19, u20, u21, u22, u23, u24, t25, t26, t27, t28, t29, t30, t31, t32, t33, t34, t35, t36, t37, t38, t39, t40, t41, t42, t43, t44, t45, t46, t47, t48, t49, t50, t51, t52, t53, t54, t55, t56, t57, t58, t59, t60, t61, t62, t63, t64, t65, u66, u67, u68, u69, u70, u71, u72, u73, u74, u75, u76, u77, u78, u79, u80, u81, u82, u83, u84, u85, u86, u87, u88, u89, u90, u91, u92, u93, u94, u95, u96, u97, u98, u99, u100, u101, u102, u103, u104, u105, u106, u107, u108, u109, u110, u111, u112, u113, u114, u115, u116, u117, u118, u119, u120, u121, u122, u123, u124, u125, u126, u127, u128, u129, u130, u131, u132, u133, u134, u135, u136, u137, u138, u139, u140, u141, u142, u143, u144, u145, u146, u147, u148, u149, u150, u151, u152, u153, u154, u155, u156, u157, u158, u159, u160, u161, u162, u163, u164, u165, u166, u167, u168, u169, u170, u171, u172, u173, u174, u175, u176, u177, u178, u179, u180, u181, u182, u183, u184, u185, u186, u187, u188, u189, u190, u191, u192, u193, u194, u195, u196, u197, u198, u199, u200, u201, u202, u203, u204, u205, u206, u207, u208, u209, u210, u211, u212, u213, u214, u215, u216, u217, u218, u219, u220, u221, u222, u223, u224, u225, u226, u227, u228, u229, u230, u231, u232, u233, u234, u235, u236, u237, u238, u239, u240, u241, u242, u243, u244, u245, u246, u247, u248, u249, u250, u251, u252, u253, u254, u255, u256, u257, u258, u259, u260, u261, u262, u263, u264, u265, u266, u267, u268, u269, u270, u271, u272, u273, u274, u275, u276, u277, u278, u279, u280, u281, u282, u283, u284, u285, u286, u287, u288, u289, u290, u291, u292, t293], []⟩ wZ)) :
    Code.wp Try.prog ((Try.f4.body.bind (restOf 12)).getD .skip) Q ⟨#[t0, .slice (some ⟨b1, o1, none⟩) len1 cap1, t2, t3, t4, .int .i64 (k : Int), .slice (some ⟨G, 0, none⟩) k k, .pointer (some ⟨B, 0, none⟩), .pointer (some ⟨T, 0, none⟩), .pointer (some ⟨Y, 0, none⟩), .pointer (some ⟨M, 0, none⟩), .map (some V), .pointer (some ⟨C, 0, none⟩), .int .i64 (i : Int), .int .i64 (p : Int), .int .i64 (q : Int), .int .i64 (s : Int), t17, t18, t19, t20, t21, t22, t23, t24, t25, t26, t27, t28, t29, t30, t31, t32, t33, t34, t35, t36, t37, t38, t39, t40, t41, t42, t43, t44, t45, t46, t47, t48, t49, t50, t51, t52, t53, t54, t55, t56, t57, t58, t59, t60, t61, t62, t63, t64, t65, t66, t67, t68, t69, t70, t71, t72, t73, t74, t75, t76, t77, t78, t79, t80, t81, t82, t83, t84, t85, t86, t87, t88, t89, t90, t91, t92, t93, t94, t95, t96, t97, t98, t99, t100, t101, t102, t103, t104, t105, t106, t107, t108, t109, t110, t111, t112, t113, t114, t115, t116, t117, t118, t119, t120, t121, t122, t123, t124, t125, t126, t127, t128, t129, t130, t131, t132, t133, t134, t135, t136, t137, t138, t139, t140, t141, t142, t143, t144, t145, t146, t147, t148, t149, t150, t151, t152, t153, t154, t155, t156, t157, t158, t159, t160, t161, t162, t163, t164, t165, t166, t167, t168, t169, t170, t171, t172, t173, t174, t175, t176, t177, t178, t179, t180, t181, t182, t183, t184, t185, t186, t187, t188, t189, t190, t191, t192, t193, t194, t195, t196, t197, t198, t199, t200, t201, t202, t203, t204, t205, t206, t207, t208, t209, t210, t211, t212, t213, t214, t215, t216, t217, t218, t219, t220, t221, t222, t223, t224, t225, t226, t227, t228, t229, t230, t231, t232, t233, t234, t235, t236, t237, t238, t239, t240, t241, t242, t243, t244, t245, t246, t247, t248, t249, t250, t251, t252, t253, t254, t255, t256, t257, t258, t259, t260, t261, t262, t263, t264, t265, t266, t267, t268, t269, t270, t271, t272, t273, t274, t275, t276, t277, t278, t279, t280, t281, t282, t283, t284, t285, t286, t287, t288, t289, t290, t291, t292, t293], []⟩ wC := by
  conv => arg 2; whnf
  have HC1 := Hid.mk9 hc0
  have HT2 : True := trivial
  have p3 : (p : Int) < 3 := by have := HP.out.1; omega
  have q3 : (q : Int) < (k : Int) := by have := HP.out.2.1; omega
  have q5 : (q : Int) < 5 := by omega
  have s3 : (s : Int) < 3 := by have := HP.out.2.2; omega
  have d1 : decide ((p : Int) < 0) = false := decide_eq_false (by omega)
  have d2 : decide ((q : Int) < 0) = false := decide_eq_false (by omega)
  have d3 : decide ((s : Int) < 0) = false := decide_eq_false (by omega)
  have x0 : (d == 0) = true := by rw [beq_iff_eq]; exact hd0
  clear hd0 HT2
  have hc0 := HC1.out
  go_upto_region 18 with fail
  go_wp2_with fail
  clear hc0
  obtain ⟨ga, gc, g1, g2, g3, g4, g5⟩ := HS.out.rG HP.out.2.1
  obtain ⟨b1', b2'⟩ := HS.out.rB HP.out.1
  obtain ⟨P, hPe⟩ : ∃ P, S.P q = P := ⟨_, rfl⟩
  obtain ⟨L, hLe⟩ : ∃ L, S.L q = L := ⟨_, rfl⟩
  obtain ⟨bal, hbe⟩ : ∃ x, S.bal p = x := ⟨_, rfl⟩
  rw [hPe] at g1
  rw [hLe] at g2 g3
  rw [hbe] at b1'
  have HEq : Hid (S.P q = P ∧ S.L q = L ∧ S.bal p = bal) := ⟨hPe, hLe, hbe⟩
  have HG3 := Hid.mk9 g3
  have HG45 : Hid (wC.frozen? ⟨G, q * 2, none⟩ = false ∧ wC.frozen? ⟨G, q * 2 + 1, none⟩ = false) := ⟨g4, g5⟩
  obtain ⟨P1, hP1⟩ : ∃ x, prepP P L bal 1 = x := ⟨_, rfl⟩
  obtain ⟨E1, hE1⟩ : ∃ x, prepE P L bal 1 = x := ⟨_, rfl⟩
  obtain ⟨L1, hL1⟩ : ∃ x, prepL P L = x := ⟨_, rfl⟩
  obtain ⟨T1, hT1⟩ : ∃ x, prepT P L bal 1 = x := ⟨_, rfl⟩
  have HPE : Hid (prepP P L bal 1 = P1 ∧ prepE P L bal 1 = E1 ∧ prepL P L = L1 ∧ prepT P L bal 1 = T1) := ⟨hP1, hE1, hL1, hT1⟩
  clear hP1 hE1 hL1 hT1 hPe hLe hbe g3 g4 g5 b2'
  refine agr_18 _ _ _ _ _ _ _ _ _ _ _ _ _ _ _ _ _ _ _ _ _ _ _ _ _ _ _ _ _ _ _ _ _ _ _ _ _ _ _ _ _ _ _ _ _ _ _ _ _ _ _ _ _ _ _ _ _ _ _ _ _ _ _ _ _ _ _ _ _ _ _ _ _ _ _ _ _ _ _ _ _ _ _ _ _ _ _ _ _ _ _ _ _ _ _ _ _ _ _ _ _ _ _ _ _ _ _ _ _ _ _ _ _ _ _ _ _ _ _ _ _ _ _ _ _ _ _ _ _ _ _ _ _ _ _ _ _ _ _ _ _ _ _ _ _ _ _ _ _ _ _ _ _ _ _ _ _ _ _ _ _ _ _ _ _ _ _ _ _ _ _ _ _ _ _ _ _ _ _ _ _ _ _ _ _ _ _ _ _ _ _ _ _ _ _ _ _ _ _ _ _ _ _ _ _ _ _ _ _ _ _ _ _ _ _ _ _ _ _ _ _ _ _ _ _ _ _ _ _ _ _ _ _ _ _ _ _ _ _ _ _ _ _ _ _ _ _ _ _ _ _ _ _ _ _ _ _ _ _ _ _ _ _ _ _ _ _ _ _ _ _ _ _ _ _ _ _ _ _ _ _ _ _ _ _ _ _ _ _ _ G B k k p q P bal ga L.length gc P1 E1 L1 T1 _ _ q3 p3 g1 g2 b1' (fun W hW => by
    have h8 := prepare_any P ga L.length gc L bal 1 W (by obtain ⟨a9, c9, e9, h9⟩ := HG3.out.at; injection e9 with e9 e10 e11; subst e9 e11; exact h9.below hW)
    obtain ⟨q1, q2, q3, q4⟩ := HPE.out
    rwa [q1, q2, q3, q4] at h8) (fun u98 u99 u100 u101 u102 u103 u104 u105 u106 u107 u108 u109 X pa1 pa8 pc1 pc8 wD hbD hXb hL1 hT1 hXg => ?_)
  have HL1 : Hid (OwnA wD w.heap.size (.slice pa1 L1.length pc1) L1) := hL1.base HS.out.bel.size
  have HT1 : Hid (OwnA wD w.heap.size (.slice pa8 T1.length pc8) T1) := hT1.base HS.out.bel.size
  replace HS := Hid.mk9 (HS.out.below hbD)
  clear hbD hL1 hT1 hXg g1 g2 b1' HG3 HG45
  obtain ⟨p0, p1⟩ := hXb.cells
  obtain ⟨ga2, gc2, g1, g2, -, g4, g5⟩ := HS.out.rG HP.out.2.1
  have HS2 : Hid (SyAt w ((wD.setCell ⟨G, q * 2, none⟩ (.int .i64 P1)).setCell ⟨G, q * 2 + 1, none⟩ (.slice pa1 L1.length pc1)) k i ⟨G, B, T, Y, M, V, C⟩ { S with P := upd S.P q P1, L := upd S.L q L1 }) := HS.out.setG HP.out.2.1 P1 _ L1 HL1.out
  have HT3 : Hid (OwnA ((wD.setCell ⟨G, q * 2, none⟩ (.int .i64 P1)).setCell ⟨G, q * 2 + 1, none⟩ (.slice pa1 L1.length pc1)) w.heap.size (.slice pa8 T1.length pc8) T1) := HS.out.keepG HT1.out (q * 2) [.int .i64 P1, .slice pa1 L1.length pc1]
  clear HL1 HT1
  go_upto_region 20 with fail
  clear p0 p1 g1 g2 g4 g5 hXb HS HC1
  generalize ((wD.setCell ⟨G, q * 2, none⟩ (.int .i64 P1)).setCell ⟨G, q * 2 + 1, none⟩ (.slice pa1 L1.length pc1)) = wE at *
  have HPr := Hid.mk9 (prep_is (P := P) (bal := bal) (L := L) (by obtain ⟨h1, h2, h3⟩ := HEq.out; rw [← h1, ← h2]; exact HI.out.ok q HP.out.2.1) (by
    obtain ⟨h1, h2, h3⟩ := HEq.out
    obtain ⟨j, hj⟩ := HI.out.bal p HP.out.1
    have := HB.out.1 p HP.out.1
    unfold inB
    rw [decide_eq_true (by omega), decide_eq_true (by omega)]
    rfl))
  rcases HPr.out with ⟨hlt, hE, hP, hL, hT⟩ | ⟨hlt, hE, hP, hL⟩
  · have e9 : (E1 == 0) = true := by rw [beq_iff_eq, ← HPE.out.2.1]; exact hE
    have HH : Hid (P1 = S.bal p ∧ L1 = S.L q ∧ T1 = S.L q ∧ ¬ S.bal p < S.P q) := by
      obtain ⟨q1, q2, q3, q4⟩ := HPE.out
      obtain ⟨h1, h2, h3⟩ := HEq.out
      exact ⟨by rw [← q1, hP, h3], by rw [← q3, hL, h2], by rw [← q4, hT, h2], by rw [h3, h1]; exact hlt⟩
    clear hlt hE hP hL hT HPr
    go_upto_region 21 with fail
    go_wp2_with fail
    obtain ⟨ta, tc, t1, -, t2⟩ := HS2.out.rT (q := q) HP.out.1 (by omega)
    obtain ⟨y1, y2⟩ := HS2.out.rY (q := q) HP.out.1 (by omega)
    refine agr_21 _ _ _ _ _ _ _ _ _ _ _ _ _ _ _ _ _ _ _ _ _ _ _ _ _ _ _ _ _ _ _ _ _ _ _ _ _ _ _ _ _ _ _ _ _ _ _ _ _ _ _ _ _ _ _ _ _ _ _ _ _ _ _ _ _ _ _ _ _ _ _ _ _ _ _ _ _ _ _ _ _ _ _ _ _ _ _ _ _ _ _ _ _ _ _ _ _ _ _ _ _ _ _ _ _ _ _ _ _ _ _ _ _ _ _ _ _ _ _ _ _ _ _ _ _ _ _ _ _ _ _ _ _ _ _ _ _ _ _ _ _ _ _ _ _ _ _ _ _ _ _ _ _ _ _ _ _ _ _ _ _ _ _ _ _ _ _ _ _ _ _ _ _ _ _ _ _ _ _ _ _ _ _ _ _ _ _ _ _ _ _ _ _ _ _ _ _ _ _ _ _ _ _ _ _ _ _ _ _ _ _ _ _ _ _ _ _ _ _ _ _ _ _ _ _ _ _ _ _ _ _ _ _ _ _ _ _ _ _ _ _ _ _ _ _ _ _ _ _ _ _ _ _ _ _ _ _ _ _ _ _ _ _ _ _ _ _ _ _ _ _ _ _ _ _ _ _ _ _ _ _ _ _ _ _ _ _ _ _ T Y p q T1.length pc8 pa8 _ _ _ _ p3 q5 t1 t2 y1 y2 HS2.out.ne.1 (fun u116 u117 u118 u119 u120 u121 u122 u123 u124 _ => ?_)
    have HTf : Hid (∃ S A U, SyAt w ((wE.drew.setCell ⟨T, p * 5 + q, none⟩ (.slice pa8 T1.length pc8)).setCell ⟨Y, p * 5 + q, none⟩ (.bool true)) k (i + 1) ⟨G, B, T, Y, M, V, C⟩ S ∧ Inv k S A U ∧ Bd S (i + 1)) := by
      obtain ⟨rfl, rfl, rfl, hlt⟩ := HH.out
      have h1 := (((HS2.out.below (below_drew wE)).setT (q := q) HP.out.1 (by omega) _ _ (HT3.out.below (below_drew wE))).setY (q := q) HP.out.1 (by omega) true).more (j := i + 1) (by omega)
      have h2 := HI.out.prepare HP.out.1 HP.out.2.1 (by have := hlt; omega) (by
        obtain ⟨j, hj⟩ := HI.out.bal p HP.out.1
        have := HB.out.1 p HP.out.1
        unfold inC inB
        rw [decide_eq_true (by omega), decide_eq_true (by omega)]
        rfl)
      refine ⟨_, A, W, ?_, h2, HB.out.told (L := S.L q) (okA_slim (HI.out.ok q HP.out.2.1)) rfl rfl⟩
      have e8 : upd S.L q (S.L q) = S.L := upd_self _ _
      rw [e8] at h1
      exact h1
    clear t1 t2 y1 y2
    go_wp2_with fail
    exact hQ.out _ _ _ _ _ _ _ _ _ _ _ _ _ _ _ _ _ _ _ _ _ _ _ _ _ _ _ _ _ _ _ _ _ _ _ _ _ _ _ _ _ _ _ _ _ _ _ _ _ _ _ _ _ _ _ _ _ _ _ _ _ _ _ _ _ _ _ _ _ _ _ _ _ _ _ _ _ _ _ _ _ _ _ _ _ _ _ _ _ _ _ _ _ _ _ _ _ _ _ _ _ _ _ _ _ _ _ _ _ _ _ _ _ _ _ _ _ _ _ _ _ _ _ _ _ _ _ _ _ _ _ _ _ _ _ _ _ _ _ _ _ _ _ _ _ _ _ _ _ _ _ _ _ _ _ _ _ _ _ _ _ _ _ _ _ _ _ _ _ _ _ _ _ _ _ _ _ _ _ _ _ _ _ _ _ _ _ _ _ _ _ _ _ _ _ _ _ _ _ _ _ _ _ _ _ _ _ _ _ _ _ _ _ _ _ _ _ _ _ _ _ _ _ _ _ _ _ _ _ _ _ _ _ _ _ _ HTf.out
  · have e9 : (E1 == 0) = false := by rw [beq_eq_false_iff_ne, ← HPE.out.2.1, hE]; decide
    have HTf : Hid (∃ S A U, SyAt w wE k (i + 1) ⟨G, B, T, Y, M, V, C⟩ S ∧ Inv k S A U ∧ Bd S (i + 1)) := by
      obtain ⟨q1, q2, q3, q4⟩ := HPE.out
      obtain ⟨h1, h2, h3⟩ := HEq.out
      have e1 : P1 = S.P q := by rw [← q1, hP, h1]
      have e2 : L1 = S.L q := by rw [← q3, hL, h2]
      have h4 := HS2.out.more (j := i + 1) (by omega)
      rw [e1, e2, upd_self, upd_self] at h4
      exact ⟨_, A, W, h4, HI.out, HB.out.same rfl rfl⟩
    clear hlt hE hP hL HPr
    go_wp2_with fail
    exact hQ.out _ _ _ _ _ _ _ _ _ _ _ _ _ _ _ _ _ _ _ _ _ _ _ _ _ _ _ _ _ _ _ _ _ _ _ _ _ _ _ _ _ _ _ _ _ _ _ _ _ _ _ _ _ _ _ _ _ _ _ _ _ _ _ _ _ _ _ _ _ _ _ _ _ _ _ _ _ _ _ _ _ _ _ _ _ _ _ _ _ _ _ _ _ _ _ _ _ _ _ _ _ _ _ _ _ _ _ _ _ _ _ _ _ _ _ _ _ _ _ _ _ _ _ _ _ _ _ _ _ _ _ _ _ _ _ _ _ _ _ _ _ _ _ _ _ _ _ _ _ _ _ _ _ _ _ _ _ _ _ _ _ _ _ _ _ _ _ _ _ _ _ _ _ _ _ _ _ _ _ _ _ _ _ _ _ _ _ _ _ _ _ _ _ _ _ _ _ _ _ _ _ _ _ _ _ _ _ _ _ _ _ _ _ _ _ _ _ _ _ _ _ _ _ _ _ _ _ _ _ _ _ _ _ _ _ _ HTf.out
end Go.Proofs.Ytejhmacbbdnlbaa.Ac
