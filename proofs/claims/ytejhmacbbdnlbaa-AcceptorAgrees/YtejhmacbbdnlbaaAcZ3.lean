/-
  The law of agreement: behind an acceptor that was asked to accept.
-/
import Derived.Test.YtejhmacbbdnlbaaAcZ2
import Derived.Test.YtejhmacbbdnlbaaAcY1
import Derived.Test.YtejhmacbbdnlbaaAcY2
namespace Go.Proofs.Ytejhmacbbdnlbaa.Ac
open Go.ChangeShapes Go.WideShapes Go.ChangeAt Go.RowKit
def restOf (n : Nat) : Code → Option Code
  | .loop c => restOf n c
  | .seq (.region id _ _) b => if id = n then some b else restOf n b
  | .seq a b => match restOf n a with
    | some c => some c
    | none => restOf n b
  | .block _ c => restOf n c
  | .scope c => restOf n c
  | .cond _ a b => match restOf n a with
    | some c => some c
    | none => restOf n b
  | _ => none
set_option maxHeartbeats 8000000 in
set_option maxRecDepth 60000 in
theorem tail_any (t0 t1 t2 t3 t4 t13 t17 t18 t19 t20 t21 t22 t25 t26 t27 t28 t29 t30 t31 t32 t33 t34 t35 t36 t37 t38 t39 t40 t41 t42 t43 t44 t45 t46 t47 t48 t49 t50 t51 t52 t53 t54 t55 t56 t57 t58 t59 t60 t61 t62 t63 t64 t65 t66 t67 t68 t69 t70 t71 t72 t73 t74 t75 t76 t77 t78 t79 t80 t81 t82 t83 t84 t85 t86 t87 t88 t89 t90 t91 t92 t93 t94 t95 t96 t97 t98 t99 t100 t101 t102 t103 t104 t105 t106 t107 t108 t109 t110 t111 t112 t113 t114 t115 t116 t117 t118 t119 t120 t121 t122 t123 t124 t125 t126 t127 t128 t129 t130 t131 t132 t133 t134 t135 t136 t137 t138 t139 t140 t141 t142 t143 t144 t145 t146 t147 t148 t149 t150 t151 t152 t153 t154 t155 t156 t157 t158 t159 t160 t161 t162 t163 t164 t165 t166 t167 t168 t169 t170 t171 t172 t173 t174 t175 t176 t177 t178 t179 t180 t181 t182 t183 t184 t185 t186 t187 t188 t189 t190 t191 t192 t193 t194 t195 t196 t197 t198 t199 t200 t201 t202 t203 t204 t205 t206 t207 t208 t209 t210 t211 t212 t213 t214 t215 t216 t217 t218 t219 t220 t221 t222 t223 t224 t225 t226 t227 t228 t229 t230 t231 t232 t233 t234 t235 t236 t237 t238 t239 t240 t241 t242 t243 t244 t245 t246 t247 t248 t249 t250 t251 t252 t253 t254 t255 t256 t257 t258 t259 t260 t261 t262 t263 t264 t265 t266 t267 t268 t269 t270 t271 t272 t273 t274 t275 t276 t277 t278 t279 t280 t281 t282 t283 t284 t285 t286 t287 t288 t289 t290 t291 t292 t293 : Value) (w wD : World) (k i G B T Y M V C p q s X : Nat) (P P1 E1 bb : Int) (L L1 : List Acd) (pa1 : Option Addr) (pc1 : Nat) (S2 : Sy) (A : Int → Nat → Nat → Bool) (W2 : Int → Nat → Option Dl) (dd : Dl)
    (HP : Hid (p < 3 ∧ q < k ∧ s < 3)) (p3 : (p : Int) < 3) (q3 : (q : Int) < (k : Int)) (s4' : (s : Int) < 4) (b1' : 1 ≤ bb) (b9' : bb ≤ 453) (HiB : Hid (inB bb 1 2147483647 = true))
    (e2 : (k : Int) ≤ 5) (i2 : (i : Int) < 150)
    (HSn : Hid (SyAt w wD k i ⟨G, B, T, Y, M, V, C⟩ S2)) (HL1 : Hid (OwnA wD w.heap.size (.slice pa1 L1.length pc1) L1)) (HXb : Hid (B2 wD X 24 (.int .i64 P1) (.slice pa1 L1.length pc1))) (HI9 : Hid (Inv k S2 A W2)) (HM9 : Hid ((S2.mine p s).b ≠ 0)) (HB2 : Hid (Bd S2 i))
    (HEq : Hid (S2.P q = P ∧ S2.L q = L ∧ S2.bal p = bb ∧ dd = (S2.mine p s).d)) (HPr : Hid ((P ≤ bb ∧ E1 = 0 ∧ P1 = bb ∧ L1 = putS L (s + 1) ⟨bb, dd⟩) ∨ (bb < P ∧ E1 = 9 ∧ P1 = P ∧ L1 = L)))
    (Q : Exit → Act → World → Prop) (hQ : Hid (∀ (u216 u217 u218 u219 u220 u221 u222 u223 u224 u225 u226 u227 u228 u229 u230 u231 u232 u233 u234 u235 u236 u237 u238 u239 u240 u241 u242 u243 u244 u245 u246 u247 u248 u249 u250 u251 u252 u253 u254 u255 u256 u257 u258 u259 u260 u261 u262 u263 u264 u265 u266 u267 u268 u269 u270 u271 u272 u273 u274 u275 u276 u277 u278 u279 u280 u281 u282 u283 u284 u285 u286 u287 u288 u289 u290 u291 u292 : Value) (wZ : World), (∃ S A U, SyAt w wZ k (i + 1) ⟨G, B, T, Y, M, V, C⟩ S ∧ Inv k S A U ∧ Bd S (i + 1)) → Q .normal ⟨#[t0, t1, t2, t3, t4, .int .i64 (k : Int), .slice (some ⟨G, 0, none⟩) k k, .pointer (some ⟨B, 0, none⟩), .pointer (some ⟨T, 0, none⟩), .pointer (some ⟨Y, 0, none⟩), .pointer (some ⟨M, 0, none⟩), .map (some V), .pointer (some ⟨C, 0, none⟩), t13, .int .i64 (p : Int), .int .i64 (q : Int), .int .i64 (s : Int), t17, t18, t19, t20, t21, t22, .pointer (some ⟨X, 0, none⟩), .int .i64 E1, t25, t26, t27, t28, t29, t30, t31, t32, t33, t34, t35, t36, t37, t38, t39, t40, t41, t42, t43, t44, t45, t46, t47, t48, t49, t50, t51, t52, t53, t54, t55, t56, t57, t58, t59, t60, t61, t62, t63, t64, t65, t66, t67, t68, t69, t70, t71, t72, t73, t74, t75, t76, t77, t78, t79, t80, t81, t82, t83, t84, t85, t86, t87, t88, t89, t90, t91, t92, t93, t94, t95, t96, t97, t98, t99, t100, t101, t102, t103, t104, t105, t106, t107, t108, t109, t110, t111, t112, t113, t114, t115, t116, t117, t118, t119, t120, t121, t122, t123, t124, t125, t126, t127, t128, t129, t130, t131, t132, t133, t134, t135, t136, t137, t138, t139, t140, t141, t142, t143, t144, t145, t146, t147, t148, t149, t150, t151, t152, t153, t154, t155, t156, t157, t158, t159, t160, t161, t162, t163, t164, t165, t166, t167, t168, t169, t170, t171, t172, t173, t174, t175, t176, t177, t178, t179, t180, t181, t182, t183, t184, t185, t186, t187, t188, t189, t190, t191, t192, t193, t194, t195, t196, t197, t198, t199, t200, t201, t202, t203, t204, t205, t206, t207, t208, t209, t210, t211, t212, t213, t214, t215, u216, u217, u218, u219, u220, u221, u222, u223, u224, u225, u226, u227, u228, u229, u230, u231, u232, u233, u234, u235, u236, u237, u238, u239, u240, u241, u242, u243, u244, u245, u246, u247, u248, u249, u250, u251, u252, u253, u254, u255, u256, u257, u258, u259, u260, u261, u262, u263, u264, u265, u266, u267, u268, u269, u270, u271, u272, u273, u274, u275, u276, u277, u278, u279, u280, u281, u282, u283, u284, u285, u286, u287, u288, u289, u290, u291, u292, t293], []⟩ wZ)) :
    Code.wp Try.prog ((Try.f4.body.bind (restOf 35)).getD .skip) Q ⟨#[t0, t1, t2, t3, t4, .int .i64 (k : Int), .slice (some ⟨G, 0, none⟩) k k, .pointer (some ⟨B, 0, none⟩), .pointer (some ⟨T, 0, none⟩), .pointer (some ⟨Y, 0, none⟩), .pointer (some ⟨M, 0, none⟩), .map (some V), .pointer (some ⟨C, 0, none⟩), t13, .int .i64 (p : Int), .int .i64 (q : Int), .int .i64 (s : Int), t17, t18, t19, t20, t21, t22, .pointer (some ⟨X, 0, none⟩), .int .i64 E1, t25, t26, t27, t28, t29, t30, t31, t32, t33, t34, t35, t36, t37, t38, t39, t40, t41, t42, t43, t44, t45, t46, t47, t48, t49, t50, t51, t52, t53, t54, t55, t56, t57, t58, t59, t60, t61, t62, t63, t64, t65, t66, t67, t68, t69, t70, t71, t72, t73, t74, t75, t76, t77, t78, t79, t80, t81, t82, t83, t84, t85, t86, t87, t88, t89, t90, t91, t92, t93, t94, t95, t96, t97, t98, t99, t100, t101, t102, t103, t104, t105, t106, t107, t108, t109, t110, t111, t112, t113, t114, t115, t116, t117, t118, t119, t120, t121, t122, t123, t124, t125, t126, t127, t128, t129, t130, t131, t132, t133, t134, t135, t136, t137, t138, t139, t140, t141, t142, t143, t144, t145, t146, t147, t148, t149, t150, t151, t152, t153, t154, t155, t156, t157, t158, t159, t160, t161, t162, t163, t164, t165, t166, t167, t168, t169, t170, t171, t172, t173, t174, t175, t176, t177, t178, t179, t180, t181, t182, t183, t184, t185, t186, t187, t188, t189, t190, t191, t192, t193, t194, t195, t196, t197, t198, t199, t200, t201, t202, t203, t204, t205, t206, t207, t208, t209, t210, t211, t212, t213, t214, t215, t216, t217, t218, t219, t220, t221, t222, t223, t224, t225, t226, t227, t228, t229, t230, t231, t232, t233, t234, t235, t236, t237, t238, t239, t240, t241, t242, t243, t244, t245, t246, t247, t248, t249, t250, t251, t252, t253, t254, t255, t256, t257, t258, t259, t260, t261, t262, t263, t264, t265, t266, t267, t268, t269, t270, t271, t272, t273, t274, t275, t276, t277, t278, t279, t280, t281, t282, t283, t284, t285, t286, t287, t288, t289, t290, t291, t292, t293], []⟩ wD := by
  conv => arg 2; whnf
  obtain ⟨ga2, gc2, -, g2, g3, -, -⟩ := HSn.out.rG HP.out.2.1
  obtain ⟨cb, -⟩ := HSn.out.rB HP.out.1
  rw [HEq.out.2.1] at g2 g3
  rw [HEq.out.2.2.1] at cb
  have hvx : ∃ v : Bool, ((¬ E1 = 0 ∧ v = false) ∨ (E1 = 0 ∧ L.length ≤ s ∧ v = true) ∨ (E1 = 0 ∧ s < L.length ∧ ∃ g b, ga2 = some ⟨g, 0, none⟩ ∧ wD.cell? ⟨g, s * 8, none⟩ = some (.int .i64 b) ∧ v = (b != bb))) ∧ (v = true ↔ E1 = 0 ∧ (slotA L s).b ≠ bb) := by
    by_cases hE : E1 = 0
    · by_cases hL : L.length ≤ s
      · refine ⟨true, .inr (.inl ⟨hE, hL, rfl⟩), ⟨fun _ => ⟨hE, ?_⟩, fun _ => rfl⟩⟩
        rw [slot_lt hL]
        show (0 : Int) ≠ bb
        omega
      · obtain ⟨g, e0, _, cl, e1, e2, _⟩ := g3.ballot (s := s) (by omega)
        refine ⟨_, .inr (.inr ⟨hE, by omega, g, cl.x.b, e0, e2.1, rfl⟩), ?_⟩
        rw [bne_iff_ne, e1]
        exact ⟨fun h => ⟨hE, h⟩, fun h => h.2⟩
    · exact ⟨false, .inl ⟨hE, rfl⟩, ⟨fun h => (Bool.false_ne_true h).elim, fun h => absurd h.1 hE⟩⟩
  obtain ⟨v, hv1, hv2⟩ := hvx
  have HV1 := Hid.mk9 hv1
  have HV2 := Hid.mk9 hv2
  clear hv1 hv2 g3
  go_upto_region 36 with fail
  go_wp2_with fail
  refine agr_36 _ _ _ _ _ _ _ _ _ _ _ _ _ _ _ _ _ _ _ _ _ _ _ _ _ _ _ _ _ _ _ _ _ _ _ _ _ _ _ _ _ _ _ _ _ _ _ _ _ _ _ _ _ _ _ _ _ _ _ _ _ _ _ _ _ _ _ _ _ _ _ _ _ _ _ _ _ _ _ _ _ _ _ _ _ _ _ _ _ _ _ _ _ _ _ _ _ _ _ _ _ _ _ _ _ _ _ _ _ _ _ _ _ _ _ _ _ _ _ _ _ _ _ _ _ _ _ _ _ _ _ _ _ _ _ _ _ _ _ _ _ _ _ _ _ _ _ _ _ _ _ _ _ _ _ _ _ _ _ _ _ _ _ _ _ _ _ _ _ _ _ _ _ _ _ _ _ _ _ _ _ _ _ _ _ _ _ _ _ _ _ _ _ _ _ _ _ _ _ _ _ _ _ _ _ _ _ _ _ _ _ _ _ _ _ _ _ _ _ _ _ _ _ _ _ _ _ _ _ _ _ _ _ _ _ _ _ _ _ _ _ _ _ _ _ _ _ _ _ _ _ _ _ _ _ _ _ _ _ _ _ _ _ _ _ _ _ _ _ _ _ _ _ _ _ _ _ _ _ _ _ _ _ _ _ _ _ _ E1 G k k q s L.length gc2 p B bb ga2 v _ _ q3 g2 p3 cb HV1.out (fun u216 u217 u218 u219 u220 u221 u222 u223 u224 u225 u226 u227 u228 u229 u230 u231 u232 u233 u234 u235 u236 u237 u238 u239 u240 u241 wF hbF => ?_)
  replace HSn := Hid.mk9 (HSn.out.below hbF)
  replace HL1 := Hid.mk9 (HL1.out.below hbF)
  replace HXb := Hid.mk9 (HXb.out.below hbF)
  clear hbF g2 cb HV1
  cases v
  · have HSv := Hid.mk9 (HSn.out.more (j := i + 1) (by omega))
    clear HSn
    go_upto_region 38 with fail
    have HI3 : Hid (∃ A3, Inv k { S2 with P := upd S2.P q P1, L := upd S2.L q L1, votes := S2.votes } A3 W2) := by
      rcases HPr.out with ⟨h1, h2, h3, h4⟩ | ⟨h1, h2, h3, h4⟩
      · have hb9 : ¬ (slotA L s).b ≠ bb := fun h => Bool.false_ne_true (HV2.out.2 ⟨h2, h⟩)
        obtain ⟨e1, e2, e3, e4⟩ := HEq.out
        have h9 := HI9.out.accept HP.out.1 HP.out.2.1 HP.out.2.2 HM9.out (by rw [e1, e3]; omega) (by rw [e3]; exact HiB.out)
        rw [h3, h4, e4]
        rw [e2, e3] at h9
        have hvo : voted S2 p q s = S2.votes := by unfold voted; rw [e2, e3, if_neg hb9]
        rw [hvo] at h9
        exact ⟨_, h9⟩
      · obtain ⟨e1, e2, e3, e4⟩ := HEq.out
        rw [h3, h4, ← e1, ← e2, upd_self, upd_self]
        exact ⟨_, HI9.out⟩
    obtain ⟨A3, hi3⟩ := HI3.out
    obtain ⟨S3, hS3⟩ : ∃ S3 : Sy, S3 = { S2 with P := upd S2.P q P1, L := upd S2.L q L1, votes := S2.votes } := ⟨_, rfl⟩
    have HS3 : Hid (SyAt w ((wF.setCell ⟨G, q * 2, none⟩ (.int .i64 P1)).setCell ⟨G, q * 2 + 1, none⟩ (.slice pa1 L1.length pc1)) k (i + 1) ⟨G, B, T, Y, M, V, C⟩ S3) := by
      rw [hS3]
      exact HSv.out.setG HP.out.2.1 P1 _ L1 HL1.out
    have HB3 : Hid (Bd S3 (i + 1)) := by rw [hS3]; exact HB2.out.same rfl rfl
    have HE3 : Hid (S3.bal p = bb ∧ (S3.mine p s).b ≠ 0) := by rw [hS3]; exact ⟨HEq.out.2.2.1, HM9.out⟩
    rw [← hS3] at hi3
    have HIn3 := Hid.mk9 hi3
    clear HI3 hi3 hS3
    obtain ⟨x0', x1'⟩ := HXb.out.cells
    obtain ⟨ga3, gc3, g1, g2, -, g4, g5⟩ := HSv.out.rG HP.out.2.1
    go_upto_region 39 with fail
    clear x0' x1' g1 g2 g4 g5 HSv HL1 HXb HI9 HM9 HPr HV2 HEq HB2
    generalize ((wF.setCell ⟨G, q * 2, none⟩ (.int .i64 P1)).setCell ⟨G, q * 2 + 1, none⟩ (.slice pa1 L1.length pc1)) = wI at *
    obtain ⟨nv, hnv⟩ : ∃ nv, S3.votes bb s = nv := ⟨_, rfl⟩
    have hlk := HS3.out.look (bal := bb) (s := s) (WalkArith.wf_i64 ⟨by omega, by omega⟩) HP.out.2.2
    rw [hnv] at hlk
    obtain ⟨cb, -⟩ := HS3.out.rB HP.out.1
    rw [HE3.out.1] at cb
    have nv9 : (nv : Int) ≤ 5 := by
      have h1 := HIn3.out.votes bb s
      have h2 := cnt_le k (A3 bb s)
      omega
    have HNV := Hid.mk9 hnv
    clear hnv
    by_cases hgt : k < 2 * nv
    · have dg : decide ((k : Int) < 2 * (nv : Int)) = true := decide_eq_true (by omega)
      have hch := HIn3.out.choose HP.out.1 HP.out.2.2 HE3.out.2 (by rw [HE3.out.1, HNV.out]; exact hgt)
      have HCH := Hid.mk9 hch.1
      have HI4 := Hid.mk9 hch.2
      clear hch hgt
      obtain ⟨c2, cx2, cC2, cO2, cF2⟩ := HS3.out.rC (s := s) (by have := HP.out.2.2; omega)
      obtain ⟨m2, mx2, mC2, mO2, mF2⟩ := HS3.out.rM (s := s) HP.out.1 (by have := HP.out.2.2; omega)
      have HRc := Hid.mk9 (own_rowI cO2)
      have HRm := Hid.mk9 (own_rowI mO2)
      have HEE : Hid (0 < c2.x.b → eqD c2.x.d m2.x.d = true) := fun h => by
        have h9 := HCH.out (by rw [← cx2]; omega)
        rw [← cx2, ← mx2] at h9
        exact (eqD_iff _ _).2 h9
      clear cx2 cO2 mO2 cF2 mF2
      have HMX := Hid.mk9 mx2
      clear mx2
      go_upto_region 40 with fail
      go_wp2_with fail
      refine agr_40 _ _ _ _ _ _ _ _ _ _ _ _ _ _ _ _ _ _ _ _ _ _ _ _ _ _ _ _ _ _ _ _ _ _ _ _ _ _ _ _ _ _ _ _ _ _ _ _ _ _ _ _ _ _ _ _ _ _ _ _ _ _ _ _ _ _ _ _ _ _ _ _ _ _ _ _ _ _ _ _ _ _ _ _ _ _ _ _ _ _ _ _ _ _ _ _ _ _ _ _ _ _ _ _ _ _ _ _ _ _ _ _ _ _ _ _ _ _ _ _ _ _ _ _ _ _ _ _ _ _ _ _ _ _ _ _ _ _ _ _ _ _ _ _ _ _ _ _ _ _ _ _ _ _ _ _ _ _ _ _ _ _ _ _ _ _ _ _ _ _ _ _ _ _ _ _ _ _ _ _ _ _ _ _ _ _ _ _ _ _ _ _ _ _ _ _ _ _ _ _ _ _ _ _ _ _ _ _ _ _ _ _ _ _ _ _ _ _ _ _ _ _ _ _ _ _ _ _ _ _ _ _ _ _ _ _ _ _ _ _ _ _ _ _ _ _ _ _ _ _ _ _ _ _ _ _ _ _ _ _ _ _ _ _ _ _ _ _ _ _ _ _ _ _ _ _ _ _ _ _ _ _ _ _ _ _ _ _ _ _ C s c2 M p m2 _ _ s4' cC2 p3 mC2 HRc.out HRm.out HEE.out (fun u267 u268 u269 u270 u271 u272 u273 u274 u275 u276 u277 u278 u279 u280 u281 u282 u283 u284 wK hbK => ?_)
      replace HS3 := Hid.mk9 (HS3.out.below hbK)
      clear hbK cC2 mC2 HRc HRm HEE HCH hlk cb HMX
      obtain ⟨c3, -, cC3, -, cF3⟩ := HS3.out.rC (s := s) (by have := HP.out.2.2; omega)
      obtain ⟨m3, mx3, mC3, mO3, -⟩ := HS3.out.rM (s := s) HP.out.1 (by have := HP.out.2.2; omega)
      have HS4 := Hid.mk9 (HS3.out.setC (s := s) (by have := HP.out.2.2; omega) m3 mO3)
      rw [mx3] at HS4
      have HTf : Hid (∃ S A U, SyAt w (wrs wK C (s * 8) m3.vs) k (i + 1) ⟨G, B, T, Y, M, V, C⟩ S ∧ Inv k S A U ∧ Bd S (i + 1)) := ⟨_, _, _, HS4.out, HI4.out, HB3.out⟩
      clear HS4 HI4 HS3 mx3 mO3 HIn3 HB3 HE3 HNV
      obtain ⟨r0, r1, r2, r3, r4, r5, r6, r7⟩ := cC3
      obtain ⟨q0, q1, q2, q3', q4, q5', q6, q7⟩ := mC3
      go_wp2_with fail
      exact hQ.out _ _ _ _ _ _ _ _ _ _ _ _ _ _ _ _ _ _ _ _ _ _ _ _ _ _ _ _ _ _ _ _ _ _ _ _ _ _ _ _ _ _ _ _ _ _ _ _ _ _ _ _ _ _ _ _ _ _ _ _ _ _ _ _ _ _ _ _ _ _ _ _ _ _ _ _ _ _ HTf.out
    · have dg : decide ((k : Int) < 2 * (nv : Int)) = false := decide_eq_false (by omega)
      have HTf : Hid (∃ S A U, SyAt w wI k (i + 1) ⟨G, B, T, Y, M, V, C⟩ S ∧ Inv k S A U ∧ Bd S (i + 1)) := ⟨_, _, _, HS3.out, HIn3.out, HB3.out⟩
      clear hgt
      go_wp2_with fail
      exact hQ.out _ _ _ _ _ _ _ _ _ _ _ _ _ _ _ _ _ _ _ _ _ _ _ _ _ _ _ _ _ _ _ _ _ _ _ _ _ _ _ _ _ _ _ _ _ _ _ _ _ _ _ _ _ _ _ _ _ _ _ _ _ _ _ _ _ _ _ _ _ _ _ _ _ _ _ _ _ _ HTf.out
  · obtain ⟨n, D9, hn9, hM9, hD9⟩ := HSn.out.rV
    obtain ⟨cb, -⟩ := HSn.out.rB HP.out.1
    rw [HEq.out.2.2.1] at cb
    have hwb : (Lit.int .i64 bb).wf = true := WalkArith.wf_i64 ⟨by omega, by omega⟩
    have hvv : ((S2.votes bb s : Nat) : Int) ≤ 5 := by
      have h1 := HI9.out.votes bb s
      have h2 := cnt_le k (A bb s)
      omega
    have HM0 := Hid.mk9 hM9
    have HD0 := Hid.mk9 hD9
    go_upto_region 37 with fail
    go_wp2_with fail
    refine agr_37 _ _ _ _ _ _ _ _ _ _ _ _ _ _ _ _ _ _ _ _ _ _ _ _ _ _ _ _ _ _ _ _ _ _ _ _ _ _ _ _ _ _ _ _ _ _ _ _ _ _ _ _ _ _ _ _ _ _ _ _ _ _ _ _ _ _ _ _ _ _ _ _ _ _ _ _ _ _ _ _ _ _ _ _ _ _ _ _ _ _ _ _ _ _ _ _ _ _ _ _ _ _ _ _ _ _ _ _ _ _ _ _ _ _ _ _ _ _ _ _ _ _ _ _ _ _ _ _ _ _ _ _ _ _ _ _ _ _ _ _ _ _ _ _ _ _ _ _ _ _ _ _ _ _ _ _ _ _ _ _ _ _ _ _ _ _ _ _ _ _ _ _ _ _ _ _ _ _ _ _ _ _ _ _ _ _ _ _ _ _ _ _ _ _ _ _ _ _ _ _ _ _ _ _ _ _ _ _ _ _ _ _ _ _ _ _ _ _ _ _ _ _ _ _ _ _ _ _ _ _ _ _ _ _ _ _ _ _ _ _ _ _ _ _ _ _ _ _ _ _ _ _ _ _ _ _ _ _ _ _ _ _ _ _ _ _ _ _ _ _ _ _ _ _ _ _ _ _ _ _ _ _ _ _ _ _ _ _ _ _ B p s V n bb ((S2.votes bb s : Nat) : Int) D9 _ _ p3 cb hwb (WalkArith.wf_i64 ⟨by omega, by omega⟩) hM9 (by unfold maxLen; omega) (hD9 bb s hwb HP.out.2.2) (by omega) (by omega) (WalkArith.wf_i64 ⟨by omega, by omega⟩) HSn.out.ne.2.2 (fun u243 u244 u245 u246 u247 u248 u249 u250 u251 u252 wH hM' hg' => ?_)
    have HKp : Hid (Kp wF wH V 57) := ⟨hg', fun cur T fz e => by
      obtain ⟨es, clock, hb, _⟩ := HM0.out
      rw [hb] at e
      simp at e⟩
    have HSv : Hid (SyAt w wH k (i + 1) ⟨G, B, T, Y, M, V, C⟩ { S2 with votes := fun b' s' => if b' = bb ∧ s' = s then S2.votes b' s' + 1 else S2.votes b' s' }) := HSn.out.vote hn9 HP.out.2.2 hwb HM0.out HD0.out hM' hg'
    replace HL1 := Hid.mk9 (HL1.out.kp HKp.out (by decide) (by decide))
    replace HXb : Hid (B2 wH X 24 (.int .i64 P1) (.slice pa1 L1.length pc1)) := HXb.out.kept (hg'.block X HXb.out.lt (fun e => by
      have e' : X = V := Option.some.inj e
      obtain ⟨es, clock, hb, _⟩ := HM0.out
      have h8 := HXb.out
      unfold B2 at h8
      rw [e', hb] at h8
      simp at h8))
    clear hM' hg' hM9 hD9 HM0 HD0 HKp HSn cb hn9 hwb hvv
    go_upto_region 38 with fail
    have HI3 : Hid (∃ A3, Inv k { S2 with P := upd S2.P q P1, L := upd S2.L q L1, votes := fun b' s' => if b' = bb ∧ s' = s then S2.votes b' s' + 1 else S2.votes b' s' } A3 W2) := by
      obtain ⟨hE0, hb9⟩ := HV2.out.1 (by simp)
      rcases HPr.out with ⟨h1, h2, h3, h4⟩ | ⟨h1, h2, h3, h4⟩
      · obtain ⟨e1, e2, e3, e4⟩ := HEq.out
        have h9 := HI9.out.accept HP.out.1 HP.out.2.1 HP.out.2.2 HM9.out (by rw [e1, e3]; omega) (by rw [e3]; exact HiB.out)
        rw [h3, h4, e4]
        have hvo : voted S2 p q s = fun b' s' => if b' = bb ∧ s' = s then S2.votes b' s' + 1 else S2.votes b' s' := by unfold voted; rw [e2, e3, if_pos hb9]
        rw [hvo] at h9
        rw [e2, e3] at h9
        exact ⟨_, h9⟩
      · omega
    obtain ⟨A3, hi3⟩ := HI3.out
    obtain ⟨S3, hS3⟩ : ∃ S3 : Sy, S3 = { S2 with P := upd S2.P q P1, L := upd S2.L q L1, votes := fun b' s' => if b' = bb ∧ s' = s then S2.votes b' s' + 1 else S2.votes b' s' } := ⟨_, rfl⟩
    have HS3 : Hid (SyAt w ((wH.setCell ⟨G, q * 2, none⟩ (.int .i64 P1)).setCell ⟨G, q * 2 + 1, none⟩ (.slice pa1 L1.length pc1)) k (i + 1) ⟨G, B, T, Y, M, V, C⟩ S3) := by
      rw [hS3]
      exact HSv.out.setG HP.out.2.1 P1 _ L1 HL1.out
    have HB3 : Hid (Bd S3 (i + 1)) := by rw [hS3]; exact HB2.out.same rfl rfl
    have HE3 : Hid (S3.bal p = bb ∧ (S3.mine p s).b ≠ 0) := by rw [hS3]; exact ⟨HEq.out.2.2.1, HM9.out⟩
    rw [← hS3] at hi3
    have HIn3 := Hid.mk9 hi3
    clear HI3 hi3 hS3
    obtain ⟨x0', x1'⟩ := HXb.out.cells
    obtain ⟨ga3, gc3, g1, g2, -, g4, g5⟩ := HSv.out.rG HP.out.2.1
    go_upto_region 39 with fail
    clear x0' x1' g1 g2 g4 g5 HSv HL1 HXb HI9 HM9 HPr HV2 HEq HB2
    generalize ((wH.setCell ⟨G, q * 2, none⟩ (.int .i64 P1)).setCell ⟨G, q * 2 + 1, none⟩ (.slice pa1 L1.length pc1)) = wI at *
    obtain ⟨nv, hnv⟩ : ∃ nv, S3.votes bb s = nv := ⟨_, rfl⟩
    have hlk := HS3.out.look (bal := bb) (s := s) (WalkArith.wf_i64 ⟨by omega, by omega⟩) HP.out.2.2
    rw [hnv] at hlk
    obtain ⟨cb, -⟩ := HS3.out.rB HP.out.1
    rw [HE3.out.1] at cb
    have nv9 : (nv : Int) ≤ 5 := by
      have h1 := HIn3.out.votes bb s
      have h2 := cnt_le k (A3 bb s)
      omega
    have HNV := Hid.mk9 hnv
    clear hnv
    by_cases hgt : k < 2 * nv
    · have dg : decide ((k : Int) < 2 * (nv : Int)) = true := decide_eq_true (by omega)
      have hch := HIn3.out.choose HP.out.1 HP.out.2.2 HE3.out.2 (by rw [HE3.out.1, HNV.out]; exact hgt)
      have HCH := Hid.mk9 hch.1
      have HI4 := Hid.mk9 hch.2
      clear hch hgt
      obtain ⟨c2, cx2, cC2, cO2, cF2⟩ := HS3.out.rC (s := s) (by have := HP.out.2.2; omega)
      obtain ⟨m2, mx2, mC2, mO2, mF2⟩ := HS3.out.rM (s := s) HP.out.1 (by have := HP.out.2.2; omega)
      have HRc := Hid.mk9 (own_rowI cO2)
      have HRm := Hid.mk9 (own_rowI mO2)
      have HEE : Hid (0 < c2.x.b → eqD c2.x.d m2.x.d = true) := fun h => by
        have h9 := HCH.out (by rw [← cx2]; omega)
        rw [← cx2, ← mx2] at h9
        exact (eqD_iff _ _).2 h9
      clear cx2 cO2 mO2 cF2 mF2
      have HMX := Hid.mk9 mx2
      clear mx2
      go_upto_region 40 with fail
      go_wp2_with fail
      refine agr_40 _ _ _ _ _ _ _ _ _ _ _ _ _ _ _ _ _ _ _ _ _ _ _ _ _ _ _ _ _ _ _ _ _ _ _ _ _ _ _ _ _ _ _ _ _ _ _ _ _ _ _ _ _ _ _ _ _ _ _ _ _ _ _ _ _ _ _ _ _ _ _ _ _ _ _ _ _ _ _ _ _ _ _ _ _ _ _ _ _ _ _ _ _ _ _ _ _ _ _ _ _ _ _ _ _ _ _ _ _ _ _ _ _ _ _ _ _ _ _ _ _ _ _ _ _ _ _ _ _ _ _ _ _ _ _ _ _ _ _ _ _ _ _ _ _ _ _ _ _ _ _ _ _ _ _ _ _ _ _ _ _ _ _ _ _ _ _ _ _ _ _ _ _ _ _ _ _ _ _ _ _ _ _ _ _ _ _ _ _ _ _ _ _ _ _ _ _ _ _ _ _ _ _ _ _ _ _ _ _ _ _ _ _ _ _ _ _ _ _ _ _ _ _ _ _ _ _ _ _ _ _ _ _ _ _ _ _ _ _ _ _ _ _ _ _ _ _ _ _ _ _ _ _ _ _ _ _ _ _ _ _ _ _ _ _ _ _ _ _ _ _ _ _ _ _ _ _ _ _ _ _ _ _ _ _ _ _ _ _ _ C s c2 M p m2 _ _ s4' cC2 p3 mC2 HRc.out HRm.out HEE.out (fun u267 u268 u269 u270 u271 u272 u273 u274 u275 u276 u277 u278 u279 u280 u281 u282 u283 u284 wK hbK => ?_)
      replace HS3 := Hid.mk9 (HS3.out.below hbK)
      clear hbK cC2 mC2 HRc HRm HEE HCH hlk cb HMX
      obtain ⟨c3, -, cC3, -, cF3⟩ := HS3.out.rC (s := s) (by have := HP.out.2.2; omega)
      obtain ⟨m3, mx3, mC3, mO3, -⟩ := HS3.out.rM (s := s) HP.out.1 (by have := HP.out.2.2; omega)
      have HS4 := Hid.mk9 (HS3.out.setC (s := s) (by have := HP.out.2.2; omega) m3 mO3)
      rw [mx3] at HS4
      have HTf : Hid (∃ S A U, SyAt w (wrs wK C (s * 8) m3.vs) k (i + 1) ⟨G, B, T, Y, M, V, C⟩ S ∧ Inv k S A U ∧ Bd S (i + 1)) := ⟨_, _, _, HS4.out, HI4.out, HB3.out⟩
      clear HS4 HI4 HS3 mx3 mO3 HIn3 HB3 HE3 HNV
      obtain ⟨r0, r1, r2, r3, r4, r5, r6, r7⟩ := cC3
      obtain ⟨q0, q1, q2, q3', q4, q5', q6, q7⟩ := mC3
      go_wp2_with fail
      exact hQ.out _ _ _ _ _ _ _ _ _ _ _ _ _ _ _ _ _ _ _ _ _ _ _ _ _ _ _ _ _ _ _ _ _ _ _ _ _ _ _ _ _ _ _ _ _ _ _ _ _ _ _ _ _ _ _ _ _ _ _ _ _ _ _ _ _ _ _ _ _ _ _ _ _ _ _ _ _ _ HTf.out
    · have dg : decide ((k : Int) < 2 * (nv : Int)) = false := decide_eq_false (by omega)
      have HTf : Hid (∃ S A U, SyAt w wI k (i + 1) ⟨G, B, T, Y, M, V, C⟩ S ∧ Inv k S A U ∧ Bd S (i + 1)) := ⟨_, _, _, HS3.out, HIn3.out, HB3.out⟩
      clear hgt
      go_wp2_with fail
      exact hQ.out _ _ _ _ _ _ _ _ _ _ _ _ _ _ _ _ _ _ _ _ _ _ _ _ _ _ _ _ _ _ _ _ _ _ _ _ _ _ _ _ _ _ _ _ _ _ _ _ _ _ _ _ _ _ _ _ _ _ _ _ _ _ _ _ _ _ _ _ _ _ _ _ _ _ _ _ _ _ HTf.out
end Go.Proofs.Ytejhmacbbdnlbaa.Ac
