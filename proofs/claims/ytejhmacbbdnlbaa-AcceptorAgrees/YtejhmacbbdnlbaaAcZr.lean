/-
  The law of agreement: an acceptor is asked to accept.
-/
import Derived.Test.YtejhmacbbdnlbaaAcZ3
import Derived.Test.YtejhmacbbdnlbaaAcX3
import Derived.Test.YtejhmacbbdnlbaaAcX4
namespace Go.Proofs.Ytejhmacbbdnlbaa.Ac
open Go.ChangeShapes Go.WideShapes Go.ChangeAt Go.RowKit
set_option maxHeartbeats 8000000 in
set_option maxRecDepth 60000 in
theorem round_acc (t0 t2 t3 t4 t17 t18 t19 t20 t21 t22 t23 t24 t25 t26 t27 t28 t29 t30 t31 t32 t33 t34 t35 t36 t37 t38 t39 t40 t41 t42 t43 t44 t45 t46 t47 t48 t49 t50 t51 t52 t53 t54 t55 t56 t57 t58 t59 t60 t61 t62 t63 t64 t65 t66 t67 t68 t69 t70 t71 t72 t73 t74 t75 t76 t77 t78 t79 t80 t81 t82 t83 t84 t85 t86 t87 t88 t89 t90 t91 t92 t93 t94 t95 t96 t97 t98 t99 t100 t101 t102 t103 t104 t105 t106 t107 t108 t109 t110 t111 t112 t113 t114 t115 t116 t117 t118 t119 t120 t121 t122 t123 t124 t125 t126 t127 t128 t129 t130 t131 t132 t133 t134 t135 t136 t137 t138 t139 t140 t141 t142 t143 t144 t145 t146 t147 t148 t149 t150 t151 t152 t153 t154 t155 t156 t157 t158 t159 t160 t161 t162 t163 t164 t165 t166 t167 t168 t169 t170 t171 t172 t173 t174 t175 t176 t177 t178 t179 t180 t181 t182 t183 t184 t185 t186 t187 t188 t189 t190 t191 t192 t193 t194 t195 t196 t197 t198 t199 t200 t201 t202 t203 t204 t205 t206 t207 t208 t209 t210 t211 t212 t213 t214 t215 t216 t217 t218 t219 t220 t221 t222 t223 t224 t225 t226 t227 t228 t229 t230 t231 t232 t233 t234 t235 t236 t237 t238 t239 t240 t241 t242 t243 t244 t245 t246 t247 t248 t249 t250 t251 t252 t253 t254 t255 t256 t257 t258 t259 t260 t261 t262 t263 t264 t265 t266 t267 t268 t269 t270 t271 t272 t273 t274 t275 t276 t277 t278 t279 t280 t281 t282 t283 t284 t285 t286 t287 t288 t289 t290 t291 t292 t293 : Value) (w wC : World) (k i G B T Y M V C b1 o1 len1 cap1 : Nat) (p q s : Nat) (d : Int) (S : Sy) (A : Int → Nat → Nat → Bool) (W : Int → Nat → Option Dl)
    (hc0 : wC.cell? ⟨b1, o1 + i * 4, none⟩ = some (.int .i64 d)) (HP : Hid (p < 3 ∧ q < k ∧ s < 3)) (hd0 : ¬ d = 0) (hd1 : d = 1)
    (HS : Hid (SyAt w wC k i ⟨G, B, T, Y, M, V, C⟩ S)) (HI : Hid (Inv k S A W)) (HB : Hid (Bd S i)) (e2 : (k : Int) ≤ 5) (i1 : (i : Int) < (len1 : Int)) (i2 : (i : Int) < 150)
    (Q : Exit → Act → World → Prop) (hQ : Hid (∀ (u17 u18 u19 u20 u21 u22 u23 u24 u66 u67 u68 u69 u70 u71 u72 u73 u74 u75 u76 u77 u78 u79 u80 u81 u82 u83 u84 u85 u86 u87 u88 u89 u90 u91 u92 u93 u94 u95 u96 u97 u98 u99 u100 u101 u102 u103 u104 u105 u106 u107 u108 u109 u110 u111 u112 u113 u114 u115 u116 u117 u118 u119 u120 u121 u122 u123 u124 u125 u126 u127 u128 u129 u130 u131 u132 u133 u134 u135 u136 u137 u138 u139 u140 u141 u142 u143 u144 u145 u146 u147 u148 u149 u150 u151 u152 u153 u154 u155 u156 u157 u158 u159 u160 u161 u162 u163 u164 u165 u166 u167 u168 u169 u170 u171 u172 u173 u174 u175 u176 u177 u178 u179 u180 u181 u182 u183 u184 u185 u186 u187 u188 u189 u190 u191 u192 u193 u194 u195 u196 u197 u198 u199 u200 u201 u202 u203 u204 u205 u206 u207 u208 u209 u210 u211 u212 u213 u214 u215 u216 u217 u218 u219 u220 u221 u222 u223 u224 u225 u226 u227 u228 u229 u230 u231 u232 u233 u234 u235 u236 u237 u238 u239 u240 u241 u242 u243 u244 u245 u246 u247 u248 u249 u250 u251 u252 u253 u254 u255 u256 u257 u258 u259 u260 u261 u262 u263 u264 u265 u266 u267 u268 u269 u270 u271 u272 u273 u274 u275 u276 u277 u278 u279 u280 u281 u282 u283 u284 u285 u286 u287 u288 u289 u290 u291 u292 : Value) (wZ : World), (∃ S A U, SyAt w wZ k (i + 1) ⟨G, B, T, Y, M, V, C⟩ S ∧ Inv k S A U ∧ Bd S (i + 1)) → Q .normal ⟨#[t0, .slice (some ⟨b1, o1, none⟩) len1 cap1, t2, t3, t4, .int .i64 (k : Int), .slice (some ⟨G, 0, none⟩) k k, .pointer (some ⟨B, 0, none⟩), .pointer (some ⟨T, 0, none⟩), .pointer (some ⟨Y, 0, none⟩), .pointer (some ⟨M, 0, none⟩), .map (some V), .pointer (some ⟨C, 0, none⟩), .int .i64 (i : Int), .int .i64 (p : Int), .int .i64 (q : Int), .int .i64 (s : Int), u17, u18, u19, u20, u21, u22, u23, u24, t25, t26, t27, t28, t29, t30, t31, t32, t33, t34, t35, t36, t37, t38, t39, t40, t41, t42, t43, t44, t45, t46, t47, t48, t49, t50, t51, t52, t53, t54, t55, t56, t57, t58, t59, t60, t61, t62, t63, t64, t65, u66, u67, u68, u69, u70, u71, u72, u73, u74, u75, u76, u77, u78, u79, u80, u81, u82, u83, u84, u85, u86, u87, u88, u89, u90, u91, u92, u93, u94, u95, u96, u97, u98, u99, u100, u101, u102, u103, u104, u105, u106, u107, u108, u109, u110, u111, u112, u113, u114, u115, u116, u117, u118, u119, u120, u121, u122, u123, u124, u125, u126, u127, u128, u129, u130, u131, u132, u133, u134, u135, u136, u137, u138, u139, u140, u141, u142, u143, u144, u145, u146, u147, u148, u149, u150, u151, u152, u153, u154, u155, u156, u157, u158, u159, u160, u161, u162, u163, u164, u165, u166, u167, u168, u169, u170, u171, u172, u173, u174, u175, u176, u177, u178, u179, u180, u181, u182, u183, u184, u185, u186, u187, u188, u189, u190, u191, u192, u193, u194, u195, u196, u197, u198, u199, u200, u201, u202, u203, u204, u205, u206, u207, u208, u209, u210, u211, u212, u213, u214, u215, u216, u217, u218, u219, u220, u221, u222, u223, u224, u225, u226, u227, u228, u229, u230, u231, u232, u233, u234, u235, u236, u237, u238, u239, u240, u241, u242, u243, u244, u245, u246, u247, u248, u249, u250, u251, u252, u253, u254, u255, u256, u257, u258, u259, u260, u261, u262, u263, u264, u265, u266, u267, u268, u269, u270, u271, u272, u273, u274, u275, u276, u277, u278, u279, u280, u281, u282, u283, u284, u285, u286, u287, u288, u289, u290, u291, u292, t293], []⟩ wZ)) (hC : Hid (∀ (u17 u18 u19 u20 u21 u22 u23 u24 u66 u67 u68 u69 u70 u71 u72 u73 u74 u75 u76 u77 u78 u79 u80 u81 u82 u83 u84 u85 u86 u87 u88 u89 u90 u91 u92 u93 u94 u95 u96 u97 u98 u99 u100 u101 u102 u103 u104 u105 u106 u107 u108 u109 u110 u111 u112 u113 u114 u115 u116 u117 u118 u119 u120 u121 u122 u123 u124 u125 u126 u127 u128 u129 u130 u131 u132 u133 u134 u135 u136 u137 u138 u139 u140 u141 u142 u143 u144 u145 u146 u147 u148 u149 u150 u151 u152 u153 u154 u155 u156 u157 u158 u159 u160 u161 u162 u163 u164 u165 u166 u167 u168 u169 u170 u171 u172 u173 u174 u175 u176 u177 u178 u179 u180 u181 u182 u183 u184 u185 u186 u187 u188 u189 u190 u191 u192 u193 u194 u195 u196 u197 u198 u199 u200 u201 u202 u203 u204 u205 u206 u207 u208 u209 u210 u211 u212 u213 u214 u215 u216 u217 u218 u219 u220 u221 u222 u223 u224 u225 u226 u227 u228 u229 u230 u231 u232 u233 u234 u235 u236 u237 u238 u239 u240 u241 u242 u243 u244 u245 u246 u247 u248 u249 u250 u251 u252 u253 u254 u255 u256 u257 u258 u259 u260 u261 u262 u263 u264 u265 u266 u267 u268 u269 u270 u271 u272 u273 u274 u275 u276 u277 u278 u279 u280 u281 u282 u283 u284 u285 u286 u287 u288 u289 u290 u291 u292 : Value) (wZ : World), (∃ S A U, SyAt w wZ k (i + 1) ⟨G, B, T, Y, M, V, C⟩ S ∧ Inv k S A U ∧ Bd S (i + 1)) → Q (.exit 1) ⟨#[t0, .slice (some ⟨b1, o1, none⟩) len1 cap1, t2, t3, t4, .int .i64 (k : Int), .slice (some ⟨G, 0, none⟩) k k, .pointer (some ⟨B, 0, none⟩), .pointer (some ⟨T, 0, none⟩), .pointer (some ⟨Y, 0, none⟩), .pointer (some ⟨M, 0, none⟩), .map (some V), .pointer (some ⟨C, 0, none⟩), .int .i64 (i : Int), .int .i64 (p : Int), .int .i64 (q : Int), .int .i64 (s : Int), u17, u18, u19, u20, u21, u22, u23, u24, t25, t26, t27, t28, t29, t30, t31, t32, t33, t34, t35, t36, t37, t38, t39, t40, t41, t42, t43, t44, t45, t46, t47, t48, t49, t50, t51, t52, t53, t54, t55, t56, t57, t58, t59, t60, t61, t62, t63, t64, t65, u66, u67, u68, u69, u70, u71, u72, u73, u74, u75, u76, u77, u78, u79, u80, u81, u82, u83, u84, u85, u86, u87, u88, u89, u90, u91, u92, u93, u94, u95, u96, u97, u98, u99, u100, u101, u102, u103, u104, u105, u106, u107, u108, u109, u110, u111, u112, u113, u114, u115, u116, u117, u118, u119, u120, u121, u122, u123, u124, u125, u126, u127, u128, u129, u130, u131, u132, u133, u134, u135, u136, u137, u138, u139, u140, u141, u142, u143, u144, u145, u146, u147, u148, u149, u150, u151, u152, u153, u154, u155, u156, u157, u158, u159, u160, u161, u162, u163, u164, u165, u166, u167, u168, u169, u170, u171, u172, u173, u174, u175, u176, u177, u178, u179, u180, u181, u182, u183, u184, u185, u186, u187, u188, u189, u190, u191, u192, u193, u194, u195, u196, u197, u198, u199, u200, u201, u202, u203, u204, u205, u206, u207, u208, u209, u210, u211, u212, u213, u214, u215, u216, u217, u218, u219, u220, u221, u222, u223, u224, u225, u226, u227, u228, u229, u230, u231, u232, u233, u234, u235, u236, u237, u238, u239, u240, u241, u242, u243, u244, u245, u246, u247, u248, u249, u250, u251, u252, u253, u254, u255, u256, u257, u258, u259, u260, u261, u262, u263, u264, u265, u266, u267, u268, u269, u270, u271, u272, u273, u274, u275, u276, u277, u278, u279, u280, u281, u282, u283, u284, u285, u286, u287, u288, u289, u290, u291, u292, t293], []⟩ wZ)) :
    Code.wp Try.prog ((Try.f4.body.bind (restOf 12)).getD .skip) Q ⟨#[t0, .slice (some ⟨b1, o1, none⟩) len1 cap1, t2, t3, t4, .int .i64 (k : Int), .slice (some ⟨G, 0, none⟩) k k, .pointer (some ⟨B, 0, none⟩), .pointer (some ⟨T, 0, none⟩), .pointer (some ⟨Y, 0, none⟩), .pointer (some ⟨M, 0, none⟩), .map (some V), .pointer (some ⟨C, 0, none⟩), .int .i64 (i : Int), .int .i64 (p : Int), .int .i64 (q : Int), .int .i64 (s : Int), t17, t18, t19, t20, t21, t22, t23, t24, t25, t26, t27, t28, t29, t30, t31, t32, t33, t34, t35, t36, t37, t38, t39, t40, t41, t42, t43, t44, t45, t46, t47, t48, t49, t50, t51, t52, t53, t54, t55, t56, t57, t58, t59, t60, t61, t62, t63, t64, t65, t66, t67, t68, t69, t70, t71, t72, t73, t74, t75, t76, t77, t78, t79, t80, t81, t82, t83, t84, t85, t86, t87, t88, t89, t90, t91, t92, t93, t94, t95, t96, t97, t98, t99, t100, t101, t102, t103, t104, t105, t106, t107, t108, t109, t110, t111, t112, t113, t114, t115, t116, t117, t118, t119, t120, t121, t122, t123, t124, t125, t126, t127, t128, t129, t130, t131, t132, t133, t134, t135, t136, t137, t138, t139, t140, t141, t142, t143, t144, t145, t146, t147, t148, t149, t150, t151, t152, t153, t154, t155, t156, t157, t158, t159, t160, t161, t162, t163, t164, t165, t166, t167, t168, t169, t170, t171, t172, t173, t174, t175, t176, t177, t178, t179, t180, t181, t182, t183, t184, t185, t186, t187, t188, t189, t190, t191, t192, t193, t194, t195, t196, t197, t198, t199, t200, t201, t202, t203, t204, t205, t206, t207, t208, t209, t210, t211, t212, t213, t214, t215, t216, t217, t218, t219, t220, t221, t222, t223, t224, t225, t226, t227, t228, t229, t230, t231, t232, t233, t234, t235, t236, t237, t238, t239, t240, t241, t242, t243, t244, t245, t246, t247, t248, t249, t250, t251, t252, t253, t254, t255, t256, t257, t258, t259, t260, t261, t262, t263, t264, t265, t266, t267, t268, t269, t270, t271, t272, t273, t274, t275, t276, t277, t278, t279, t280, t281, t282, t283, t284, t285, t286, t287, t288, t289, t290, t291, t292, t293], []⟩ wC := by
  conv => arg 2; whnf
  have HC1 := Hid.mk9 hc0
  have HT2 : True := trivial
  have p3 : (p : Int) < 3 := by have := HP.out.1; omega
  have q3 : (q : Int) < (k : Int) := by have := HP.out.2.1; omega
  have q5 : (q : Int) < 5 := by omega
  have s3 : (s : Int) < 3 := by have := HP.out.2.2; omega
  have d1 : decide ((p : Int) < 0) = false := decide_eq_false (by omega)
  have d2 : decide ((q : Int) < 0) = false := decide_eq_false (by omega)
  have d3 : decide ((s : Int) < 0) = false := decide_eq_false (by omega)
  have x0 : (d == 0) = false := by rw [beq_eq_false_iff_ne]; exact hd0
  have x1 : (d == 1) = true := by rw [beq_iff_eq]; exact hd1
  clear hd0 hd1 HT2
  go_upto_region 24 with fail
  have HO := Hid.mk9 (own_none22 wC w.heap.size HS.out.bel.size)
  replace HS := Hid.mk9 (HS.out.below (below_alloc wC (.cells #[] 22)))
  clear HC1 hc0
  generalize wC.alloc (.cells #[] 22) = wH at *
  generalize wC.heap.size = g0 at *
  have HH0 : Hid (OwnH wH w.heap.size (.slice (some ⟨g0, 0, none⟩) 0 0) (HvL S p 0)) := ⟨[], HO.out, fun i hi => absurd hi (Nat.not_lt_zero _)⟩
  clear HO
  go_upto_region 25 with fail
  go_wp2_with fail
  go_loopw [20, 21] (fun vh iv wr => ∃ m : Nat, iv = .int .i64 (m : Int) ∧ Hid (m ≤ k) ∧ Hid (SyAt w wr k i ⟨G, B, T, Y, M, V, C⟩ S) ∧ Hid (OwnH wr w.heap.size vh (HvL S p m))) (fun vh iv _ => k - (intOf iv).toNat)
  case atStart => exact ⟨0, rfl, Nat.zero_le _, HS.out, HH0.out⟩
  case round =>
    obtain ⟨m, rfl, hm, hs9, hh⟩ := hrel
    clear HS HH0
    by_cases hlt : m < k
    · have m4 : (m : Int) < (k : Int) := by omega
      have m5 : (m : Int) < 5 := by omega
      have HM : Hid (m < k) := hlt
      obtain ⟨y1, y2⟩ := hs9.out.rY (q := m) HP.out.1 (by omega)
      clear hlt hm
      cases hy : S.yes p m with
      | false =>
        rw [hy] at y1
        have HHn : Hid (OwnH wr w.heap.size u20 (HvL S p (m + 1))) := by rw [hv_no hy]; exact hh.out
        clear hy hh
        go_wp2_with fail
        exact ⟨⟨m + 1, by go_num, HM.out, hs9.out, HHn.out⟩, by simp [intOf]; have := HM.out; omega⟩
      | true =>
        rw [hy] at y1
        obtain ⟨ta, tc, t1, t2, t3⟩ := hs9.out.rT (q := m) HP.out.1 (by omega)
        obtain ⟨xs, o1, o2⟩ := hh.out
        have HY := Hid.mk9 hy
        have HBA := Hid.mk9 (below_alloc wr (.cells #[.slice ta (S.told p m).length tc] 22))
        have HOA := Hid.mk9 (own_below o1 HBA.out)
        have HSA := Hid.mk9 (hs9.out.below HBA.out)
        have HTA := Hid.mk9 (t2.below HBA.out)
        have HOL : Hid (∀ i, i < (HvL S p m).length → ∃ a c, xs[i]? = some (.slice a ((HvL S p m).getD i []).length c) ∧ OwnA (wr.alloc (.cells #[.slice ta (S.told p m).length tc] 22)) w.heap.size (.slice a ((HvL S p m).getD i []).length c) ((HvL S p m).getD i [])) := fun i hi => by
          obtain ⟨a, c, h3, h4⟩ := o2 i hi
          exact ⟨a, c, h3, h4.below HBA.out⟩
        have HLA := Hid.mk9 (lit22 wr (.slice ta (S.told p m).length tc))
        have hn9 : ((HvL S p m).length : Int) ≤ 100000 := by
          have h1 := hv_len S p m
          have h2 := cnt_le m (S.yes p)
          omega
        clear hy hh hs9 t2 t3 o1 o2 y2
        go_wp2_with (at_builtin; refine append_vu Try.underlying55 info22 rfl (by decide) rfl _ _ rfl u20 (HvL S p m).length _ rfl HOA.out HSA.out.bel _ 1 1 [_] rfl HLA.out (by intro v hv; rw [List.mem_singleton.1 hv]; rfl) hn9 (by decide) ?_; intro v7 w7 hown7 hb7 hg7; have HS7 := Hid.mk9 (HSA.out.app HOA.out hg7); have HH7 : Hid (OwnH w7 w.heap.size v7 (HvL S p (m + 1))) := (by rw [hv_yes HY.out]; exact OwnH.snoc HOA.out HOL.out HTA.out hown7 hg7); clear hown7 hb7 hg7)
        exact ⟨⟨m + 1, by go_num, HM.out, HS7.out, HH7.out⟩, by simp [intOf]; have := HM.out; omega⟩
    · have hmk : m = k := by have := hm.out; omega
      have mk4 : (k : Int) ≤ (m : Int) := by omega
      rw [hmk] at hh
      have HS := hs9
      obtain ⟨ha, hcap, rfl, hlis⟩ := hh.out.lis
      obtain ⟨nh, hnh⟩ : ∃ nh, (HvL S p k).length = nh := ⟨_, rfl⟩
      have hnc : nh = cnt k (S.yes p) := by rw [← hnh]; exact hv_len S p k
      have HOH := Hid.mk9 hh.out
      have HNC := Hid.mk9 hnc
      have HNH := Hid.mk9 hnh
      rw [hnh]
      have n5 : (nh : Int) ≤ 5 := by have := cnt_le k (S.yes p); omega
      clear hlt hm hmk hs9 hh hlis hnh hnc
      by_cases hmj : 2 * nh ≤ k
      · have dm : decide (2 * (nh : Int) ≤ (k : Int)) = true := decide_eq_true (by omega)
        have HTf : Hid (∃ S A U, SyAt w wr k (i + 1) ⟨G, B, T, Y, M, V, C⟩ S ∧ Inv k S A U ∧ Bd S (i + 1)) := ⟨_, A, W, HS.out.more (by omega), HI.out, HB.out.more⟩
        clear hmj
        go_wp2_with fail
        exact hC.out _ _ _ _ _ _ _ _ _ _ _ _ _ _ _ _ _ _ _ _ _ _ _ _ _ _ _ _ _ _ _ _ _ _ _ _ _ _ _ _ _ _ _ _ _ _ _ _ _ _ _ _ _ _ _ _ _ _ _ _ _ _ _ _ _ _ _ _ _ _ _ _ _ _ _ _ _ _ _ _ _ _ _ _ _ _ _ _ _ _ _ _ _ _ _ _ _ _ _ _ _ _ _ _ _ _ _ _ _ _ _ _ _ _ _ _ _ _ _ _ _ _ _ _ _ _ _ _ _ _ _ _ _ _ _ _ _ _ _ _ _ _ _ _ _ _ _ _ _ _ _ _ _ _ _ _ _ _ _ _ _ _ _ _ _ _ _ _ _ _ _ _ _ _ _ _ _ _ _ _ _ _ _ _ _ _ _ _ _ _ _ _ _ _ _ _ _ _ _ _ _ _ _ _ _ _ _ _ _ _ _ _ _ _ _ _ _ _ _ _ _ _ _ _ _ _ _ _ _ _ _ _ _ _ _ _ HTf.out
      have dm : decide (2 * (nh : Int) ≤ (k : Int)) = false := decide_eq_false (by omega)
      have HMJ : Hid (k < 2 * cnt k (S.yes p)) := by have := HNC.out; unfold Hid; omega
      clear hmj
      obtain ⟨c0, cx, cC, cO, cF⟩ := HS.out.rM (s := s) HP.out.1 (by have := HP.out.2.2; omega)
      obtain ⟨cb, -⟩ := HS.out.rB HP.out.1
      obtain ⟨bal, hbe⟩ : ∃ x, S.bal p = x := ⟨_, rfl⟩
      have hb1 : 1 ≤ bal := by
        obtain ⟨j, hj⟩ := HI.out.bal p HP.out.1
        omega
      have hb9 : bal ≤ 453 := by have := HB.out.1 p HP.out.1; omega
      rw [hbe] at cb
      have HBE := Hid.mk9 hbe
      have HCX := Hid.mk9 cx
      have s4 : (s : Int) < 4 := by omega
      have hBM := HS.out.ne.2.1
      clear hbe cx cO
      obtain ⟨cC0, -⟩ := id cC
      by_cases hz : c0.x.b = 0
      · have z0 : (c0.x.b == 0) = true := by rw [beq_iff_eq]; exact hz
        have HZ : Hid ((S.mine p s).b = 0) := by have := HCX.out; rw [← this]; exact hz
        have HSE0 : Hid (SyAt w (((((((((wr.setCell ⟨M, p * 32 + s * 8, none⟩ (.int .i64 bal)).setCell ⟨M, p * 32 + s * 8 + 1, none⟩ (.int .i64 3)).setCell ⟨M, p * 32 + s * 8 + 2, none⟩ (.int .i64 (100 * (p : Int) + bal))).setCell ⟨M, p * 32 + s * 8 + 3, none⟩ (.int .i64 0)).setCell ⟨M, p * 32 + s * 8 + 4, none⟩ (.int .i64 0)).setCell ⟨M, p * 32 + s * 8 + 5, none⟩ (.int .i64 0)).setCell ⟨M, p * 32 + s * 8 + 6, none⟩ (.int .i64 0)).setCell ⟨M, p * 32 + s * 8 + 7, none⟩ (.slice none 0 0))).drew k i ⟨G, B, T, Y, M, V, C⟩ { S with mine := upd S.mine p (upd (S.mine p) s ⟨bal, ⟨3, 100 * (p : Int) + bal, 0, 0, 0, 0, []⟩⟩) }) := (HS.out.setM HP.out.1 (by have := HP.out.2.2; omega) ⟨⟨bal, ⟨3, 100 * (p : Int) + bal, 0, 0, 0, 0, []⟩⟩, none, 0, 0⟩ (own_nothing _ _ _ _)).below (below_drew _)
        have HOE0 : Hid (OwnH (((((((((wr.setCell ⟨M, p * 32 + s * 8, none⟩ (.int .i64 bal)).setCell ⟨M, p * 32 + s * 8 + 1, none⟩ (.int .i64 3)).setCell ⟨M, p * 32 + s * 8 + 2, none⟩ (.int .i64 (100 * (p : Int) + bal))).setCell ⟨M, p * 32 + s * 8 + 3, none⟩ (.int .i64 0)).setCell ⟨M, p * 32 + s * 8 + 4, none⟩ (.int .i64 0)).setCell ⟨M, p * 32 + s * 8 + 5, none⟩ (.int .i64 0)).setCell ⟨M, p * 32 + s * 8 + 6, none⟩ (.int .i64 0)).setCell ⟨M, p * 32 + s * 8 + 7, none⟩ (.slice none 0 0))).drew w.heap.size (.slice ha nh hcap) (HvL S p k)) := by
          have := (HOH.out.kp (HS.out.kpM (p * 32 + s * 8) [.int .i64 bal, .int .i64 3, .int .i64 (100 * (p : Int) + bal), .int .i64 0, .int .i64 0, .int .i64 0, .int .i64 0, .slice none 0 0]) (by decide) (by decide) (by decide)).below (below_drew _)
          rw [HNH.out] at this
          exact this
        clear hz
        go_upto_region 31 with fail
        go_wp2_with fail
        refine agr_31 _ _ _ _ _ _ _ _ _ _ _ _ _ _ _ _ _ _ _ _ _ _ _ _ _ _ _ _ _ _ _ _ _ _ _ _ _ _ _ _ _ _ _ _ _ _ _ _ _ _ _ _ _ _ _ _ _ _ _ _ _ _ _ _ _ _ _ _ _ _ _ _ _ _ _ _ _ _ _ _ _ _ _ _ _ _ _ _ _ _ _ _ _ _ _ _ _ _ _ _ _ _ _ _ _ _ _ _ _ _ _ _ _ _ _ _ _ _ _ _ _ _ _ _ _ _ _ _ _ _ _ _ _ _ _ _ _ _ _ _ _ _ _ _ _ _ _ _ _ _ _ _ _ _ _ _ _ _ _ _ _ _ _ _ _ _ _ _ _ _ _ _ _ _ _ _ _ _ _ _ _ _ _ _ _ _ _ _ _ _ _ _ _ _ _ _ _ _ _ _ _ _ _ _ _ _ _ _ _ _ _ _ _ _ _ _ _ _ _ _ _ _ _ _ _ _ _ _ _ _ _ _ _ _ _ _ _ _ _ _ _ _ _ _ _ _ _ _ _ _ _ _ _ _ _ _ _ _ _ _ _ _ _ _ _ _ _ _ _ _ _ _ _ _ _ _ _ _ _ _ _ _ _ _ _ _ _ _ _ _ B M p s _ bal c0 _ _ p3 s4 (wrap_i64 (by omega) (by omega)) (wrap_i64 (by omega) (by omega)) cb rfl cC cF hBM (fun u158 u159 u160 u161 u162 u163 u164 u165 u166 u167 u168 u169 u170 u171 u172 wE hwE => ?_)
        have HSE : Hid (SyAt w wE k i ⟨G, B, T, Y, M, V, C⟩ { S with mine := upd S.mine p (upd (S.mine p) s ⟨bal, ⟨3, 100 * (p : Int) + bal, 0, 0, 0, 0, []⟩⟩) }) := by rw [← hwE]; exact HSE0.out
        have HOE : Hid (OwnH wE w.heap.size (.slice ha nh hcap) (HvL S p k)) := by rw [← hwE]; exact HOE0.out
        clear hwE HSE0 HOE0 HS cb cC cC0 cF HOH z0
        have HLE : Hid (LisAt wE ha nh hcap (HvL S p k)) := by
          obtain ⟨a', c', e', h'⟩ := HOE.out.lis
          injection e' with e1 e2 e3
          rw [← e1, ← e2, ← e3] at h'
          exact h'
        clear HOE
        go_upto_region 33 with (go_at_call 18; refine (pick_any ha nh hcap (HvL S p k) _ HLE.out (fun t ht => by obtain ⟨q9, _, _, h9⟩ := hv_mem.1 ht; rw [← h9]; exact HB.out.2 p q9)).mono ?_; rintro e w9 ⟨hb9', best, ma, mc, hbst, rfl, hown⟩; have HS9 := Hid.mk9 (HSE.out.below hb9'); have HBS := Hid.mk9 hbst; have HOW : Hid (OwnA w9 w.heap.size (.slice ma best.length mc) (best.map fixA)) := hown.base (Nat.le_trans HSE.out.bel.size (Nat.le_refl _)); clear hb9' hbst hown HSE HLE; try dsimp only)
        obtain ⟨nm, hnm⟩ : ∃ nm, best.length = nm := ⟨_, rfl⟩
        have HNM := Hid.mk9 hnm
        rw [hnm]
        rw [hnm] at HOW
        clear hnm
        have HIn : ∀ m, m = slotA (best.map fixA) s → Inv k { S with mine := upd S.mine p (upd (S.mine p) s ⟨S.bal p, if 0 < m.b then m.d else ⟨3, 100 * (p : Int) + bal, 0, 0, 0, 0, []⟩⟩) } A (setV W (S.bal p) s (if 0 < m.b then m.d else ⟨3, 100 * (p : Int) + bal, 0, 0, 0, 0, []⟩)) := fun m hm => by
          have h9 := HI.out.propose HP.out.1 HP.out.2.2 HMJ.out HZ.out m (by rw [hm]; exact must_of HBS.out) ⟨3, 100 * (p : Int) + bal, 0, 0, 0, 0, []⟩ (own_ok HP.out.1 hb1 hb9)
          exact h9
        have HInv := Hid.mk9 HIn
        clear HIn
        by_cases hsn : s < nm
        · obtain ⟨g, rfl, hg9, cl, e1, e2, e3, cur9, e4⟩ := OwnA.ballot (ls := best.map fixA) (s := s) (by rw [List.length_map, HNM.out]; exact HOW.out) (by rw [List.length_map, HNM.out]; exact hsn)
          have sn : (s : Int) < (nm : Int) := by omega
          obtain ⟨eb, -⟩ := id e2
          have HE1 := Hid.mk9 e1
          clear hsn e1 hg9
          by_cases hp0 : 0 < cl.x.b
          · have dp : decide (0 < cl.x.b) = true := decide_eq_true hp0
            have HI9 : Hid (Inv k { S with mine := upd S.mine p (upd (S.mine p) s ⟨S.bal p, cl.x.d⟩) } A (setV W (S.bal p) s cl.x.d)) := by
              have h9 := HInv.out cl.x HE1.out
              rw [if_pos hp0] at h9
              exact h9
            obtain ⟨c1, cx1, cC1, cO1, cF1⟩ := HS9.out.rM (s := s) HP.out.1 (by have := HP.out.2.2; omega)
            have hgM : g ≠ M := by
              obtain ⟨f9, h9, _⟩ := HS9.out.mine
              obtain ⟨cur8, h8, _⟩ := h9
              rintro rfl
              rw [show w9.heap[g]? = _ from h8] at e4
              simp at e4
            have HE3 := Hid.mk9 e3
            have HG0 : CelAt w9 g (0 + s * 8) cl := by rw [Nat.zero_add]; exact e2
            clear hp0 e3 e4 e2 cx1 cO1
            go_upto_region 34 with fail
            go_wp2_with fail
            refine agr_34 _ _ _ _ _ _ _ _ _ _ _ _ _ _ _ _ _ _ _ _ _ _ _ _ _ _ _ _ _ _ _ _ _ _ _ _ _ _ _ _ _ _ _ _ _ _ _ _ _ _ _ _ _ _ _ _ _ _ _ _ _ _ _ _ _ _ _ _ _ _ _ _ _ _ _ _ _ _ _ _ _ _ _ _ _ _ _ _ _ _ _ _ _ _ _ _ _ _ _ _ _ _ _ _ _ _ _ _ _ _ _ _ _ _ _ _ _ _ _ _ _ _ _ _ _ _ _ _ _ _ _ _ _ _ _ _ _ _ _ _ _ _ _ _ _ _ _ _ _ _ _ _ _ _ _ _ _ _ _ _ _ _ _ _ _ _ _ _ _ _ _ _ _ _ _ _ _ _ _ _ _ _ _ _ _ _ _ _ _ _ _ _ _ _ _ _ _ _ _ _ _ _ _ _ _ _ _ _ _ _ _ _ _ _ _ _ _ _ _ _ _ _ _ _ _ _ _ _ _ _ _ _ _ _ _ _ _ _ _ _ _ _ _ _ _ _ _ _ _ _ _ _ _ _ _ _ _ _ _ _ _ _ _ _ _ _ _ _ _ _ _ _ _ _ _ _ _ _ _ _ _ _ _ _ _ _ _ _ _ _ M p s _ g 0 nm mc cl c1 _ _ p3 s4 sn HG0 rfl cC1 cF1 hgM (fun u187 u188 u189 u190 u191 u192 u193 u194 u195 u196 wG hwG => ?_)
            have HSn : Hid (SyAt w wG k i ⟨G, B, T, Y, M, V, C⟩ { S with mine := upd S.mine p (upd (S.mine p) s ⟨S.bal p, cl.x.d⟩) }) := by
              have h8 := (HS9.out.setM7 HP.out.1 (s := s) (by have := HP.out.2.2; omega) ⟨⟨bal, cl.x.d⟩, cl.a, cl.l, cl.c⟩ (by show bal = (upd S.mine p (upd (S.mine p) s ⟨bal, ⟨3, 100 * (p : Int) + bal, 0, 0, 0, 0, []⟩⟩) p s).b; rw [upd_same, upd_same]) HE3.out).below (below_drew _)
              rw [HBE.out]
              have e8 : upd (upd S.mine p (upd (S.mine p) s ⟨bal, ⟨3, 100 * (p : Int) + bal, 0, 0, 0, 0, []⟩⟩)) p (upd ((upd S.mine p (upd (S.mine p) s ⟨bal, ⟨3, 100 * (p : Int) + bal, 0, 0, 0, 0, []⟩⟩)) p) s ⟨bal, cl.x.d⟩) = upd S.mine p (upd (S.mine p) s ⟨bal, cl.x.d⟩) := by rw [upd_twice, upd_same, upd_twice]
              have h9 : SyAt w _ k i ⟨G, B, T, Y, M, V, C⟩ { S with mine := upd (upd S.mine p (upd (S.mine p) s ⟨bal, ⟨3, 100 * (p : Int) + bal, 0, 0, 0, 0, []⟩⟩)) p (upd ((upd S.mine p (upd (S.mine p) s ⟨bal, ⟨3, 100 * (p : Int) + bal, 0, 0, 0, 0, []⟩⟩)) p) s ⟨bal, cl.x.d⟩) } := h8
              rw [e8] at h9
              rw [← hwG]
              exact h9
            clear hwG
            obtain ⟨D, hD⟩ : ∃ D : Dl, D = cl.x.d := ⟨_, rfl⟩
            have HD : Hid (okD D = true) := by
              have h9 := HI9.out.val (S.bal p) s cl.x.d (setV_same _ _ _ _)
              rw [hD]
              exact h9.2.1
            rw [← hD] at HI9 HSn
            clear hD HS9 HInv HOW HBS HNM HMJ HZ HNC HNH HI HCX HG0 HE1 HE3 eb dp cC1 cF1 hgM sn
            go_upto_region 35 with fail
            obtain ⟨S2, hS2⟩ : ∃ S2 : Sy, S2 = { S with mine := upd S.mine p (upd (S.mine p) s ⟨S.bal p, D⟩) } := ⟨_, rfl⟩
            have HM9 : Hid ((S2.mine p s).b ≠ 0) := by
              unfold Hid
              rw [hS2]
              show (upd S.mine p (upd (S.mine p) s ⟨S.bal p, D⟩) p s).b ≠ 0
              rw [upd_same, upd_same, HBE.out]
              show bal ≠ 0
              omega
            have HB2 : Hid (Bd S2 i) := by rw [hS2]; exact HB.out
            rw [← hS2] at HI9 HSn
            clear hS2 HB HBE HD hb1 hb9
            generalize setV W (S.bal p) s D = W2 at *
            obtain ⟨ga, gc, g1, g2, g3, -, -⟩ := HSn.out.rG HP.out.2.1
            obtain ⟨cb, -⟩ := HSn.out.rB HP.out.1
            obtain ⟨m1, mx, mC, mO, mF⟩ := HSn.out.rM (s := s) HP.out.1 (by have := HP.out.2.2; omega)
            obtain ⟨P, hPe⟩ : ∃ P, S2.P q = P := ⟨_, rfl⟩
            obtain ⟨L, hLe⟩ : ∃ L, S2.L q = L := ⟨_, rfl⟩
            obtain ⟨bb, hbe⟩ : ∃ x, S2.bal p = x := ⟨_, rfl⟩
            rw [hPe] at g1
            rw [hLe] at g2 g3
            rw [hbe] at cb
            have HEq : Hid (S2.P q = P ∧ S2.L q = L ∧ S2.bal p = bb ∧ m1.x.d = (S2.mine p s).d) := ⟨hPe, hLe, hbe, by rw [mx]⟩
            have HMV := Hid.mk9 ((HI9.out.mine p HP.out.1 s HP.out.2.2).2 HM9.out)
            have b1' : 1 ≤ bb := by
              obtain ⟨j, hj⟩ := HI9.out.bal p HP.out.1
              omega
            have b9' : bb ≤ 453 := by have := HB2.out.1 p HP.out.1; omega
            have HDk : Hid (okD m1.x.d = true) := by
              unfold Hid
              rw [HEq.out.2.2.2]
              exact (HI9.out.val _ _ _ HMV.out.2).2.1
            have HiB : Hid (inB bb 1 2147483647 = true) := by
              unfold Hid inB
              rw [decide_eq_true (by omega), decide_eq_true (by omega)]
              rfl
            obtain ⟨P1, hP1⟩ : ∃ x, accP P L bb ((s : Int) + 1) m1.x.d = x := ⟨_, rfl⟩
            obtain ⟨E1, hE1⟩ : ∃ x, accE P L bb ((s : Int) + 1) m1.x.d = x := ⟨_, rfl⟩
            obtain ⟨L1, hL1⟩ : ∃ x, accL P L bb ((s : Int) + 1) m1.x.d = x := ⟨_, rfl⟩
            have HPE : Hid (accP P L bb ((s : Int) + 1) m1.x.d = P1 ∧ accE P L bb ((s : Int) + 1) m1.x.d = E1 ∧ accL P L bb ((s : Int) + 1) m1.x.d = L1) := ⟨hP1, hE1, hL1⟩
            have HPr : Hid ((P ≤ bb ∧ E1 = 0 ∧ P1 = bb ∧ L1 = putS L (s + 1) ⟨bb, m1.x.d⟩) ∨ (bb < P ∧ E1 = 9 ∧ P1 = P ∧ L1 = L)) := by
              have h9 := acc_is (P := P) (bal := bb) (L := L) (s := s) (d := m1.x.d) (by rw [← hPe, ← hLe]; exact HI9.out.ok q HP.out.2.1) HiB.out HP.out.2.2 HDk.out
              rw [hP1, hE1, hL1, Int.not_lt] at h9
              exact h9
            have HG3 := Hid.mk9 g3
            have HMO := Hid.mk9 mO
            have s4' : (s : Int) < 4 := by omega
            clear hP1 hE1 hL1 hPe hLe hbe g3 mx mO
            go_wp2_with fail
            refine agr_35 _ _ _ _ _ _ _ _ _ _ _ _ _ _ _ _ _ _ _ _ _ _ _ _ _ _ _ _ _ _ _ _ _ _ _ _ _ _ _ _ _ _ _ _ _ _ _ _ _ _ _ _ _ _ _ _ _ _ _ _ _ _ _ _ _ _ _ _ _ _ _ _ _ _ _ _ _ _ _ _ _ _ _ _ _ _ _ _ _ _ _ _ _ _ _ _ _ _ _ _ _ _ _ _ _ _ _ _ _ _ _ _ _ _ _ _ _ _ _ _ _ _ _ _ _ _ _ _ _ _ _ _ _ _ _ _ _ _ _ _ _ _ _ _ _ _ _ _ _ _ _ _ _ _ _ _ _ _ _ _ _ _ _ _ _ _ _ _ _ _ _ _ _ _ _ _ _ _ _ _ _ _ _ _ _ _ _ _ _ _ _ _ _ _ _ _ _ _ _ _ _ _ _ _ _ _ _ _ _ _ _ _ _ _ _ _ _ _ _ _ _ _ _ _ _ _ _ _ _ _ _ _ _ _ _ _ _ _ _ _ _ _ _ _ _ _ _ _ _ _ _ _ _ _ _ _ _ _ _ _ _ _ _ _ _ _ _ _ _ _ _ _ _ _ _ _ _ _ _ _ _ _ _ _ _ _ _ _ G B M k k p q s P bb ga L.length gc m1 P1 E1 L1 _ _ q3 p3 s4' (wrap_i64 (by omega) (by omega)) g1 g2 cb mC (fun W hW => by
              have h8 := accept_any P ga L.length gc L bb ((s : Int) + 1) m1.x.d m1.a m1.l m1.c W (by obtain ⟨a9, c9, e9, h9⟩ := HG3.out.at; injection e9 with e9 e10 e11; subst e9 e11; exact h9.below hW) ((own_rowI HMO.out).below hW)
              obtain ⟨q1, q2, q3⟩ := HPE.out
              rwa [q1, q2, q3] at h8) (fun u197 u198 u199 u200 u201 u202 u203 u204 u205 u206 u207 u208 u209 u210 u211 u212 u213 u214 u215 X pa1 pc1 wD hbD hXb hL1 hXg => ?_)
            have HL1 : Hid (OwnA wD w.heap.size (.slice pa1 L1.length pc1) L1) := hL1.base HSn.out.bel.size
            replace HSn := Hid.mk9 (HSn.out.below hbD)
            have HXb := Hid.mk9 hXb
            clear hbD hXb hL1 hXg g1 g2 cb mC mF HG3 HMO HPE
            rename_i hK9
            refine hK9 _ _ ?_
            refine tail_any _ _ _ _ _ _ _ _ _ _ _ _ _ _ _ _ _ _ _ _ _ _ _ _ _ _ _ _ _ _ _ _ _ _ _ _ _ _ _ _ _ _ _ _ _ _ _ _ _ _ _ _ _ _ _ _ _ _ _ _ _ _ _ _ _ _ _ _ _ _ _ _ _ _ _ _ _ _ _ _ _ _ _ _ _ _ _ _ _ _ _ _ _ _ _ _ _ _ _ _ _ _ _ _ _ _ _ _ _ _ _ _ _ _ _ _ _ _ _ _ _ _ _ _ _ _ _ _ _ _ _ _ _ _ _ _ _ _ _ _ _ _ _ _ _ _ _ _ _ _ _ _ _ _ _ _ _ _ _ _ _ _ _ _ _ _ _ _ _ _ _ _ _ _ _ _ _ _ _ _ _ _ _ _ _ _ _ _ _ _ _ _ _ _ _ _ _ _ _ _ _ _ _ _ _ _ _ _ _ _ _ _ _ _ _ _ _ _ _ _ _ _ _ _ _ _ _ _ _ _ _ _ _ _ _ _ _ _ _ _ _ _ _ _ _ _ _ _ _ _ _ _ _ _ _ _ _ _ _ _ _ _ _ _ _ _ _ _ _ _ _ _ _ _ _ _ _ _ _ _ _ w wD k i G B T Y M V C p q s X P P1 E1 bb L L1 pa1 pc1 S2 A W2 m1.x.d HP p3 q3 s4' b1' b9' HiB e2 i2 HSn HL1 HXb HI9 HM9 HB2 HEq HPr _ (fun u216 u217 u218 u219 u220 u221 u222 u223 u224 u225 u226 u227 u228 u229 u230 u231 u232 u233 u234 u235 u236 u237 u238 u239 u240 u241 u242 u243 u244 u245 u246 u247 u248 u249 u250 u251 u252 u253 u254 u255 u256 u257 u258 u259 u260 u261 u262 u263 u264 u265 u266 u267 u268 u269 u270 u271 u272 u273 u274 u275 u276 u277 u278 u279 u280 u281 u282 u283 u284 u285 u286 u287 u288 u289 u290 u291 u292 wZ hZ => ?_)
            have HTf := Hid.mk9 hZ
            clear hZ HSn HL1 HXb HI9 HM9 HB2 HEq HDk HPr HiB HMV
            go_wp2_with fail
            exact hQ.out _ _ _ _ _ _ _ _ _ _ _ _ _ _ _ _ _ _ _ _ _ _ _ _ _ _ _ _ _ _ _ _ _ _ _ _ _ _ _ _ _ _ _ _ _ _ _ _ _ _ _ _ _ _ _ _ _ _ _ _ _ _ _ _ _ _ _ _ _ _ _ _ _ _ _ _ _ _ _ _ _ _ _ _ _ _ _ _ _ _ _ _ _ _ _ _ _ _ _ _ _ _ _ _ _ _ _ _ _ _ _ _ _ _ _ _ _ _ _ _ _ _ _ _ _ _ _ _ _ _ _ _ _ _ _ _ _ _ _ _ _ _ _ _ _ _ _ _ _ _ _ _ _ _ _ _ _ _ _ _ _ _ _ _ _ _ _ _ _ _ _ _ _ _ _ _ _ _ _ _ _ _ _ _ _ _ _ _ _ _ _ _ _ _ _ _ _ _ _ _ _ _ _ _ _ _ _ _ _ _ _ _ _ _ _ _ _ _ _ _ _ _ _ _ _ _ _ _ _ _ _ _ _ _ _ _ HTf.out
          · have dp : decide (0 < cl.x.b) = false := decide_eq_false hp0
            have HI9 : Hid (Inv k { S with mine := upd S.mine p (upd (S.mine p) s ⟨S.bal p, ⟨3, 100 * (p : Int) + bal, 0, 0, 0, 0, []⟩⟩) } A (setV W (S.bal p) s ⟨3, 100 * (p : Int) + bal, 0, 0, 0, 0, []⟩)) := by
              have h9 := HInv.out cl.x HE1.out
              rw [if_neg hp0] at h9
              exact h9
            clear hp0 e2 e3 e4
            have HSn : Hid (SyAt w w9 k i ⟨G, B, T, Y, M, V, C⟩ { S with mine := upd S.mine p (upd (S.mine p) s ⟨S.bal p, ⟨3, 100 * (p : Int) + bal, 0, 0, 0, 0, []⟩⟩) }) := by rw [HBE.out]; exact HS9.out
            obtain ⟨D, hD⟩ : ∃ D : Dl, D = ⟨3, 100 * (p : Int) + bal, 0, 0, 0, 0, []⟩ := ⟨_, rfl⟩
            have HD : Hid (okD D = true) := by rw [hD]; exact own_ok HP.out.1 hb1 hb9
            rw [← hD] at HI9 HSn
            clear hD HS9 HInv HOW HBS HNM HMJ HZ HNC HNH HI HCX
            go_upto_region 35 with fail
            obtain ⟨S2, hS2⟩ : ∃ S2 : Sy, S2 = { S with mine := upd S.mine p (upd (S.mine p) s ⟨S.bal p, D⟩) } := ⟨_, rfl⟩
            have HM9 : Hid ((S2.mine p s).b ≠ 0) := by
              unfold Hid
              rw [hS2]
              show (upd S.mine p (upd (S.mine p) s ⟨S.bal p, D⟩) p s).b ≠ 0
              rw [upd_same, upd_same, HBE.out]
              show bal ≠ 0
              omega
            have HB2 : Hid (Bd S2 i) := by rw [hS2]; exact HB.out
            rw [← hS2] at HI9 HSn
            clear hS2 HB HBE HD hb1 hb9
            generalize setV W (S.bal p) s D = W2 at *
            obtain ⟨ga, gc, g1, g2, g3, -, -⟩ := HSn.out.rG HP.out.2.1
            obtain ⟨cb, -⟩ := HSn.out.rB HP.out.1
            obtain ⟨m1, mx, mC, mO, mF⟩ := HSn.out.rM (s := s) HP.out.1 (by have := HP.out.2.2; omega)
            obtain ⟨P, hPe⟩ : ∃ P, S2.P q = P := ⟨_, rfl⟩
            obtain ⟨L, hLe⟩ : ∃ L, S2.L q = L := ⟨_, rfl⟩
            obtain ⟨bb, hbe⟩ : ∃ x, S2.bal p = x := ⟨_, rfl⟩
            rw [hPe] at g1
            rw [hLe] at g2 g3
            rw [hbe] at cb
            have HEq : Hid (S2.P q = P ∧ S2.L q = L ∧ S2.bal p = bb ∧ m1.x.d = (S2.mine p s).d) := ⟨hPe, hLe, hbe, by rw [mx]⟩
            have HMV := Hid.mk9 ((HI9.out.mine p HP.out.1 s HP.out.2.2).2 HM9.out)
            have b1' : 1 ≤ bb := by
              obtain ⟨j, hj⟩ := HI9.out.bal p HP.out.1
              omega
            have b9' : bb ≤ 453 := by have := HB2.out.1 p HP.out.1; omega
            have HDk : Hid (okD m1.x.d = true) := by
              unfold Hid
              rw [HEq.out.2.2.2]
              exact (HI9.out.val _ _ _ HMV.out.2).2.1
            have HiB : Hid (inB bb 1 2147483647 = true) := by
              unfold Hid inB
              rw [decide_eq_true (by omega), decide_eq_true (by omega)]
              rfl
            obtain ⟨P1, hP1⟩ : ∃ x, accP P L bb ((s : Int) + 1) m1.x.d = x := ⟨_, rfl⟩
            obtain ⟨E1, hE1⟩ : ∃ x, accE P L bb ((s : Int) + 1) m1.x.d = x := ⟨_, rfl⟩
            obtain ⟨L1, hL1⟩ : ∃ x, accL P L bb ((s : Int) + 1) m1.x.d = x := ⟨_, rfl⟩
            have HPE : Hid (accP P L bb ((s : Int) + 1) m1.x.d = P1 ∧ accE P L bb ((s : Int) + 1) m1.x.d = E1 ∧ accL P L bb ((s : Int) + 1) m1.x.d = L1) := ⟨hP1, hE1, hL1⟩
            have HPr : Hid ((P ≤ bb ∧ E1 = 0 ∧ P1 = bb ∧ L1 = putS L (s + 1) ⟨bb, m1.x.d⟩) ∨ (bb < P ∧ E1 = 9 ∧ P1 = P ∧ L1 = L)) := by
              have h9 := acc_is (P := P) (bal := bb) (L := L) (s := s) (d := m1.x.d) (by rw [← hPe, ← hLe]; exact HI9.out.ok q HP.out.2.1) HiB.out HP.out.2.2 HDk.out
              rw [hP1, hE1, hL1, Int.not_lt] at h9
              exact h9
            have HG3 := Hid.mk9 g3
            have HMO := Hid.mk9 mO
            have s4' : (s : Int) < 4 := by omega
            clear hP1 hE1 hL1 hPe hLe hbe g3 mx mO
            go_wp2_with fail
            refine agr_35 _ _ _ _ _ _ _ _ _ _ _ _ _ _ _ _ _ _ _ _ _ _ _ _ _ _ _ _ _ _ _ _ _ _ _ _ _ _ _ _ _ _ _ _ _ _ _ _ _ _ _ _ _ _ _ _ _ _ _ _ _ _ _ _ _ _ _ _ _ _ _ _ _ _ _ _ _ _ _ _ _ _ _ _ _ _ _ _ _ _ _ _ _ _ _ _ _ _ _ _ _ _ _ _ _ _ _ _ _ _ _ _ _ _ _ _ _ _ _ _ _ _ _ _ _ _ _ _ _ _ _ _ _ _ _ _ _ _ _ _ _ _ _ _ _ _ _ _ _ _ _ _ _ _ _ _ _ _ _ _ _ _ _ _ _ _ _ _ _ _ _ _ _ _ _ _ _ _ _ _ _ _ _ _ _ _ _ _ _ _ _ _ _ _ _ _ _ _ _ _ _ _ _ _ _ _ _ _ _ _ _ _ _ _ _ _ _ _ _ _ _ _ _ _ _ _ _ _ _ _ _ _ _ _ _ _ _ _ _ _ _ _ _ _ _ _ _ _ _ _ _ _ _ _ _ _ _ _ _ _ _ _ _ _ _ _ _ _ _ _ _ _ _ _ _ _ _ _ _ _ _ _ _ _ _ _ _ _ G B M k k p q s P bb ga L.length gc m1 P1 E1 L1 _ _ q3 p3 s4' (wrap_i64 (by omega) (by omega)) g1 g2 cb mC (fun W hW => by
              have h8 := accept_any P ga L.length gc L bb ((s : Int) + 1) m1.x.d m1.a m1.l m1.c W (by obtain ⟨a9, c9, e9, h9⟩ := HG3.out.at; injection e9 with e9 e10 e11; subst e9 e11; exact h9.below hW) ((own_rowI HMO.out).below hW)
              obtain ⟨q1, q2, q3⟩ := HPE.out
              rwa [q1, q2, q3] at h8) (fun u197 u198 u199 u200 u201 u202 u203 u204 u205 u206 u207 u208 u209 u210 u211 u212 u213 u214 u215 X pa1 pc1 wD hbD hXb hL1 hXg => ?_)
            have HL1 : Hid (OwnA wD w.heap.size (.slice pa1 L1.length pc1) L1) := hL1.base HSn.out.bel.size
            replace HSn := Hid.mk9 (HSn.out.below hbD)
            have HXb := Hid.mk9 hXb
            clear hbD hXb hL1 hXg g1 g2 cb mC mF HG3 HMO HPE
            rename_i hK9
            refine hK9 _ _ ?_
            refine tail_any _ _ _ _ _ _ _ _ _ _ _ _ _ _ _ _ _ _ _ _ _ _ _ _ _ _ _ _ _ _ _ _ _ _ _ _ _ _ _ _ _ _ _ _ _ _ _ _ _ _ _ _ _ _ _ _ _ _ _ _ _ _ _ _ _ _ _ _ _ _ _ _ _ _ _ _ _ _ _ _ _ _ _ _ _ _ _ _ _ _ _ _ _ _ _ _ _ _ _ _ _ _ _ _ _ _ _ _ _ _ _ _ _ _ _ _ _ _ _ _ _ _ _ _ _ _ _ _ _ _ _ _ _ _ _ _ _ _ _ _ _ _ _ _ _ _ _ _ _ _ _ _ _ _ _ _ _ _ _ _ _ _ _ _ _ _ _ _ _ _ _ _ _ _ _ _ _ _ _ _ _ _ _ _ _ _ _ _ _ _ _ _ _ _ _ _ _ _ _ _ _ _ _ _ _ _ _ _ _ _ _ _ _ _ _ _ _ _ _ _ _ _ _ _ _ _ _ _ _ _ _ _ _ _ _ _ _ _ _ _ _ _ _ _ _ _ _ _ _ _ _ _ _ _ _ _ _ _ _ _ _ _ _ _ _ _ _ _ _ _ _ _ _ _ _ _ _ _ _ _ _ w wD k i G B T Y M V C p q s X P P1 E1 bb L L1 pa1 pc1 S2 A W2 m1.x.d HP p3 q3 s4' b1' b9' HiB e2 i2 HSn HL1 HXb HI9 HM9 HB2 HEq HPr _ (fun u216 u217 u218 u219 u220 u221 u222 u223 u224 u225 u226 u227 u228 u229 u230 u231 u232 u233 u234 u235 u236 u237 u238 u239 u240 u241 u242 u243 u244 u245 u246 u247 u248 u249 u250 u251 u252 u253 u254 u255 u256 u257 u258 u259 u260 u261 u262 u263 u264 u265 u266 u267 u268 u269 u270 u271 u272 u273 u274 u275 u276 u277 u278 u279 u280 u281 u282 u283 u284 u285 u286 u287 u288 u289 u290 u291 u292 wZ hZ => ?_)
            have HTf := Hid.mk9 hZ
            clear hZ HSn HL1 HXb HI9 HM9 HB2 HEq HDk HPr HiB HMV
            go_wp2_with fail
            exact hQ.out _ _ _ _ _ _ _ _ _ _ _ _ _ _ _ _ _ _ _ _ _ _ _ _ _ _ _ _ _ _ _ _ _ _ _ _ _ _ _ _ _ _ _ _ _ _ _ _ _ _ _ _ _ _ _ _ _ _ _ _ _ _ _ _ _ _ _ _ _ _ _ _ _ _ _ _ _ _ _ _ _ _ _ _ _ _ _ _ _ _ _ _ _ _ _ _ _ _ _ _ _ _ _ _ _ _ _ _ _ _ _ _ _ _ _ _ _ _ _ _ _ _ _ _ _ _ _ _ _ _ _ _ _ _ _ _ _ _ _ _ _ _ _ _ _ _ _ _ _ _ _ _ _ _ _ _ _ _ _ _ _ _ _ _ _ _ _ _ _ _ _ _ _ _ _ _ _ _ _ _ _ _ _ _ _ _ _ _ _ _ _ _ _ _ _ _ _ _ _ _ _ _ _ _ _ _ _ _ _ _ _ _ _ _ _ _ _ _ _ _ _ _ _ _ _ _ _ _ _ _ _ _ _ _ _ _ HTf.out
        · have dn : nm ≤ s := by omega
          have dn2 : decide (s < nm) = false := decide_eq_false (by omega)
          have dn3 : ¬ s < nm := by omega
          have HI9 : Hid (Inv k { S with mine := upd S.mine p (upd (S.mine p) s ⟨S.bal p, ⟨3, 100 * (p : Int) + bal, 0, 0, 0, 0, []⟩⟩) } A (setV W (S.bal p) s ⟨3, 100 * (p : Int) + bal, 0, 0, 0, 0, []⟩)) := by
            have h9 := HInv.out acd0 (slot_lt (by rw [List.length_map, HNM.out]; omega)).symm
            rw [if_neg (by decide)] at h9
            exact h9
          clear hsn
          have HSn : Hid (SyAt w w9 k i ⟨G, B, T, Y, M, V, C⟩ { S with mine := upd S.mine p (upd (S.mine p) s ⟨S.bal p, ⟨3, 100 * (p : Int) + bal, 0, 0, 0, 0, []⟩⟩) }) := by rw [HBE.out]; exact HS9.out
          obtain ⟨D, hD⟩ : ∃ D : Dl, D = ⟨3, 100 * (p : Int) + bal, 0, 0, 0, 0, []⟩ := ⟨_, rfl⟩
          have HD : Hid (okD D = true) := by rw [hD]; exact own_ok HP.out.1 hb1 hb9
          rw [← hD] at HI9 HSn
          clear hD HS9 HInv HOW HBS HNM HMJ HZ HNC HNH HI HCX
          go_upto_region 35 with fail
          obtain ⟨S2, hS2⟩ : ∃ S2 : Sy, S2 = { S with mine := upd S.mine p (upd (S.mine p) s ⟨S.bal p, D⟩) } := ⟨_, rfl⟩
          have HM9 : Hid ((S2.mine p s).b ≠ 0) := by
            unfold Hid
            rw [hS2]
            show (upd S.mine p (upd (S.mine p) s ⟨S.bal p, D⟩) p s).b ≠ 0
            rw [upd_same, upd_same, HBE.out]
            show bal ≠ 0
            omega
          have HB2 : Hid (Bd S2 i) := by rw [hS2]; exact HB.out
          rw [← hS2] at HI9 HSn
          clear hS2 HB HBE HD hb1 hb9
          generalize setV W (S.bal p) s D = W2 at *
          obtain ⟨ga, gc, g1, g2, g3, -, -⟩ := HSn.out.rG HP.out.2.1
          obtain ⟨cb, -⟩ := HSn.out.rB HP.out.1
          obtain ⟨m1, mx, mC, mO, mF⟩ := HSn.out.rM (s := s) HP.out.1 (by have := HP.out.2.2; omega)
          obtain ⟨P, hPe⟩ : ∃ P, S2.P q = P := ⟨_, rfl⟩
          obtain ⟨L, hLe⟩ : ∃ L, S2.L q = L := ⟨_, rfl⟩
          obtain ⟨bb, hbe⟩ : ∃ x, S2.bal p = x := ⟨_, rfl⟩
          rw [hPe] at g1
          rw [hLe] at g2 g3
          rw [hbe] at cb
          have HEq : Hid (S2.P q = P ∧ S2.L q = L ∧ S2.bal p = bb ∧ m1.x.d = (S2.mine p s).d) := ⟨hPe, hLe, hbe, by rw [mx]⟩
          have HMV := Hid.mk9 ((HI9.out.mine p HP.out.1 s HP.out.2.2).2 HM9.out)
          have b1' : 1 ≤ bb := by
            obtain ⟨j, hj⟩ := HI9.out.bal p HP.out.1
            omega
          have b9' : bb ≤ 453 := by have := HB2.out.1 p HP.out.1; omega
          have HDk : Hid (okD m1.x.d = true) := by
            unfold Hid
            rw [HEq.out.2.2.2]
            exact (HI9.out.val _ _ _ HMV.out.2).2.1
          have HiB : Hid (inB bb 1 2147483647 = true) := by
            unfold Hid inB
            rw [decide_eq_true (by omega), decide_eq_true (by omega)]
            rfl
          obtain ⟨P1, hP1⟩ : ∃ x, accP P L bb ((s : Int) + 1) m1.x.d = x := ⟨_, rfl⟩
          obtain ⟨E1, hE1⟩ : ∃ x, accE P L bb ((s : Int) + 1) m1.x.d = x := ⟨_, rfl⟩
          obtain ⟨L1, hL1⟩ : ∃ x, accL P L bb ((s : Int) + 1) m1.x.d = x := ⟨_, rfl⟩
          have HPE : Hid (accP P L bb ((s : Int) + 1) m1.x.d = P1 ∧ accE P L bb ((s : Int) + 1) m1.x.d = E1 ∧ accL P L bb ((s : Int) + 1) m1.x.d = L1) := ⟨hP1, hE1, hL1⟩
          have HPr : Hid ((P ≤ bb ∧ E1 = 0 ∧ P1 = bb ∧ L1 = putS L (s + 1) ⟨bb, m1.x.d⟩) ∨ (bb < P ∧ E1 = 9 ∧ P1 = P ∧ L1 = L)) := by
            have h9 := acc_is (P := P) (bal := bb) (L := L) (s := s) (d := m1.x.d) (by rw [← hPe, ← hLe]; exact HI9.out.ok q HP.out.2.1) HiB.out HP.out.2.2 HDk.out
            rw [hP1, hE1, hL1, Int.not_lt] at h9
            exact h9
          have HG3 := Hid.mk9 g3
          have HMO := Hid.mk9 mO
          have s4' : (s : Int) < 4 := by omega
          clear hP1 hE1 hL1 hPe hLe hbe g3 mx mO
          go_wp2_with fail
          refine agr_35 _ _ _ _ _ _ _ _ _ _ _ _ _ _ _ _ _ _ _ _ _ _ _ _ _ _ _ _ _ _ _ _ _ _ _ _ _ _ _ _ _ _ _ _ _ _ _ _ _ _ _ _ _ _ _ _ _ _ _ _ _ _ _ _ _ _ _ _ _ _ _ _ _ _ _ _ _ _ _ _ _ _ _ _ _ _ _ _ _ _ _ _ _ _ _ _ _ _ _ _ _ _ _ _ _ _ _ _ _ _ _ _ _ _ _ _ _ _ _ _ _ _ _ _ _ _ _ _ _ _ _ _ _ _ _ _ _ _ _ _ _ _ _ _ _ _ _ _ _ _ _ _ _ _ _ _ _ _ _ _ _ _ _ _ _ _ _ _ _ _ _ _ _ _ _ _ _ _ _ _ _ _ _ _ _ _ _ _ _ _ _ _ _ _ _ _ _ _ _ _ _ _ _ _ _ _ _ _ _ _ _ _ _ _ _ _ _ _ _ _ _ _ _ _ _ _ _ _ _ _ _ _ _ _ _ _ _ _ _ _ _ _ _ _ _ _ _ _ _ _ _ _ _ _ _ _ _ _ _ _ _ _ _ _ _ _ _ _ _ _ _ _ _ _ _ _ _ _ _ _ _ _ _ _ _ _ _ _ G B M k k p q s P bb ga L.length gc m1 P1 E1 L1 _ _ q3 p3 s4' (wrap_i64 (by omega) (by omega)) g1 g2 cb mC (fun W hW => by
            have h8 := accept_any P ga L.length gc L bb ((s : Int) + 1) m1.x.d m1.a m1.l m1.c W (by obtain ⟨a9, c9, e9, h9⟩ := HG3.out.at; injection e9 with e9 e10 e11; subst e9 e11; exact h9.below hW) ((own_rowI HMO.out).below hW)
            obtain ⟨q1, q2, q3⟩ := HPE.out
            rwa [q1, q2, q3] at h8) (fun u197 u198 u199 u200 u201 u202 u203 u204 u205 u206 u207 u208 u209 u210 u211 u212 u213 u214 u215 X pa1 pc1 wD hbD hXb hL1 hXg => ?_)
          have HL1 : Hid (OwnA wD w.heap.size (.slice pa1 L1.length pc1) L1) := hL1.base HSn.out.bel.size
          replace HSn := Hid.mk9 (HSn.out.below hbD)
          have HXb := Hid.mk9 hXb
          clear hbD hXb hL1 hXg g1 g2 cb mC mF HG3 HMO HPE
          rename_i hK9
          refine hK9 _ _ ?_
          refine tail_any _ _ _ _ _ _ _ _ _ _ _ _ _ _ _ _ _ _ _ _ _ _ _ _ _ _ _ _ _ _ _ _ _ _ _ _ _ _ _ _ _ _ _ _ _ _ _ _ _ _ _ _ _ _ _ _ _ _ _ _ _ _ _ _ _ _ _ _ _ _ _ _ _ _ _ _ _ _ _ _ _ _ _ _ _ _ _ _ _ _ _ _ _ _ _ _ _ _ _ _ _ _ _ _ _ _ _ _ _ _ _ _ _ _ _ _ _ _ _ _ _ _ _ _ _ _ _ _ _ _ _ _ _ _ _ _ _ _ _ _ _ _ _ _ _ _ _ _ _ _ _ _ _ _ _ _ _ _ _ _ _ _ _ _ _ _ _ _ _ _ _ _ _ _ _ _ _ _ _ _ _ _ _ _ _ _ _ _ _ _ _ _ _ _ _ _ _ _ _ _ _ _ _ _ _ _ _ _ _ _ _ _ _ _ _ _ _ _ _ _ _ _ _ _ _ _ _ _ _ _ _ _ _ _ _ _ _ _ _ _ _ _ _ _ _ _ _ _ _ _ _ _ _ _ _ _ _ _ _ _ _ _ _ _ _ _ _ _ _ _ _ _ _ _ _ _ _ _ _ _ _ w wD k i G B T Y M V C p q s X P P1 E1 bb L L1 pa1 pc1 S2 A W2 m1.x.d HP p3 q3 s4' b1' b9' HiB e2 i2 HSn HL1 HXb HI9 HM9 HB2 HEq HPr _ (fun u216 u217 u218 u219 u220 u221 u222 u223 u224 u225 u226 u227 u228 u229 u230 u231 u232 u233 u234 u235 u236 u237 u238 u239 u240 u241 u242 u243 u244 u245 u246 u247 u248 u249 u250 u251 u252 u253 u254 u255 u256 u257 u258 u259 u260 u261 u262 u263 u264 u265 u266 u267 u268 u269 u270 u271 u272 u273 u274 u275 u276 u277 u278 u279 u280 u281 u282 u283 u284 u285 u286 u287 u288 u289 u290 u291 u292 wZ hZ => ?_)
          have HTf := Hid.mk9 hZ
          clear hZ HSn HL1 HXb HI9 HM9 HB2 HEq HDk HPr HiB HMV
          go_wp2_with fail
          exact hQ.out _ _ _ _ _ _ _ _ _ _ _ _ _ _ _ _ _ _ _ _ _ _ _ _ _ _ _ _ _ _ _ _ _ _ _ _ _ _ _ _ _ _ _ _ _ _ _ _ _ _ _ _ _ _ _ _ _ _ _ _ _ _ _ _ _ _ _ _ _ _ _ _ _ _ _ _ _ _ _ _ _ _ _ _ _ _ _ _ _ _ _ _ _ _ _ _ _ _ _ _ _ _ _ _ _ _ _ _ _ _ _ _ _ _ _ _ _ _ _ _ _ _ _ _ _ _ _ _ _ _ _ _ _ _ _ _ _ _ _ _ _ _ _ _ _ _ _ _ _ _ _ _ _ _ _ _ _ _ _ _ _ _ _ _ _ _ _ _ _ _ _ _ _ _ _ _ _ _ _ _ _ _ _ _ _ _ _ _ _ _ _ _ _ _ _ _ _ _ _ _ _ _ _ _ _ _ _ _ _ _ _ _ _ _ _ _ _ _ _ _ _ _ _ _ _ _ _ _ _ _ _ _ _ _ _ _ HTf.out
      · have z0 : (c0.x.b == 0) = false := by rw [beq_eq_false_iff_ne]; exact hz
        have HM9 : Hid ((S.mine p s).b ≠ 0) := by have := HCX.out; rw [← this]; exact hz
        have HSn := HS
        have HI9 := HI
        have HB2 := HB
        clear HS HI HB hz
        go_upto_region 35 with fail
        clear z0 cb cC cC0 cF HOH HNC HNH HMJ HCX HBE hb1 hb9 hBM
        obtain ⟨S2, hS2⟩ : ∃ S2 : Sy, S2 = S := ⟨_, rfl⟩
        obtain ⟨W2, hW2⟩ : ∃ W2, W2 = W := ⟨_, rfl⟩
        rw [← hS2] at HM9 HSn HI9 HB2
        rw [← hW2] at HI9
        clear hS2 hW2
        obtain ⟨ga, gc, g1, g2, g3, -, -⟩ := HSn.out.rG HP.out.2.1
        obtain ⟨cb, -⟩ := HSn.out.rB HP.out.1
        obtain ⟨m1, mx, mC, mO, mF⟩ := HSn.out.rM (s := s) HP.out.1 (by have := HP.out.2.2; omega)
        obtain ⟨P, hPe⟩ : ∃ P, S2.P q = P := ⟨_, rfl⟩
        obtain ⟨L, hLe⟩ : ∃ L, S2.L q = L := ⟨_, rfl⟩
        obtain ⟨bb, hbe⟩ : ∃ x, S2.bal p = x := ⟨_, rfl⟩
        rw [hPe] at g1
        rw [hLe] at g2 g3
        rw [hbe] at cb
        have HEq : Hid (S2.P q = P ∧ S2.L q = L ∧ S2.bal p = bb ∧ m1.x.d = (S2.mine p s).d) := ⟨hPe, hLe, hbe, by rw [mx]⟩
        have HMV := Hid.mk9 ((HI9.out.mine p HP.out.1 s HP.out.2.2).2 HM9.out)
        have b1' : 1 ≤ bb := by
          obtain ⟨j, hj⟩ := HI9.out.bal p HP.out.1
          omega
        have b9' : bb ≤ 453 := by have := HB2.out.1 p HP.out.1; omega
        have HDk : Hid (okD m1.x.d = true) := by
          unfold Hid
          rw [HEq.out.2.2.2]
          exact (HI9.out.val _ _ _ HMV.out.2).2.1
        have HiB : Hid (inB bb 1 2147483647 = true) := by
          unfold Hid inB
          rw [decide_eq_true (by omega), decide_eq_true (by omega)]
          rfl
        obtain ⟨P1, hP1⟩ : ∃ x, accP P L bb ((s : Int) + 1) m1.x.d = x := ⟨_, rfl⟩
        obtain ⟨E1, hE1⟩ : ∃ x, accE P L bb ((s : Int) + 1) m1.x.d = x := ⟨_, rfl⟩
        obtain ⟨L1, hL1⟩ : ∃ x, accL P L bb ((s : Int) + 1) m1.x.d = x := ⟨_, rfl⟩
        have HPE : Hid (accP P L bb ((s : Int) + 1) m1.x.d = P1 ∧ accE P L bb ((s : Int) + 1) m1.x.d = E1 ∧ accL P L bb ((s : Int) + 1) m1.x.d = L1) := ⟨hP1, hE1, hL1⟩
        have HPr : Hid ((P ≤ bb ∧ E1 = 0 ∧ P1 = bb ∧ L1 = putS L (s + 1) ⟨bb, m1.x.d⟩) ∨ (bb < P ∧ E1 = 9 ∧ P1 = P ∧ L1 = L)) := by
          have h9 := acc_is (P := P) (bal := bb) (L := L) (s := s) (d := m1.x.d) (by rw [← hPe, ← hLe]; exact HI9.out.ok q HP.out.2.1) HiB.out HP.out.2.2 HDk.out
          rw [hP1, hE1, hL1, Int.not_lt] at h9
          exact h9
        have HG3 := Hid.mk9 g3
        have HMO := Hid.mk9 mO
        have s4' : (s : Int) < 4 := by omega
        clear hP1 hE1 hL1 hPe hLe hbe g3 mx mO
        go_wp2_with fail
        refine agr_35 _ _ _ _ _ _ _ _ _ _ _ _ _ _ _ _ _ _ _ _ _ _ _ _ _ _ _ _ _ _ _ _ _ _ _ _ _ _ _ _ _ _ _ _ _ _ _ _ _ _ _ _ _ _ _ _ _ _ _ _ _ _ _ _ _ _ _ _ _ _ _ _ _ _ _ _ _ _ _ _ _ _ _ _ _ _ _ _ _ _ _ _ _ _ _ _ _ _ _ _ _ _ _ _ _ _ _ _ _ _ _ _ _ _ _ _ _ _ _ _ _ _ _ _ _ _ _ _ _ _ _ _ _ _ _ _ _ _ _ _ _ _ _ _ _ _ _ _ _ _ _ _ _ _ _ _ _ _ _ _ _ _ _ _ _ _ _ _ _ _ _ _ _ _ _ _ _ _ _ _ _ _ _ _ _ _ _ _ _ _ _ _ _ _ _ _ _ _ _ _ _ _ _ _ _ _ _ _ _ _ _ _ _ _ _ _ _ _ _ _ _ _ _ _ _ _ _ _ _ _ _ _ _ _ _ _ _ _ _ _ _ _ _ _ _ _ _ _ _ _ _ _ _ _ _ _ _ _ _ _ _ _ _ _ _ _ _ _ _ _ _ _ _ _ _ _ _ _ _ _ _ _ _ _ _ _ _ _ G B M k k p q s P bb ga L.length gc m1 P1 E1 L1 _ _ q3 p3 s4' (wrap_i64 (by omega) (by omega)) g1 g2 cb mC (fun W hW => by
          have h8 := accept_any P ga L.length gc L bb ((s : Int) + 1) m1.x.d m1.a m1.l m1.c W (by obtain ⟨a9, c9, e9, h9⟩ := HG3.out.at; injection e9 with e9 e10 e11; subst e9 e11; exact h9.below hW) ((own_rowI HMO.out).below hW)
          obtain ⟨q1, q2, q3⟩ := HPE.out
          rwa [q1, q2, q3] at h8) (fun u197 u198 u199 u200 u201 u202 u203 u204 u205 u206 u207 u208 u209 u210 u211 u212 u213 u214 u215 X pa1 pc1 wD hbD hXb hL1 hXg => ?_)
        have HL1 : Hid (OwnA wD w.heap.size (.slice pa1 L1.length pc1) L1) := hL1.base HSn.out.bel.size
        replace HSn := Hid.mk9 (HSn.out.below hbD)
        have HXb := Hid.mk9 hXb
        clear hbD hXb hL1 hXg g1 g2 cb mC mF HG3 HMO HPE
        rename_i hK9
        refine hK9 _ _ ?_
        refine tail_any _ _ _ _ _ _ _ _ _ _ _ _ _ _ _ _ _ _ _ _ _ _ _ _ _ _ _ _ _ _ _ _ _ _ _ _ _ _ _ _ _ _ _ _ _ _ _ _ _ _ _ _ _ _ _ _ _ _ _ _ _ _ _ _ _ _ _ _ _ _ _ _ _ _ _ _ _ _ _ _ _ _ _ _ _ _ _ _ _ _ _ _ _ _ _ _ _ _ _ _ _ _ _ _ _ _ _ _ _ _ _ _ _ _ _ _ _ _ _ _ _ _ _ _ _ _ _ _ _ _ _ _ _ _ _ _ _ _ _ _ _ _ _ _ _ _ _ _ _ _ _ _ _ _ _ _ _ _ _ _ _ _ _ _ _ _ _ _ _ _ _ _ _ _ _ _ _ _ _ _ _ _ _ _ _ _ _ _ _ _ _ _ _ _ _ _ _ _ _ _ _ _ _ _ _ _ _ _ _ _ _ _ _ _ _ _ _ _ _ _ _ _ _ _ _ _ _ _ _ _ _ _ _ _ _ _ _ _ _ _ _ _ _ _ _ _ _ _ _ _ _ _ _ _ _ _ _ _ _ _ _ _ _ _ _ _ _ _ _ _ _ _ _ _ _ _ _ _ _ _ _ w wD k i G B T Y M V C p q s X P P1 E1 bb L L1 pa1 pc1 S2 A W2 m1.x.d HP p3 q3 s4' b1' b9' HiB e2 i2 HSn HL1 HXb HI9 HM9 HB2 HEq HPr _ (fun u216 u217 u218 u219 u220 u221 u222 u223 u224 u225 u226 u227 u228 u229 u230 u231 u232 u233 u234 u235 u236 u237 u238 u239 u240 u241 u242 u243 u244 u245 u246 u247 u248 u249 u250 u251 u252 u253 u254 u255 u256 u257 u258 u259 u260 u261 u262 u263 u264 u265 u266 u267 u268 u269 u270 u271 u272 u273 u274 u275 u276 u277 u278 u279 u280 u281 u282 u283 u284 u285 u286 u287 u288 u289 u290 u291 u292 wZ hZ => ?_)
        have HTf := Hid.mk9 hZ
        clear hZ HSn HL1 HXb HI9 HM9 HB2 HEq HDk HPr HiB HMV
        go_wp2_with fail
        exact hQ.out _ _ _ _ _ _ _ _ _ _ _ _ _ _ _ _ _ _ _ _ _ _ _ _ _ _ _ _ _ _ _ _ _ _ _ _ _ _ _ _ _ _ _ _ _ _ _ _ _ _ _ _ _ _ _ _ _ _ _ _ _ _ _ _ _ _ _ _ _ _ _ _ _ _ _ _ _ _ _ _ _ _ _ _ _ _ _ _ _ _ _ _ _ _ _ _ _ _ _ _ _ _ _ _ _ _ _ _ _ _ _ _ _ _ _ _ _ _ _ _ _ _ _ _ _ _ _ _ _ _ _ _ _ _ _ _ _ _ _ _ _ _ _ _ _ _ _ _ _ _ _ _ _ _ _ _ _ _ _ _ _ _ _ _ _ _ _ _ _ _ _ _ _ _ _ _ _ _ _ _ _ _ _ _ _ _ _ _ _ _ _ _ _ _ _ _ _ _ _ _ _ _ _ _ _ _ _ _ _ _ _ _ _ _ _ _ _ _ _ _ _ _ _ _ _ _ _ _ _ _ _ _ _ _ _ _ HTf.out
end Go.Proofs.Ytejhmacbbdnlbaa.Ac
