/-
  The law of agreement: its region 35.
-/
import Derived.Test.YtejhmacbbdnlbaaAcX0
namespace Go.Proofs.Ytejhmacbbdnlbaa.Ac
open Go.ChangeShapes Go.WideShapes Go.ChangeAt Go.RowKit
set_option maxHeartbeats 4000000 in
set_option maxRecDepth 60000 in
theorem agr_35 (t0 t1 t2 t3 t4 t5 t8 t9 t11 t12 t13 t17 t18 t19 t20 t21 t22 t23 t24 t25 t26 t27 t28 t29 t30 t31 t32 t33 t34 t35 t36 t37 t38 t39 t40 t41 t42 t43 t44 t45 t46 t47 t48 t49 t50 t51 t52 t53 t54 t55 t56 t57 t58 t59 t60 t61 t62 t63 t64 t65 t66 t67 t68 t69 t70 t71 t72 t73 t74 t75 t76 t77 t78 t79 t80 t81 t82 t83 t84 t85 t86 t87 t88 t89 t90 t91 t92 t93 t94 t95 t96 t97 t98 t99 t100 t101 t102 t103 t104 t105 t106 t107 t108 t109 t110 t111 t112 t113 t114 t115 t116 t117 t118 t119 t120 t121 t122 t123 t124 t125 t126 t127 t128 t129 t130 t131 t132 t133 t134 t135 t136 t137 t138 t139 t140 t141 t142 t143 t144 t145 t146 t147 t148 t149 t150 t151 t152 t153 t154 t155 t156 t157 t158 t159 t160 t161 t162 t163 t164 t165 t166 t167 t168 t169 t170 t171 t172 t173 t174 t175 t176 t177 t178 t179 t180 t181 t182 t183 t184 t185 t186 t187 t188 t189 t190 t191 t192 t193 t194 t195 t196 t197 t198 t199 t200 t201 t202 t203 t204 t205 t206 t207 t208 t209 t210 t211 t212 t213 t214 t215 t216 t217 t218 t219 t220 t221 t222 t223 t224 t225 t226 t227 t228 t229 t230 t231 t232 t233 t234 t235 t236 t237 t238 t239 t240 t241 t242 t243 t244 t245 t246 t247 t248 t249 t250 t251 t252 t253 t254 t255 t256 t257 t258 t259 t260 t261 t262 t263 t264 t265 t266 t267 t268 t269 t270 t271 t272 t273 t274 t275 t276 t277 t278 t279 t280 t281 t282 t283 t284 t285 t286 t287 t288 t289 t290 t291 t292 t293 : Value) (G B M k kc p q s : Nat) (P bal : Int) (a : Option Addr) (l c : Nat) (m : Cel) (P1 E1 : Int) (L1 : List Acd) (w1 : World) (Q : Exit → Act → World → Prop)
    (hq : (q : Int) < (k : Int)) (hp : (p : Int) < 3) (hs : (s : Int) < 4) (hws : IntKind.i64.wrap ((s : Int) + 1) = (s : Int) + 1) (H1 : Hid (w1.cell? ⟨G, q * 2, none⟩ = some (.int .i64 P))) (H2 : Hid (w1.cell? ⟨G, q * 2 + 1, none⟩ = some (.slice a l c))) (H3 : Hid (w1.cell? ⟨B, p, none⟩ = some (.int .i64 bal))) (HX : Hid (CelAt w1 M (p * 32 + s * 8) m))
    (HC : Hid (∀ W, Below w1.heap.size w1 W → Calls Try.prog 8 #[.agg #[.int .i64 P, .slice a l c], .int .i64 bal, .int .i64 ((s : Int) + 1), .agg #[.int .i64 m.x.d.k, .int .i64 m.x.d.id, .int .i64 m.x.d.zn, .int .i64 m.x.d.rk, .int .i64 m.x.d.wt, .int .i64 m.x.d.g, .slice m.a m.l m.c]] W fun e w' => AccPost P1 L1 E1 W e w'))
    (hQ : Hid (∀ (u197 u198 u199 u200 u201 u202 u203 u204 u205 u206 u207 u208 u209 u210 u211 u212 u213 u214 u215 : Value) (X : Nat) (a1 : Option Addr) (c1 : Nat) (wC : World), Below w1.heap.size w1 wC → B2 wC X 24 (.int .i64 P1) (.slice a1 L1.length c1) → OwnA wC w1.heap.size (.slice a1 L1.length c1) L1 → w1.heap.size ≤ X → Q .normal ⟨#[t0, t1, t2, t3, t4, t5, .slice (some ⟨G, 0, none⟩) k kc, .pointer (some ⟨B, 0, none⟩), t8, t9, .pointer (some ⟨M, 0, none⟩), t11, t12, t13, .int .i64 (p : Int), .int .i64 (q : Int), .int .i64 (s : Int), t17, t18, t19, t20, t21, t22, .pointer (some ⟨X, 0, none⟩), .int .i64 E1, t25, t26, t27, t28, t29, t30, t31, t32, t33, t34, t35, t36, t37, t38, t39, t40, t41, t42, t43, t44, t45, t46, t47, t48, t49, t50, t51, t52, t53, t54, t55, t56, t57, t58, t59, t60, t61, t62, t63, t64, t65, t66, t67, t68, t69, t70, t71, t72, t73, t74, t75, t76, t77, t78, t79, t80, t81, t82, t83, t84, t85, t86, t87, t88, t89, t90, t91, t92, t93, t94, t95, t96, t97, t98, t99, t100, t101, t102, t103, t104, t105, t106, t107, t108, t109, t110, t111, t112, t113, t114, t115, t116, t117, t118, t119, t120, t121, t122, t123, t124, t125, t126, t127, t128, t129, t130, t131, t132, t133, t134, t135, t136, t137, t138, t139, t140, t141, t142, t143, t144, t145, t146, t147, t148, t149, t150, t151, t152, t153, t154, t155, t156, t157, t158, t159, t160, t161, t162, t163, t164, t165, t166, t167, t168, t169, t170, t171, t172, t173, t174, t175, t176, t177, t178, t179, t180, t181, t182, t183, t184, t185, t186, t187, t188, t189, t190, t191, t192, t193, t194, t195, t196, u197, u198, u199, u200, u201, u202, u203, u204, u205, u206, u207, u208, u209, u210, u211, u212, u213, u214, u215, t216, t217, t218, t219, t220, t221, t222, t223, t224, t225, t226, t227, t228, t229, t230, t231, t232, t233, t234, t235, t236, t237, t238, t239, t240, t241, t242, t243, t244, t245, t246, t247, t248, t249, t250, t251, t252, t253, t254, t255, t256, t257, t258, t259, t260, t261, t262, t263, t264, t265, t266, t267, t268, t269, t270, t271, t272, t273, t274, t275, t276, t277, t278, t279, t280, t281, t282, t283, t284, t285, t286, t287, t288, t289, t290, t291, t292, t293], []⟩ wC)) :
    Code.wp Try.prog ((Try.f4.body.bind (regionOf 35)).getD .skip) Q ⟨#[t0, t1, t2, t3, t4, t5, .slice (some ⟨G, 0, none⟩) k kc, .pointer (some ⟨B, 0, none⟩), t8, t9, .pointer (some ⟨M, 0, none⟩), t11, t12, t13, .int .i64 (p : Int), .int .i64 (q : Int), .int .i64 (s : Int), t17, t18, t19, t20, t21, t22, t23, t24, t25, t26, t27, t28, t29, t30, t31, t32, t33, t34, t35, t36, t37, t38, t39, t40, t41, t42, t43, t44, t45, t46, t47, t48, t49, t50, t51, t52, t53, t54, t55, t56, t57, t58, t59, t60, t61, t62, t63, t64, t65, t66, t67, t68, t69, t70, t71, t72, t73, t74, t75, t76, t77, t78, t79, t80, t81, t82, t83, t84, t85, t86, t87, t88, t89, t90, t91, t92, t93, t94, t95, t96, t97, t98, t99, t100, t101, t102, t103, t104, t105, t106, t107, t108, t109, t110, t111, t112, t113, t114, t115, t116, t117, t118, t119, t120, t121, t122, t123, t124, t125, t126, t127, t128, t129, t130, t131, t132, t133, t134, t135, t136, t137, t138, t139, t140, t141, t142, t143, t144, t145, t146, t147, t148, t149, t150, t151, t152, t153, t154, t155, t156, t157, t158, t159, t160, t161, t162, t163, t164, t165, t166, t167, t168, t169, t170, t171, t172, t173, t174, t175, t176, t177, t178, t179, t180, t181, t182, t183, t184, t185, t186, t187, t188, t189, t190, t191, t192, t193, t194, t195, t196, t197, t198, t199, t200, t201, t202, t203, t204, t205, t206, t207, t208, t209, t210, t211, t212, t213, t214, t215, t216, t217, t218, t219, t220, t221, t222, t223, t224, t225, t226, t227, t228, t229, t230, t231, t232, t233, t234, t235, t236, t237, t238, t239, t240, t241, t242, t243, t244, t245, t246, t247, t248, t249, t250, t251, t252, t253, t254, t255, t256, t257, t258, t259, t260, t261, t262, t263, t264, t265, t266, t267, t268, t269, t270, t271, t272, t273, t274, t275, t276, t277, t278, t279, t280, t281, t282, t283, t284, t285, t286, t287, t288, t289, t290, t291, t292, t293], []⟩ w1 := by
  have hS : (fun w' => Below w1.heap.size w1 w') w1.drew := below_drew w1
  conv => arg 2; whnf
  refine held_start (S := fun w' => Below w1.heap.size w1 w') mixed5 ?_
  refine held_take (i := 0) (v := .slice (some ⟨G, 0, none⟩) k kc) rfl (by kernel_rfl) (fun _ _ _ h => h) (.inl ⟨rfl, fun w hS => ?_⟩) hS ?_
  · clear hS
    go_simp
  try simp only [Act.put, List.setIfInBounds_toArray, List.set_cons_zero, List.set_cons_succ]
  refine held_take (i := 1) (v := .int .i64 (q : Int)) rfl (by kernel_rfl) (fun _ _ _ h => h) (.inl ⟨rfl, fun w hS => ?_⟩) hS ?_
  · clear hS
    go_simp
  try simp only [Act.put, List.setIfInBounds_toArray, List.set_cons_zero, List.set_cons_succ]
  refine held_take (i := 2) (v := .pointer (some ⟨G, q * 2, none⟩)) rfl (by kernel_rfl) (fun _ _ _ h => h) (.inl ⟨rfl, fun w hS => ?_⟩) hS ?_
  · clear hS
    go_simp
  try simp only [Act.put, List.setIfInBounds_toArray, List.set_cons_zero, List.set_cons_succ]
  refine held_take (i := 3) (v := .agg #[.int .i64 P, .slice a l c]) rfl (by kernel_rfl) (fun _ _ _ h => h) (.inl ⟨rfl, fun w hS => ?_⟩) hS ?_
  · have q8 := (hS.cell (p := ⟨G, q * 2, none⟩) (World.block_lt_of_cell? w1 ⟨G, q * 2, none⟩ H1.out)).trans H1.out
    have q9 := (hS.cell (p := ⟨G, q * 2 + 1, none⟩) (World.block_lt_of_cell? w1 ⟨G, q * 2 + 1, none⟩ H2.out)).trans H2.out
    go_simp
  try simp only [Act.put, List.setIfInBounds_toArray, List.set_cons_zero, List.set_cons_succ]
  refine held_take (i := 4) (v := .int .i64 (p : Int)) rfl (by kernel_rfl) (fun _ _ _ h => h) (.inl ⟨rfl, fun w hS => ?_⟩) hS ?_
  · clear hS
    go_simp
  try simp only [Act.put, List.setIfInBounds_toArray, List.set_cons_zero, List.set_cons_succ]
  refine held_take (i := 5) (v := .pointer (some ⟨B, p, none⟩)) rfl (by kernel_rfl) (fun _ _ _ h => h) (.inl ⟨rfl, fun w hS => ?_⟩) hS ?_
  · clear hS
    go_simp
  try simp only [Act.put, List.setIfInBounds_toArray, List.set_cons_zero, List.set_cons_succ]
  refine held_take (i := 6) (v := .int .i64 bal) rfl (by kernel_rfl) (fun _ _ _ h => h) (.inl ⟨rfl, fun w hS => ?_⟩) hS ?_
  · have q := (hS.cell (p := ⟨B, p, none⟩) (World.block_lt_of_cell? w1 ⟨B, p, none⟩ H3.out)).trans H3.out
    go_simp
  try simp only [Act.put, List.setIfInBounds_toArray, List.set_cons_zero, List.set_cons_succ]
  refine held_take (i := 7) (v := .int .i64 (s : Int)) rfl (by kernel_rfl) (fun _ _ _ h => h) (.inl ⟨rfl, fun w hS => ?_⟩) hS ?_
  · clear hS
    go_simp
  try simp only [Act.put, List.setIfInBounds_toArray, List.set_cons_zero, List.set_cons_succ]
  refine held_take (i := 8) (v := .int .i64 ((s : Int) + 1)) rfl (by kernel_rfl) (fun _ _ _ h => h) (.inl ⟨rfl, fun w hS => ?_⟩) hS ?_
  · clear hS
    go_simp
  try simp only [Act.put, List.setIfInBounds_toArray, List.set_cons_zero, List.set_cons_succ]
  refine held_take (i := 9) (v := .int .i64 (p : Int)) rfl (by kernel_rfl) (fun _ _ _ h => h) (.inl ⟨rfl, fun w hS => ?_⟩) hS ?_
  · clear hS
    go_simp
  try simp only [Act.put, List.setIfInBounds_toArray, List.set_cons_zero, List.set_cons_succ]
  refine held_take (i := 10) (v := .int .i64 (s : Int)) rfl (by kernel_rfl) (fun _ _ _ h => h) (.inl ⟨rfl, fun w hS => ?_⟩) hS ?_
  · clear hS
    go_simp
  try simp only [Act.put, List.setIfInBounds_toArray, List.set_cons_zero, List.set_cons_succ]
  refine held_take (i := 11) (v := .pointer (some ⟨M, p * 32, none⟩)) rfl (by kernel_rfl) (fun _ _ _ h => h) (.inl ⟨rfl, fun w hS => ?_⟩) hS ?_
  · clear hS
    go_simp
  try simp only [Act.put, List.setIfInBounds_toArray, List.set_cons_zero, List.set_cons_succ]
  refine held_take (i := 12) (v := .pointer (some ⟨M, p * 32 + s * 8, none⟩)) rfl (by kernel_rfl) (fun _ _ _ h => h) (.inl ⟨rfl, fun w hS => ?_⟩) hS ?_
  · clear hS
    go_simp
  try simp only [Act.put, List.setIfInBounds_toArray, List.set_cons_zero, List.set_cons_succ]
  refine held_take (i := 13) (v := .pointer (some ⟨M, p * 32 + s * 8 + 1, none⟩)) rfl (by kernel_rfl) (fun _ _ _ h => h) (.inl ⟨rfl, fun w hS => ?_⟩) hS ?_
  · clear hS
    go_simp
  try simp only [Act.put, List.setIfInBounds_toArray, List.set_cons_zero, List.set_cons_succ]
  refine held_take (i := 14) (v := .agg #[.int .i64 m.x.d.k, .int .i64 m.x.d.id, .int .i64 m.x.d.zn, .int .i64 m.x.d.rk, .int .i64 m.x.d.wt, .int .i64 m.x.d.g, .slice m.a m.l m.c]) rfl (by kernel_rfl) (fun _ _ _ h => h) (.inl ⟨rfl, fun w hS => ?_⟩) hS ?_
  · obtain ⟨q0, q1, q2, q3, q4, q5, q6, q7⟩ := HX.out.below hS
    go_simp
  try simp only [Act.put, List.setIfInBounds_toArray, List.set_cons_zero, List.set_cons_succ]
  refine held_two (i := 15) (j := 19) (by kernel_rfl) rfl rfl rfl rfl ?_ ?_
  · intro K hK
    go_simp
    go_at_call 8
    refine (HC.out _ hS).mono ?_
    rintro en w3 ⟨hb3, v3, rfl, ho3⟩
    obtain ⟨a1, c1, rfl, -⟩ := ho3.at
    have hN := below2 hS hb3
    refine hK.out _ _ hN ?_
    clear hK hS
    have hS := hN
    clear hN
    try simp only [Act.put, List.setIfInBounds_toArray, List.set_cons_zero, List.set_cons_succ]
    have hS3 := hS
    refine held_take (i := 16) (v := .tuple #[.agg #[.int .i64 P1, .slice a1 L1.length c1], .int .i64 E1]) rfl (by kernel_rfl) (fun _ _ _ h => h) (.inl ⟨rfl, fun w hS => ?_⟩) hS ?_
    · clear hS
      go_simp
    try simp only [Act.put, List.setIfInBounds_toArray, List.set_cons_zero, List.set_cons_succ]
    refine held_take (i := 17) (v := .agg #[.int .i64 P1, .slice a1 L1.length c1]) rfl (by kernel_rfl) (fun _ _ _ h => h) (.inl ⟨rfl, fun w hS => ?_⟩) hS ?_
    · clear hS
      go_simp
    try simp only [Act.put, List.setIfInBounds_toArray, List.set_cons_zero, List.set_cons_succ]
    refine held_take (i := 18) (v := .int .i64 E1) rfl (by kernel_rfl) (fun _ _ _ h => h) (.inl ⟨rfl, fun w hS => ?_⟩) hS ?_
    · clear hS
      go_simp
    try simp only [Act.put, List.setIfInBounds_toArray, List.set_cons_zero, List.set_cons_succ]
    refine held_one (i := 19) (by kernel_rfl) rfl rfl ?_
    intro K hK
    go_simp
    have hN := below2 hS (below_alloc _ (.cells #[.int .i64 0, .slice none 0 0] 24))
    refine hK.out _ _ hN ?_
    clear hK hS
    have hS := hN
    clear hN
    try simp only [Act.put, List.setIfInBounds_toArray, List.set_cons_zero, List.set_cons_succ]
    refine held_one (i := 20) (by kernel_rfl) rfl rfl ?_
    intro K hK
    go_simp
    have hba := below_alloc w3 (.cells #[.int .i64 P1, .slice a1 L1.length c1] 24)
    have hN := below2 hS3 hba
    refine hK.out _ _ hN ?_
    clear hK hS
    have hS := hN
    try simp only [Act.put, List.setIfInBounds_toArray, List.set_cons_zero, List.set_cons_succ]
    refine held_take (i := 21) (v := .int .i64 E1) rfl (by kernel_rfl) (fun _ _ _ h => h) (.inl ⟨rfl, fun w hS => ?_⟩) hS ?_
    · clear hS
      go_simp
    try simp only [Act.put, List.setIfInBounds_toArray, List.set_cons_zero, List.set_cons_succ]
    refine wpAnyH_done (by kernel_rfl) ?_ _
    refine NoPanic.normal ?_
    exact hQ.out _ _ _ _ _ _ _ _ _ _ _ _ _ _ _ _ _ _ _ w3.heap.size a1 c1 _ hS (B2.new _ _ _ _) (ho3.below hba) hS3.size
  · intro K hK
    go_simp
    have hN := below2 hS (below_alloc _ (.cells #[.int .i64 0, .slice none 0 0] 24))
    refine hK.out _ _ hN ?_
    clear hK hS
    have hS := hN
    have hBx : B2 (w1.drew.alloc (.cells #[.int .i64 0, .slice none 0 0] 24)) w1.heap.size 24 (.int .i64 0) (.slice none 0 0) := B2.new w1.drew 24 (.int .i64 0) (.slice none 0 0)
    clear hN
    try simp only [Act.put, List.setIfInBounds_toArray, List.set_cons_zero, List.set_cons_succ]
    refine held_one (i := 15) (by kernel_rfl) rfl rfl ?_
    intro K hK
    go_simp
    go_at_call 8
    refine (HC.out _ hS).mono ?_
    rintro en w3 ⟨hb3, v3, rfl, ho3⟩
    obtain ⟨a1, c1, rfl, -⟩ := ho3.at
    have hN := below2 hS hb3
    refine hK.out _ _ hN ?_
    clear hK hS
    have hS := hN
    clear hN
    try simp only [Act.put, List.setIfInBounds_toArray, List.set_cons_zero, List.set_cons_succ]
    refine held_take (i := 16) (v := .tuple #[.agg #[.int .i64 P1, .slice a1 L1.length c1], .int .i64 E1]) rfl (by kernel_rfl) (fun _ _ _ h => h) (.inl ⟨rfl, fun w hS => ?_⟩) hS ?_
    · clear hS
      go_simp
    try simp only [Act.put, List.setIfInBounds_toArray, List.set_cons_zero, List.set_cons_succ]
    refine held_take (i := 17) (v := .agg #[.int .i64 P1, .slice a1 L1.length c1]) rfl (by kernel_rfl) (fun _ _ _ h => h) (.inl ⟨rfl, fun w hS => ?_⟩) hS ?_
    · clear hS
      go_simp
    try simp only [Act.put, List.setIfInBounds_toArray, List.set_cons_zero, List.set_cons_succ]
    refine held_take (i := 18) (v := .int .i64 E1) rfl (by kernel_rfl) (fun _ _ _ h => h) (.inl ⟨rfl, fun w hS => ?_⟩) hS ?_
    · clear hS
      go_simp
    try simp only [Act.put, List.setIfInBounds_toArray, List.set_cons_zero, List.set_cons_succ]
    have hB3 := hBx.below hb3
    obtain ⟨z0, z1⟩ := hB3.cells
    obtain ⟨y0, y1⟩ := hB3.frz
    refine held_one (i := 20) (by kernel_rfl) rfl rfl ?_
    intro K hK
    go_simp
    have hN : Below w1.heap.size w1 (set2 w3 w1.heap.size (.int .i64 P1) (.slice a1 L1.length c1)) := set2_below hS (Nat.le_refl _) _ _
    have hB9 : B2 (set2 w3 w1.heap.size (.int .i64 P1) (.slice a1 L1.length c1)) w1.heap.size 24 (.int .i64 P1) (.slice a1 L1.length c1) := hB3.set _ _
    have hg9 : w3.grownBy (set2 w3 w1.heap.size (.int .i64 P1) (.slice a1 L1.length c1)) (some w1.heap.size) := set2_grownBy w3 w1.heap.size _ _
    refine hK.out _ (set2 w3 w1.heap.size (.int .i64 P1) (.slice a1 L1.length c1)) hN ?_
    clear hK hS z0 z1 y0 y1
    have hS := hN
    try simp only [Act.put, List.setIfInBounds_toArray, List.set_cons_zero, List.set_cons_succ]
    refine held_take (i := 21) (v := .int .i64 E1) rfl (by kernel_rfl) (fun _ _ _ h => h) (.inl ⟨rfl, fun w hS => ?_⟩) hS ?_
    · clear hS
      go_simp
    try simp only [Act.put, List.setIfInBounds_toArray, List.set_cons_zero, List.set_cons_succ]
    refine wpAnyH_done (by kernel_rfl) ?_ _
    refine NoPanic.normal ?_
    exact hQ.out _ _ _ _ _ _ _ _ _ _ _ _ _ _ _ _ _ _ _ w1.heap.size a1 c1 _ hS hB9 ((ho3.base (by simp)).grown hg9 hB3 (by decide) (by decide)) (Nat.le_refl _)
end Go.Proofs.Ytejhmacbbdnlbaa.Ac
