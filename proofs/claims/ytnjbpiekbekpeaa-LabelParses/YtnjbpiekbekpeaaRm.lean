/-
  The answer's Parse: the first label is put into its place (one region that draws its order).
-/
import Derived.Test.YtnjbpiekbekpeaaRk
namespace Go.Proofs.Ytnjbpiekbekpeaa
open Go.ChangeShapes Go.WideShapes Go.ChangeAt Go.RowKit
set_option maxHeartbeats 16000000 in
set_option maxRecDepth 100000 in
theorem put_none (t0 t1 t2 t3 t4 t6 t7 t10 t11 t12 t13 t14 t15 t16 t17 t18 t19 t20 t21 t22 t23 t24 t25 t26 t27 t28 t29 t30 t31 t32 t33 t34 t35 t36 t37 t38 t39 t40 t41 t42 t43 t44 t45 t46 t47 t48 t49 t50 t51 t52 t53 t54 t55 t56 t57 t58 t59 t60 t61 t62 t63 t64 t65 t66 t67 t68 t69 t70 t71 t72 t73 t74 t75 t76 t77 t78 t79 t80 t81 t82 t83 t84 t85 t86 t87 t88 t89 t90 t91 t92 t93 t94 t95 t96 t97 t98 t99 t100 t101 t102 t103 t104 t105 t106 t107 t108 t109 t110 t111 t112 t113 t114 t115 t116 t117 t118 t119 t120 t121 t122 t123 t124 t125 t126 t127 t128 t129 t130 t131 t132 t133 t134 t135 t136 t137 t138 t139 t140 t141 t142 t143 t144 t145 t146 t147 t148 t149 t150 t151 t152 t153 t154 t155 t156 t157 : Value) (X Lb : Nat) (nn vv : ByteArray) (w4 : World) (Q : Exit → Act → World → Prop)
    (x1 : w4.cell? ⟨X, 1, none⟩ = some (.slice none 0 0)) (xf : w4.frozen? ⟨X, 1, none⟩ = false) (hX : X < w4.heap.size) (l0 : w4.cell? ⟨Lb, 0, none⟩ = some (.string nn)) (l1 : w4.cell? ⟨Lb, 1, none⟩ = some (.string vv)) (hL : Lb < w4.heap.size)
    (hQ : Hid (∀ (u132 u133 u134 u135 u136 u137 u138 u139 u140 u141 u142 u143 u144 u145 u146 : Value) (wC : World) (gC capC : Nat), Below w4.heap.size w4 wC → wC.ownsRow w4.heap.size 46 2 (.slice (some ⟨gC, 0, none⟩) 1 capC) 1 (cellsLb [(nn, vv)]) →
      Q .normal ⟨#[t0, t1, t2, t3, t4, .pointer (some ⟨X, 0, none⟩), t6, t7, .pointer (some ⟨Lb, 0, none⟩), .int .i64 0, t10, t11, t12, t13, t14, t15, t16, t17, t18, t19, t20, t21, t22, t23, t24, t25, t26, t27, t28, t29, t30, t31, t32, t33, t34, t35, t36, t37, t38, t39, t40, t41, t42, t43, t44, t45, t46, t47, t48, t49, t50, t51, t52, t53, t54, t55, t56, t57, t58, t59, t60, t61, t62, t63, t64, t65, t66, t67, t68, t69, t70, t71, t72, t73, t74, t75, t76, t77, t78, t79, t80, t81, t82, t83, t84, t85, t86, t87, t88, t89, t90, t91, t92, t93, t94, t95, t96, t97, t98, t99, t100, t101, t102, t103, t104, t105, t106, t107, t108, t109, t110, t111, t112, t113, t114, t115, t116, t117, t118, t119, t120, t121, t122, t123, t124, t125, t126, t127, t128, t129, t130, t131, u132, u133, u134, u135, u136, u137, u138, u139, u140, u141, u142, u143, u144, u145, u146, t147, t148, t149, t150, t151, t152, t153, t154, t155, t156, t157], []⟩ (wC.setCell ⟨X, 1, none⟩ (.slice (some ⟨gC, 0, none⟩) 1 capC)))) :
    Code.wp Try.prog ((Try.f16.body.bind (regionOf 23)).getD .skip) Q ⟨#[t0, t1, t2, t3, t4, .pointer (some ⟨X, 0, none⟩), t6, t7, .pointer (some ⟨Lb, 0, none⟩), .int .i64 0, t10, t11, t12, t13, t14, t15, t16, t17, t18, t19, t20, t21, t22, t23, t24, t25, t26, t27, t28, t29, t30, t31, t32, t33, t34, t35, t36, t37, t38, t39, t40, t41, t42, t43, t44, t45, t46, t47, t48, t49, t50, t51, t52, t53, t54, t55, t56, t57, t58, t59, t60, t61, t62, t63, t64, t65, t66, t67, t68, t69, t70, t71, t72, t73, t74, t75, t76, t77, t78, t79, t80, t81, t82, t83, t84, t85, t86, t87, t88, t89, t90, t91, t92, t93, t94, t95, t96, t97, t98, t99, t100, t101, t102, t103, t104, t105, t106, t107, t108, t109, t110, t111, t112, t113, t114, t115, t116, t117, t118, t119, t120, t121, t122, t123, t124, t125, t126, t127, t128, t129, t130, t131, t132, t133, t134, t135, t136, t137, t138, t139, t140, t141, t142, t143, t144, t145, t146, t147, t148, t149, t150, t151, t152, t153, t154, t155, t156, t157], []⟩ w4 := by
  obtain ⟨i0, hi, hz0, hz1, hz2⟩ := info_parts info46
  have HS : Hid (∀ w', Below w4.heap.size w4 w' → (fun w' => (w'.cell? ⟨X, 1, none⟩ = some (.slice none 0 0) ∧ w'.frozen? ⟨X, 1, none⟩ = false ∧ w'.cell? ⟨Lb, 0, none⟩ = some (.string nn) ∧ w'.cell? ⟨Lb, 1, none⟩ = some (.string vv)) ∧ Below w4.heap.size w4 w') w') := fun w' h => ⟨⟨(h.cell (p := ⟨X, 1, none⟩) hX).trans x1, (h.frozen (p := ⟨X, 1, none⟩) hX).trans xf, (h.cell (p := ⟨Lb, 0, none⟩) hL).trans l0, (h.cell (p := ⟨Lb, 1, none⟩) hL).trans l1⟩, h⟩
  have hS := HS.out w4.drew (Below.refl _ _).drew
  conv => arg 2; whnf
  refine wp_region_but (S := (fun w' => (w'.cell? ⟨X, 1, none⟩ = some (.slice none 0 0) ∧ w'.frozen? ⟨X, 1, none⟩ = false ∧ w'.cell? ⟨Lb, 0, none⟩ = some (.string nn) ∧ w'.cell? ⟨Lb, 1, none⟩ = some (.string vv)) ∧ Below w4.heap.size w4 w')) (n := 15) (by kernel_rfl) ?_
  refine AnyBut.take (i := 1) (v := .pointer (some ⟨X, 1, none⟩)) rfl (by kernel_rfl) (fun _ _ _ h => h) (.inl ⟨rfl, fun w hS => ?_⟩) hS ?_
  · obtain ⟨⟨s1, s2, s3, s4⟩, -⟩ := hS
    go_simp
    
  simp only [Act.put, List.setIfInBounds_toArray]
  refine AnyBut.take (i := 2) (v := (.slice none 0 0)) rfl (by kernel_rfl) (fun _ _ _ h => h) (.inl ⟨rfl, fun w hS => ?_⟩) hS ?_
  · obtain ⟨⟨s1, s2, s3, s4⟩, -⟩ := hS
    go_simp
    
  simp only [Act.put]
  refine AnyBut.take (i := 3) (v := .int .i64 0) rfl (by kernel_rfl) (fun _ _ _ h => h) (.inl ⟨rfl, fun w hS => ?_⟩) hS ?_
  · obtain ⟨⟨s1, s2, s3, s4⟩, -⟩ := hS
    go_simp
    
  simp only [Act.put]
  refine AnyBut.take (i := 4) (v := .slice none 0 0) rfl (by kernel_rfl) (fun _ _ _ h => h) (.inl ⟨rfl, fun w hS => ?_⟩) hS ?_
  · obtain ⟨⟨s1, s2, s3, s4⟩, -⟩ := hS
    go_simp
    
  simp only [Act.put]
  refine AnyBut.take (i := 6) (v := .agg #[.string nn, .string vv]) rfl (by kernel_rfl) (fun _ _ _ h => h) (.inl ⟨rfl, fun w hS => ?_⟩) hS ?_
  · obtain ⟨⟨s1, s2, s3, s4⟩, -⟩ := hS
    go_simp
    
  simp only [Act.put]
  refine AnyBut.take (i := 9) (v := .pointer (some ⟨X, 1, none⟩)) rfl (by kernel_rfl) (fun _ _ _ h => h) (.inl ⟨rfl, fun w hS => ?_⟩) hS ?_
  · obtain ⟨⟨s1, s2, s3, s4⟩, -⟩ := hS
    go_simp
    
  simp only [Act.put]
  refine AnyBut.take (i := 10) (v := (.slice none 0 0)) rfl (by kernel_rfl) (fun _ _ _ h => h) (.inl ⟨rfl, fun w hS => ?_⟩) hS ?_
  · obtain ⟨⟨s1, s2, s3, s4⟩, -⟩ := hS
    go_simp
    
  simp only [Act.put]
  refine AnyBut.take (i := 11) (v := .int .i64 0) rfl (by kernel_rfl) (fun _ _ _ h => h) (.inl ⟨rfl, fun w hS => ?_⟩) hS ?_
  · obtain ⟨⟨s1, s2, s3, s4⟩, -⟩ := hS
    go_simp
    
  simp only [Act.put]
  refine AnyBut.take (i := 12) (v := .slice none 0 0) rfl (by kernel_rfl) (fun _ _ _ h => h) (.inl ⟨rfl, fun w hS => ?_⟩) hS ?_
  · obtain ⟨⟨s1, s2, s3, s4⟩, -⟩ := hS
    go_simp
    
  simp only [Act.put]
  refine AnyBut.two (i := 0) (j := 7) (by kernel_rfl) rfl rfl rfl rfl ?_ ?_
  · intro K hK
    go_simp
    refine hK.out _ _ (fun _ => HS.out _ (by (first | assumption | exact (Below.refl _ _).drew | exact Below.alloc (by assumption) (by simp) _ | exact Below.drew (Below.alloc (Below.refl _ _) (Nat.le_refl _) _) | exact Below.drew (Below.alloc (Below.alloc (Below.refl _ _) (Nat.le_refl _) _) (by simp) _) | exact Below.alloc hbA hbA.size _ | exact Below.drew (Below.alloc hbA hbA.size _) ))) ?_
    refine AnyBut.two (i := 5) (j := 7) (by kernel_rfl) rfl rfl rfl rfl ?_ ?_
    · intro K hK
      refine wp_append_src _ (.tmp 132) (.tmp 136) 22 (by rfl) w4.heap.size 46 i0 (.agg #[.string ⟨#[]⟩, .string ⟨#[]⟩]) 2 32 Try.underlying22 hi hz0 hz1 hz2 (by rfl) (by decide) (.slice (some ⟨_, 0, none⟩) 0 0) 0 [] (by rfl) (by first | exact lit_own_h _ rfl (by first | rfl | simp) (by simp) | exact lit_own_h2 _ _ rfl (by first | rfl | simp) (by simp)) _ 0 _ [] (by rfl) (by rfl) (.inl ⟨rfl, rfl, rfl⟩) (by simp) (by unfold maxLen; omega) (by omega) (Below.size (show Below w4.heap.size w4 _ by (first | assumption | exact (Below.refl _ _).drew | exact Below.alloc (by assumption) (by simp) _ | exact Below.drew (Below.alloc (Below.refl _ _) (Nat.le_refl _) _) | exact Below.drew (Below.alloc (Below.alloc (Below.refl _ _) (Nat.le_refl _) _) (by simp) _) | exact Below.alloc hbA hbA.size _ | exact Below.drew (Below.alloc hbA hbA.size _) ))) ?_
      intro vA wA hownA hgrowA hatA
      have hbA : Below w4.heap.size w4 wA := bel_grown (by (first | assumption | exact (Below.refl _ _).drew | exact Below.alloc (by assumption) (by simp) _ | exact Below.drew (Below.alloc (Below.refl _ _) (Nat.le_refl _) _) | exact Below.drew (Below.alloc (Below.alloc (Below.refl _ _) (Nat.le_refl _) _) (by simp) _) | exact Below.alloc hbA hbA.size _ | exact Below.drew (Below.alloc hbA hbA.size _) )) hgrowA hatA
      refine hK.out _ _ (fun _ => HS.out _ hbA) ?_
      simp only [Act.put]
      refine AnyBut.one (i := 7) (by kernel_rfl) rfl rfl ?_
      intro K hK
      go_simp
      refine hK.out _ _ (fun _ => HS.out _ (by (first | assumption | exact (Below.refl _ _).drew | exact Below.alloc (by assumption) (by simp) _ | exact Below.drew (Below.alloc (Below.refl _ _) (Nat.le_refl _) _) | exact Below.drew (Below.alloc (Below.alloc (Below.refl _ _) (Nat.le_refl _) _) (by simp) _) | exact Below.alloc hbA hbA.size _ | exact Below.drew (Below.alloc hbA hbA.size _) ))) ?_
      refine AnyBut.one (i := 8) (by kernel_rfl) rfl rfl ?_
      intro K hK
      refine wp_append_src _ (.tmp 137) (.tmp 139) 22 (by rfl) w4.heap.size 46 i0 (.agg #[.string ⟨#[]⟩, .string ⟨#[]⟩]) 2 32 Try.underlying22 hi hz0 hz1 hz2 (by rfl) (by decide) vA (0 + 0) _ (by rfl) (by first | exact hownA | exact own_same hownA rfl | exact own_push _ hownA rfl) _ 1 _ [.string nn, .string vv] (by rfl) (by rfl) (.inr ⟨_, rfl, by first | exact two_h _ rfl (by first | rfl | simp) | exact two_grown (two_h _ rfl (by first | rfl | simp)) hgrowA (by simp <;> omega) (by simp [Value.ownBlock]) rfl | exact two_grown (two_h2 _ _ rfl (by first | rfl | simp)) hgrowA (by simp <;> omega) (by simp [Value.ownBlock]) rfl⟩) (one_two _ _) (by unfold maxLen; omega) (by omega) (Below.size (show Below w4.heap.size w4 _ by (first | assumption | exact (Below.refl _ _).drew | exact Below.alloc (by assumption) (by simp) _ | exact Below.drew (Below.alloc (Below.refl _ _) (Nat.le_refl _) _) | exact Below.drew (Below.alloc (Below.alloc (Below.refl _ _) (Nat.le_refl _) _) (by simp) _) | exact Below.alloc hbA hbA.size _ | exact Below.drew (Below.alloc hbA hbA.size _) ))) ?_
      intro vB wB hownB hgrowB hatB
      have hbB : Below w4.heap.size w4 wB := bel_grown (by (first | assumption | exact (Below.refl _ _).drew | exact Below.alloc (by assumption) (by simp) _ | exact Below.drew (Below.alloc (Below.refl _ _) (Nat.le_refl _) _) | exact Below.drew (Below.alloc (Below.alloc (Below.refl _ _) (Nat.le_refl _) _) (by simp) _) | exact Below.alloc hbA hbA.size _ | exact Below.drew (Below.alloc hbA hbA.size _) )) hgrowB hatB
      refine hK.out _ _ (fun _ => HS.out _ hbB) ?_
      simp only [Act.put]
      refine AnyBut.one (i := 13) (by kernel_rfl) rfl rfl ?_
      intro K hK
      refine wp_append_src _ (.tmp 140) (.tmp 144) 22 (by rfl) w4.heap.size 46 i0 (.agg #[.string ⟨#[]⟩, .string ⟨#[]⟩]) 2 32 Try.underlying22 hi hz0 hz1 hz2 (by rfl) (by decide) vB (0 + 0 + 1) _ (by rfl) hownB _ 0 _ [] (by rfl) (by rfl) (.inl ⟨rfl, rfl, rfl⟩) (by simp) (by unfold maxLen; omega) (by omega) hbB.size ?_
      intro vC wC hownC hgrowC hatC
      obtain ⟨gC, capC, rfl, -, -⟩ := hownC.form (by omega)
      have hbC : Below w4.heap.size w4 wC := bel_grown hbB hgrowC hatC
      refine hK.out _ _ (fun _ => HS.out _ hbC) ?_
      simp only [Act.put]
      refine AnyBut.one (i := 14) (by kernel_rfl) rfl rfl ?_
      intro K hK
      go_simp
      refine hK.out _ _ (fun _ => HS.out _ hbC) ?_
      refine AnyBut.one (i := 15) (by kernel_rfl) rfl rfl ?_
      obtain ⟨⟨q1, q2, -, -⟩, -⟩ := HS.out wC hbC
      intro K hK
      go_simp
      refine hK.out _ _ (fun h => absurd rfl h) ?_
      refine AnyBut.done (by kernel_rfl) ?_ _
      refine NoPanic.normal ?_
      exact hQ.out _ _ _ _ _ _ _ _ _ _ _ _ _ _ _ wC gC capC hbC (by simpa [cellsLb] using hownC)
    · intro K hK
      go_simp
      refine hK.out _ _ (fun _ => HS.out _ (by (first | assumption | exact (Below.refl _ _).drew | exact Below.alloc (by assumption) (by simp) _ | exact Below.drew (Below.alloc (Below.refl _ _) (Nat.le_refl _) _) | exact Below.drew (Below.alloc (Below.alloc (Below.refl _ _) (Nat.le_refl _) _) (by simp) _) | exact Below.alloc hbA hbA.size _ | exact Below.drew (Below.alloc hbA hbA.size _) ))) ?_
      refine AnyBut.one (i := 5) (by kernel_rfl) rfl rfl ?_
      intro K hK
      refine wp_append_src _ (.tmp 132) (.tmp 136) 22 (by rfl) w4.heap.size 46 i0 (.agg #[.string ⟨#[]⟩, .string ⟨#[]⟩]) 2 32 Try.underlying22 hi hz0 hz1 hz2 (by rfl) (by decide) (.slice (some ⟨_, 0, none⟩) 0 0) 0 [] (by rfl) (by first | exact lit_own_h _ rfl (by first | rfl | simp) (by simp) | exact lit_own_h2 _ _ rfl (by first | rfl | simp) (by simp)) _ 0 _ [] (by rfl) (by rfl) (.inl ⟨rfl, rfl, rfl⟩) (by simp) (by unfold maxLen; omega) (by omega) (Below.size (show Below w4.heap.size w4 _ by (first | assumption | exact (Below.refl _ _).drew | exact Below.alloc (by assumption) (by simp) _ | exact Below.drew (Below.alloc (Below.refl _ _) (Nat.le_refl _) _) | exact Below.drew (Below.alloc (Below.alloc (Below.refl _ _) (Nat.le_refl _) _) (by simp) _) | exact Below.alloc hbA hbA.size _ | exact Below.drew (Below.alloc hbA hbA.size _) ))) ?_
      intro vA wA hownA hgrowA hatA
      have hbA : Below w4.heap.size w4 wA := bel_grown (by (first | assumption | exact (Below.refl _ _).drew | exact Below.alloc (by assumption) (by simp) _ | exact Below.drew (Below.alloc (Below.refl _ _) (Nat.le_refl _) _) | exact Below.drew (Below.alloc (Below.alloc (Below.refl _ _) (Nat.le_refl _) _) (by simp) _) | exact Below.alloc hbA hbA.size _ | exact Below.drew (Below.alloc hbA hbA.size _) )) hgrowA hatA
      refine hK.out _ _ (fun _ => HS.out _ hbA) ?_
      simp only [Act.put]
      refine AnyBut.one (i := 8) (by kernel_rfl) rfl rfl ?_
      intro K hK
      refine wp_append_src _ (.tmp 137) (.tmp 139) 22 (by rfl) w4.heap.size 46 i0 (.agg #[.string ⟨#[]⟩, .string ⟨#[]⟩]) 2 32 Try.underlying22 hi hz0 hz1 hz2 (by rfl) (by decide) vA (0 + 0) _ (by rfl) (by first | exact hownA | exact own_same hownA rfl | exact own_push _ hownA rfl) _ 1 _ [.string nn, .string vv] (by rfl) (by rfl) (.inr ⟨_, rfl, by first | exact two_h _ rfl (by first | rfl | simp) | exact two_grown (two_h _ rfl (by first | rfl | simp)) hgrowA (by simp <;> omega) (by simp [Value.ownBlock]) rfl | exact two_grown (two_h2 _ _ rfl (by first | rfl | simp)) hgrowA (by simp <;> omega) (by simp [Value.ownBlock]) rfl⟩) (one_two _ _) (by unfold maxLen; omega) (by omega) (Below.size (show Below w4.heap.size w4 _ by (first | assumption | exact (Below.refl _ _).drew | exact Below.alloc (by assumption) (by simp) _ | exact Below.drew (Below.alloc (Below.refl _ _) (Nat.le_refl _) _) | exact Below.drew (Below.alloc (Below.alloc (Below.refl _ _) (Nat.le_refl _) _) (by simp) _) | exact Below.alloc hbA hbA.size _ | exact Below.drew (Below.alloc hbA hbA.size _) ))) ?_
      intro vB wB hownB hgrowB hatB
      have hbB : Below w4.heap.size w4 wB := bel_grown (by (first | assumption | exact (Below.refl _ _).drew | exact Below.alloc (by assumption) (by simp) _ | exact Below.drew (Below.alloc (Below.refl _ _) (Nat.le_refl _) _) | exact Below.drew (Below.alloc (Below.alloc (Below.refl _ _) (Nat.le_refl _) _) (by simp) _) | exact Below.alloc hbA hbA.size _ | exact Below.drew (Below.alloc hbA hbA.size _) )) hgrowB hatB
      refine hK.out _ _ (fun _ => HS.out _ hbB) ?_
      simp only [Act.put]
      refine AnyBut.one (i := 13) (by kernel_rfl) rfl rfl ?_
      intro K hK
      refine wp_append_src _ (.tmp 140) (.tmp 144) 22 (by rfl) w4.heap.size 46 i0 (.agg #[.string ⟨#[]⟩, .string ⟨#[]⟩]) 2 32 Try.underlying22 hi hz0 hz1 hz2 (by rfl) (by decide) vB (0 + 0 + 1) _ (by rfl) hownB _ 0 _ [] (by rfl) (by rfl) (.inl ⟨rfl, rfl, rfl⟩) (by simp) (by unfold maxLen; omega) (by omega) hbB.size ?_
      intro vC wC hownC hgrowC hatC
      obtain ⟨gC, capC, rfl, -, -⟩ := hownC.form (by omega)
      have hbC : Below w4.heap.size w4 wC := bel_grown hbB hgrowC hatC
      refine hK.out _ _ (fun _ => HS.out _ hbC) ?_
      simp only [Act.put]
      refine AnyBut.one (i := 14) (by kernel_rfl) rfl rfl ?_
      intro K hK
      go_simp
      refine hK.out _ _ (fun _ => HS.out _ hbC) ?_
      refine AnyBut.one (i := 15) (by kernel_rfl) rfl rfl ?_
      obtain ⟨⟨q1, q2, -, -⟩, -⟩ := HS.out wC hbC
      intro K hK
      go_simp
      refine hK.out _ _ (fun h => absurd rfl h) ?_
      refine AnyBut.done (by kernel_rfl) ?_ _
      refine NoPanic.normal ?_
      exact hQ.out _ _ _ _ _ _ _ _ _ _ _ _ _ _ _ wC gC capC hbC (by simpa [cellsLb] using hownC)
  · intro K hK
    go_simp
    refine hK.out _ _ (fun _ => HS.out _ (by (first | assumption | exact (Below.refl _ _).drew | exact Below.alloc (by assumption) (by simp) _ | exact Below.drew (Below.alloc (Below.refl _ _) (Nat.le_refl _) _) | exact Below.drew (Below.alloc (Below.alloc (Below.refl _ _) (Nat.le_refl _) _) (by simp) _) | exact Below.alloc hbA hbA.size _ | exact Below.drew (Below.alloc hbA hbA.size _) ))) ?_
    refine AnyBut.one (i := 0) (by kernel_rfl) rfl rfl ?_
    intro K hK
    go_simp
    refine hK.out _ _ (fun _ => HS.out _ (by (first | assumption | exact (Below.refl _ _).drew | exact Below.alloc (by assumption) (by simp) _ | exact Below.drew (Below.alloc (Below.refl _ _) (Nat.le_refl _) _) | exact Below.drew (Below.alloc (Below.alloc (Below.refl _ _) (Nat.le_refl _) _) (by simp) _) | exact Below.alloc hbA hbA.size _ | exact Below.drew (Below.alloc hbA hbA.size _) ))) ?_
    refine AnyBut.one (i := 5) (by kernel_rfl) rfl rfl ?_
    intro K hK
    refine wp_append_src _ (.tmp 132) (.tmp 136) 22 (by rfl) w4.heap.size 46 i0 (.agg #[.string ⟨#[]⟩, .string ⟨#[]⟩]) 2 32 Try.underlying22 hi hz0 hz1 hz2 (by rfl) (by decide) (.slice (some ⟨_, 0, none⟩) 0 0) 0 [] (by rfl) (by first | exact lit_own_h _ rfl (by first | rfl | simp) (by simp) | exact lit_own_h2 _ _ rfl (by first | rfl | simp) (by simp)) _ 0 _ [] (by rfl) (by rfl) (.inl ⟨rfl, rfl, rfl⟩) (by simp) (by unfold maxLen; omega) (by omega) (Below.size (show Below w4.heap.size w4 _ by (first | assumption | exact (Below.refl _ _).drew | exact Below.alloc (by assumption) (by simp) _ | exact Below.drew (Below.alloc (Below.refl _ _) (Nat.le_refl _) _) | exact Below.drew (Below.alloc (Below.alloc (Below.refl _ _) (Nat.le_refl _) _) (by simp) _) | exact Below.alloc hbA hbA.size _ | exact Below.drew (Below.alloc hbA hbA.size _) ))) ?_
    intro vA wA hownA hgrowA hatA
    have hbA : Below w4.heap.size w4 wA := bel_grown (by (first | assumption | exact (Below.refl _ _).drew | exact Below.alloc (by assumption) (by simp) _ | exact Below.drew (Below.alloc (Below.refl _ _) (Nat.le_refl _) _) | exact Below.drew (Below.alloc (Below.alloc (Below.refl _ _) (Nat.le_refl _) _) (by simp) _) | exact Below.alloc hbA hbA.size _ | exact Below.drew (Below.alloc hbA hbA.size _) )) hgrowA hatA
    refine hK.out _ _ (fun _ => HS.out _ hbA) ?_
    simp only [Act.put]
    refine AnyBut.one (i := 8) (by kernel_rfl) rfl rfl ?_
    intro K hK
    refine wp_append_src _ (.tmp 137) (.tmp 139) 22 (by rfl) w4.heap.size 46 i0 (.agg #[.string ⟨#[]⟩, .string ⟨#[]⟩]) 2 32 Try.underlying22 hi hz0 hz1 hz2 (by rfl) (by decide) vA (0 + 0) _ (by rfl) (by first | exact hownA | exact own_same hownA rfl | exact own_push _ hownA rfl) _ 1 _ [.string nn, .string vv] (by rfl) (by rfl) (.inr ⟨_, rfl, by first | exact two_h _ rfl (by first | rfl | simp) | exact two_grown (two_h _ rfl (by first | rfl | simp)) hgrowA (by simp <;> omega) (by simp [Value.ownBlock]) rfl | exact two_grown (two_h2 _ _ rfl (by first | rfl | simp)) hgrowA (by simp <;> omega) (by simp [Value.ownBlock]) rfl⟩) (one_two _ _) (by unfold maxLen; omega) (by omega) (Below.size (show Below w4.heap.size w4 _ by (first | assumption | exact (Below.refl _ _).drew | exact Below.alloc (by assumption) (by simp) _ | exact Below.drew (Below.alloc (Below.refl _ _) (Nat.le_refl _) _) | exact Below.drew (Below.alloc (Below.alloc (Below.refl _ _) (Nat.le_refl _) _) (by simp) _) | exact Below.alloc hbA hbA.size _ | exact Below.drew (Below.alloc hbA hbA.size _) ))) ?_
    intro vB wB hownB hgrowB hatB
    have hbB : Below w4.heap.size w4 wB := bel_grown (by (first | assumption | exact (Below.refl _ _).drew | exact Below.alloc (by assumption) (by simp) _ | exact Below.drew (Below.alloc (Below.refl _ _) (Nat.le_refl _) _) | exact Below.drew (Below.alloc (Below.alloc (Below.refl _ _) (Nat.le_refl _) _) (by simp) _) | exact Below.alloc hbA hbA.size _ | exact Below.drew (Below.alloc hbA hbA.size _) )) hgrowB hatB
    refine hK.out _ _ (fun _ => HS.out _ hbB) ?_
    simp only [Act.put]
    refine AnyBut.one (i := 13) (by kernel_rfl) rfl rfl ?_
    intro K hK
    refine wp_append_src _ (.tmp 140) (.tmp 144) 22 (by rfl) w4.heap.size 46 i0 (.agg #[.string ⟨#[]⟩, .string ⟨#[]⟩]) 2 32 Try.underlying22 hi hz0 hz1 hz2 (by rfl) (by decide) vB (0 + 0 + 1) _ (by rfl) hownB _ 0 _ [] (by rfl) (by rfl) (.inl ⟨rfl, rfl, rfl⟩) (by simp) (by unfold maxLen; omega) (by omega) hbB.size ?_
    intro vC wC hownC hgrowC hatC
    obtain ⟨gC, capC, rfl, -, -⟩ := hownC.form (by omega)
    have hbC : Below w4.heap.size w4 wC := bel_grown hbB hgrowC hatC
    refine hK.out _ _ (fun _ => HS.out _ hbC) ?_
    simp only [Act.put]
    refine AnyBut.one (i := 14) (by kernel_rfl) rfl rfl ?_
    intro K hK
    go_simp
    refine hK.out _ _ (fun _ => HS.out _ hbC) ?_
    refine AnyBut.one (i := 15) (by kernel_rfl) rfl rfl ?_
    obtain ⟨⟨q1, q2, -, -⟩, -⟩ := HS.out wC hbC
    intro K hK
    go_simp
    refine hK.out _ _ (fun h => absurd rfl h) ?_
    refine AnyBut.done (by kernel_rfl) ?_ _
    refine NoPanic.normal ?_
    exact hQ.out _ _ _ _ _ _ _ _ _ _ _ _ _ _ _ wC gC capC hbC (by simpa [cellsLb] using hownC)
end Go.Proofs.Ytnjbpiekbekpeaa
