/-
  The law of cuts: a frame held against the answer's (one region that draws its order).
-/
import Derived.Test.YtgcdelgjbgjofaaCu
namespace Go.Proofs.Ytgcdelgjbgjofaa
open Go.ChangeShapes Go.WideShapes Go.ChangeAt Go.RowKit
set_option maxHeartbeats 16000000 in
set_option maxRecDepth 100000 in
theorem frames_eq (t1 t2 t3 t4 t5 t6 t7 t11 t12 t13 t14 t15 t16 t17 t18 t19 t20 t21 t22 t23 t24 t25 t26 t27 t28 t29 t30 t31 t32 t33 t34 t35 t36 t37 t38 t39 t40 t41 t42 t43 t44 t45 t46 t47 t48 t49 t50 t51 t52 t53 t54 t55 t56 t57 t58 t59 t60 t61 t62 t63 t64 t65 t66 t67 t68 t69 t70 t71 t72 t73 t74 t75 t76 t77 t78 t79 t80 t81 t82 t83 t84 t85 t86 t87 t88 t89 t90 t91 t92 t93 t94 t95 t96 t97 t98 t99 t100 t101 t102 t103 t104 t105 t106 t107 t108 t109 t110 t111 t112 t113 : Value) (b off len cap i n9 c9 m1 k1 m2 k2 : Nat) (a9 x1 x2 : Option Addr) (nums : List Int) (texts : List ByteArray) (L : List UInt8) (w2 : World) (Q : Exit → Act → World → Prop)
    (hi : i < len) (c0 : w2.cell? ⟨b, off + i * 2, none⟩ = some (.slice x1 m1 k1)) (c1 : w2.cell? ⟨b, off + i * 2 + 1, none⟩ = some (.slice x2 m2 k2)) (hd : DataAt w2 (.agg #[.slice x1 m1 k1, .slice x2 m2 k2]) nums texts) (hL : Hid (L = bytesL nums texts)) (hle : Hid (L.length ≤ 4096)) (hrow9 : RowAt w2 a9 n9 c9 (cellsB (frameL L)))
    (hQ : Hid (∀ (u51 u52 u53 u54 u55 u56 u57 u58 u59 u60 u61 u62 : Value) (wC : World), Below w2.heap.size w2 wC → Q .normal ⟨#[.slice (some ⟨b, off, none⟩) len cap, t1, t2, t3, t4, t5, t6, t7, .int .i64 (i : Int), .slice a9 n9 c9, .int .i64 0, t11, t12, t13, t14, t15, t16, t17, t18, t19, t20, t21, t22, t23, t24, t25, t26, t27, t28, t29, t30, t31, t32, t33, t34, t35, t36, t37, t38, t39, t40, t41, t42, t43, t44, t45, t46, t47, t48, t49, t50, u51, u52, u53, u54, u55, u56, u57, u58, u59, u60, u61, u62, .bool false, t64, t65, t66, t67, t68, t69, t70, t71, t72, t73, t74, t75, t76, t77, t78, t79, t80, t81, t82, t83, t84, t85, t86, t87, t88, t89, t90, t91, t92, t93, t94, t95, t96, t97, t98, t99, t100, t101, t102, t103, t104, t105, t106, t107, t108, t109, t110, t111, t112, t113], []⟩ wC)) :
    Code.wp Try.prog ((Try.f7.body.bind (regionOf 13)).getD .skip) Q ⟨#[.slice (some ⟨b, off, none⟩) len cap, t1, t2, t3, t4, t5, t6, t7, .int .i64 (i : Int), .slice a9 n9 c9, .int .i64 0, t11, t12, t13, t14, t15, t16, t17, t18, t19, t20, t21, t22, t23, t24, t25, t26, t27, t28, t29, t30, t31, t32, t33, t34, t35, t36, t37, t38, t39, t40, t41, t42, t43, t44, t45, t46, t47, t48, t49, t50, t51, t52, t53, t54, t55, t56, t57, t58, t59, t60, t61, t62, t63, t64, t65, t66, t67, t68, t69, t70, t71, t72, t73, t74, t75, t76, t77, t78, t79, t80, t81, t82, t83, t84, t85, t86, t87, t88, t89, t90, t91, t92, t93, t94, t95, t96, t97, t98, t99, t100, t101, t102, t103, t104, t105, t106, t107, t108, t109, t110, t111, t112, t113], []⟩ w2 := by
  have hlt : b < w2.heap.size := World.block_lt_of_cell? w2 ⟨b, off + i * 2, none⟩ c0
  have KT : Hid (∀ w', Below w2.heap.size w2 w' → (convert 22 9 (.slice a9 n9 c9)).run Try.prog w' = .ok (.string (txt (frameL L))) w') := fun w' hb => text_of (hrow9.below hb)
  have KC : Hid (∀ w', Below w2.heap.size w2 w' → w'.cell? ⟨b, off + i * 2, none⟩ = some (.slice x1 m1 k1) ∧ w'.cell? ⟨b, off + i * 2 + 1, none⟩ = some (.slice x2 m2 k2)) := fun w' hb => ⟨(hb.cell (p := ⟨b, off + i * 2, none⟩) hlt).trans c0, (hb.cell (p := ⟨b, off + i * 2 + 1, none⟩) hlt).trans c1⟩
  have KD : Hid (∀ w', Below w2.heap.size w2 w' → DataAt w' (.agg #[.slice x1 m1 k1, .slice x2 m2 k2]) nums texts) := fun w' hb => hd.below hb
  have y1 : (0 : Int) ≤ (i : Int) := by omega
  have y2 : (i : Int) < (len : Int) := by omega
  have hq := str_eq (frameL L)
  clear hrow9 c0 c1 hd hlt hi
  have hS : Below w2.heap.size w2 w2.drew := below_drew w2
  conv => arg 2; whnf
  refine held_start (S := fun w' => Below w2.heap.size w2 w') (by kernel_rfl) ?_
  refine held_take (i := 0) (v := .int .i64 0) rfl (by kernel_rfl) (fun _ _ _ h => h) (.inl ⟨rfl, fun w hS => ?_⟩) hS ?_
  · go_simp
  simp only [Act.put, List.setIfInBounds_toArray, List.set_cons_zero, List.set_cons_succ]
  refine held_take (i := 1) (v := .bool false) rfl (by kernel_rfl) (fun _ _ _ h => h) (.inl ⟨rfl, fun w hS => ?_⟩) hS ?_
  · go_simp
  simp only [Act.put, List.setIfInBounds_toArray, List.set_cons_zero, List.set_cons_succ]
  refine held_take (i := 2) (v := .bool false) rfl (by kernel_rfl) (fun _ _ _ h => h) (.inl ⟨rfl, fun w hS => ?_⟩) hS ?_
  · go_simp
  simp only [Act.put, List.setIfInBounds_toArray, List.set_cons_zero, List.set_cons_succ]
  refine held_take (i := 3) (v := .slice a9 n9 c9) rfl (by kernel_rfl) (fun _ _ _ h => h) (.inl ⟨rfl, fun w hS => ?_⟩) hS ?_
  · go_simp
  simp only [Act.put, List.setIfInBounds_toArray, List.set_cons_zero, List.set_cons_succ]
  refine held_take (i := 4) (v := .string (txt (frameL L))) rfl (by kernel_rfl) (fun _ _ _ h => h) (.inl ⟨rfl, fun w hS => ?_⟩) hS ?_
  · have tt := KT.out w hS
    go_simp
  simp only [Act.put, List.setIfInBounds_toArray, List.set_cons_zero, List.set_cons_succ]
  refine held_take (i := 5) (v := .slice (some ⟨b, off, none⟩) len cap) rfl (by kernel_rfl) (fun _ _ _ h => h) (.inl ⟨rfl, fun w hS => ?_⟩) hS ?_
  · go_simp
  simp only [Act.put, List.setIfInBounds_toArray, List.set_cons_zero, List.set_cons_succ]
  refine held_take (i := 6) (v := .int .i64 (i : Int)) rfl (by kernel_rfl) (fun _ _ _ h => h) (.inl ⟨rfl, fun w hS => ?_⟩) hS ?_
  · go_simp
  simp only [Act.put, List.setIfInBounds_toArray, List.set_cons_zero, List.set_cons_succ]
  refine held_take (i := 7) (v := .pointer (some ⟨b, off + i * 2, none⟩)) rfl (by kernel_rfl) (fun _ _ _ h => h) (.inl ⟨rfl, fun w hS => ?_⟩) hS ?_
  · go_simp
  simp only [Act.put, List.setIfInBounds_toArray, List.set_cons_zero, List.set_cons_succ]
  refine held_take (i := 8) (v := .agg #[.slice x1 m1 k1, .slice x2 m2 k2]) rfl (by kernel_rfl) (fun _ _ _ h => h) (.inl ⟨rfl, fun w hS => ?_⟩) hS ?_
  · obtain ⟨q0, q1⟩ := KC.out w hS
    go_simp
  simp only [Act.put, List.setIfInBounds_toArray, List.set_cons_zero, List.set_cons_succ]
  refine held_one (i := 9) (by kernel_rfl) rfl rfl ?_
  intro K hK
  go_simp
  go_at_call 30
  refine (refFrame_any _ nums texts _ (KD.out _ hS) L hL hle).mono ?_
  rintro en w3 ⟨v3, rfl, hown3, hb3⟩
  obtain ⟨a3, cap3, rfl, ht3, -, -⟩ := text_own hown3
  have hb3' : Below w2.heap.size w2 w3 := below2 hS hb3
  clear hown3 hb3 hS
  have hS := hb3'
  refine hK.out _ _ hS ?_
  clear hK
  refine held_one (i := 10) (by kernel_rfl) rfl rfl ?_
  intro K hK
  go_simp
  refine hK.out _ _ hS ?_
  clear hK ht3
  refine held_take (i := 11) (v := .bool false) rfl (by kernel_rfl) (fun _ _ _ h => h) (.inl ⟨rfl, fun w hS => ?_⟩) hS ?_
  · go_simp
  simp only [Act.put, List.setIfInBounds_toArray, List.set_cons_zero, List.set_cons_succ]
  refine held_take (i := 12) (v := .bool false) rfl (by kernel_rfl) (fun _ _ _ h => h) (.inl ⟨rfl, fun w hS => ?_⟩) hS ?_
  · go_simp
  simp only [Act.put, List.setIfInBounds_toArray, List.set_cons_zero, List.set_cons_succ]
  refine wpAnyH_done (by kernel_rfl) ?_ _
  refine NoPanic.normal ?_
  exact hQ.out _ _ _ _ _ _ _ _ _ _ _ _ w3 hS
end Go.Proofs.Ytgcdelgjbgjofaa
