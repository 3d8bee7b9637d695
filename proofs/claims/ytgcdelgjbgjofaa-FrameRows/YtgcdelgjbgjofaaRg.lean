/-
  The answer's First: its two regions that draw their order.
-/
import Derived.Test.YtgcdelgjbgjofaaRf
namespace Go.Proofs.Ytgcdelgjbgjofaa
open Go.ChangeShapes Go.WideShapes Go.ChangeAt Go.RowKit
set_option maxHeartbeats 16000000 in
set_option maxRecDepth 100000 in
theorem sums_ne (t1 t2 t3 t4 t8 t9 t10 t11 t12 t13 t14 t15 t16 t17 t18 t19 t20 t21 t22 t23 t24 t25 t26 t27 t28 t29 t30 t31 t32 t33 t34 t35 t36 t37 t38 t39 t40 t41 t42 t43 t44 t45 t46 t47 t48 t49 t50 t51 t52 t53 t54 t55 t56 t57 t58 t59 t60 t61 t62 t63 t64 t65 t66 t67 t68 t69 t70 t71 t72 t73 t74 t75 t76 t77 t78 t79 t80 t81 : Value) (a a1 : Option Addr) (len cap c1 n s e : Nat) (l x : List UInt8) (w2 : World) (Q : Exit → Act → World → Prop)
    (hrow : RowAt w2 a len cap (cellsB l)) (hrow1 : RowAt w2 a1 n c1 (cellsB x)) (he : e = s + n) (hn4 : n ≤ 4096) (hnl : n + 4 ≤ len - s) (heq : ¬ fourL (sumL x) = (l.drop e).take 4)
    (hQ : Hid (∀ (u49 u50 u51 u52 u53 u54 u55 u56 u57 u58 u59 u60 u61 u62 u63 u64 : Value) (wC : World), Below w2.heap.size w2 wC → Q .normal ⟨#[.slice a len cap, t1, t2, t3, t4, .int .u64 (n : Int), .int .i64 (s : Int), .slice a1 n c1, t8, t9, t10, t11, t12, t13, t14, t15, t16, t17, t18, t19, t20, t21, t22, t23, t24, t25, t26, t27, t28, t29, t30, t31, t32, t33, t34, t35, t36, t37, t38, t39, t40, t41, t42, t43, t44, t45, t46, t47, t48, u49, u50, u51, u52, u53, u54, u55, u56, u57, u58, u59, u60, u61, u62, u63, u64, .bool true, t66, t67, t68, t69, t70, t71, t72, t73, t74, t75, t76, t77, t78, t79, t80, t81], []⟩ wC)) :
    Code.wp Try.prog ((Try.f25.body.bind (regionOf 5)).getD .skip) Q ⟨#[.slice a len cap, t1, t2, t3, t4, .int .u64 (n : Int), .int .i64 (s : Int), .slice a1 n c1, t8, t9, t10, t11, t12, t13, t14, t15, t16, t17, t18, t19, t20, t21, t22, t23, t24, t25, t26, t27, t28, t29, t30, t31, t32, t33, t34, t35, t36, t37, t38, t39, t40, t41, t42, t43, t44, t45, t46, t47, t48, t49, t50, t51, t52, t53, t54, t55, t56, t57, t58, t59, t60, t61, t62, t63, t64, t65, t66, t67, t68, t69, t70, t71, t72, t73, t74, t75, t76, t77, t78, t79, t80, t81], []⟩ w2 := by
  have hcap := hrow.2.1
  have hcm := hrow.2.2.1
  unfold maxLen at hcm
  have HN6 : Hid (n ≤ 6000) := by show _ ≤ _; omega
  have HSL : Hid (sumL x < 4294967296) := sumL_lt x
  obtain ⟨a2, hif2, hrow2⟩ := slice_from a len cap l e (by omega)
  rw [if_neg (by omega)] at hif2
  subst hif2
  have h2 := (hrow2 _ hrow).take 4 (by omega)
  rw [cellsB_take] at h2
  have KT : Hid (∀ w', Below w2.heap.size w2 w' → (convert 22 9 (.slice (Option.map (fun x => x.add e) a) 4 (cap - e))).run Try.prog w' = .ok (.string (txt ((l.drop e).take 4))) w') := fun w' hb => text_of (h2.below hb)
  have HR1 : Hid (∀ w', Below w2.heap.size w2 w' → RowAt w' a1 n c1 (cellsB x)) := fun w' hb => hrow1.below hb
  have y1 : IntKind.i64.wrap (n : Int) = (n : Int) := by rw [IntKind.wrap_i64]; omega
  have y2 : IntKind.i64.wrap ((s : Int) + (n : Int)) = (e : Int) := by rw [IntKind.wrap_i64]; omega
  have y4 : IntKind.i64.wrap ((e : Int) + 4) = (e : Int) + 4 := by rw [IntKind.wrap_i64]; omega
  have y5 : (0 : Int) ≤ (e : Int) := by omega
  have y6 : (e : Int) ≤ (cap : Int) := by omega
  have y7 : (0 : Int) ≤ (e : Int) + 4 := by omega
  have y8 : (e : Int) + 4 ≤ (cap : Int) := by omega
  have y9 : ((e : Int) + 4).toNat - e = 4 := by omega
  have y10 : (e : Int) ≤ (e : Int) + 4 := by omega
  have y11 : ¬ cap = e := by omega
  have hq := str_ne2 heq
  clear hrow hrow1 hrow2 h2 he hn4 hnl hcap hcm heq
  have hS : Below w2.heap.size w2 w2.drew := below_drew w2
  conv => arg 2; whnf
  refine held_start (S := fun w' => Below w2.heap.size w2 w') (by kernel_rfl) ?_
  refine held_take (i := 0) (v := .slice a1 n c1) rfl (by kernel_rfl) (fun _ _ _ h => h) (.inl ⟨rfl, fun w hS => ?_⟩) hS ?_
  · go_simp
  simp only [Act.put, List.setIfInBounds_toArray, List.set_cons_zero, List.set_cons_succ]
  refine held_take (i := 4) (v := .slice a len cap) rfl (by kernel_rfl) (fun _ _ _ h => h) (.inl ⟨rfl, fun w hS => ?_⟩) hS ?_
  · go_simp
  simp only [Act.put, List.setIfInBounds_toArray, List.set_cons_zero, List.set_cons_succ]
  refine held_take (i := 5) (v := .int .i64 (s : Int)) rfl (by kernel_rfl) (fun _ _ _ h => h) (.inl ⟨rfl, fun w hS => ?_⟩) hS ?_
  · go_simp
  simp only [Act.put, List.setIfInBounds_toArray, List.set_cons_zero, List.set_cons_succ]
  refine held_take (i := 6) (v := .int .u64 (n : Int)) rfl (by kernel_rfl) (fun _ _ _ h => h) (.inl ⟨rfl, fun w hS => ?_⟩) hS ?_
  · go_simp
  simp only [Act.put, List.setIfInBounds_toArray, List.set_cons_zero, List.set_cons_succ]
  refine held_take (i := 7) (v := .int .i64 (n : Int)) rfl (by kernel_rfl) (fun _ _ _ h => h) (.inl ⟨rfl, fun w hS => ?_⟩) hS ?_
  · go_simp
  simp only [Act.put, List.setIfInBounds_toArray, List.set_cons_zero, List.set_cons_succ]
  refine held_take (i := 8) (v := .int .i64 (e : Int)) rfl (by kernel_rfl) (fun _ _ _ h => h) (.inl ⟨rfl, fun w hS => ?_⟩) hS ?_
  · go_simp
  simp only [Act.put, List.setIfInBounds_toArray, List.set_cons_zero, List.set_cons_succ]
  refine held_take (i := 9) (v := .int .i64 (s : Int)) rfl (by kernel_rfl) (fun _ _ _ h => h) (.inl ⟨rfl, fun w hS => ?_⟩) hS ?_
  · go_simp
  simp only [Act.put, List.setIfInBounds_toArray, List.set_cons_zero, List.set_cons_succ]
  refine held_take (i := 10) (v := .int .u64 (n : Int)) rfl (by kernel_rfl) (fun _ _ _ h => h) (.inl ⟨rfl, fun w hS => ?_⟩) hS ?_
  · go_simp
  simp only [Act.put, List.setIfInBounds_toArray, List.set_cons_zero, List.set_cons_succ]
  refine held_take (i := 11) (v := .int .i64 (n : Int)) rfl (by kernel_rfl) (fun _ _ _ h => h) (.inl ⟨rfl, fun w hS => ?_⟩) hS ?_
  · go_simp
  simp only [Act.put, List.setIfInBounds_toArray, List.set_cons_zero, List.set_cons_succ]
  refine held_take (i := 12) (v := .int .i64 (e : Int)) rfl (by kernel_rfl) (fun _ _ _ h => h) (.inl ⟨rfl, fun w hS => ?_⟩) hS ?_
  · go_simp
  simp only [Act.put, List.setIfInBounds_toArray, List.set_cons_zero, List.set_cons_succ]
  refine held_take (i := 13) (v := .int .i64 ((e : Int) + 4)) rfl (by kernel_rfl) (fun _ _ _ h => h) (.inl ⟨rfl, fun w hS => ?_⟩) hS ?_
  · go_simp
  simp only [Act.put, List.setIfInBounds_toArray, List.set_cons_zero, List.set_cons_succ]
  refine held_take (i := 14) (v := .slice (Option.map (fun x => x.add e) a) 4 (cap - e)) rfl (by kernel_rfl) (fun _ _ _ h => h) (.inl ⟨rfl, fun w hS => ?_⟩) hS ?_
  · go_simp
  simp only [Act.put, List.setIfInBounds_toArray, List.set_cons_zero, List.set_cons_succ]
  refine held_take (i := 15) (v := .string (txt ((l.drop e).take 4))) rfl (by kernel_rfl) (fun _ _ _ h => h) (.inl ⟨rfl, fun w hS => ?_⟩) hS ?_
  · have tt := KT.out w hS
    go_simp
  simp only [Act.put, List.setIfInBounds_toArray, List.set_cons_zero, List.set_cons_succ]
  refine held_one (i := 1) (by kernel_rfl) rfl rfl ?_
  intro K hK
  go_simp
  go_at_call 17
  refine (refSum_any _ _ _ x _ (HR1.out _ hS) HN6.out).mono ?_
  rintro en w3 ⟨rfl, rfl⟩
  refine hK.out _ _ hS ?_
  clear hK
  refine held_one (i := 2) (by kernel_rfl) rfl rfl ?_
  intro K hK
  go_simp
  go_at_call 46
  refine (four_any (sumL x) _ HSL.out).mono ?_
  rintro en w3 ⟨v3, rfl, hown3, hb3⟩
  obtain ⟨a3, cap3, rfl, ht3, -, -⟩ := text_own hown3
  have hb3' : Below w2.heap.size w2 w3 := below2 hS hb3
  clear hown3 hb3 hS
  have hS := hb3'
  refine hK.out _ _ hS ?_
  clear hK
  refine held_one (i := 3) (by kernel_rfl) rfl rfl ?_
  intro K hK
  go_simp
  refine hK.out _ _ hS ?_
  clear hK ht3
  refine held_take (i := 16) (v := .bool true) rfl (by kernel_rfl) (fun _ _ _ h => h) (.inl ⟨rfl, fun w hS => ?_⟩) hS ?_
  · go_simp
  simp only [Act.put, List.setIfInBounds_toArray, List.set_cons_zero, List.set_cons_succ]
  refine wpAnyH_done (by kernel_rfl) ?_ _
  refine NoPanic.normal ?_
  exact hQ.out _ _ _ _ _ _ _ _ _ _ _ _ _ _ _ _ w3 hS
set_option maxHeartbeats 16000000 in
set_option maxRecDepth 100000 in
theorem sums_eq (t1 t2 t3 t4 t8 t9 t10 t11 t12 t13 t14 t15 t16 t17 t18 t19 t20 t21 t22 t23 t24 t25 t26 t27 t28 t29 t30 t31 t32 t33 t34 t35 t36 t37 t38 t39 t40 t41 t42 t43 t44 t45 t46 t47 t48 t49 t50 t51 t52 t53 t54 t55 t56 t57 t58 t59 t60 t61 t62 t63 t64 t65 t66 t67 t68 t69 t70 t71 t72 t73 t74 t75 t76 t77 t78 t79 t80 t81 : Value) (a a1 : Option Addr) (len cap c1 n s e : Nat) (l x : List UInt8) (w2 : World) (Q : Exit → Act → World → Prop)
    (hrow : RowAt w2 a len cap (cellsB l)) (hrow1 : RowAt w2 a1 n c1 (cellsB x)) (he : e = s + n) (hn4 : n ≤ 4096) (hnl : n + 4 ≤ len - s) (heq : fourL (sumL x) = (l.drop e).take 4)
    (hQ : Hid (∀ (u49 u50 u51 u52 u53 u54 u55 u56 u57 u58 u59 u60 u61 u62 u63 u64 : Value) (wC : World), Below w2.heap.size w2 wC → Q .normal ⟨#[.slice a len cap, t1, t2, t3, t4, .int .u64 (n : Int), .int .i64 (s : Int), .slice a1 n c1, t8, t9, t10, t11, t12, t13, t14, t15, t16, t17, t18, t19, t20, t21, t22, t23, t24, t25, t26, t27, t28, t29, t30, t31, t32, t33, t34, t35, t36, t37, t38, t39, t40, t41, t42, t43, t44, t45, t46, t47, t48, u49, u50, u51, u52, u53, u54, u55, u56, u57, u58, u59, u60, u61, u62, u63, u64, .bool false, t66, t67, t68, t69, t70, t71, t72, t73, t74, t75, t76, t77, t78, t79, t80, t81], []⟩ wC)) :
    Code.wp Try.prog ((Try.f25.body.bind (regionOf 5)).getD .skip) Q ⟨#[.slice a len cap, t1, t2, t3, t4, .int .u64 (n : Int), .int .i64 (s : Int), .slice a1 n c1, t8, t9, t10, t11, t12, t13, t14, t15, t16, t17, t18, t19, t20, t21, t22, t23, t24, t25, t26, t27, t28, t29, t30, t31, t32, t33, t34, t35, t36, t37, t38, t39, t40, t41, t42, t43, t44, t45, t46, t47, t48, t49, t50, t51, t52, t53, t54, t55, t56, t57, t58, t59, t60, t61, t62, t63, t64, t65, t66, t67, t68, t69, t70, t71, t72, t73, t74, t75, t76, t77, t78, t79, t80, t81], []⟩ w2 := by
  have hcap := hrow.2.1
  have hcm := hrow.2.2.1
  unfold maxLen at hcm
  have HN6 : Hid (n ≤ 6000) := by show _ ≤ _; omega
  have HSL : Hid (sumL x < 4294967296) := sumL_lt x
  obtain ⟨a2, hif2, hrow2⟩ := slice_from a len cap l e (by omega)
  rw [if_neg (by omega)] at hif2
  subst hif2
  have h2 := (hrow2 _ hrow).take 4 (by omega)
  rw [cellsB_take] at h2
  have KT : Hid (∀ w', Below w2.heap.size w2 w' → (convert 22 9 (.slice (Option.map (fun x => x.add e) a) 4 (cap - e))).run Try.prog w' = .ok (.string (txt ((l.drop e).take 4))) w') := fun w' hb => text_of (h2.below hb)
  have HR1 : Hid (∀ w', Below w2.heap.size w2 w' → RowAt w' a1 n c1 (cellsB x)) := fun w' hb => hrow1.below hb
  have y1 : IntKind.i64.wrap (n : Int) = (n : Int) := by rw [IntKind.wrap_i64]; omega
  have y2 : IntKind.i64.wrap ((s : Int) + (n : Int)) = (e : Int) := by rw [IntKind.wrap_i64]; omega
  have y4 : IntKind.i64.wrap ((e : Int) + 4) = (e : Int) + 4 := by rw [IntKind.wrap_i64]; omega
  have y5 : (0 : Int) ≤ (e : Int) := by omega
  have y6 : (e : Int) ≤ (cap : Int) := by omega
  have y7 : (0 : Int) ≤ (e : Int) + 4 := by omega
  have y8 : (e : Int) + 4 ≤ (cap : Int) := by omega
  have y9 : ((e : Int) + 4).toNat - e = 4 := by omega
  have y10 : (e : Int) ≤ (e : Int) + 4 := by omega
  have y11 : ¬ cap = e := by omega
  have hq := str_eq ((l.drop e).take 4)
  rw [← heq] at KT hq
  clear hrow hrow1 hrow2 h2 he hn4 hnl hcap hcm heq
  have hS : Below w2.heap.size w2 w2.drew := below_drew w2
  conv => arg 2; whnf
  refine held_start (S := fun w' => Below w2.heap.size w2 w') (by kernel_rfl) ?_
  refine held_take (i := 0) (v := .slice a1 n c1) rfl (by kernel_rfl) (fun _ _ _ h => h) (.inl ⟨rfl, fun w hS => ?_⟩) hS ?_
  · go_simp
  simp only [Act.put, List.setIfInBounds_toArray, List.set_cons_zero, List.set_cons_succ]
  refine held_take (i := 4) (v := .slice a len cap) rfl (by kernel_rfl) (fun _ _ _ h => h) (.inl ⟨rfl, fun w hS => ?_⟩) hS ?_
  · go_simp
  simp only [Act.put, List.setIfInBounds_toArray, List.set_cons_zero, List.set_cons_succ]
  refine held_take (i := 5) (v := .int .i64 (s : Int)) rfl (by kernel_rfl) (fun _ _ _ h => h) (.inl ⟨rfl, fun w hS => ?_⟩) hS ?_
  · go_simp
  simp only [Act.put, List.setIfInBounds_toArray, List.set_cons_zero, List.set_cons_succ]
  refine held_take (i := 6) (v := .int .u64 (n : Int)) rfl (by kernel_rfl) (fun _ _ _ h => h) (.inl ⟨rfl, fun w hS => ?_⟩) hS ?_
  · go_simp
  simp only [Act.put, List.setIfInBounds_toArray, List.set_cons_zero, List.set_cons_succ]
  refine held_take (i := 7) (v := .int .i64 (n : Int)) rfl (by kernel_rfl) (fun _ _ _ h => h) (.inl ⟨rfl, fun w hS => ?_⟩) hS ?_
  · go_simp
  simp only [Act.put, List.setIfInBounds_toArray, List.set_cons_zero, List.set_cons_succ]
  refine held_take (i := 8) (v := .int .i64 (e : Int)) rfl (by kernel_rfl) (fun _ _ _ h => h) (.inl ⟨rfl, fun w hS => ?_⟩) hS ?_
  · go_simp
  simp only [Act.put, List.setIfInBounds_toArray, List.set_cons_zero, List.set_cons_succ]
  refine held_take (i := 9) (v := .int .i64 (s : Int)) rfl (by kernel_rfl) (fun _ _ _ h => h) (.inl ⟨rfl, fun w hS => ?_⟩) hS ?_
  · go_simp
  simp only [Act.put, List.setIfInBounds_toArray, List.set_cons_zero, List.set_cons_succ]
  refine held_take (i := 10) (v := .int .u64 (n : Int)) rfl (by kernel_rfl) (fun _ _ _ h => h) (.inl ⟨rfl, fun w hS => ?_⟩) hS ?_
  · go_simp
  simp only [Act.put, List.setIfInBounds_toArray, List.set_cons_zero, List.set_cons_succ]
  refine held_take (i := 11) (v := .int .i64 (n : Int)) rfl (by kernel_rfl) (fun _ _ _ h => h) (.inl ⟨rfl, fun w hS => ?_⟩) hS ?_
  · go_simp
  simp only [Act.put, List.setIfInBounds_toArray, List.set_cons_zero, List.set_cons_succ]
  refine held_take (i := 12) (v := .int .i64 (e : Int)) rfl (by kernel_rfl) (fun _ _ _ h => h) (.inl ⟨rfl, fun w hS => ?_⟩) hS ?_
  · go_simp
  simp only [Act.put, List.setIfInBounds_toArray, List.set_cons_zero, List.set_cons_succ]
  refine held_take (i := 13) (v := .int .i64 ((e : Int) + 4)) rfl (by kernel_rfl) (fun _ _ _ h => h) (.inl ⟨rfl, fun w hS => ?_⟩) hS ?_
  · go_simp
  simp only [Act.put, List.setIfInBounds_toArray, List.set_cons_zero, List.set_cons_succ]
  refine held_take (i := 14) (v := .slice (Option.map (fun x => x.add e) a) 4 (cap - e)) rfl (by kernel_rfl) (fun _ _ _ h => h) (.inl ⟨rfl, fun w hS => ?_⟩) hS ?_
  · go_simp
  simp only [Act.put, List.setIfInBounds_toArray, List.set_cons_zero, List.set_cons_succ]
  refine held_take (i := 15) (v := .string (txt (fourL (sumL x)))) rfl (by kernel_rfl) (fun _ _ _ h => h) (.inl ⟨rfl, fun w hS => ?_⟩) hS ?_
  · have tt := KT.out w hS
    go_simp
  simp only [Act.put, List.setIfInBounds_toArray, List.set_cons_zero, List.set_cons_succ]
  refine held_one (i := 1) (by kernel_rfl) rfl rfl ?_
  intro K hK
  go_simp
  go_at_call 17
  refine (refSum_any _ _ _ x _ (HR1.out _ hS) HN6.out).mono ?_
  rintro en w3 ⟨rfl, rfl⟩
  refine hK.out _ _ hS ?_
  clear hK
  refine held_one (i := 2) (by kernel_rfl) rfl rfl ?_
  intro K hK
  go_simp
  go_at_call 46
  refine (four_any (sumL x) _ HSL.out).mono ?_
  rintro en w3 ⟨v3, rfl, hown3, hb3⟩
  obtain ⟨a3, cap3, rfl, ht3, -, -⟩ := text_own hown3
  have hb3' : Below w2.heap.size w2 w3 := below2 hS hb3
  clear hown3 hb3 hS
  have hS := hb3'
  refine hK.out _ _ hS ?_
  clear hK
  refine held_one (i := 3) (by kernel_rfl) rfl rfl ?_
  intro K hK
  go_simp
  refine hK.out _ _ hS ?_
  clear hK ht3
  refine held_take (i := 16) (v := .bool false) rfl (by kernel_rfl) (fun _ _ _ h => h) (.inl ⟨rfl, fun w hS => ?_⟩) hS ?_
  · go_simp
  simp only [Act.put, List.setIfInBounds_toArray, List.set_cons_zero, List.set_cons_succ]
  refine wpAnyH_done (by kernel_rfl) ?_ _
  refine NoPanic.normal ?_
  exact hQ.out _ _ _ _ _ _ _ _ _ _ _ _ _ _ _ _ w3 hS
end Go.Proofs.Ytgcdelgjbgjofaa
