/-
  The answer's Same of shelves.
-/
import Derived.Test.YtihohcmocejijaaGreatPr34
import Derived.Test.YtihohcmocejijaaGreatPr37
namespace Go.Proofs.YtihohcmocejijaaGreat.Bk
open Go.ChangeShapes Go.WideShapes Go.ChangeAt Go.RowKit
set_option maxHeartbeats 4000000 in
set_option maxRecDepth 60000 in
theorem rs_6a (t0 t1 t4 t6 t7 t8 t9 t10 t11 t12 t13 t14 t15 t16 t17 t18 t19 t20 t21 t22 t23 t24 t25 t26 t27 t28 t29 t30 t31 t32 t33 t34 t35 t36 t37 t38 t39 t40 t41 t42 t43 t44 t45 t46 t47 t48 t49 t50 t51 t52 t53 t54 t55 t56 t57 t58 t59 t60 t61 t62 t63 t64 t65 t66 t67 t68 t69 t70 t71 t72 t73 t74 t75 t76 t77 t78 t79 t80 t81 t82 t83 : Value) (b2 b3 p1 o1 q1 r1 k N c1 c2 n c n2 d2 : Nat) (a a2 : Option Addr) (s1 s2 : ByteArray) (w1 : World) (Q : Exit → Act → World → Prop)
    (z0 : w1.cell? ⟨b2, 0, none⟩ = some (.slice (some ⟨p1, o1, none⟩) N c1)) (z1 : w1.cell? ⟨b3, 0, none⟩ = some (.slice (some ⟨q1, r1, none⟩) N c2)) (z2 : w1.cell? ⟨p1, o1 + k * 2, none⟩ = some (.string s1)) (z3 : w1.cell? ⟨p1, o1 + k * 2 + 1, none⟩ = some (.slice a n c)) (z4 : w1.cell? ⟨q1, r1 + k * 2, none⟩ = some (.string s2)) (z5 : w1.cell? ⟨q1, r1 + k * 2 + 1, none⟩ = some (.slice a2 n2 d2)) (hk0 : (0 : Int) ≤ (k : Int)) (hkN : (k : Int) < (N : Int)) (hE : (s1.toList == s2.toList) = false)
    (hQ : Hid (∀ (u37 u38 u39 u40 u41 u42 u43 u44 u45 u46 u47 u48 u49 u50 u51 u52 u53 u54 u55 u56 u57 u58 u59 u60 u61 u62 u63 u64 : Value) (wC : World), Below w1.heap.size w1 wC → Q .normal ⟨#[t0, t1, .pointer (some ⟨b2, 0, none⟩), .pointer (some ⟨b3, 0, none⟩), t4, .int .i64 (k : Int), t6, t7, t8, t9, t10, t11, t12, t13, t14, t15, t16, t17, t18, t19, t20, t21, t22, t23, t24, t25, t26, t27, t28, t29, t30, t31, t32, t33, t34, t35, t36, u37, u38, u39, u40, u41, u42, u43, u44, u45, u46, u47, u48, u49, u50, u51, u52, u53, u54, u55, u56, u57, u58, u59, u60, u61, u62, u63, u64, .bool true, t66, t67, t68, t69, t70, t71, t72, t73, t74, t75, t76, t77, t78, t79, t80, t81, t82, t83], []⟩ wC)) :
    Code.wp Tryz.prog ((Tryz.f15.body.bind (regionOf 6)).getD .skip) Q ⟨#[t0, t1, .pointer (some ⟨b2, 0, none⟩), .pointer (some ⟨b3, 0, none⟩), t4, .int .i64 (k : Int), t6, t7, t8, t9, t10, t11, t12, t13, t14, t15, t16, t17, t18, t19, t20, t21, t22, t23, t24, t25, t26, t27, t28, t29, t30, t31, t32, t33, t34, t35, t36, t37, t38, t39, t40, t41, t42, t43, t44, t45, t46, t47, t48, t49, t50, t51, t52, t53, t54, t55, t56, t57, t58, t59, t60, t61, t62, t63, t64, t65, t66, t67, t68, t69, t70, t71, t72, t73, t74, t75, t76, t77, t78, t79, t80, t81, t82, t83], []⟩ w1 := by
  have hS : (fun w' => Below w1.heap.size w1 w' ∧ w'.cell? ⟨b2, 0, none⟩ = some (.slice (some ⟨p1, o1, none⟩) N c1) ∧ w'.cell? ⟨b3, 0, none⟩ = some (.slice (some ⟨q1, r1, none⟩) N c2) ∧ w'.cell? ⟨p1, o1 + k * 2, none⟩ = some (.string s1) ∧ w'.cell? ⟨p1, o1 + k * 2 + 1, none⟩ = some (.slice a n c) ∧ w'.cell? ⟨q1, r1 + k * 2, none⟩ = some (.string s2) ∧ w'.cell? ⟨q1, r1 + k * 2 + 1, none⟩ = some (.slice a2 n2 d2)) w1.drew := ⟨below_drew _, z0, z1, z2, z3, z4, z5⟩
  conv => arg 2; whnf
  refine held_start (S := fun w' => Below w1.heap.size w1 w' ∧ w'.cell? ⟨b2, 0, none⟩ = some (.slice (some ⟨p1, o1, none⟩) N c1) ∧ w'.cell? ⟨b3, 0, none⟩ = some (.slice (some ⟨q1, r1, none⟩) N c2) ∧ w'.cell? ⟨p1, o1 + k * 2, none⟩ = some (.string s1) ∧ w'.cell? ⟨p1, o1 + k * 2 + 1, none⟩ = some (.slice a n c) ∧ w'.cell? ⟨q1, r1 + k * 2, none⟩ = some (.string s2) ∧ w'.cell? ⟨q1, r1 + k * 2 + 1, none⟩ = some (.slice a2 n2 d2)) mixed9 ?_
  refine held_take (i := 0) (v := .pointer (some ⟨b2, 0, none⟩)) rfl (by kernel_rfl) (fun _ _ _ h => h) (.inl ⟨rfl, fun w hS => ?_⟩) hS ?_
  · obtain ⟨-, q0, q1, q2, q3, q4, q5⟩ := hS
    go_simp
  try simp only [Act.put, List.setIfInBounds_toArray, List.set_cons_zero, List.set_cons_succ]
  refine held_take (i := 1) (v := .slice (some ⟨p1, o1, none⟩) N c1) rfl (by kernel_rfl) (fun _ _ _ h => h) (.inl ⟨rfl, fun w hS => ?_⟩) hS ?_
  · obtain ⟨-, q0, q1, q2, q3, q4, q5⟩ := hS
    go_simp
  try simp only [Act.put, List.setIfInBounds_toArray, List.set_cons_zero, List.set_cons_succ]
  refine held_take (i := 2) (v := .int .i64 (k : Int)) rfl (by kernel_rfl) (fun _ _ _ h => h) (.inl ⟨rfl, fun w hS => ?_⟩) hS ?_
  · obtain ⟨-, q0, q1, q2, q3, q4, q5⟩ := hS
    go_simp
  try simp only [Act.put, List.setIfInBounds_toArray, List.set_cons_zero, List.set_cons_succ]
  refine held_take (i := 3) (v := .pointer (some ⟨p1, o1 + k * 2, none⟩)) rfl (by kernel_rfl) (fun _ _ _ h => h) (.inl ⟨rfl, fun w hS => ?_⟩) hS ?_
  · obtain ⟨-, q0, q1, q2, q3, q4, q5⟩ := hS
    go_simp
  try simp only [Act.put, List.setIfInBounds_toArray, List.set_cons_zero, List.set_cons_succ]
  refine held_take (i := 4) (v := .pointer (some ⟨p1, o1 + k * 2, none⟩)) rfl (by kernel_rfl) (fun _ _ _ h => h) (.inl ⟨rfl, fun w hS => ?_⟩) hS ?_
  · obtain ⟨-, q0, q1, q2, q3, q4, q5⟩ := hS
    go_simp
  try simp only [Act.put, List.setIfInBounds_toArray, List.set_cons_zero, List.set_cons_succ]
  refine held_take (i := 5) (v := .string s1) rfl (by kernel_rfl) (fun _ _ _ h => h) (.inl ⟨rfl, fun w hS => ?_⟩) hS ?_
  · obtain ⟨-, q0, q1, q2, q3, q4, q5⟩ := hS
    go_simp
  try simp only [Act.put, List.setIfInBounds_toArray, List.set_cons_zero, List.set_cons_succ]
  refine held_take (i := 6) (v := .pointer (some ⟨b3, 0, none⟩)) rfl (by kernel_rfl) (fun _ _ _ h => h) (.inl ⟨rfl, fun w hS => ?_⟩) hS ?_
  · obtain ⟨-, q0, q1, q2, q3, q4, q5⟩ := hS
    go_simp
  try simp only [Act.put, List.setIfInBounds_toArray, List.set_cons_zero, List.set_cons_succ]
  refine held_take (i := 7) (v := .slice (some ⟨q1, r1, none⟩) N c2) rfl (by kernel_rfl) (fun _ _ _ h => h) (.inl ⟨rfl, fun w hS => ?_⟩) hS ?_
  · obtain ⟨-, q0, q1, q2, q3, q4, q5⟩ := hS
    go_simp
  try simp only [Act.put, List.setIfInBounds_toArray, List.set_cons_zero, List.set_cons_succ]
  refine held_take (i := 8) (v := .int .i64 (k : Int)) rfl (by kernel_rfl) (fun _ _ _ h => h) (.inl ⟨rfl, fun w hS => ?_⟩) hS ?_
  · obtain ⟨-, q0, q1, q2, q3, q4, q5⟩ := hS
    go_simp
  try simp only [Act.put, List.setIfInBounds_toArray, List.set_cons_zero, List.set_cons_succ]
  refine held_take (i := 9) (v := .pointer (some ⟨q1, r1 + k * 2, none⟩)) rfl (by kernel_rfl) (fun _ _ _ h => h) (.inl ⟨rfl, fun w hS => ?_⟩) hS ?_
  · obtain ⟨-, q0, q1, q2, q3, q4, q5⟩ := hS
    go_simp
  try simp only [Act.put, List.setIfInBounds_toArray, List.set_cons_zero, List.set_cons_succ]
  refine held_take (i := 10) (v := .pointer (some ⟨q1, r1 + k * 2, none⟩)) rfl (by kernel_rfl) (fun _ _ _ h => h) (.inl ⟨rfl, fun w hS => ?_⟩) hS ?_
  · obtain ⟨-, q0, q1, q2, q3, q4, q5⟩ := hS
    go_simp
  try simp only [Act.put, List.setIfInBounds_toArray, List.set_cons_zero, List.set_cons_succ]
  refine held_take (i := 11) (v := .string s2) rfl (by kernel_rfl) (fun _ _ _ h => h) (.inl ⟨rfl, fun w hS => ?_⟩) hS ?_
  · obtain ⟨-, q0, q1, q2, q3, q4, q5⟩ := hS
    go_simp
  try simp only [Act.put, List.setIfInBounds_toArray, List.set_cons_zero, List.set_cons_succ]
  refine held_take (i := 12) (v := .bool true) rfl (by kernel_rfl) (fun _ _ _ h => h) (.inl ⟨rfl, fun w hS => ?_⟩) hS ?_
  · obtain ⟨-, q0, q1, q2, q3, q4, q5⟩ := hS
    go_simp
  try simp only [Act.put, List.setIfInBounds_toArray, List.set_cons_zero, List.set_cons_succ]
  refine held_take (i := 13) (v := .bool true) rfl (by kernel_rfl) (fun _ _ _ h => h) (.inl ⟨rfl, fun w hS => ?_⟩) hS ?_
  · obtain ⟨-, q0, q1, q2, q3, q4, q5⟩ := hS
    go_simp
  try simp only [Act.put, List.setIfInBounds_toArray, List.set_cons_zero, List.set_cons_succ]
  refine held_take (i := 14) (v := undef) rfl (by kernel_rfl) (fun _ _ _ h => h) (.inr ⟨rfl, rfl⟩) hS ?_
  try simp only [Act.put, List.setIfInBounds_toArray, List.set_cons_zero, List.set_cons_succ]
  refine held_take (i := 15) (v := undef) rfl (by kernel_rfl) (fun _ _ _ h => h) (.inr ⟨rfl, rfl⟩) hS ?_
  try simp only [Act.put, List.setIfInBounds_toArray, List.set_cons_zero, List.set_cons_succ]
  refine held_take (i := 16) (v := undef) rfl (by kernel_rfl) (fun _ _ _ h => h) (.inr ⟨rfl, rfl⟩) hS ?_
  try simp only [Act.put, List.setIfInBounds_toArray, List.set_cons_zero, List.set_cons_succ]
  refine held_take (i := 17) (v := undef) rfl (by kernel_rfl) (fun _ _ _ h => h) (.inr ⟨rfl, rfl⟩) hS ?_
  try simp only [Act.put, List.setIfInBounds_toArray, List.set_cons_zero, List.set_cons_succ]
  refine held_take (i := 18) (v := undef) rfl (by kernel_rfl) (fun _ _ _ h => h) (.inr ⟨rfl, rfl⟩) hS ?_
  try simp only [Act.put, List.setIfInBounds_toArray, List.set_cons_zero, List.set_cons_succ]
  refine held_take (i := 19) (v := undef) rfl (by kernel_rfl) (fun _ _ _ h => h) (.inr ⟨rfl, rfl⟩) hS ?_
  try simp only [Act.put, List.setIfInBounds_toArray, List.set_cons_zero, List.set_cons_succ]
  refine held_take (i := 20) (v := undef) rfl (by kernel_rfl) (fun _ _ _ h => h) (.inr ⟨rfl, rfl⟩) hS ?_
  try simp only [Act.put, List.setIfInBounds_toArray, List.set_cons_zero, List.set_cons_succ]
  refine held_take (i := 21) (v := undef) rfl (by kernel_rfl) (fun _ _ _ h => h) (.inr ⟨rfl, rfl⟩) hS ?_
  try simp only [Act.put, List.setIfInBounds_toArray, List.set_cons_zero, List.set_cons_succ]
  refine held_take (i := 22) (v := undef) rfl (by kernel_rfl) (fun _ _ _ h => h) (.inr ⟨rfl, rfl⟩) hS ?_
  try simp only [Act.put, List.setIfInBounds_toArray, List.set_cons_zero, List.set_cons_succ]
  refine held_take (i := 23) (v := undef) rfl (by kernel_rfl) (fun _ _ _ h => h) (.inr ⟨rfl, rfl⟩) hS ?_
  try simp only [Act.put, List.setIfInBounds_toArray, List.set_cons_zero, List.set_cons_succ]
  refine held_take (i := 24) (v := undef) rfl (by kernel_rfl) (fun _ _ _ h => h) (.inr ⟨rfl, rfl⟩) hS ?_
  try simp only [Act.put, List.setIfInBounds_toArray, List.set_cons_zero, List.set_cons_succ]
  refine held_take (i := 25) (v := undef) rfl (by kernel_rfl) (fun _ _ _ h => h) (.inr ⟨rfl, rfl⟩) hS ?_
  try simp only [Act.put, List.setIfInBounds_toArray, List.set_cons_zero, List.set_cons_succ]
  refine held_take (i := 26) (v := undef) rfl (by kernel_rfl) (fun _ _ _ h => h) (.inr ⟨rfl, rfl⟩) hS ?_
  try simp only [Act.put, List.setIfInBounds_toArray, List.set_cons_zero, List.set_cons_succ]
  refine held_take (i := 27) (v := undef) rfl (by kernel_rfl) (fun _ _ _ h => h) (.inr ⟨rfl, rfl⟩) hS ?_
  try simp only [Act.put, List.setIfInBounds_toArray, List.set_cons_zero, List.set_cons_succ]
  refine held_take (i := 28) (v := .bool true) rfl (by kernel_rfl) (fun _ _ _ h => h) (.inl ⟨rfl, fun w hS => ?_⟩) hS ?_
  · obtain ⟨-, q0, q1, q2, q3, q4, q5⟩ := hS
    go_simp
  try simp only [Act.put, List.setIfInBounds_toArray, List.set_cons_zero, List.set_cons_succ]
  refine wpAnyH_done (by kernel_rfl) ?_ _
  refine NoPanic.normal ?_
  exact hQ.out _ _ _ _ _ _ _ _ _ _ _ _ _ _ _ _ _ _ _ _ _ _ _ _ _ _ _ _ _ hS.1
set_option maxHeartbeats 4000000 in
set_option maxRecDepth 60000 in
theorem rs_6b (t0 t1 t4 t6 t7 t8 t9 t10 t11 t12 t13 t14 t15 t16 t17 t18 t19 t20 t21 t22 t23 t24 t25 t26 t27 t28 t29 t30 t31 t32 t33 t34 t35 t36 t37 t38 t39 t40 t41 t42 t43 t44 t45 t46 t47 t48 t49 t50 t51 t52 t53 t54 t55 t56 t57 t58 t59 t60 t61 t62 t63 t64 t65 t66 t67 t68 t69 t70 t71 t72 t73 t74 t75 t76 t77 t78 t79 t80 t81 t82 t83 : Value) (b2 b3 p1 o1 q1 r1 k N c1 c2 n c n2 d2 : Nat) (a a2 : Option Addr) (s1 s2 : ByteArray) (P : Prop) (w1 : World) (Q : Exit → Act → World → Prop)
    (z0 : w1.cell? ⟨b2, 0, none⟩ = some (.slice (some ⟨p1, o1, none⟩) N c1)) (z1 : w1.cell? ⟨b3, 0, none⟩ = some (.slice (some ⟨q1, r1, none⟩) N c2)) (z2 : w1.cell? ⟨p1, o1 + k * 2, none⟩ = some (.string s1)) (z3 : w1.cell? ⟨p1, o1 + k * 2 + 1, none⟩ = some (.slice a n c)) (z4 : w1.cell? ⟨q1, r1 + k * 2, none⟩ = some (.string s2)) (z5 : w1.cell? ⟨q1, r1 + k * 2 + 1, none⟩ = some (.slice a2 n2 d2)) (hk0 : (0 : Int) ≤ (k : Int)) (hkN : (k : Int) < (N : Int)) (hE : (s1.toList == s2.toList) = true) (HP : Hid (∀ W, Below w1.heap.size w1 W → Calls Tryz.prog 23 #[.slice a n c, .slice a2 n2 d2] W fun e w' => BoolPost P W e w'))
    (hQ : Hid (∀ (u37 u38 u39 u40 u41 u42 u43 u44 u45 u46 u47 u48 u49 u50 u51 u52 u53 u54 u55 u56 u57 u58 u59 u60 u61 u62 u63 u64 : Value) (q : Bool) (wC : World), (q = true ↔ P) → Below w1.heap.size w1 wC → Q .normal ⟨#[t0, t1, .pointer (some ⟨b2, 0, none⟩), .pointer (some ⟨b3, 0, none⟩), t4, .int .i64 (k : Int), t6, t7, t8, t9, t10, t11, t12, t13, t14, t15, t16, t17, t18, t19, t20, t21, t22, t23, t24, t25, t26, t27, t28, t29, t30, t31, t32, t33, t34, t35, t36, u37, u38, u39, u40, u41, u42, u43, u44, u45, u46, u47, u48, u49, u50, u51, u52, u53, u54, u55, u56, u57, u58, u59, u60, u61, u62, u63, u64, .bool (!q), t66, t67, t68, t69, t70, t71, t72, t73, t74, t75, t76, t77, t78, t79, t80, t81, t82, t83], []⟩ wC)) :
    Code.wp Tryz.prog ((Tryz.f15.body.bind (regionOf 6)).getD .skip) Q ⟨#[t0, t1, .pointer (some ⟨b2, 0, none⟩), .pointer (some ⟨b3, 0, none⟩), t4, .int .i64 (k : Int), t6, t7, t8, t9, t10, t11, t12, t13, t14, t15, t16, t17, t18, t19, t20, t21, t22, t23, t24, t25, t26, t27, t28, t29, t30, t31, t32, t33, t34, t35, t36, t37, t38, t39, t40, t41, t42, t43, t44, t45, t46, t47, t48, t49, t50, t51, t52, t53, t54, t55, t56, t57, t58, t59, t60, t61, t62, t63, t64, t65, t66, t67, t68, t69, t70, t71, t72, t73, t74, t75, t76, t77, t78, t79, t80, t81, t82, t83], []⟩ w1 := by
  have hS : (fun w' => Below w1.heap.size w1 w' ∧ w'.cell? ⟨b2, 0, none⟩ = some (.slice (some ⟨p1, o1, none⟩) N c1) ∧ w'.cell? ⟨b3, 0, none⟩ = some (.slice (some ⟨q1, r1, none⟩) N c2) ∧ w'.cell? ⟨p1, o1 + k * 2, none⟩ = some (.string s1) ∧ w'.cell? ⟨p1, o1 + k * 2 + 1, none⟩ = some (.slice a n c) ∧ w'.cell? ⟨q1, r1 + k * 2, none⟩ = some (.string s2) ∧ w'.cell? ⟨q1, r1 + k * 2 + 1, none⟩ = some (.slice a2 n2 d2)) w1.drew := ⟨below_drew _, z0, z1, z2, z3, z4, z5⟩
  conv => arg 2; whnf
  refine held_start (S := fun w' => Below w1.heap.size w1 w' ∧ w'.cell? ⟨b2, 0, none⟩ = some (.slice (some ⟨p1, o1, none⟩) N c1) ∧ w'.cell? ⟨b3, 0, none⟩ = some (.slice (some ⟨q1, r1, none⟩) N c2) ∧ w'.cell? ⟨p1, o1 + k * 2, none⟩ = some (.string s1) ∧ w'.cell? ⟨p1, o1 + k * 2 + 1, none⟩ = some (.slice a n c) ∧ w'.cell? ⟨q1, r1 + k * 2, none⟩ = some (.string s2) ∧ w'.cell? ⟨q1, r1 + k * 2 + 1, none⟩ = some (.slice a2 n2 d2)) mixed9 ?_
  refine held_take (i := 0) (v := .pointer (some ⟨b2, 0, none⟩)) rfl (by kernel_rfl) (fun _ _ _ h => h) (.inl ⟨rfl, fun w hS => ?_⟩) hS ?_
  · obtain ⟨-, q0, q1, q2, q3, q4, q5⟩ := hS
    go_simp
  try simp only [Act.put, List.setIfInBounds_toArray, List.set_cons_zero, List.set_cons_succ]
  refine held_take (i := 1) (v := .slice (some ⟨p1, o1, none⟩) N c1) rfl (by kernel_rfl) (fun _ _ _ h => h) (.inl ⟨rfl, fun w hS => ?_⟩) hS ?_
  · obtain ⟨-, q0, q1, q2, q3, q4, q5⟩ := hS
    go_simp
  try simp only [Act.put, List.setIfInBounds_toArray, List.set_cons_zero, List.set_cons_succ]
  refine held_take (i := 2) (v := .int .i64 (k : Int)) rfl (by kernel_rfl) (fun _ _ _ h => h) (.inl ⟨rfl, fun w hS => ?_⟩) hS ?_
  · obtain ⟨-, q0, q1, q2, q3, q4, q5⟩ := hS
    go_simp
  try simp only [Act.put, List.setIfInBounds_toArray, List.set_cons_zero, List.set_cons_succ]
  refine held_take (i := 3) (v := .pointer (some ⟨p1, o1 + k * 2, none⟩)) rfl (by kernel_rfl) (fun _ _ _ h => h) (.inl ⟨rfl, fun w hS => ?_⟩) hS ?_
  · obtain ⟨-, q0, q1, q2, q3, q4, q5⟩ := hS
    go_simp
  try simp only [Act.put, List.setIfInBounds_toArray, List.set_cons_zero, List.set_cons_succ]
  refine held_take (i := 4) (v := .pointer (some ⟨p1, o1 + k * 2, none⟩)) rfl (by kernel_rfl) (fun _ _ _ h => h) (.inl ⟨rfl, fun w hS => ?_⟩) hS ?_
  · obtain ⟨-, q0, q1, q2, q3, q4, q5⟩ := hS
    go_simp
  try simp only [Act.put, List.setIfInBounds_toArray, List.set_cons_zero, List.set_cons_succ]
  refine held_take (i := 5) (v := .string s1) rfl (by kernel_rfl) (fun _ _ _ h => h) (.inl ⟨rfl, fun w hS => ?_⟩) hS ?_
  · obtain ⟨-, q0, q1, q2, q3, q4, q5⟩ := hS
    go_simp
  try simp only [Act.put, List.setIfInBounds_toArray, List.set_cons_zero, List.set_cons_succ]
  refine held_take (i := 6) (v := .pointer (some ⟨b3, 0, none⟩)) rfl (by kernel_rfl) (fun _ _ _ h => h) (.inl ⟨rfl, fun w hS => ?_⟩) hS ?_
  · obtain ⟨-, q0, q1, q2, q3, q4, q5⟩ := hS
    go_simp
  try simp only [Act.put, List.setIfInBounds_toArray, List.set_cons_zero, List.set_cons_succ]
  refine held_take (i := 7) (v := .slice (some ⟨q1, r1, none⟩) N c2) rfl (by kernel_rfl) (fun _ _ _ h => h) (.inl ⟨rfl, fun w hS => ?_⟩) hS ?_
  · obtain ⟨-, q0, q1, q2, q3, q4, q5⟩ := hS
    go_simp
  try simp only [Act.put, List.setIfInBounds_toArray, List.set_cons_zero, List.set_cons_succ]
  refine held_take (i := 8) (v := .int .i64 (k : Int)) rfl (by kernel_rfl) (fun _ _ _ h => h) (.inl ⟨rfl, fun w hS => ?_⟩) hS ?_
  · obtain ⟨-, q0, q1, q2, q3, q4, q5⟩ := hS
    go_simp
  try simp only [Act.put, List.setIfInBounds_toArray, List.set_cons_zero, List.set_cons_succ]
  refine held_take (i := 9) (v := .pointer (some ⟨q1, r1 + k * 2, none⟩)) rfl (by kernel_rfl) (fun _ _ _ h => h) (.inl ⟨rfl, fun w hS => ?_⟩) hS ?_
  · obtain ⟨-, q0, q1, q2, q3, q4, q5⟩ := hS
    go_simp
  try simp only [Act.put, List.setIfInBounds_toArray, List.set_cons_zero, List.set_cons_succ]
  refine held_take (i := 10) (v := .pointer (some ⟨q1, r1 + k * 2, none⟩)) rfl (by kernel_rfl) (fun _ _ _ h => h) (.inl ⟨rfl, fun w hS => ?_⟩) hS ?_
  · obtain ⟨-, q0, q1, q2, q3, q4, q5⟩ := hS
    go_simp
  try simp only [Act.put, List.setIfInBounds_toArray, List.set_cons_zero, List.set_cons_succ]
  refine held_take (i := 11) (v := .string s2) rfl (by kernel_rfl) (fun _ _ _ h => h) (.inl ⟨rfl, fun w hS => ?_⟩) hS ?_
  · obtain ⟨-, q0, q1, q2, q3, q4, q5⟩ := hS
    go_simp
  try simp only [Act.put, List.setIfInBounds_toArray, List.set_cons_zero, List.set_cons_succ]
  refine held_take (i := 12) (v := .bool false) rfl (by kernel_rfl) (fun _ _ _ h => h) (.inl ⟨rfl, fun w hS => ?_⟩) hS ?_
  · obtain ⟨-, q0, q1, q2, q3, q4, q5⟩ := hS
    go_simp
  try simp only [Act.put, List.setIfInBounds_toArray, List.set_cons_zero, List.set_cons_succ]
  refine held_take (i := 13) (v := .bool false) rfl (by kernel_rfl) (fun _ _ _ h => h) (.inl ⟨rfl, fun w hS => ?_⟩) hS ?_
  · obtain ⟨-, q0, q1, q2, q3, q4, q5⟩ := hS
    go_simp
  try simp only [Act.put, List.setIfInBounds_toArray, List.set_cons_zero, List.set_cons_succ]
  refine held_take (i := 14) (v := .pointer (some ⟨b2, 0, none⟩)) rfl (by kernel_rfl) (fun _ _ _ h => h) (.inl ⟨rfl, fun w hS => ?_⟩) hS ?_
  · obtain ⟨-, q0, q1, q2, q3, q4, q5⟩ := hS
    go_simp
  try simp only [Act.put, List.setIfInBounds_toArray, List.set_cons_zero, List.set_cons_succ]
  refine held_take (i := 15) (v := .slice (some ⟨p1, o1, none⟩) N c1) rfl (by kernel_rfl) (fun _ _ _ h => h) (.inl ⟨rfl, fun w hS => ?_⟩) hS ?_
  · obtain ⟨-, q0, q1, q2, q3, q4, q5⟩ := hS
    go_simp
  try simp only [Act.put, List.setIfInBounds_toArray, List.set_cons_zero, List.set_cons_succ]
  refine held_take (i := 16) (v := .int .i64 (k : Int)) rfl (by kernel_rfl) (fun _ _ _ h => h) (.inl ⟨rfl, fun w hS => ?_⟩) hS ?_
  · obtain ⟨-, q0, q1, q2, q3, q4, q5⟩ := hS
    go_simp
  try simp only [Act.put, List.setIfInBounds_toArray, List.set_cons_zero, List.set_cons_succ]
  refine held_take (i := 17) (v := .pointer (some ⟨p1, o1 + k * 2, none⟩)) rfl (by kernel_rfl) (fun _ _ _ h => h) (.inl ⟨rfl, fun w hS => ?_⟩) hS ?_
  · obtain ⟨-, q0, q1, q2, q3, q4, q5⟩ := hS
    go_simp
  try simp only [Act.put, List.setIfInBounds_toArray, List.set_cons_zero, List.set_cons_succ]
  refine held_take (i := 18) (v := .pointer (some ⟨p1, o1 + k * 2 + 1, none⟩)) rfl (by kernel_rfl) (fun _ _ _ h => h) (.inl ⟨rfl, fun w hS => ?_⟩) hS ?_
  · obtain ⟨-, q0, q1, q2, q3, q4, q5⟩ := hS
    go_simp
  try simp only [Act.put, List.setIfInBounds_toArray, List.set_cons_zero, List.set_cons_succ]
  refine held_take (i := 19) (v := .slice a n c) rfl (by kernel_rfl) (fun _ _ _ h => h) (.inl ⟨rfl, fun w hS => ?_⟩) hS ?_
  · obtain ⟨-, q0, q1, q2, q3, q4, q5⟩ := hS
    go_simp
  try simp only [Act.put, List.setIfInBounds_toArray, List.set_cons_zero, List.set_cons_succ]
  refine held_take (i := 20) (v := .pointer (some ⟨b3, 0, none⟩)) rfl (by kernel_rfl) (fun _ _ _ h => h) (.inl ⟨rfl, fun w hS => ?_⟩) hS ?_
  · obtain ⟨-, q0, q1, q2, q3, q4, q5⟩ := hS
    go_simp
  try simp only [Act.put, List.setIfInBounds_toArray, List.set_cons_zero, List.set_cons_succ]
  refine held_take (i := 21) (v := .slice (some ⟨q1, r1, none⟩) N c2) rfl (by kernel_rfl) (fun _ _ _ h => h) (.inl ⟨rfl, fun w hS => ?_⟩) hS ?_
  · obtain ⟨-, q0, q1, q2, q3, q4, q5⟩ := hS
    go_simp
  try simp only [Act.put, List.setIfInBounds_toArray, List.set_cons_zero, List.set_cons_succ]
  refine held_take (i := 22) (v := .int .i64 (k : Int)) rfl (by kernel_rfl) (fun _ _ _ h => h) (.inl ⟨rfl, fun w hS => ?_⟩) hS ?_
  · obtain ⟨-, q0, q1, q2, q3, q4, q5⟩ := hS
    go_simp
  try simp only [Act.put, List.setIfInBounds_toArray, List.set_cons_zero, List.set_cons_succ]
  refine held_take (i := 23) (v := .pointer (some ⟨q1, r1 + k * 2, none⟩)) rfl (by kernel_rfl) (fun _ _ _ h => h) (.inl ⟨rfl, fun w hS => ?_⟩) hS ?_
  · obtain ⟨-, q0, q1, q2, q3, q4, q5⟩ := hS
    go_simp
  try simp only [Act.put, List.setIfInBounds_toArray, List.set_cons_zero, List.set_cons_succ]
  refine held_take (i := 24) (v := .pointer (some ⟨q1, r1 + k * 2 + 1, none⟩)) rfl (by kernel_rfl) (fun _ _ _ h => h) (.inl ⟨rfl, fun w hS => ?_⟩) hS ?_
  · obtain ⟨-, q0, q1, q2, q3, q4, q5⟩ := hS
    go_simp
  try simp only [Act.put, List.setIfInBounds_toArray, List.set_cons_zero, List.set_cons_succ]
  refine held_take (i := 25) (v := .slice a2 n2 d2) rfl (by kernel_rfl) (fun _ _ _ h => h) (.inl ⟨rfl, fun w hS => ?_⟩) hS ?_
  · obtain ⟨-, q0, q1, q2, q3, q4, q5⟩ := hS
    go_simp
  try simp only [Act.put, List.setIfInBounds_toArray, List.set_cons_zero, List.set_cons_succ]
  refine held_one (i := 26) (by kernel_rfl) rfl rfl ?_
  intro K hK
  go_simp
  go_at_call 23
  refine (HP.out _ hS.1).mono ?_
  rintro e w2 ⟨hb2, q, rfl, hq⟩
  have hN : (fun w' => Below w1.heap.size w1 w' ∧ w'.cell? ⟨b2, 0, none⟩ = some (.slice (some ⟨p1, o1, none⟩) N c1) ∧ w'.cell? ⟨b3, 0, none⟩ = some (.slice (some ⟨q1, r1, none⟩) N c2) ∧ w'.cell? ⟨p1, o1 + k * 2, none⟩ = some (.string s1) ∧ w'.cell? ⟨p1, o1 + k * 2 + 1, none⟩ = some (.slice a n c) ∧ w'.cell? ⟨q1, r1 + k * 2, none⟩ = some (.string s2) ∧ w'.cell? ⟨q1, r1 + k * 2 + 1, none⟩ = some (.slice a2 n2 d2)) w2 := ⟨below2 hS.1 hb2, kept3 hS.2.1 hb2, kept3 hS.2.2.1 hb2, kept3 hS.2.2.2.1 hb2, kept3 hS.2.2.2.2.1 hb2, kept3 hS.2.2.2.2.2.1 hb2, kept3 hS.2.2.2.2.2.2 hb2⟩
  refine hK.out _ _ (hN) ?_
  have hS9 := hN
  clear hK hS
  have hS := hS9
  clear hS9
  try simp only [Act.put, List.setIfInBounds_toArray, List.set_cons_zero, List.set_cons_succ]
  refine held_take (i := 27) (v := .bool (!q)) rfl (by kernel_rfl) (fun _ _ _ h => h) (.inl ⟨rfl, fun w hS => ?_⟩) hS ?_
  · obtain ⟨-, q0, q1, q2, q3, q4, q5⟩ := hS
    go_simp
  try simp only [Act.put, List.setIfInBounds_toArray, List.set_cons_zero, List.set_cons_succ]
  refine held_take (i := 28) (v := .bool (!q)) rfl (by kernel_rfl) (fun _ _ _ h => h) (.inl ⟨rfl, fun w hS => ?_⟩) hS ?_
  · obtain ⟨-, q0, q1, q2, q3, q4, q5⟩ := hS
    go_simp
  try simp only [Act.put, List.setIfInBounds_toArray, List.set_cons_zero, List.set_cons_succ]
  refine wpAnyH_done (by kernel_rfl) ?_ _
  refine NoPanic.normal ?_
  exact hQ.out _ _ _ _ _ _ _ _ _ _ _ _ _ _ _ _ _ _ _ _ _ _ _ _ _ _ _ _ q _ hq hS.1
set_option maxHeartbeats 4000000 in
set_option maxRecDepth 60000 in
theorem rs_11a (t0 t1 t4 t5 t7 t8 t9 t10 t11 t12 t13 t14 t15 t16 t17 t18 t19 t20 t21 t22 t23 t24 t25 t26 t27 t28 t29 t30 t31 t32 t33 t34 t35 t36 t37 t38 t39 t40 t41 t42 t43 t44 t45 t46 t47 t48 t49 t50 t51 t52 t53 t54 t55 t56 t57 t58 t59 t60 t61 t62 t63 t64 t65 t66 t67 t68 t69 t70 t71 t72 t73 t74 t75 t76 t77 t78 t79 t80 t81 t82 t83 : Value) (b2 b3 p1 o1 q1 r1 k N c1 c2 : Nat) (x1 x2 x3 x5 y1 y2 y3 y5 : Int) (x4 y4 : Bool) (w1 : World) (Q : Exit → Act → World → Prop)
    (z0 : w1.cell? ⟨b2, 1, none⟩ = some (.slice (some ⟨p1, o1, none⟩) N c1)) (z1 : w1.cell? ⟨b3, 1, none⟩ = some (.slice (some ⟨q1, r1, none⟩) N c2)) (z2 : DnCells w1 p1 (o1 + k * 5) ⟨x1, x2, x3, x4, x5⟩) (z3 : DnCells w1 q1 (r1 + k * 5) ⟨y1, y2, y3, y4, y5⟩) (hk0 : (0 : Int) ≤ (k : Int)) (hkN : (k : Int) < (N : Int)) (hne : ¬ (x1 = y1 ∧ x2 = y2 ∧ x3 = y3 ∧ x4 = y4 ∧ x5 = y5))
    (hQ : Hid (∀ (u73 u74 u75 u76 u77 u78 u79 u80 u81 u82 : Value) (wC : World), Below w1.heap.size w1 wC → Q .normal ⟨#[t0, t1, .pointer (some ⟨b2, 0, none⟩), .pointer (some ⟨b3, 0, none⟩), t4, t5, .int .i64 (k : Int), t7, t8, t9, t10, t11, t12, t13, t14, t15, t16, t17, t18, t19, t20, t21, t22, t23, t24, t25, t26, t27, t28, t29, t30, t31, t32, t33, t34, t35, t36, t37, t38, t39, t40, t41, t42, t43, t44, t45, t46, t47, t48, t49, t50, t51, t52, t53, t54, t55, t56, t57, t58, t59, t60, t61, t62, t63, t64, t65, t66, t67, t68, t69, t70, t71, t72, u73, u74, u75, u76, u77, u78, u79, u80, u81, u82, .bool true], []⟩ wC)) :
    Code.wp Tryz.prog ((Tryz.f15.body.bind (regionOf 11)).getD .skip) Q ⟨#[t0, t1, .pointer (some ⟨b2, 0, none⟩), .pointer (some ⟨b3, 0, none⟩), t4, t5, .int .i64 (k : Int), t7, t8, t9, t10, t11, t12, t13, t14, t15, t16, t17, t18, t19, t20, t21, t22, t23, t24, t25, t26, t27, t28, t29, t30, t31, t32, t33, t34, t35, t36, t37, t38, t39, t40, t41, t42, t43, t44, t45, t46, t47, t48, t49, t50, t51, t52, t53, t54, t55, t56, t57, t58, t59, t60, t61, t62, t63, t64, t65, t66, t67, t68, t69, t70, t71, t72, t73, t74, t75, t76, t77, t78, t79, t80, t81, t82, t83], []⟩ w1 := by
  have hS : (fun w' => Below w1.heap.size w1 w' ∧ w'.cell? ⟨b2, 1, none⟩ = some (.slice (some ⟨p1, o1, none⟩) N c1) ∧ w'.cell? ⟨b3, 1, none⟩ = some (.slice (some ⟨q1, r1, none⟩) N c2) ∧ DnCells w' p1 (o1 + k * 5) ⟨x1, x2, x3, x4, x5⟩ ∧ DnCells w' q1 (r1 + k * 5) ⟨y1, y2, y3, y4, y5⟩) w1.drew := ⟨below_drew _, z0, z1, z2, z3⟩
  conv => arg 2; whnf
  refine held_start (S := fun w' => Below w1.heap.size w1 w' ∧ w'.cell? ⟨b2, 1, none⟩ = some (.slice (some ⟨p1, o1, none⟩) N c1) ∧ w'.cell? ⟨b3, 1, none⟩ = some (.slice (some ⟨q1, r1, none⟩) N c2) ∧ DnCells w' p1 (o1 + k * 5) ⟨x1, x2, x3, x4, x5⟩ ∧ DnCells w' q1 (r1 + k * 5) ⟨y1, y2, y3, y4, y5⟩) mixed9 ?_
  refine held_take (i := 0) (v := .pointer (some ⟨b2, 1, none⟩)) rfl (by kernel_rfl) (fun _ _ _ h => h) (.inl ⟨rfl, fun w hS => ?_⟩) hS ?_
  · obtain ⟨-, q0, q1, q2, q3⟩ := hS
    go_simp
  try simp only [Act.put, List.setIfInBounds_toArray, List.set_cons_zero, List.set_cons_succ]
  refine held_take (i := 1) (v := .slice (some ⟨p1, o1, none⟩) N c1) rfl (by kernel_rfl) (fun _ _ _ h => h) (.inl ⟨rfl, fun w hS => ?_⟩) hS ?_
  · obtain ⟨-, q0, q1, q2, q3⟩ := hS
    go_simp
  try simp only [Act.put, List.setIfInBounds_toArray, List.set_cons_zero, List.set_cons_succ]
  refine held_take (i := 2) (v := .int .i64 (k : Int)) rfl (by kernel_rfl) (fun _ _ _ h => h) (.inl ⟨rfl, fun w hS => ?_⟩) hS ?_
  · obtain ⟨-, q0, q1, q2, q3⟩ := hS
    go_simp
  try simp only [Act.put, List.setIfInBounds_toArray, List.set_cons_zero, List.set_cons_succ]
  refine held_take (i := 3) (v := .pointer (some ⟨p1, o1 + k * 5, none⟩)) rfl (by kernel_rfl) (fun _ _ _ h => h) (.inl ⟨rfl, fun w hS => ?_⟩) hS ?_
  · obtain ⟨-, q0, q1, q2, q3⟩ := hS
    go_simp
  try simp only [Act.put, List.setIfInBounds_toArray, List.set_cons_zero, List.set_cons_succ]
  refine held_take (i := 4) (v := .agg #[.int .i64 x1, .int .i64 x2, .int .i64 x3, .bool x4, .int .i64 x5]) rfl (by kernel_rfl) (fun _ _ _ h => h) (.inl ⟨rfl, fun w hS => ?_⟩) hS ?_
  · obtain ⟨-, q0, q1, q2, q3⟩ := hS
    obtain ⟨g0, g1, g2, g3, g4⟩ := q2
    simp only at g0 g1 g2 g3 g4
    go_simp
  try simp only [Act.put, List.setIfInBounds_toArray, List.set_cons_zero, List.set_cons_succ]
  refine held_take (i := 5) (v := .pointer (some ⟨b3, 1, none⟩)) rfl (by kernel_rfl) (fun _ _ _ h => h) (.inl ⟨rfl, fun w hS => ?_⟩) hS ?_
  · obtain ⟨-, q0, q1, q2, q3⟩ := hS
    go_simp
  try simp only [Act.put, List.setIfInBounds_toArray, List.set_cons_zero, List.set_cons_succ]
  refine held_take (i := 6) (v := .slice (some ⟨q1, r1, none⟩) N c2) rfl (by kernel_rfl) (fun _ _ _ h => h) (.inl ⟨rfl, fun w hS => ?_⟩) hS ?_
  · obtain ⟨-, q0, q1, q2, q3⟩ := hS
    go_simp
  try simp only [Act.put, List.setIfInBounds_toArray, List.set_cons_zero, List.set_cons_succ]
  refine held_take (i := 7) (v := .int .i64 (k : Int)) rfl (by kernel_rfl) (fun _ _ _ h => h) (.inl ⟨rfl, fun w hS => ?_⟩) hS ?_
  · obtain ⟨-, q0, q1, q2, q3⟩ := hS
    go_simp
  try simp only [Act.put, List.setIfInBounds_toArray, List.set_cons_zero, List.set_cons_succ]
  refine held_take (i := 8) (v := .pointer (some ⟨q1, r1 + k * 5, none⟩)) rfl (by kernel_rfl) (fun _ _ _ h => h) (.inl ⟨rfl, fun w hS => ?_⟩) hS ?_
  · obtain ⟨-, q0, q1, q2, q3⟩ := hS
    go_simp
  try simp only [Act.put, List.setIfInBounds_toArray, List.set_cons_zero, List.set_cons_succ]
  refine held_take (i := 9) (v := .agg #[.int .i64 y1, .int .i64 y2, .int .i64 y3, .bool y4, .int .i64 y5]) rfl (by kernel_rfl) (fun _ _ _ h => h) (.inl ⟨rfl, fun w hS => ?_⟩) hS ?_
  · obtain ⟨-, q0, q1, q2, q3⟩ := hS
    obtain ⟨g0, g1, g2, g3, g4⟩ := q3
    simp only at g0 g1 g2 g3 g4
    go_simp
  try simp only [Act.put, List.setIfInBounds_toArray, List.set_cons_zero, List.set_cons_succ]
  refine held_take (i := 10) (v := .bool true) rfl (by kernel_rfl) (fun _ _ _ h => h) (.inl ⟨rfl, fun w hS => ?_⟩) hS ?_
  · clear hS
    go_simp
    intro h1 h2 h3 h4 h5
    exact hne ⟨h1, h2, h3, h4, h5⟩
  try simp only [Act.put, List.setIfInBounds_toArray, List.set_cons_zero, List.set_cons_succ]
  refine wpAnyH_done (by kernel_rfl) ?_ _
  refine NoPanic.normal ?_
  exact hQ.out _ _ _ _ _ _ _ _ _ _ _ hS.1
set_option maxHeartbeats 4000000 in
set_option maxRecDepth 60000 in
theorem rs_11b (t0 t1 t4 t5 t7 t8 t9 t10 t11 t12 t13 t14 t15 t16 t17 t18 t19 t20 t21 t22 t23 t24 t25 t26 t27 t28 t29 t30 t31 t32 t33 t34 t35 t36 t37 t38 t39 t40 t41 t42 t43 t44 t45 t46 t47 t48 t49 t50 t51 t52 t53 t54 t55 t56 t57 t58 t59 t60 t61 t62 t63 t64 t65 t66 t67 t68 t69 t70 t71 t72 t73 t74 t75 t76 t77 t78 t79 t80 t81 t82 t83 : Value) (b2 b3 p1 o1 q1 r1 k N c1 c2 : Nat) (x1 x2 x3 x5 y1 y2 y3 y5 : Int) (x4 y4 : Bool) (w1 : World) (Q : Exit → Act → World → Prop)
    (z0 : w1.cell? ⟨b2, 1, none⟩ = some (.slice (some ⟨p1, o1, none⟩) N c1)) (z1 : w1.cell? ⟨b3, 1, none⟩ = some (.slice (some ⟨q1, r1, none⟩) N c2)) (z2 : DnCells w1 p1 (o1 + k * 5) ⟨x1, x2, x3, x4, x5⟩) (z3 : DnCells w1 q1 (r1 + k * 5) ⟨y1, y2, y3, y4, y5⟩) (hk0 : (0 : Int) ≤ (k : Int)) (hkN : (k : Int) < (N : Int)) (hE : x1 = y1 ∧ x2 = y2 ∧ x3 = y3 ∧ x4 = y4 ∧ x5 = y5)
    (hQ : Hid (∀ (u73 u74 u75 u76 u77 u78 u79 u80 u81 u82 : Value) (wC : World), Below w1.heap.size w1 wC → Q .normal ⟨#[t0, t1, .pointer (some ⟨b2, 0, none⟩), .pointer (some ⟨b3, 0, none⟩), t4, t5, .int .i64 (k : Int), t7, t8, t9, t10, t11, t12, t13, t14, t15, t16, t17, t18, t19, t20, t21, t22, t23, t24, t25, t26, t27, t28, t29, t30, t31, t32, t33, t34, t35, t36, t37, t38, t39, t40, t41, t42, t43, t44, t45, t46, t47, t48, t49, t50, t51, t52, t53, t54, t55, t56, t57, t58, t59, t60, t61, t62, t63, t64, t65, t66, t67, t68, t69, t70, t71, t72, u73, u74, u75, u76, u77, u78, u79, u80, u81, u82, .bool false], []⟩ wC)) :
    Code.wp Tryz.prog ((Tryz.f15.body.bind (regionOf 11)).getD .skip) Q ⟨#[t0, t1, .pointer (some ⟨b2, 0, none⟩), .pointer (some ⟨b3, 0, none⟩), t4, t5, .int .i64 (k : Int), t7, t8, t9, t10, t11, t12, t13, t14, t15, t16, t17, t18, t19, t20, t21, t22, t23, t24, t25, t26, t27, t28, t29, t30, t31, t32, t33, t34, t35, t36, t37, t38, t39, t40, t41, t42, t43, t44, t45, t46, t47, t48, t49, t50, t51, t52, t53, t54, t55, t56, t57, t58, t59, t60, t61, t62, t63, t64, t65, t66, t67, t68, t69, t70, t71, t72, t73, t74, t75, t76, t77, t78, t79, t80, t81, t82, t83], []⟩ w1 := by
  have hS : (fun w' => Below w1.heap.size w1 w' ∧ w'.cell? ⟨b2, 1, none⟩ = some (.slice (some ⟨p1, o1, none⟩) N c1) ∧ w'.cell? ⟨b3, 1, none⟩ = some (.slice (some ⟨q1, r1, none⟩) N c2) ∧ DnCells w' p1 (o1 + k * 5) ⟨x1, x2, x3, x4, x5⟩ ∧ DnCells w' q1 (r1 + k * 5) ⟨y1, y2, y3, y4, y5⟩) w1.drew := ⟨below_drew _, z0, z1, z2, z3⟩
  conv => arg 2; whnf
  refine held_start (S := fun w' => Below w1.heap.size w1 w' ∧ w'.cell? ⟨b2, 1, none⟩ = some (.slice (some ⟨p1, o1, none⟩) N c1) ∧ w'.cell? ⟨b3, 1, none⟩ = some (.slice (some ⟨q1, r1, none⟩) N c2) ∧ DnCells w' p1 (o1 + k * 5) ⟨x1, x2, x3, x4, x5⟩ ∧ DnCells w' q1 (r1 + k * 5) ⟨y1, y2, y3, y4, y5⟩) mixed9 ?_
  refine held_take (i := 0) (v := .pointer (some ⟨b2, 1, none⟩)) rfl (by kernel_rfl) (fun _ _ _ h => h) (.inl ⟨rfl, fun w hS => ?_⟩) hS ?_
  · obtain ⟨-, q0, q1, q2, q3⟩ := hS
    go_simp
  try simp only [Act.put, List.setIfInBounds_toArray, List.set_cons_zero, List.set_cons_succ]
  refine held_take (i := 1) (v := .slice (some ⟨p1, o1, none⟩) N c1) rfl (by kernel_rfl) (fun _ _ _ h => h) (.inl ⟨rfl, fun w hS => ?_⟩) hS ?_
  · obtain ⟨-, q0, q1, q2, q3⟩ := hS
    go_simp
  try simp only [Act.put, List.setIfInBounds_toArray, List.set_cons_zero, List.set_cons_succ]
  refine held_take (i := 2) (v := .int .i64 (k : Int)) rfl (by kernel_rfl) (fun _ _ _ h => h) (.inl ⟨rfl, fun w hS => ?_⟩) hS ?_
  · obtain ⟨-, q0, q1, q2, q3⟩ := hS
    go_simp
  try simp only [Act.put, List.setIfInBounds_toArray, List.set_cons_zero, List.set_cons_succ]
  refine held_take (i := 3) (v := .pointer (some ⟨p1, o1 + k * 5, none⟩)) rfl (by kernel_rfl) (fun _ _ _ h => h) (.inl ⟨rfl, fun w hS => ?_⟩) hS ?_
  · obtain ⟨-, q0, q1, q2, q3⟩ := hS
    go_simp
  try simp only [Act.put, List.setIfInBounds_toArray, List.set_cons_zero, List.set_cons_succ]
  refine held_take (i := 4) (v := .agg #[.int .i64 x1, .int .i64 x2, .int .i64 x3, .bool x4, .int .i64 x5]) rfl (by kernel_rfl) (fun _ _ _ h => h) (.inl ⟨rfl, fun w hS => ?_⟩) hS ?_
  · obtain ⟨-, q0, q1, q2, q3⟩ := hS
    obtain ⟨g0, g1, g2, g3, g4⟩ := q2
    simp only at g0 g1 g2 g3 g4
    go_simp
  try simp only [Act.put, List.setIfInBounds_toArray, List.set_cons_zero, List.set_cons_succ]
  refine held_take (i := 5) (v := .pointer (some ⟨b3, 1, none⟩)) rfl (by kernel_rfl) (fun _ _ _ h => h) (.inl ⟨rfl, fun w hS => ?_⟩) hS ?_
  · obtain ⟨-, q0, q1, q2, q3⟩ := hS
    go_simp
  try simp only [Act.put, List.setIfInBounds_toArray, List.set_cons_zero, List.set_cons_succ]
  refine held_take (i := 6) (v := .slice (some ⟨q1, r1, none⟩) N c2) rfl (by kernel_rfl) (fun _ _ _ h => h) (.inl ⟨rfl, fun w hS => ?_⟩) hS ?_
  · obtain ⟨-, q0, q1, q2, q3⟩ := hS
    go_simp
  try simp only [Act.put, List.setIfInBounds_toArray, List.set_cons_zero, List.set_cons_succ]
  refine held_take (i := 7) (v := .int .i64 (k : Int)) rfl (by kernel_rfl) (fun _ _ _ h => h) (.inl ⟨rfl, fun w hS => ?_⟩) hS ?_
  · obtain ⟨-, q0, q1, q2, q3⟩ := hS
    go_simp
  try simp only [Act.put, List.setIfInBounds_toArray, List.set_cons_zero, List.set_cons_succ]
  refine held_take (i := 8) (v := .pointer (some ⟨q1, r1 + k * 5, none⟩)) rfl (by kernel_rfl) (fun _ _ _ h => h) (.inl ⟨rfl, fun w hS => ?_⟩) hS ?_
  · obtain ⟨-, q0, q1, q2, q3⟩ := hS
    go_simp
  try simp only [Act.put, List.setIfInBounds_toArray, List.set_cons_zero, List.set_cons_succ]
  refine held_take (i := 9) (v := .agg #[.int .i64 y1, .int .i64 y2, .int .i64 y3, .bool y4, .int .i64 y5]) rfl (by kernel_rfl) (fun _ _ _ h => h) (.inl ⟨rfl, fun w hS => ?_⟩) hS ?_
  · obtain ⟨-, q0, q1, q2, q3⟩ := hS
    obtain ⟨g0, g1, g2, g3, g4⟩ := q3
    simp only at g0 g1 g2 g3 g4
    go_simp
  try simp only [Act.put, List.setIfInBounds_toArray, List.set_cons_zero, List.set_cons_succ]
  refine held_take (i := 10) (v := .bool false) rfl (by kernel_rfl) (fun _ _ _ h => h) (.inl ⟨rfl, fun w hS => ?_⟩) hS ?_
  · clear hS
    obtain ⟨rfl, rfl, rfl, rfl, rfl⟩ := hE
    go_simp
  try simp only [Act.put, List.setIfInBounds_toArray, List.set_cons_zero, List.set_cons_succ]
  refine wpAnyH_done (by kernel_rfl) ?_ _
  refine NoPanic.normal ?_
  exact hQ.out _ _ _ _ _ _ _ _ _ _ _ hS.1
theorem list_ext0 {α : Type} {l m : List α} {d : α} (h : l.length = m.length) (hi : ∀ i, i < l.length → l.getD i d = m.getD i d) : l = m := by
  refine List.ext_getElem h fun i h1 h2 => ?_
  have := hi i h1
  rwa [getDn h1, getDn h2] at this
def ShEq (s s2 : Shf) : Prop := s = s2
set_option maxHeartbeats 4000000 in
set_option maxRecDepth 60000 in
theorem refShSame_any (v v2 : Value) (s s2 : Shf) (w : World) (h : ShAt w v s) (h2 : ShAt w v2 s2) (hl9 : s.ls.length ≤ 1000) (hd9 : s.ds.length ≤ 1000) : Calls Tryz.prog 15 #[v, v2] w fun e w' => BoolPost (ShEq s s2) w e w' := by
  obtain ⟨la, ln, lc, da, dn, dc, rfl, hL, hD⟩ := h
  obtain ⟨la2, ln2, lc2, da2, dn2, dc2, rfl, hL2, hD2⟩ := h2
  obtain ⟨ls, ds, fl⟩ := s
  obtain ⟨ls2, ds2, fl2⟩ := s2
  simp only at hL hD hL2 hD2 ⊢
  have HNE : Hid (∀ W e, ¬ (ls = ls2 ∧ ds = ds2 ∧ fl = fl2) → Below w.heap.size w W → e = .returned (.bool false) → BoolPost (ShEq ⟨ls, ds, fl⟩ ⟨ls2, ds2, fl2⟩) w e W) := Hid.mk9 (fun W e hn hb he => ⟨hb, false, he, ⟨fun h => (by cases h), fun h => (by injection (show (⟨ls, ds, fl⟩ : Shf) = ⟨ls2, ds2, fl2⟩ from h) with h1 h2 h3; exact absurd ⟨h1, h2, h3⟩ hn)⟩⟩)
  have HEQ : Hid (∀ W e, (ls = ls2 ∧ ds = ds2 ∧ fl = fl2) → Below w.heap.size w W → e = .returned (.bool true) → BoolPost (ShEq ⟨ls, ds, fl⟩ ⟨ls2, ds2, fl2⟩) w e W) := Hid.mk9 (fun W e hn hb he => ⟨hb, true, he, ⟨fun _ => (by obtain ⟨rfl, rfl, rfl⟩ := hn; rfl), fun _ => rfl⟩⟩)
  have hln : (ln : Int) ≤ 1000 := by have := hL.1; simp only at hl9; omega
  have hdn : (dn : Int) ≤ 1000 := by have := hD.1; simp only at hd9; omega
  clear hl9 hd9
  have e1' : (w.alloc (.cells #[.slice la ln lc, .slice da dn dc, .int .i64 fl] 25)).heap.size = w.heap.size + 1 := by simp
  have b1 := below_alloc w (.cells #[.slice la ln lc, .slice da dn dc, .int .i64 fl] 25)
  have b2 := below_alloc (w.alloc (.cells #[.slice la ln lc, .slice da dn dc, .int .i64 fl] 25)) (.cells #[.slice la2 ln2 lc2, .slice da2 dn2 dc2, .int .i64 fl2] 25)
  have HB := Hid.mk9 (below2 b1 b2)
  have HX := Hid.mk9 ((Bx3.new w 25 (.slice la ln lc) (.slice da dn dc) (.int .i64 fl)).below b2)
  have HY := Bx3.new (w.alloc (.cells #[.slice la ln lc, .slice da dn dc, .int .i64 fl] 25)) 25 (.slice la2 ln2 lc2) (.slice da2 dn2 dc2) (.int .i64 fl2)
  rw [e1'] at HY
  replace HY := Hid.mk9 HY
  have HL := Hid.mk9 hL
  have HL2 := Hid.mk9 hL2
  have HD := Hid.mk9 hD
  have HD2 := Hid.mk9 hD2
  clear e1' b1 b2 hL hL2 hD hD2
  go_enter Tryz.func15, Tryz.ntmps15
  go_upto_region 1 with fail
  generalize ((w.alloc (.cells #[.slice la ln lc, .slice da dn dc, .int .i64 fl] 25)).alloc (.cells #[.slice la2 ln2 lc2, .slice da2 dn2 dc2, .int .i64 fl2] 25)) = wA at *
  obtain ⟨x0, x1, x2⟩ := HX.out.cells
  obtain ⟨y0, y1, y2⟩ := HY.out.cells
  by_cases hn1 : ln = ln2
  · subst hn1
    by_cases hn2 : dn = dn2
    · subst hn2
      by_cases hn3 : fl = fl2
      · subst hn3
        have HN2 : Hid (∀ W e, ¬ (ls = ls2 ∧ ds = ds2) → Below w.heap.size w W → e = .returned (.bool false) → BoolPost (ShEq ⟨ls, ds, fl⟩ ⟨ls2, ds2, fl⟩) w e W) := Hid.mk9 (fun W e hn hb he => HNE.out W e (fun h => hn ⟨h.1, h.2.1⟩) hb he)
        have HE2 : Hid (∀ W e, ls = ls2 → ds = ds2 → Below w.heap.size w W → e = .returned (.bool true) → BoolPost (ShEq ⟨ls, ds, fl⟩ ⟨ls2, ds2, fl⟩) w e W) := Hid.mk9 (fun W e h1 h2 hb he => HEQ.out W e ⟨h1, h2, rfl⟩ hb he)
        clear HNE HEQ
        go_upto_region 3 with fail
        clear x0 x1 x2 y0 y1 y2
        go_wp2_with fail
        go_loopw [5] (fun si wr => ∃ k : Nat, si = .int .i64 k ∧ k ≤ ln ∧ Hid (∀ i, i < k → ls.getD i ln0 = ls2.getD i ln0) ∧ Hid (Bx3 wr w.heap.size 25 (.slice la ln lc) (.slice da dn dc) (.int .i64 fl)) ∧ Hid (Bx3 wr (w.heap.size + 1) 25 (.slice la2 ln lc2) (.slice da2 dn dc2) (.int .i64 fl)) ∧ Hid (Below w.heap.size w wr)) (fun i _ => ln - (intOf i).toNat)
        case atStart => exact ⟨0, rfl, Nat.zero_le _, Hid.mk9 (fun i hi => absurd hi (Nat.not_lt_zero _)), HX, HY, HB⟩
        case round =>
          obtain ⟨k, rfl, hkN, hI, hX, hY, hB⟩ := hrel
          clear HX HY HB
          obtain ⟨x0, x1, x2⟩ := hX.out.cells
          obtain ⟨y0, y1, y2⟩ := hY.out.cells
          by_cases hlt : k < ln
          · have hk1 : (k : Int) < (ln : Int) := by omega
            have hk0 : (0 : Int) ≤ (k : Int) := by omega
            obtain ⟨p1, o1, rfl, -, hc⟩ := (HL.out.below hB.out).some (by omega)
            obtain ⟨q1, r1, rfl, -, hc2⟩ := (HL2.out.below hB.out).some (by omega)
            obtain ⟨z2, a, n, c, z3, hs⟩ := hc k hlt
            obtain ⟨z4, a2, n2, d2, z5, hs2⟩ := hc2 k hlt
            clear hc hc2
            have HLn : Hid ((ls.getD k ln0).1 = (ls2.getD k ln0).1 → (ls.getD k ln0).2 = (ls2.getD k ln0).2 → ls.getD k ln0 = ls2.getD k ln0) := Hid.mk9 (fun h1 h2 => Prod.ext h1 h2)
            have HP : Hid (∀ W, Below wr.heap.size wr W → Calls Tryz.prog 23 #[.slice a n c, .slice a2 n2 d2] W fun e w' => BoolPost ((ls.getD k ln0).2 = (ls2.getD k ln0).2) W e w') := Hid.mk9 (fun W hb => refSameS_any a n c a2 n2 d2 _ _ W (hs.below hb) (hs2.below hb))
            clear hs hs2
            by_cases hse : (ls.getD k ln0).1 = (ls2.getD k ln0).1
            · have hE : ((ls.getD k ln0).1.toList == (ls2.getD k ln0).1.toList) = true := by rw [hse]; simp
              go_upto_region 6 with fail
              refine rs_6b _ _ _ _ _ _ _ _ _ _ _ _ _ _ _ _ _ _ _ _ _ _ _ _ _ _ _ _ _ _ _ _ _ _ _ _ _ _ _ _ _ _ _ _ _ _ _ _ _ _ _ _ _ _ _ _ _ _ _ _ _ _ _ _ _ _ _ _ _ _ _ _ _ _ _ _ _ _ _ _ _ w.heap.size (w.heap.size + 1) p1 o1 q1 r1 k ln lc lc2 n c n2 d2 a a2 _ _ _ wr _ x0 y0 z2 z3 z4 z5 hk0 hk1 hE HP (Hid.mk9 (fun u37 u38 u39 u40 u41 u42 u43 u44 u45 u46 u47 u48 u49 u50 u51 u52 u53 u54 u55 u56 u57 u58 u59 u60 u61 u62 u63 u64 q wC hq hbC => ?_))
              have HXC := Hid.mk9 (hX.out.below hbC)
              have HYC := Hid.mk9 (hY.out.below hbC)
              have HBC := Hid.mk9 (hB.out.trans (hbC.mono hB.out.size))
              have HQ := Hid.mk9 hq
              have HSE := Hid.mk9 hse
              clear hq hbC hE hse HP z2 z3 z4 z5 x0 x1 x2 y0 y1 y2 hX hY hB
              dsimp only
              cases q with
              | true =>
                have HI2 : Hid (∀ i, i < k + 1 → ls.getD i ln0 = ls2.getD i ln0) := Hid.mk9 (fun i hi => by
                  by_cases e : i = k
                  · subst e; exact HLn.out HSE.out (HQ.out.1 rfl)
                  · exact hI.out i (by omega))
                go_upto_region 5 with fail
                go_wp2_with fail
                exact ⟨⟨k + 1, by go_num, by omega, HI2, HXC, HYC, HBC⟩, by simp [intOf]; omega⟩
              | false =>
                have HF := Hid.mk9 (HN2.out wC _ (fun h => absurd (HQ.out.2 (by rw [h.1])) (by decide)) HBC.out rfl)
                go_upto_region 7 with fail
                go_wp2_with fail
                go_ret
                exact HF.out
            · have hE : ((ls.getD k ln0).1.toList == (ls2.getD k ln0).1.toList) = false := by rw [Lb.eqB]; exact decide_eq_false hse
              have HNX := Hid.mk9 (fun (h : ls = ls2 ∧ ds = ds2) => hse (by rw [h.1]))
              go_upto_region 6 with fail
              refine rs_6a _ _ _ _ _ _ _ _ _ _ _ _ _ _ _ _ _ _ _ _ _ _ _ _ _ _ _ _ _ _ _ _ _ _ _ _ _ _ _ _ _ _ _ _ _ _ _ _ _ _ _ _ _ _ _ _ _ _ _ _ _ _ _ _ _ _ _ _ _ _ _ _ _ _ _ _ _ _ _ _ _ w.heap.size (w.heap.size + 1) p1 o1 q1 r1 k ln lc lc2 n c n2 d2 a a2 _ _ wr _ x0 y0 z2 z3 z4 z5 hk0 hk1 hE (Hid.mk9 (fun u37 u38 u39 u40 u41 u42 u43 u44 u45 u46 u47 u48 u49 u50 u51 u52 u53 u54 u55 u56 u57 u58 u59 u60 u61 u62 u63 u64 wC hbC => ?_))
              have HF := Hid.mk9 (HN2.out wC _ HNX.out (hB.out.trans (hbC.mono hB.out.size)) rfl)
              clear hbC hE hse HP z2 z3 z4 z5 x0 x1 x2 y0 y1 y2 hX hY hB
              dsimp only
              go_upto_region 7 with fail
              go_wp2_with fail
              go_ret
              exact HF.out
          · have hkz : ¬ (k : Int) < (ln : Int) := by omega
            have HLE : Hid (ls = ls2) := Hid.mk9 (list_ext0 (d := ln0) (by rw [HL.out.1, HL2.out.1]) (fun i hi => hI.out i (by have := HL.out.1; omega)))
            go_upto_region 8 with fail
            clear x0 x1 x2 y0 y1 y2
            go_wp2_with fail
            go_loopw [6] (fun si wr => ∃ k : Nat, si = .int .i64 k ∧ k ≤ dn ∧ Hid (∀ i, i < k → ds.getD i dn0 = ds2.getD i dn0) ∧ Hid (Bx3 wr w.heap.size 25 (.slice la ln lc) (.slice da dn dc) (.int .i64 fl)) ∧ Hid (Bx3 wr (w.heap.size + 1) 25 (.slice la2 ln lc2) (.slice da2 dn dc2) (.int .i64 fl)) ∧ Hid (Below w.heap.size w wr)) (fun i _ => dn - (intOf i).toNat)
            case atStart => exact ⟨0, rfl, Nat.zero_le _, Hid.mk9 (fun i hi => absurd hi (Nat.not_lt_zero _)), hX, hY, hB⟩
            case round =>
              obtain ⟨k, rfl, hkN, hI, hX, hY, hB⟩ := hrel
              obtain ⟨x0, x1, x2⟩ := hX.out.cells
              obtain ⟨y0, y1, y2⟩ := hY.out.cells
              by_cases hlt : k < dn
              · have hk1 : (k : Int) < (dn : Int) := by omega
                have hk0 : (0 : Int) ≤ (k : Int) := by omega
                obtain ⟨p1, o1, rfl, -, hc⟩ := (HD.out.below hB.out).some (by omega)
                obtain ⟨q1, r1, rfl, -, hc2⟩ := (HD2.out.below hB.out).some (by omega)
                have z2 := hc k hlt
                have z3 := hc2 k hlt
                clear hc hc2
                have HNX : Hid (¬ ds.getD k dn0 = ds2.getD k dn0 → ¬ (ls = ls2 ∧ ds = ds2)) := Hid.mk9 (fun hn h => hn (by rw [h.2]))
                have HI2 : Hid (ds.getD k dn0 = ds2.getD k dn0 → ∀ i, i < k + 1 → ds.getD i dn0 = ds2.getD i dn0) := Hid.mk9 (fun he i hi => by
                  by_cases e : i = k
                  · subst e; exact he
                  · exact hI.out i (by omega))
                generalize ds.getD k dn0 = d1 at *
                generalize ds2.getD k dn0 = d2 at *
                obtain ⟨x1', x2', x3', x4', x5'⟩ := d1
                obtain ⟨y1', y2', y3', y4', y5'⟩ := d2
                go_upto_region 11 with fail
                by_cases hse : x1' = y1' ∧ x2' = y2' ∧ x3' = y3' ∧ x4' = y4' ∧ x5' = y5'
                · refine rs_11b _ _ _ _ _ _ _ _ _ _ _ _ _ _ _ _ _ _ _ _ _ _ _ _ _ _ _ _ _ _ _ _ _ _ _ _ _ _ _ _ _ _ _ _ _ _ _ _ _ _ _ _ _ _ _ _ _ _ _ _ _ _ _ _ _ _ _ _ _ _ _ _ _ _ _ _ _ _ _ _ _ w.heap.size (w.heap.size + 1) p1 o1 q1 r1 k dn dc dc2 _ _ _ _ _ _ _ _ _ _ wr _ x1 y1 z2 z3 hk0 hk1 hse (Hid.mk9 (fun u73 u74 u75 u76 u77 u78 u79 u80 u81 u82 wC hbC => ?_))
                  have HXC := Hid.mk9 (hX.out.below hbC)
                  have HYC := Hid.mk9 (hY.out.below hbC)
                  have HBC := Hid.mk9 (hB.out.trans (hbC.mono hB.out.size))
                  have HI3 := Hid.mk9 (HI2.out (by obtain ⟨rfl, rfl, rfl, rfl, rfl⟩ := hse; rfl))
                  clear hbC hse z2 z3 x0 x1 x2 y0 y1 y2 hX hY hB HI2 HNX hI
                  dsimp only
                  go_upto_region 10 with fail
                  go_wp2_with fail
                  exact ⟨⟨k + 1, by go_num, by omega, HI3, HXC, HYC, HBC⟩, by simp [intOf]; omega⟩
                · refine rs_11a _ _ _ _ _ _ _ _ _ _ _ _ _ _ _ _ _ _ _ _ _ _ _ _ _ _ _ _ _ _ _ _ _ _ _ _ _ _ _ _ _ _ _ _ _ _ _ _ _ _ _ _ _ _ _ _ _ _ _ _ _ _ _ _ _ _ _ _ _ _ _ _ _ _ _ _ _ _ _ _ _ w.heap.size (w.heap.size + 1) p1 o1 q1 r1 k dn dc dc2 _ _ _ _ _ _ _ _ _ _ wr _ x1 y1 z2 z3 hk0 hk1 hse (Hid.mk9 (fun u73 u74 u75 u76 u77 u78 u79 u80 u81 u82 wC hbC => ?_))
                  have HF := Hid.mk9 (HN2.out wC _ (HNX.out (fun h => hse (by injection h with h1 h2 h3; injection h3 with h3 h4 h5; exact ⟨h1, h2, h3, h4, h5⟩))) (hB.out.trans (hbC.mono hB.out.size)) rfl)
                  clear hbC hse z2 z3 x0 x1 x2 y0 y1 y2 hX hY hB HI2 HNX hI
                  dsimp only
                  go_upto_region 12 with fail
                  go_wp2_with fail
                  go_ret
                  exact HF.out
              · have hkz : ¬ (k : Int) < (dn : Int) := by omega
                have HDE : Hid (ds = ds2) := Hid.mk9 (list_ext0 (d := dn0) (by rw [HD.out.1, HD2.out.1]) (fun i hi => hI.out i (by have := HD.out.1; omega)))
                have HF := Hid.mk9 (HE2.out wr _ HLE.out HDE.out hB.out rfl)
                go_wp2_with fail
                go_ret
                exact HF.out
      · have HF := Hid.mk9 (HNE.out wA _ (fun h => hn3 h.2.2) HB.out rfl)
        have hn3' : (fl == fl2) = false := by simpa using hn3
        clear hn3
        go_wp2_with fail
        go_ret
        exact HF.out
    · have HF := Hid.mk9 (HNE.out wA _ (fun h => hn2 (by rw [← HD.out.1, ← HD2.out.1, h.2.1])) HB.out rfl)
      have hn2' : ((dn : Int) == (dn2 : Int)) = false := beq_eq_false_iff_ne.2 (by omega)
      clear hn2
      go_wp2_with fail
      go_ret
      exact HF.out
  · have HF := Hid.mk9 (HNE.out wA _ (fun h => hn1 (by rw [← HL.out.1, ← HL2.out.1, h.1])) HB.out rfl)
    have hn1' : ((ln : Int) == (ln2 : Int)) = false := beq_eq_false_iff_ne.2 (by omega)
    have hn1'' : ((ln : Int) != (ln2 : Int)) = true := by unfold bne; rw [hn1']; rfl
    have hn1c : ¬ (ln : Int) = (ln2 : Int) := by omega
    clear hn1
    go_wp2_with fail
    go_ret
    exact HF.out
end Go.Proofs.YtihohcmocejijaaGreat.Bk
