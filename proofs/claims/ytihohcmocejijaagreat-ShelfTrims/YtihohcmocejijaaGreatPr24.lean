/-
  mayBeTold, Check: which shelves may be.
-/
import Derived.Test.YtihohcmocejijaaGreatPr19
namespace Go.Proofs.YtihohcmocejijaaGreat.Bk
open Go.ChangeShapes Go.WideShapes Go.ChangeAt Go.RowKit
set_option maxHeartbeats 4000000 in
set_option maxRecDepth 60000 in
theorem mt_00 (t1 t2 t5 t6 t7 t8 t9 t10 t11 t12 t13 t14 t15 t16 t17 t18 t19 t20 t21 t22 t23 t24 t25 t26 t27 t28 t29 t30 t31 t32 t33 t34 t35 t36 t37 t38 t39 t40 : Value) (a : Option Addr) (len cap bx : Nat) (c d : Int) (w1 : World) (Q : Exit → Act → World → Prop)
    (hb0 : w1.cell? ⟨bx, 0, none⟩ = some (.int .i64 c)) (hb1 : w1.cell? ⟨bx, 1, none⟩ = some (.int .i64 d)) (hc1 : ¬ Count c)
    (hQ : Hid (∀ (u15 u16 u17 u18 u19 u20 u21 u22 u23 u24 u25 u26 u27 u28 u29 u30 u31 u32 u33 u34 u35 u36 u37 u38 : Value) (wC : World), Below w1.heap.size w1 wC → Q .normal ⟨#[.slice a len cap, t1, t2, .int .i64 0, .pointer (some ⟨bx, 0, none⟩), t5, t6, t7, t8, t9, t10, t11, t12, t13, t14, u15, u16, u17, u18, u19, u20, u21, u22, u23, u24, u25, u26, u27, u28, u29, u30, u31, u32, u33, u34, u35, u36, u37, u38, .bool true, t40], []⟩ wC)) :
    Code.wp Tryz.prog ((Tryz.f30.body.bind (regionOf 6)).getD .skip) Q ⟨#[.slice a len cap, t1, t2, .int .i64 0, .pointer (some ⟨bx, 0, none⟩), t5, t6, t7, t8, t9, t10, t11, t12, t13, t14, t15, t16, t17, t18, t19, t20, t21, t22, t23, t24, t25, t26, t27, t28, t29, t30, t31, t32, t33, t34, t35, t36, t37, t38, t39, t40], []⟩ w1 := by
  have hS : (fun w' => Below w1.heap.size w1 w' ∧ w'.cell? ⟨bx, 0, none⟩ = some (.int .i64 c) ∧ w'.cell? ⟨bx, 1, none⟩ = some (.int .i64 d)) w1.drew := ⟨below_drew _, hb0, hb1⟩
  conv => arg 2; whnf
  refine held_start (S := fun w' => Below w1.heap.size w1 w' ∧ w'.cell? ⟨bx, 0, none⟩ = some (.int .i64 c) ∧ w'.cell? ⟨bx, 1, none⟩ = some (.int .i64 d)) mixed9 ?_
  refine held_take (i := 0) (v := .int .i64 0) rfl (by kernel_rfl) (fun _ _ _ h => h) (.inl ⟨rfl, fun w hS => ?_⟩) hS ?_
  · obtain ⟨-, q0, q1⟩ := hS
    go_simp
  try simp only [Act.put, List.setIfInBounds_toArray, List.set_cons_zero, List.set_cons_succ]
  refine held_take (i := 1) (v := .bool false) rfl (by kernel_rfl) (fun _ _ _ h => h) (.inl ⟨rfl, fun w hS => ?_⟩) hS ?_
  · obtain ⟨-, q0, q1⟩ := hS
    go_simp
  try simp only [Act.put, List.setIfInBounds_toArray, List.set_cons_zero, List.set_cons_succ]
  refine held_take (i := 2) (v := .bool false) rfl (by kernel_rfl) (fun _ _ _ h => h) (.inl ⟨rfl, fun w hS => ?_⟩) hS ?_
  · obtain ⟨-, q0, q1⟩ := hS
    go_simp
  try simp only [Act.put, List.setIfInBounds_toArray, List.set_cons_zero, List.set_cons_succ]
  refine held_take (i := 3) (v := undef) rfl (by kernel_rfl) (fun _ _ _ h => h) (.inr ⟨rfl, rfl⟩) hS ?_
  try simp only [Act.put, List.setIfInBounds_toArray, List.set_cons_zero, List.set_cons_succ]
  refine held_take (i := 4) (v := undef) rfl (by kernel_rfl) (fun _ _ _ h => h) (.inr ⟨rfl, rfl⟩) hS ?_
  try simp only [Act.put, List.setIfInBounds_toArray, List.set_cons_zero, List.set_cons_succ]
  refine held_take (i := 5) (v := undef) rfl (by kernel_rfl) (fun _ _ _ h => h) (.inr ⟨rfl, rfl⟩) hS ?_
  try simp only [Act.put, List.setIfInBounds_toArray, List.set_cons_zero, List.set_cons_succ]
  refine held_take (i := 6) (v := undef) rfl (by kernel_rfl) (fun _ _ _ h => h) (.inr ⟨rfl, rfl⟩) hS ?_
  try simp only [Act.put, List.setIfInBounds_toArray, List.set_cons_zero, List.set_cons_succ]
  refine held_take (i := 7) (v := undef) rfl (by kernel_rfl) (fun _ _ _ h => h) (.inr ⟨rfl, rfl⟩) hS ?_
  try simp only [Act.put, List.setIfInBounds_toArray, List.set_cons_zero, List.set_cons_succ]
  refine held_take (i := 8) (v := undef) rfl (by kernel_rfl) (fun _ _ _ h => h) (.inr ⟨rfl, rfl⟩) hS ?_
  try simp only [Act.put, List.setIfInBounds_toArray, List.set_cons_zero, List.set_cons_succ]
  refine held_take (i := 9) (v := undef) rfl (by kernel_rfl) (fun _ _ _ h => h) (.inr ⟨rfl, rfl⟩) hS ?_
  try simp only [Act.put, List.setIfInBounds_toArray, List.set_cons_zero, List.set_cons_succ]
  refine held_take (i := 10) (v := undef) rfl (by kernel_rfl) (fun _ _ _ h => h) (.inr ⟨rfl, rfl⟩) hS ?_
  try simp only [Act.put, List.setIfInBounds_toArray, List.set_cons_zero, List.set_cons_succ]
  refine held_take (i := 11) (v := undef) rfl (by kernel_rfl) (fun _ _ _ h => h) (.inr ⟨rfl, rfl⟩) hS ?_
  try simp only [Act.put, List.setIfInBounds_toArray, List.set_cons_zero, List.set_cons_succ]
  refine held_take (i := 12) (v := .bool false) rfl (by kernel_rfl) (fun _ _ _ h => h) (.inl ⟨rfl, fun w hS => ?_⟩) hS ?_
  · obtain ⟨-, q0, q1⟩ := hS
    go_simp
  try simp only [Act.put, List.setIfInBounds_toArray, List.set_cons_zero, List.set_cons_succ]
  refine held_take (i := 13) (v := .bool false) rfl (by kernel_rfl) (fun _ _ _ h => h) (.inl ⟨rfl, fun w hS => ?_⟩) hS ?_
  · obtain ⟨-, q0, q1⟩ := hS
    go_simp
  try simp only [Act.put, List.setIfInBounds_toArray, List.set_cons_zero, List.set_cons_succ]
  refine held_take (i := 14) (v := .pointer (some ⟨bx, 0, none⟩)) rfl (by kernel_rfl) (fun _ _ _ h => h) (.inl ⟨rfl, fun w hS => ?_⟩) hS ?_
  · obtain ⟨-, q0, q1⟩ := hS
    go_simp
  try simp only [Act.put, List.setIfInBounds_toArray, List.set_cons_zero, List.set_cons_succ]
  refine held_take (i := 15) (v := .int .i64 c) rfl (by kernel_rfl) (fun _ _ _ h => h) (.inl ⟨rfl, fun w hS => ?_⟩) hS ?_
  · obtain ⟨-, q0, q1⟩ := hS
    go_simp
  try simp only [Act.put, List.setIfInBounds_toArray, List.set_cons_zero, List.set_cons_succ]
  refine held_one (i := 16) (by kernel_rfl) rfl rfl ?_
  intro K hK
  go_simp
  go_at_call 42
  refine (count_no hc1 _).mono ?_
  rintro e w2 ⟨rfl, rfl⟩
  refine hK.out _ _ (hS) ?_
  have hS9 := hS
  clear hK hS
  have hS := hS9
  clear hS9
  try simp only [Act.put, List.setIfInBounds_toArray, List.set_cons_zero, List.set_cons_succ]
  refine held_take (i := 17) (v := .bool true) rfl (by kernel_rfl) (fun _ _ _ h => h) (.inl ⟨rfl, fun w hS => ?_⟩) hS ?_
  · obtain ⟨-, q0, q1⟩ := hS
    go_simp
  try simp only [Act.put, List.setIfInBounds_toArray, List.set_cons_zero, List.set_cons_succ]
  refine held_take (i := 18) (v := .bool true) rfl (by kernel_rfl) (fun _ _ _ h => h) (.inl ⟨rfl, fun w hS => ?_⟩) hS ?_
  · obtain ⟨-, q0, q1⟩ := hS
    go_simp
  try simp only [Act.put, List.setIfInBounds_toArray, List.set_cons_zero, List.set_cons_succ]
  refine held_take (i := 19) (v := .bool true) rfl (by kernel_rfl) (fun _ _ _ h => h) (.inl ⟨rfl, fun w hS => ?_⟩) hS ?_
  · obtain ⟨-, q0, q1⟩ := hS
    go_simp
  try simp only [Act.put, List.setIfInBounds_toArray, List.set_cons_zero, List.set_cons_succ]
  refine held_take (i := 20) (v := undef) rfl (by kernel_rfl) (fun _ _ _ h => h) (.inr ⟨rfl, rfl⟩) hS ?_
  try simp only [Act.put, List.setIfInBounds_toArray, List.set_cons_zero, List.set_cons_succ]
  refine held_take (i := 21) (v := undef) rfl (by kernel_rfl) (fun _ _ _ h => h) (.inr ⟨rfl, rfl⟩) hS ?_
  try simp only [Act.put, List.setIfInBounds_toArray, List.set_cons_zero, List.set_cons_succ]
  refine held_take (i := 22) (v := undef) rfl (by kernel_rfl) (fun _ _ _ h => h) (.inr ⟨rfl, rfl⟩) hS ?_
  try simp only [Act.put, List.setIfInBounds_toArray, List.set_cons_zero, List.set_cons_succ]
  refine held_take (i := 23) (v := undef) rfl (by kernel_rfl) (fun _ _ _ h => h) (.inr ⟨rfl, rfl⟩) hS ?_
  try simp only [Act.put, List.setIfInBounds_toArray, List.set_cons_zero, List.set_cons_succ]
  refine held_take (i := 24) (v := .bool true) rfl (by kernel_rfl) (fun _ _ _ h => h) (.inl ⟨rfl, fun w hS => ?_⟩) hS ?_
  · obtain ⟨-, q0, q1⟩ := hS
    go_simp
  try simp only [Act.put, List.setIfInBounds_toArray, List.set_cons_zero, List.set_cons_succ]
  refine wpAnyH_done (by kernel_rfl) ?_ _
  refine NoPanic.normal ?_
  exact hQ.out _ _ _ _ _ _ _ _ _ _ _ _ _ _ _ _ _ _ _ _ _ _ _ _ _ hS.1
set_option maxHeartbeats 4000000 in
set_option maxRecDepth 60000 in
theorem mt_01 (t1 t2 t5 t6 t7 t8 t9 t10 t11 t12 t13 t14 t15 t16 t17 t18 t19 t20 t21 t22 t23 t24 t25 t26 t27 t28 t29 t30 t31 t32 t33 t34 t35 t36 t37 t38 t39 t40 : Value) (a : Option Addr) (len cap bx : Nat) (c d : Int) (w1 : World) (Q : Exit → Act → World → Prop)
    (hb0 : w1.cell? ⟨bx, 0, none⟩ = some (.int .i64 c)) (hb1 : w1.cell? ⟨bx, 1, none⟩ = some (.int .i64 d)) (hc1 : Count c)
    (hQ : Hid (∀ (u15 u16 u17 u18 u19 u20 u21 u22 u23 u24 u25 u26 u27 u28 u29 u30 u31 u32 u33 u34 u35 u36 u37 u38 : Value) (wC : World), Below w1.heap.size w1 wC → Q .normal ⟨#[.slice a len cap, t1, t2, .int .i64 0, .pointer (some ⟨bx, 0, none⟩), t5, t6, t7, t8, t9, t10, t11, t12, t13, t14, u15, u16, u17, u18, u19, u20, u21, u22, u23, u24, u25, u26, u27, u28, u29, u30, u31, u32, u33, u34, u35, u36, u37, u38, .bool (!decide (Count d)), t40], []⟩ wC)) :
    Code.wp Tryz.prog ((Tryz.f30.body.bind (regionOf 6)).getD .skip) Q ⟨#[.slice a len cap, t1, t2, .int .i64 0, .pointer (some ⟨bx, 0, none⟩), t5, t6, t7, t8, t9, t10, t11, t12, t13, t14, t15, t16, t17, t18, t19, t20, t21, t22, t23, t24, t25, t26, t27, t28, t29, t30, t31, t32, t33, t34, t35, t36, t37, t38, t39, t40], []⟩ w1 := by
  have hS : (fun w' => Below w1.heap.size w1 w' ∧ w'.cell? ⟨bx, 0, none⟩ = some (.int .i64 c) ∧ w'.cell? ⟨bx, 1, none⟩ = some (.int .i64 d)) w1.drew := ⟨below_drew _, hb0, hb1⟩
  conv => arg 2; whnf
  refine held_start (S := fun w' => Below w1.heap.size w1 w' ∧ w'.cell? ⟨bx, 0, none⟩ = some (.int .i64 c) ∧ w'.cell? ⟨bx, 1, none⟩ = some (.int .i64 d)) mixed9 ?_
  refine held_take (i := 0) (v := .int .i64 0) rfl (by kernel_rfl) (fun _ _ _ h => h) (.inl ⟨rfl, fun w hS => ?_⟩) hS ?_
  · obtain ⟨-, q0, q1⟩ := hS
    go_simp
  try simp only [Act.put, List.setIfInBounds_toArray, List.set_cons_zero, List.set_cons_succ]
  refine held_take (i := 1) (v := .bool false) rfl (by kernel_rfl) (fun _ _ _ h => h) (.inl ⟨rfl, fun w hS => ?_⟩) hS ?_
  · obtain ⟨-, q0, q1⟩ := hS
    go_simp
  try simp only [Act.put, List.setIfInBounds_toArray, List.set_cons_zero, List.set_cons_succ]
  refine held_take (i := 2) (v := .bool false) rfl (by kernel_rfl) (fun _ _ _ h => h) (.inl ⟨rfl, fun w hS => ?_⟩) hS ?_
  · obtain ⟨-, q0, q1⟩ := hS
    go_simp
  try simp only [Act.put, List.setIfInBounds_toArray, List.set_cons_zero, List.set_cons_succ]
  refine held_take (i := 3) (v := undef) rfl (by kernel_rfl) (fun _ _ _ h => h) (.inr ⟨rfl, rfl⟩) hS ?_
  try simp only [Act.put, List.setIfInBounds_toArray, List.set_cons_zero, List.set_cons_succ]
  refine held_take (i := 4) (v := undef) rfl (by kernel_rfl) (fun _ _ _ h => h) (.inr ⟨rfl, rfl⟩) hS ?_
  try simp only [Act.put, List.setIfInBounds_toArray, List.set_cons_zero, List.set_cons_succ]
  refine held_take (i := 5) (v := undef) rfl (by kernel_rfl) (fun _ _ _ h => h) (.inr ⟨rfl, rfl⟩) hS ?_
  try simp only [Act.put, List.setIfInBounds_toArray, List.set_cons_zero, List.set_cons_succ]
  refine held_take (i := 6) (v := undef) rfl (by kernel_rfl) (fun _ _ _ h => h) (.inr ⟨rfl, rfl⟩) hS ?_
  try simp only [Act.put, List.setIfInBounds_toArray, List.set_cons_zero, List.set_cons_succ]
  refine held_take (i := 7) (v := undef) rfl (by kernel_rfl) (fun _ _ _ h => h) (.inr ⟨rfl, rfl⟩) hS ?_
  try simp only [Act.put, List.setIfInBounds_toArray, List.set_cons_zero, List.set_cons_succ]
  refine held_take (i := 8) (v := undef) rfl (by kernel_rfl) (fun _ _ _ h => h) (.inr ⟨rfl, rfl⟩) hS ?_
  try simp only [Act.put, List.setIfInBounds_toArray, List.set_cons_zero, List.set_cons_succ]
  refine held_take (i := 9) (v := undef) rfl (by kernel_rfl) (fun _ _ _ h => h) (.inr ⟨rfl, rfl⟩) hS ?_
  try simp only [Act.put, List.setIfInBounds_toArray, List.set_cons_zero, List.set_cons_succ]
  refine held_take (i := 10) (v := undef) rfl (by kernel_rfl) (fun _ _ _ h => h) (.inr ⟨rfl, rfl⟩) hS ?_
  try simp only [Act.put, List.setIfInBounds_toArray, List.set_cons_zero, List.set_cons_succ]
  refine held_take (i := 11) (v := undef) rfl (by kernel_rfl) (fun _ _ _ h => h) (.inr ⟨rfl, rfl⟩) hS ?_
  try simp only [Act.put, List.setIfInBounds_toArray, List.set_cons_zero, List.set_cons_succ]
  refine held_take (i := 12) (v := .bool false) rfl (by kernel_rfl) (fun _ _ _ h => h) (.inl ⟨rfl, fun w hS => ?_⟩) hS ?_
  · obtain ⟨-, q0, q1⟩ := hS
    go_simp
  try simp only [Act.put, List.setIfInBounds_toArray, List.set_cons_zero, List.set_cons_succ]
  refine held_take (i := 13) (v := .bool false) rfl (by kernel_rfl) (fun _ _ _ h => h) (.inl ⟨rfl, fun w hS => ?_⟩) hS ?_
  · obtain ⟨-, q0, q1⟩ := hS
    go_simp
  try simp only [Act.put, List.setIfInBounds_toArray, List.set_cons_zero, List.set_cons_succ]
  refine held_take (i := 14) (v := .pointer (some ⟨bx, 0, none⟩)) rfl (by kernel_rfl) (fun _ _ _ h => h) (.inl ⟨rfl, fun w hS => ?_⟩) hS ?_
  · obtain ⟨-, q0, q1⟩ := hS
    go_simp
  try simp only [Act.put, List.setIfInBounds_toArray, List.set_cons_zero, List.set_cons_succ]
  refine held_take (i := 15) (v := .int .i64 c) rfl (by kernel_rfl) (fun _ _ _ h => h) (.inl ⟨rfl, fun w hS => ?_⟩) hS ?_
  · obtain ⟨-, q0, q1⟩ := hS
    go_simp
  try simp only [Act.put, List.setIfInBounds_toArray, List.set_cons_zero, List.set_cons_succ]
  refine held_one (i := 16) (by kernel_rfl) rfl rfl ?_
  intro K hK
  go_simp
  go_at_call 42
  refine (count_yes hc1 _).mono ?_
  rintro e w2 ⟨rfl, rfl⟩
  refine hK.out _ _ (hS) ?_
  have hS9 := hS
  clear hK hS
  have hS := hS9
  clear hS9
  try simp only [Act.put, List.setIfInBounds_toArray, List.set_cons_zero, List.set_cons_succ]
  refine held_take (i := 17) (v := .bool false) rfl (by kernel_rfl) (fun _ _ _ h => h) (.inl ⟨rfl, fun w hS => ?_⟩) hS ?_
  · obtain ⟨-, q0, q1⟩ := hS
    go_simp
  try simp only [Act.put, List.setIfInBounds_toArray, List.set_cons_zero, List.set_cons_succ]
  refine held_take (i := 18) (v := .bool false) rfl (by kernel_rfl) (fun _ _ _ h => h) (.inl ⟨rfl, fun w hS => ?_⟩) hS ?_
  · obtain ⟨-, q0, q1⟩ := hS
    go_simp
  try simp only [Act.put, List.setIfInBounds_toArray, List.set_cons_zero, List.set_cons_succ]
  refine held_take (i := 19) (v := .bool false) rfl (by kernel_rfl) (fun _ _ _ h => h) (.inl ⟨rfl, fun w hS => ?_⟩) hS ?_
  · obtain ⟨-, q0, q1⟩ := hS
    go_simp
  try simp only [Act.put, List.setIfInBounds_toArray, List.set_cons_zero, List.set_cons_succ]
  refine held_take (i := 20) (v := .pointer (some ⟨bx, 1, none⟩)) rfl (by kernel_rfl) (fun _ _ _ h => h) (.inl ⟨rfl, fun w hS => ?_⟩) hS ?_
  · obtain ⟨-, q0, q1⟩ := hS
    go_simp
  try simp only [Act.put, List.setIfInBounds_toArray, List.set_cons_zero, List.set_cons_succ]
  refine held_take (i := 21) (v := .int .i64 d) rfl (by kernel_rfl) (fun _ _ _ h => h) (.inl ⟨rfl, fun w hS => ?_⟩) hS ?_
  · obtain ⟨-, q0, q1⟩ := hS
    go_simp
  try simp only [Act.put, List.setIfInBounds_toArray, List.set_cons_zero, List.set_cons_succ]
  refine held_one (i := 22) (by kernel_rfl) rfl rfl ?_
  intro K hK
  go_simp
  go_at_call 42
  refine (isCount_any d _).mono ?_
  rintro e w2 ⟨rfl, rfl⟩
  refine hK.out _ _ (hS) ?_
  have hS9 := hS
  clear hK hS
  have hS := hS9
  clear hS9
  try simp only [Act.put, List.setIfInBounds_toArray, List.set_cons_zero, List.set_cons_succ]
  refine held_take (i := 23) (v := .bool (!decide (Count d))) rfl (by kernel_rfl) (fun _ _ _ h => h) (.inl ⟨rfl, fun w hS => ?_⟩) hS ?_
  · obtain ⟨-, q0, q1⟩ := hS
    go_simp
  try simp only [Act.put, List.setIfInBounds_toArray, List.set_cons_zero, List.set_cons_succ]
  refine held_take (i := 24) (v := .bool (!decide (Count d))) rfl (by kernel_rfl) (fun _ _ _ h => h) (.inl ⟨rfl, fun w hS => ?_⟩) hS ?_
  · obtain ⟨-, q0, q1⟩ := hS
    go_simp
  try simp only [Act.put, List.setIfInBounds_toArray, List.set_cons_zero, List.set_cons_succ]
  refine wpAnyH_done (by kernel_rfl) ?_ _
  refine NoPanic.normal ?_
  exact hQ.out _ _ _ _ _ _ _ _ _ _ _ _ _ _ _ _ _ _ _ _ _ _ _ _ _ hS.1
set_option maxHeartbeats 4000000 in
set_option maxRecDepth 60000 in
theorem mt_1 (t1 t2 t5 t6 t7 t8 t9 t10 t11 t12 t13 t14 t15 t16 t17 t18 t19 t20 t21 t22 t23 t24 t25 t26 t27 t28 t29 t30 t31 t32 t33 t34 t35 t36 t37 t38 t39 t40 : Value) (b off i j len cap bx : Nat) (c d c0 : Int) (w1 : World) (Q : Exit → Act → World → Prop)
    (hb0 : w1.cell? ⟨bx, 0, none⟩ = some (.int .i64 c)) (hb1 : w1.cell? ⟨bx, 1, none⟩ = some (.int .i64 d)) (hpr : w1.cell? ⟨b, off + j * 5, none⟩ = some (.int .i64 c0)) (hi0 : 0 < i) (hwj : IntKind.i64.wrap ((i : Int) - 1) = (j : Int)) (hj0 : (0 : Int) ≤ (j : Int)) (hjl : (j : Int) < (len : Int)) (hle : decide (c ≤ c0) = true)
    (hQ : Hid (∀ (u15 u16 u17 u18 u19 u20 u21 u22 u23 u24 u25 u26 u27 u28 u29 u30 u31 u32 u33 u34 u35 u36 u37 u38 : Value) (wC : World), Below w1.heap.size w1 wC → Q .normal ⟨#[.slice (some ⟨b, off, none⟩) len cap, t1, t2, .int .i64 ((i : Nat) : Int), .pointer (some ⟨bx, 0, none⟩), t5, t6, t7, t8, t9, t10, t11, t12, t13, t14, u15, u16, u17, u18, u19, u20, u21, u22, u23, u24, u25, u26, u27, u28, u29, u30, u31, u32, u33, u34, u35, u36, u37, u38, .bool true, t40], []⟩ wC)) :
    Code.wp Tryz.prog ((Tryz.f30.body.bind (regionOf 6)).getD .skip) Q ⟨#[.slice (some ⟨b, off, none⟩) len cap, t1, t2, .int .i64 ((i : Nat) : Int), .pointer (some ⟨bx, 0, none⟩), t5, t6, t7, t8, t9, t10, t11, t12, t13, t14, t15, t16, t17, t18, t19, t20, t21, t22, t23, t24, t25, t26, t27, t28, t29, t30, t31, t32, t33, t34, t35, t36, t37, t38, t39, t40], []⟩ w1 := by
  have hS : (fun w' => Below w1.heap.size w1 w' ∧ w'.cell? ⟨bx, 0, none⟩ = some (.int .i64 c) ∧ w'.cell? ⟨bx, 1, none⟩ = some (.int .i64 d) ∧ w'.cell? ⟨b, off + j * 5, none⟩ = some (.int .i64 c0)) w1.drew := ⟨below_drew _, hb0, hb1, hpr⟩
  conv => arg 2; whnf
  refine held_start (S := fun w' => Below w1.heap.size w1 w' ∧ w'.cell? ⟨bx, 0, none⟩ = some (.int .i64 c) ∧ w'.cell? ⟨bx, 1, none⟩ = some (.int .i64 d) ∧ w'.cell? ⟨b, off + j * 5, none⟩ = some (.int .i64 c0)) mixed9 ?_
  refine held_take (i := 0) (v := .int .i64 ((i : Nat) : Int)) rfl (by kernel_rfl) (fun _ _ _ h => h) (.inl ⟨rfl, fun w hS => ?_⟩) hS ?_
  · obtain ⟨-, q0, q1, q2⟩ := hS
    go_simp
  try simp only [Act.put, List.setIfInBounds_toArray, List.set_cons_zero, List.set_cons_succ]
  refine held_take (i := 1) (v := .bool true) rfl (by kernel_rfl) (fun _ _ _ h => h) (.inl ⟨rfl, fun w hS => ?_⟩) hS ?_
  · obtain ⟨-, q0, q1, q2⟩ := hS
    go_simp
  try simp only [Act.put, List.setIfInBounds_toArray, List.set_cons_zero, List.set_cons_succ]
  refine held_take (i := 2) (v := .bool true) rfl (by kernel_rfl) (fun _ _ _ h => h) (.inl ⟨rfl, fun w hS => ?_⟩) hS ?_
  · obtain ⟨-, q0, q1, q2⟩ := hS
    go_simp
  try simp only [Act.put, List.setIfInBounds_toArray, List.set_cons_zero, List.set_cons_succ]
  refine held_take (i := 3) (v := .pointer (some ⟨bx, 0, none⟩)) rfl (by kernel_rfl) (fun _ _ _ h => h) (.inl ⟨rfl, fun w hS => ?_⟩) hS ?_
  · obtain ⟨-, q0, q1, q2⟩ := hS
    go_simp
  try simp only [Act.put, List.setIfInBounds_toArray, List.set_cons_zero, List.set_cons_succ]
  refine held_take (i := 4) (v := .int .i64 c) rfl (by kernel_rfl) (fun _ _ _ h => h) (.inl ⟨rfl, fun w hS => ?_⟩) hS ?_
  · obtain ⟨-, q0, q1, q2⟩ := hS
    go_simp
  try simp only [Act.put, List.setIfInBounds_toArray, List.set_cons_zero, List.set_cons_succ]
  refine held_take (i := 5) (v := .slice (some ⟨b, off, none⟩) len cap) rfl (by kernel_rfl) (fun _ _ _ h => h) (.inl ⟨rfl, fun w hS => ?_⟩) hS ?_
  · obtain ⟨-, q0, q1, q2⟩ := hS
    go_simp
  try simp only [Act.put, List.setIfInBounds_toArray, List.set_cons_zero, List.set_cons_succ]
  refine held_take (i := 6) (v := .int .i64 ((i : Nat) : Int)) rfl (by kernel_rfl) (fun _ _ _ h => h) (.inl ⟨rfl, fun w hS => ?_⟩) hS ?_
  · obtain ⟨-, q0, q1, q2⟩ := hS
    go_simp
  try simp only [Act.put, List.setIfInBounds_toArray, List.set_cons_zero, List.set_cons_succ]
  refine held_take (i := 7) (v := .int .i64 (j : Int)) rfl (by kernel_rfl) (fun _ _ _ h => h) (.inl ⟨rfl, fun w hS => ?_⟩) hS ?_
  · obtain ⟨-, q0, q1, q2⟩ := hS
    go_simp
  try simp only [Act.put, List.setIfInBounds_toArray, List.set_cons_zero, List.set_cons_succ]
  refine held_take (i := 8) (v := .pointer (some ⟨b, off + j * 5, none⟩)) rfl (by kernel_rfl) (fun _ _ _ h => h) (.inl ⟨rfl, fun w hS => ?_⟩) hS ?_
  · obtain ⟨-, q0, q1, q2⟩ := hS
    go_simp
  try simp only [Act.put, List.setIfInBounds_toArray, List.set_cons_zero, List.set_cons_succ]
  refine held_take (i := 9) (v := .pointer (some ⟨b, off + j * 5, none⟩)) rfl (by kernel_rfl) (fun _ _ _ h => h) (.inl ⟨rfl, fun w hS => ?_⟩) hS ?_
  · obtain ⟨-, q0, q1, q2⟩ := hS
    go_simp
  try simp only [Act.put, List.setIfInBounds_toArray, List.set_cons_zero, List.set_cons_succ]
  refine held_take (i := 10) (v := .int .i64 c0) rfl (by kernel_rfl) (fun _ _ _ h => h) (.inl ⟨rfl, fun w hS => ?_⟩) hS ?_
  · obtain ⟨-, q0, q1, q2⟩ := hS
    go_simp
  try simp only [Act.put, List.setIfInBounds_toArray, List.set_cons_zero, List.set_cons_succ]
  refine held_take (i := 11) (v := .bool true) rfl (by kernel_rfl) (fun _ _ _ h => h) (.inl ⟨rfl, fun w hS => ?_⟩) hS ?_
  · obtain ⟨-, q0, q1, q2⟩ := hS
    go_simp
  try simp only [Act.put, List.setIfInBounds_toArray, List.set_cons_zero, List.set_cons_succ]
  refine held_take (i := 12) (v := .bool true) rfl (by kernel_rfl) (fun _ _ _ h => h) (.inl ⟨rfl, fun w hS => ?_⟩) hS ?_
  · obtain ⟨-, q0, q1, q2⟩ := hS
    go_simp
  try simp only [Act.put, List.setIfInBounds_toArray, List.set_cons_zero, List.set_cons_succ]
  refine held_take (i := 13) (v := .bool true) rfl (by kernel_rfl) (fun _ _ _ h => h) (.inl ⟨rfl, fun w hS => ?_⟩) hS ?_
  · obtain ⟨-, q0, q1, q2⟩ := hS
    go_simp
  try simp only [Act.put, List.setIfInBounds_toArray, List.set_cons_zero, List.set_cons_succ]
  refine held_take (i := 14) (v := undef) rfl (by kernel_rfl) (fun _ _ _ h => h) (.inr ⟨rfl, rfl⟩) hS ?_
  try simp only [Act.put, List.setIfInBounds_toArray, List.set_cons_zero, List.set_cons_succ]
  refine held_take (i := 15) (v := undef) rfl (by kernel_rfl) (fun _ _ _ h => h) (.inr ⟨rfl, rfl⟩) hS ?_
  try simp only [Act.put, List.setIfInBounds_toArray, List.set_cons_zero, List.set_cons_succ]
  refine held_take (i := 16) (v := undef) rfl (by kernel_rfl) (fun _ _ _ h => h) (.inr ⟨rfl, rfl⟩) hS ?_
  try simp only [Act.put, List.setIfInBounds_toArray, List.set_cons_zero, List.set_cons_succ]
  refine held_take (i := 17) (v := undef) rfl (by kernel_rfl) (fun _ _ _ h => h) (.inr ⟨rfl, rfl⟩) hS ?_
  try simp only [Act.put, List.setIfInBounds_toArray, List.set_cons_zero, List.set_cons_succ]
  refine held_take (i := 18) (v := .bool true) rfl (by kernel_rfl) (fun _ _ _ h => h) (.inl ⟨rfl, fun w hS => ?_⟩) hS ?_
  · obtain ⟨-, q0, q1, q2⟩ := hS
    go_simp
  try simp only [Act.put, List.setIfInBounds_toArray, List.set_cons_zero, List.set_cons_succ]
  refine held_take (i := 19) (v := .bool true) rfl (by kernel_rfl) (fun _ _ _ h => h) (.inl ⟨rfl, fun w hS => ?_⟩) hS ?_
  · obtain ⟨-, q0, q1, q2⟩ := hS
    go_simp
  try simp only [Act.put, List.setIfInBounds_toArray, List.set_cons_zero, List.set_cons_succ]
  refine held_take (i := 20) (v := undef) rfl (by kernel_rfl) (fun _ _ _ h => h) (.inr ⟨rfl, rfl⟩) hS ?_
  try simp only [Act.put, List.setIfInBounds_toArray, List.set_cons_zero, List.set_cons_succ]
  refine held_take (i := 21) (v := undef) rfl (by kernel_rfl) (fun _ _ _ h => h) (.inr ⟨rfl, rfl⟩) hS ?_
  try simp only [Act.put, List.setIfInBounds_toArray, List.set_cons_zero, List.set_cons_succ]
  refine held_take (i := 22) (v := undef) rfl (by kernel_rfl) (fun _ _ _ h => h) (.inr ⟨rfl, rfl⟩) hS ?_
  try simp only [Act.put, List.setIfInBounds_toArray, List.set_cons_zero, List.set_cons_succ]
  refine held_take (i := 23) (v := undef) rfl (by kernel_rfl) (fun _ _ _ h => h) (.inr ⟨rfl, rfl⟩) hS ?_
  try simp only [Act.put, List.setIfInBounds_toArray, List.set_cons_zero, List.set_cons_succ]
  refine held_take (i := 24) (v := .bool true) rfl (by kernel_rfl) (fun _ _ _ h => h) (.inl ⟨rfl, fun w hS => ?_⟩) hS ?_
  · obtain ⟨-, q0, q1, q2⟩ := hS
    go_simp
  try simp only [Act.put, List.setIfInBounds_toArray, List.set_cons_zero, List.set_cons_succ]
  refine wpAnyH_done (by kernel_rfl) ?_ _
  refine NoPanic.normal ?_
  exact hQ.out _ _ _ _ _ _ _ _ _ _ _ _ _ _ _ _ _ _ _ _ _ _ _ _ _ hS.1
set_option maxHeartbeats 4000000 in
set_option maxRecDepth 60000 in
theorem mt_10 (t1 t2 t5 t6 t7 t8 t9 t10 t11 t12 t13 t14 t15 t16 t17 t18 t19 t20 t21 t22 t23 t24 t25 t26 t27 t28 t29 t30 t31 t32 t33 t34 t35 t36 t37 t38 t39 t40 : Value) (b off i j len cap bx : Nat) (c d c0 : Int) (w1 : World) (Q : Exit → Act → World → Prop)
    (hb0 : w1.cell? ⟨bx, 0, none⟩ = some (.int .i64 c)) (hb1 : w1.cell? ⟨bx, 1, none⟩ = some (.int .i64 d)) (hpr : w1.cell? ⟨b, off + j * 5, none⟩ = some (.int .i64 c0)) (hi0 : 0 < i) (hwj : IntKind.i64.wrap ((i : Int) - 1) = (j : Int)) (hj0 : (0 : Int) ≤ (j : Int)) (hjl : (j : Int) < (len : Int)) (hle : decide (c ≤ c0) = false) (hc1 : ¬ Count c)
    (hQ : Hid (∀ (u15 u16 u17 u18 u19 u20 u21 u22 u23 u24 u25 u26 u27 u28 u29 u30 u31 u32 u33 u34 u35 u36 u37 u38 : Value) (wC : World), Below w1.heap.size w1 wC → Q .normal ⟨#[.slice (some ⟨b, off, none⟩) len cap, t1, t2, .int .i64 ((i : Nat) : Int), .pointer (some ⟨bx, 0, none⟩), t5, t6, t7, t8, t9, t10, t11, t12, t13, t14, u15, u16, u17, u18, u19, u20, u21, u22, u23, u24, u25, u26, u27, u28, u29, u30, u31, u32, u33, u34, u35, u36, u37, u38, .bool true, t40], []⟩ wC)) :
    Code.wp Tryz.prog ((Tryz.f30.body.bind (regionOf 6)).getD .skip) Q ⟨#[.slice (some ⟨b, off, none⟩) len cap, t1, t2, .int .i64 ((i : Nat) : Int), .pointer (some ⟨bx, 0, none⟩), t5, t6, t7, t8, t9, t10, t11, t12, t13, t14, t15, t16, t17, t18, t19, t20, t21, t22, t23, t24, t25, t26, t27, t28, t29, t30, t31, t32, t33, t34, t35, t36, t37, t38, t39, t40], []⟩ w1 := by
  have hS : (fun w' => Below w1.heap.size w1 w' ∧ w'.cell? ⟨bx, 0, none⟩ = some (.int .i64 c) ∧ w'.cell? ⟨bx, 1, none⟩ = some (.int .i64 d) ∧ w'.cell? ⟨b, off + j * 5, none⟩ = some (.int .i64 c0)) w1.drew := ⟨below_drew _, hb0, hb1, hpr⟩
  conv => arg 2; whnf
  refine held_start (S := fun w' => Below w1.heap.size w1 w' ∧ w'.cell? ⟨bx, 0, none⟩ = some (.int .i64 c) ∧ w'.cell? ⟨bx, 1, none⟩ = some (.int .i64 d) ∧ w'.cell? ⟨b, off + j * 5, none⟩ = some (.int .i64 c0)) mixed9 ?_
  refine held_take (i := 0) (v := .int .i64 ((i : Nat) : Int)) rfl (by kernel_rfl) (fun _ _ _ h => h) (.inl ⟨rfl, fun w hS => ?_⟩) hS ?_
  · obtain ⟨-, q0, q1, q2⟩ := hS
    go_simp
  try simp only [Act.put, List.setIfInBounds_toArray, List.set_cons_zero, List.set_cons_succ]
  refine held_take (i := 1) (v := .bool true) rfl (by kernel_rfl) (fun _ _ _ h => h) (.inl ⟨rfl, fun w hS => ?_⟩) hS ?_
  · obtain ⟨-, q0, q1, q2⟩ := hS
    go_simp
  try simp only [Act.put, List.setIfInBounds_toArray, List.set_cons_zero, List.set_cons_succ]
  refine held_take (i := 2) (v := .bool true) rfl (by kernel_rfl) (fun _ _ _ h => h) (.inl ⟨rfl, fun w hS => ?_⟩) hS ?_
  · obtain ⟨-, q0, q1, q2⟩ := hS
    go_simp
  try simp only [Act.put, List.setIfInBounds_toArray, List.set_cons_zero, List.set_cons_succ]
  refine held_take (i := 3) (v := .pointer (some ⟨bx, 0, none⟩)) rfl (by kernel_rfl) (fun _ _ _ h => h) (.inl ⟨rfl, fun w hS => ?_⟩) hS ?_
  · obtain ⟨-, q0, q1, q2⟩ := hS
    go_simp
  try simp only [Act.put, List.setIfInBounds_toArray, List.set_cons_zero, List.set_cons_succ]
  refine held_take (i := 4) (v := .int .i64 c) rfl (by kernel_rfl) (fun _ _ _ h => h) (.inl ⟨rfl, fun w hS => ?_⟩) hS ?_
  · obtain ⟨-, q0, q1, q2⟩ := hS
    go_simp
  try simp only [Act.put, List.setIfInBounds_toArray, List.set_cons_zero, List.set_cons_succ]
  refine held_take (i := 5) (v := .slice (some ⟨b, off, none⟩) len cap) rfl (by kernel_rfl) (fun _ _ _ h => h) (.inl ⟨rfl, fun w hS => ?_⟩) hS ?_
  · obtain ⟨-, q0, q1, q2⟩ := hS
    go_simp
  try simp only [Act.put, List.setIfInBounds_toArray, List.set_cons_zero, List.set_cons_succ]
  refine held_take (i := 6) (v := .int .i64 ((i : Nat) : Int)) rfl (by kernel_rfl) (fun _ _ _ h => h) (.inl ⟨rfl, fun w hS => ?_⟩) hS ?_
  · obtain ⟨-, q0, q1, q2⟩ := hS
    go_simp
  try simp only [Act.put, List.setIfInBounds_toArray, List.set_cons_zero, List.set_cons_succ]
  refine held_take (i := 7) (v := .int .i64 (j : Int)) rfl (by kernel_rfl) (fun _ _ _ h => h) (.inl ⟨rfl, fun w hS => ?_⟩) hS ?_
  · obtain ⟨-, q0, q1, q2⟩ := hS
    go_simp
  try simp only [Act.put, List.setIfInBounds_toArray, List.set_cons_zero, List.set_cons_succ]
  refine held_take (i := 8) (v := .pointer (some ⟨b, off + j * 5, none⟩)) rfl (by kernel_rfl) (fun _ _ _ h => h) (.inl ⟨rfl, fun w hS => ?_⟩) hS ?_
  · obtain ⟨-, q0, q1, q2⟩ := hS
    go_simp
  try simp only [Act.put, List.setIfInBounds_toArray, List.set_cons_zero, List.set_cons_succ]
  refine held_take (i := 9) (v := .pointer (some ⟨b, off + j * 5, none⟩)) rfl (by kernel_rfl) (fun _ _ _ h => h) (.inl ⟨rfl, fun w hS => ?_⟩) hS ?_
  · obtain ⟨-, q0, q1, q2⟩ := hS
    go_simp
  try simp only [Act.put, List.setIfInBounds_toArray, List.set_cons_zero, List.set_cons_succ]
  refine held_take (i := 10) (v := .int .i64 c0) rfl (by kernel_rfl) (fun _ _ _ h => h) (.inl ⟨rfl, fun w hS => ?_⟩) hS ?_
  · obtain ⟨-, q0, q1, q2⟩ := hS
    go_simp
  try simp only [Act.put, List.setIfInBounds_toArray, List.set_cons_zero, List.set_cons_succ]
  refine held_take (i := 11) (v := .bool false) rfl (by kernel_rfl) (fun _ _ _ h => h) (.inl ⟨rfl, fun w hS => ?_⟩) hS ?_
  · obtain ⟨-, q0, q1, q2⟩ := hS
    go_simp
  try simp only [Act.put, List.setIfInBounds_toArray, List.set_cons_zero, List.set_cons_succ]
  refine held_take (i := 12) (v := .bool false) rfl (by kernel_rfl) (fun _ _ _ h => h) (.inl ⟨rfl, fun w hS => ?_⟩) hS ?_
  · obtain ⟨-, q0, q1, q2⟩ := hS
    go_simp
  try simp only [Act.put, List.setIfInBounds_toArray, List.set_cons_zero, List.set_cons_succ]
  refine held_take (i := 13) (v := .bool false) rfl (by kernel_rfl) (fun _ _ _ h => h) (.inl ⟨rfl, fun w hS => ?_⟩) hS ?_
  · obtain ⟨-, q0, q1, q2⟩ := hS
    go_simp
  try simp only [Act.put, List.setIfInBounds_toArray, List.set_cons_zero, List.set_cons_succ]
  refine held_take (i := 14) (v := .pointer (some ⟨bx, 0, none⟩)) rfl (by kernel_rfl) (fun _ _ _ h => h) (.inl ⟨rfl, fun w hS => ?_⟩) hS ?_
  · obtain ⟨-, q0, q1, q2⟩ := hS
    go_simp
  try simp only [Act.put, List.setIfInBounds_toArray, List.set_cons_zero, List.set_cons_succ]
  refine held_take (i := 15) (v := .int .i64 c) rfl (by kernel_rfl) (fun _ _ _ h => h) (.inl ⟨rfl, fun w hS => ?_⟩) hS ?_
  · obtain ⟨-, q0, q1, q2⟩ := hS
    go_simp
  try simp only [Act.put, List.setIfInBounds_toArray, List.set_cons_zero, List.set_cons_succ]
  refine held_one (i := 16) (by kernel_rfl) rfl rfl ?_
  intro K hK
  go_simp
  go_at_call 42
  refine (count_no hc1 _).mono ?_
  rintro e w2 ⟨rfl, rfl⟩
  refine hK.out _ _ (hS) ?_
  have hS9 := hS
  clear hK hS
  have hS := hS9
  clear hS9
  try simp only [Act.put, List.setIfInBounds_toArray, List.set_cons_zero, List.set_cons_succ]
  refine held_take (i := 17) (v := .bool true) rfl (by kernel_rfl) (fun _ _ _ h => h) (.inl ⟨rfl, fun w hS => ?_⟩) hS ?_
  · obtain ⟨-, q0, q1, q2⟩ := hS
    go_simp
  try simp only [Act.put, List.setIfInBounds_toArray, List.set_cons_zero, List.set_cons_succ]
  refine held_take (i := 18) (v := .bool true) rfl (by kernel_rfl) (fun _ _ _ h => h) (.inl ⟨rfl, fun w hS => ?_⟩) hS ?_
  · obtain ⟨-, q0, q1, q2⟩ := hS
    go_simp
  try simp only [Act.put, List.setIfInBounds_toArray, List.set_cons_zero, List.set_cons_succ]
  refine held_take (i := 19) (v := .bool true) rfl (by kernel_rfl) (fun _ _ _ h => h) (.inl ⟨rfl, fun w hS => ?_⟩) hS ?_
  · obtain ⟨-, q0, q1, q2⟩ := hS
    go_simp
  try simp only [Act.put, List.setIfInBounds_toArray, List.set_cons_zero, List.set_cons_succ]
  refine held_take (i := 20) (v := undef) rfl (by kernel_rfl) (fun _ _ _ h => h) (.inr ⟨rfl, rfl⟩) hS ?_
  try simp only [Act.put, List.setIfInBounds_toArray, List.set_cons_zero, List.set_cons_succ]
  refine held_take (i := 21) (v := undef) rfl (by kernel_rfl) (fun _ _ _ h => h) (.inr ⟨rfl, rfl⟩) hS ?_
  try simp only [Act.put, List.setIfInBounds_toArray, List.set_cons_zero, List.set_cons_succ]
  refine held_take (i := 22) (v := undef) rfl (by kernel_rfl) (fun _ _ _ h => h) (.inr ⟨rfl, rfl⟩) hS ?_
  try simp only [Act.put, List.setIfInBounds_toArray, List.set_cons_zero, List.set_cons_succ]
  refine held_take (i := 23) (v := undef) rfl (by kernel_rfl) (fun _ _ _ h => h) (.inr ⟨rfl, rfl⟩) hS ?_
  try simp only [Act.put, List.setIfInBounds_toArray, List.set_cons_zero, List.set_cons_succ]
  refine held_take (i := 24) (v := .bool true) rfl (by kernel_rfl) (fun _ _ _ h => h) (.inl ⟨rfl, fun w hS => ?_⟩) hS ?_
  · obtain ⟨-, q0, q1, q2⟩ := hS
    go_simp
  try simp only [Act.put, List.setIfInBounds_toArray, List.set_cons_zero, List.set_cons_succ]
  refine wpAnyH_done (by kernel_rfl) ?_ _
  refine NoPanic.normal ?_
  exact hQ.out _ _ _ _ _ _ _ _ _ _ _ _ _ _ _ _ _ _ _ _ _ _ _ _ _ hS.1
set_option maxHeartbeats 4000000 in
set_option maxRecDepth 60000 in
theorem mt_11 (t1 t2 t5 t6 t7 t8 t9 t10 t11 t12 t13 t14 t15 t16 t17 t18 t19 t20 t21 t22 t23 t24 t25 t26 t27 t28 t29 t30 t31 t32 t33 t34 t35 t36 t37 t38 t39 t40 : Value) (b off i j len cap bx : Nat) (c d c0 : Int) (w1 : World) (Q : Exit → Act → World → Prop)
    (hb0 : w1.cell? ⟨bx, 0, none⟩ = some (.int .i64 c)) (hb1 : w1.cell? ⟨bx, 1, none⟩ = some (.int .i64 d)) (hpr : w1.cell? ⟨b, off + j * 5, none⟩ = some (.int .i64 c0)) (hi0 : 0 < i) (hwj : IntKind.i64.wrap ((i : Int) - 1) = (j : Int)) (hj0 : (0 : Int) ≤ (j : Int)) (hjl : (j : Int) < (len : Int)) (hle : decide (c ≤ c0) = false) (hc1 : Count c)
    (hQ : Hid (∀ (u15 u16 u17 u18 u19 u20 u21 u22 u23 u24 u25 u26 u27 u28 u29 u30 u31 u32 u33 u34 u35 u36 u37 u38 : Value) (wC : World), Below w1.heap.size w1 wC → Q .normal ⟨#[.slice (some ⟨b, off, none⟩) len cap, t1, t2, .int .i64 ((i : Nat) : Int), .pointer (some ⟨bx, 0, none⟩), t5, t6, t7, t8, t9, t10, t11, t12, t13, t14, u15, u16, u17, u18, u19, u20, u21, u22, u23, u24, u25, u26, u27, u28, u29, u30, u31, u32, u33, u34, u35, u36, u37, u38, .bool (!decide (Count d)), t40], []⟩ wC)) :
    Code.wp Tryz.prog ((Tryz.f30.body.bind (regionOf 6)).getD .skip) Q ⟨#[.slice (some ⟨b, off, none⟩) len cap, t1, t2, .int .i64 ((i : Nat) : Int), .pointer (some ⟨bx, 0, none⟩), t5, t6, t7, t8, t9, t10, t11, t12, t13, t14, t15, t16, t17, t18, t19, t20, t21, t22, t23, t24, t25, t26, t27, t28, t29, t30, t31, t32, t33, t34, t35, t36, t37, t38, t39, t40], []⟩ w1 := by
  have hS : (fun w' => Below w1.heap.size w1 w' ∧ w'.cell? ⟨bx, 0, none⟩ = some (.int .i64 c) ∧ w'.cell? ⟨bx, 1, none⟩ = some (.int .i64 d) ∧ w'.cell? ⟨b, off + j * 5, none⟩ = some (.int .i64 c0)) w1.drew := ⟨below_drew _, hb0, hb1, hpr⟩
  conv => arg 2; whnf
  refine held_start (S := fun w' => Below w1.heap.size w1 w' ∧ w'.cell? ⟨bx, 0, none⟩ = some (.int .i64 c) ∧ w'.cell? ⟨bx, 1, none⟩ = some (.int .i64 d) ∧ w'.cell? ⟨b, off + j * 5, none⟩ = some (.int .i64 c0)) mixed9 ?_
  refine held_take (i := 0) (v := .int .i64 ((i : Nat) : Int)) rfl (by kernel_rfl) (fun _ _ _ h => h) (.inl ⟨rfl, fun w hS => ?_⟩) hS ?_
  · obtain ⟨-, q0, q1, q2⟩ := hS
    go_simp
  try simp only [Act.put, List.setIfInBounds_toArray, List.set_cons_zero, List.set_cons_succ]
  refine held_take (i := 1) (v := .bool true) rfl (by kernel_rfl) (fun _ _ _ h => h) (.inl ⟨rfl, fun w hS => ?_⟩) hS ?_
  · obtain ⟨-, q0, q1, q2⟩ := hS
    go_simp
  try simp only [Act.put, List.setIfInBounds_toArray, List.set_cons_zero, List.set_cons_succ]
  refine held_take (i := 2) (v := .bool true) rfl (by kernel_rfl) (fun _ _ _ h => h) (.inl ⟨rfl, fun w hS => ?_⟩) hS ?_
  · obtain ⟨-, q0, q1, q2⟩ := hS
    go_simp
  try simp only [Act.put, List.setIfInBounds_toArray, List.set_cons_zero, List.set_cons_succ]
  refine held_take (i := 3) (v := .pointer (some ⟨bx, 0, none⟩)) rfl (by kernel_rfl) (fun _ _ _ h => h) (.inl ⟨rfl, fun w hS => ?_⟩) hS ?_
  · obtain ⟨-, q0, q1, q2⟩ := hS
    go_simp
  try simp only [Act.put, List.setIfInBounds_toArray, List.set_cons_zero, List.set_cons_succ]
  refine held_take (i := 4) (v := .int .i64 c) rfl (by kernel_rfl) (fun _ _ _ h => h) (.inl ⟨rfl, fun w hS => ?_⟩) hS ?_
  · obtain ⟨-, q0, q1, q2⟩ := hS
    go_simp
  try simp only [Act.put, List.setIfInBounds_toArray, List.set_cons_zero, List.set_cons_succ]
  refine held_take (i := 5) (v := .slice (some ⟨b, off, none⟩) len cap) rfl (by kernel_rfl) (fun _ _ _ h => h) (.inl ⟨rfl, fun w hS => ?_⟩) hS ?_
  · obtain ⟨-, q0, q1, q2⟩ := hS
    go_simp
  try simp only [Act.put, List.setIfInBounds_toArray, List.set_cons_zero, List.set_cons_succ]
  refine held_take (i := 6) (v := .int .i64 ((i : Nat) : Int)) rfl (by kernel_rfl) (fun _ _ _ h => h) (.inl ⟨rfl, fun w hS => ?_⟩) hS ?_
  · obtain ⟨-, q0, q1, q2⟩ := hS
    go_simp
  try simp only [Act.put, List.setIfInBounds_toArray, List.set_cons_zero, List.set_cons_succ]
  refine held_take (i := 7) (v := .int .i64 (j : Int)) rfl (by kernel_rfl) (fun _ _ _ h => h) (.inl ⟨rfl, fun w hS => ?_⟩) hS ?_
  · obtain ⟨-, q0, q1, q2⟩ := hS
    go_simp
  try simp only [Act.put, List.setIfInBounds_toArray, List.set_cons_zero, List.set_cons_succ]
  refine held_take (i := 8) (v := .pointer (some ⟨b, off + j * 5, none⟩)) rfl (by kernel_rfl) (fun _ _ _ h => h) (.inl ⟨rfl, fun w hS => ?_⟩) hS ?_
  · obtain ⟨-, q0, q1, q2⟩ := hS
    go_simp
  try simp only [Act.put, List.setIfInBounds_toArray, List.set_cons_zero, List.set_cons_succ]
  refine held_take (i := 9) (v := .pointer (some ⟨b, off + j * 5, none⟩)) rfl (by kernel_rfl) (fun _ _ _ h => h) (.inl ⟨rfl, fun w hS => ?_⟩) hS ?_
  · obtain ⟨-, q0, q1, q2⟩ := hS
    go_simp
  try simp only [Act.put, List.setIfInBounds_toArray, List.set_cons_zero, List.set_cons_succ]
  refine held_take (i := 10) (v := .int .i64 c0) rfl (by kernel_rfl) (fun _ _ _ h => h) (.inl ⟨rfl, fun w hS => ?_⟩) hS ?_
  · obtain ⟨-, q0, q1, q2⟩ := hS
    go_simp
  try simp only [Act.put, List.setIfInBounds_toArray, List.set_cons_zero, List.set_cons_succ]
  refine held_take (i := 11) (v := .bool false) rfl (by kernel_rfl) (fun _ _ _ h => h) (.inl ⟨rfl, fun w hS => ?_⟩) hS ?_
  · obtain ⟨-, q0, q1, q2⟩ := hS
    go_simp
  try simp only [Act.put, List.setIfInBounds_toArray, List.set_cons_zero, List.set_cons_succ]
  refine held_take (i := 12) (v := .bool false) rfl (by kernel_rfl) (fun _ _ _ h => h) (.inl ⟨rfl, fun w hS => ?_⟩) hS ?_
  · obtain ⟨-, q0, q1, q2⟩ := hS
    go_simp
  try simp only [Act.put, List.setIfInBounds_toArray, List.set_cons_zero, List.set_cons_succ]
  refine held_take (i := 13) (v := .bool false) rfl (by kernel_rfl) (fun _ _ _ h => h) (.inl ⟨rfl, fun w hS => ?_⟩) hS ?_
  · obtain ⟨-, q0, q1, q2⟩ := hS
    go_simp
  try simp only [Act.put, List.setIfInBounds_toArray, List.set_cons_zero, List.set_cons_succ]
  refine held_take (i := 14) (v := .pointer (some ⟨bx, 0, none⟩)) rfl (by kernel_rfl) (fun _ _ _ h => h) (.inl ⟨rfl, fun w hS => ?_⟩) hS ?_
  · obtain ⟨-, q0, q1, q2⟩ := hS
    go_simp
  try simp only [Act.put, List.setIfInBounds_toArray, List.set_cons_zero, List.set_cons_succ]
  refine held_take (i := 15) (v := .int .i64 c) rfl (by kernel_rfl) (fun _ _ _ h => h) (.inl ⟨rfl, fun w hS => ?_⟩) hS ?_
  · obtain ⟨-, q0, q1, q2⟩ := hS
    go_simp
  try simp only [Act.put, List.setIfInBounds_toArray, List.set_cons_zero, List.set_cons_succ]
  refine held_one (i := 16) (by kernel_rfl) rfl rfl ?_
  intro K hK
  go_simp
  go_at_call 42
  refine (count_yes hc1 _).mono ?_
  rintro e w2 ⟨rfl, rfl⟩
  refine hK.out _ _ (hS) ?_
  have hS9 := hS
  clear hK hS
  have hS := hS9
  clear hS9
  try simp only [Act.put, List.setIfInBounds_toArray, List.set_cons_zero, List.set_cons_succ]
  refine held_take (i := 17) (v := .bool false) rfl (by kernel_rfl) (fun _ _ _ h => h) (.inl ⟨rfl, fun w hS => ?_⟩) hS ?_
  · obtain ⟨-, q0, q1, q2⟩ := hS
    go_simp
  try simp only [Act.put, List.setIfInBounds_toArray, List.set_cons_zero, List.set_cons_succ]
  refine held_take (i := 18) (v := .bool false) rfl (by kernel_rfl) (fun _ _ _ h => h) (.inl ⟨rfl, fun w hS => ?_⟩) hS ?_
  · obtain ⟨-, q0, q1, q2⟩ := hS
    go_simp
  try simp only [Act.put, List.setIfInBounds_toArray, List.set_cons_zero, List.set_cons_succ]
  refine held_take (i := 19) (v := .bool false) rfl (by kernel_rfl) (fun _ _ _ h => h) (.inl ⟨rfl, fun w hS => ?_⟩) hS ?_
  · obtain ⟨-, q0, q1, q2⟩ := hS
    go_simp
  try simp only [Act.put, List.setIfInBounds_toArray, List.set_cons_zero, List.set_cons_succ]
  refine held_take (i := 20) (v := .pointer (some ⟨bx, 1, none⟩)) rfl (by kernel_rfl) (fun _ _ _ h => h) (.inl ⟨rfl, fun w hS => ?_⟩) hS ?_
  · obtain ⟨-, q0, q1, q2⟩ := hS
    go_simp
  try simp only [Act.put, List.setIfInBounds_toArray, List.set_cons_zero, List.set_cons_succ]
  refine held_take (i := 21) (v := .int .i64 d) rfl (by kernel_rfl) (fun _ _ _ h => h) (.inl ⟨rfl, fun w hS => ?_⟩) hS ?_
  · obtain ⟨-, q0, q1, q2⟩ := hS
    go_simp
  try simp only [Act.put, List.setIfInBounds_toArray, List.set_cons_zero, List.set_cons_succ]
  refine held_one (i := 22) (by kernel_rfl) rfl rfl ?_
  intro K hK
  go_simp
  go_at_call 42
  refine (isCount_any d _).mono ?_
  rintro e w2 ⟨rfl, rfl⟩
  refine hK.out _ _ (hS) ?_
  have hS9 := hS
  clear hK hS
  have hS := hS9
  clear hS9
  try simp only [Act.put, List.setIfInBounds_toArray, List.set_cons_zero, List.set_cons_succ]
  refine held_take (i := 23) (v := .bool (!decide (Count d))) rfl (by kernel_rfl) (fun _ _ _ h => h) (.inl ⟨rfl, fun w hS => ?_⟩) hS ?_
  · obtain ⟨-, q0, q1, q2⟩ := hS
    go_simp
  try simp only [Act.put, List.setIfInBounds_toArray, List.set_cons_zero, List.set_cons_succ]
  refine held_take (i := 24) (v := .bool (!decide (Count d))) rfl (by kernel_rfl) (fun _ _ _ h => h) (.inl ⟨rfl, fun w hS => ?_⟩) hS ?_
  · obtain ⟨-, q0, q1, q2⟩ := hS
    go_simp
  try simp only [Act.put, List.setIfInBounds_toArray, List.set_cons_zero, List.set_cons_succ]
  refine wpAnyH_done (by kernel_rfl) ?_ _
  refine NoPanic.normal ?_
  exact hQ.out _ _ _ _ _ _ _ _ _ _ _ _ _ _ _ _ _ _ _ _ _ _ _ _ _ hS.1
set_option maxHeartbeats 4000000 in
set_option maxRecDepth 60000 in
theorem mayBeTold_any (a : Option Addr) (len cap : Nat) (ds : List Dn) (w : World) (h : DnsAt w a len cap ds) :
    Calls Tryz.prog 30 #[.slice a len cap] w fun e w' => BoolPost (DnsMay ds) w e w' := by
  have hl : ds.length = len := h.1
  have hm : len ≤ maxLen := Nat.le_trans h.2.1 h.2.2.1
  unfold maxLen at hm
  have HL : Hid (DnsAt w a len cap ds) := h
  clear h
  by_cases h8 : 8 < len
  · have HN : Hid (¬ DnsMay ds) := fun h => by have := h.1; omega
    go_enter Tryz.func30, Tryz.ntmps30
    go_wp2_with fail
    go_ret
    exact bool_no (Below.refl _ _) HN.out
  go_enter Tryz.func30, Tryz.ntmps30
  go_wp2_with fail
  go_loopw [10] (fun i wr => ∃ k : Nat, k ≤ len ∧ i = .int .i64 k ∧ Hid (∀ j, j < k → DnOk ds j) ∧ Hid (Below w.heap.size w wr)) (fun i _ => len - (intOf i).toNat)
  case atStart => exact ⟨0, Nat.zero_le _, rfl, (fun j hj => absurd hj (Nat.not_lt_zero _)), Below.refl _ _⟩
  case round =>
    obtain ⟨k, hk, rfl, hT, hbel⟩ := hrel
    by_cases hlt : k < len
    · obtain ⟨b, off, rfl, hbs, hcell⟩ := (HL.out.below hbel.out).some (by omega)
      obtain ⟨e0, e1, e2, e3, e4⟩ := hcell k hlt
      have hk1 : (k : Int) < (len : Int) := by omega
      have HPV : Hid (0 < k → wr.cell? ⟨b, off + (k - 1) * 5, none⟩ = some (.int .i64 (ds.getD (k - 1) dn0).cl)) := fun h => (hcell (k - 1) (by omega)).1
      clear hcell
      have HOK : Hid (DnOk ds k ↔ (0 < k → (ds.getD (k - 1) dn0).cl < (ds.getD k dn0).cl) ∧ Count (ds.getD k dn0).cl ∧ Count (ds.getD k dn0).id) := Iff.rfl
      have HNO : Hid (¬ DnOk ds k → ¬ DnsMay ds) := fun hn hM => hn (hM.2 k (by omega))
      have HYES : Hid (DnOk ds k → ∀ j, j < k + 1 → DnOk ds j) := fun h j hj => by
        rcases Nat.lt_succ_iff_lt_or_eq.1 hj with h' | rfl
        · exact hT.out j h'
        · exact h
      generalize ds.getD k dn0 = x at *
      obtain ⟨c, d, y1, y2, y3⟩ := x
      have HB1 := Hid.mk9 (below2 hbel.out (below_alloc wr (.cells #[.int .i64 c, .int .i64 d, .int .i64 y1, .bool y2, .int .i64 y3] 51)))
      have HPV2 : Hid (0 < k → (wr.alloc (.cells #[.int .i64 c, .int .i64 d, .int .i64 y1, .bool y2, .int .i64 y3] 51)).cell? ⟨b, off + (k - 1) * 5, none⟩ = some (.int .i64 (ds.getD (k - 1) dn0).cl)) := fun h => ((below_alloc wr _).cell (p := ⟨b, off + (k - 1) * 5, none⟩) hbs).trans (HPV.out h)
      have x0 : (wr.alloc (.cells #[.int .i64 c, .int .i64 d, .int .i64 y1, .bool y2, .int .i64 y3] 51)).cell? ⟨wr.heap.size, 0, none⟩ = some (.int .i64 c) := by simp
      have x1 : (wr.alloc (.cells #[.int .i64 c, .int .i64 d, .int .i64 y1, .bool y2, .int .i64 y3] 51)).cell? ⟨wr.heap.size, 1, none⟩ = some (.int .i64 d) := by simp
      have X0 := Hid.mk9 x0
      have X1 := Hid.mk9 x1
      clear x0 x1 HPV hT
      simp only at e0 e1 e2 e3 e4
      go_upto_region 6 with fail
      generalize hw1 : wr.alloc (.cells #[.int .i64 c, .int .i64 d, .int .i64 y1, .bool y2, .int .i64 y3] 51) = w1 at *
      generalize wr.heap.size = bx at *
      clear hw1 e0 e1 e2 e3 e4
      by_cases hk0 : k = 0
      · subst hk0
        have HLT : Hid (0 < 0 → (ds.getD (0 - 1) dn0).cl < c) := Hid.mk9 fun h => absurd h (by omega)
        by_cases hser : Count c
        · have HSR := Hid.mk9 hser
          clear hser
          refine mt_01 _ _ _ _ _ _ _ _ _ _ _ _ _ _ _ _ _ _ _ _ _ _ _ _ _ _ _ _ _ _ _ _ _ _ _ _ _ _ (some ⟨b, off, none⟩) len cap bx c d w1 _ X0.out X1.out HSR.out (Hid.mk9 (fun u15 u16 u17 u18 u19 u20 u21 u22 u23 u24 u25 u26 u27 u28 u29 u30 u31 u32 u33 u34 u35 u36 u37 u38 wC hbC => ?_))
          have HB2 := Hid.mk9 (below2 HB1.out hbC)
          by_cases hd : Count d
          · have HY := Hid.mk9 (HYES.out (HOK.out.2 ⟨HLT.out, HSR.out, hd⟩))
            rw [decide_eq_true hd]
            clear hbC hd
            go_wp2_with fail
            exact ⟨⟨0 + 1, by omega, by go_num, HY, HB2⟩, by simp [intOf]; omega⟩
          · have HN := Hid.mk9 (HNO.out fun h => hd (HOK.out.1 h).2.2)
            rw [decide_eq_false hd]
            clear hbC hd
            go_wp2_with fail
            go_ret
            exact bool_no HB2.out HN.out
        · have HN := Hid.mk9 (HNO.out fun h => hser (HOK.out.1 h).2.1)
          have HSR := Hid.mk9 hser
          clear hser
          refine mt_00 _ _ _ _ _ _ _ _ _ _ _ _ _ _ _ _ _ _ _ _ _ _ _ _ _ _ _ _ _ _ _ _ _ _ _ _ _ _ (some ⟨b, off, none⟩) len cap bx c d w1 _ X0.out X1.out HSR.out (Hid.mk9 (fun u15 u16 u17 u18 u19 u20 u21 u22 u23 u24 u25 u26 u27 u28 u29 u30 u31 u32 u33 u34 u35 u36 u37 u38 wC hbC => ?_))
          have HB2 := Hid.mk9 (below2 HB1.out hbC)
          clear hbC
          go_wp2_with fail
          go_ret
          exact bool_no HB2.out HN.out
      · obtain ⟨m, hmk⟩ : ∃ m, k = m + 1 := ⟨k - 1, by omega⟩
        have HP0 := Hid.mk9 (HPV2.out (by omega))
        rw [show k - 1 = m from by omega] at HP0 HOK
        generalize (ds.getD m dn0).cl = c0 at *
        have HEM : Hid (IntKind.i64.wrap ((k : Int) - 1) = (m : Int)) := by
          show _ = _
          rw [show (k : Int) - 1 = (m : Int) from by omega]; simp [IntKind.wrap, IntKind.bits, IntKind.signed]; omega
        have hk2 : 0 < k := by omega
        by_cases hlt2 : c0 < c
        · have HLT : Hid (0 < k → c0 < c) := Hid.mk9 fun _ => hlt2
          have HLE : Hid (decide (c ≤ c0) = false) := Hid.mk9 (by simp; omega)
          clear hlt2 hk0
          by_cases hser : Count c
          · have HSR := Hid.mk9 hser
            clear hser
            refine mt_11 _ _ _ _ _ _ _ _ _ _ _ _ _ _ _ _ _ _ _ _ _ _ _ _ _ _ _ _ _ _ _ _ _ _ _ _ _ _ b off k m len cap bx c d c0 w1 _ X0.out X1.out HP0.out (by omega) HEM.out (by omega) (by omega) HLE.out HSR.out (Hid.mk9 (fun u15 u16 u17 u18 u19 u20 u21 u22 u23 u24 u25 u26 u27 u28 u29 u30 u31 u32 u33 u34 u35 u36 u37 u38 wC hbC => ?_))
            have HB2 := Hid.mk9 (below2 HB1.out hbC)
            by_cases hd : Count d
            · have HY := Hid.mk9 (HYES.out (HOK.out.2 ⟨HLT.out, HSR.out, hd⟩))
              rw [decide_eq_true hd]
              clear hbC hd
              go_wp2_with fail
              exact ⟨⟨k + 1, by omega, by go_num, HY, HB2⟩, by simp [intOf]; omega⟩
            · have HN := Hid.mk9 (HNO.out fun h => hd (HOK.out.1 h).2.2)
              rw [decide_eq_false hd]
              clear hbC hd
              go_wp2_with fail
              go_ret
              exact bool_no HB2.out HN.out
          · have HN := Hid.mk9 (HNO.out fun h => hser (HOK.out.1 h).2.1)
            have HSR := Hid.mk9 hser
            clear hser
            refine mt_10 _ _ _ _ _ _ _ _ _ _ _ _ _ _ _ _ _ _ _ _ _ _ _ _ _ _ _ _ _ _ _ _ _ _ _ _ _ _ b off k m len cap bx c d c0 w1 _ X0.out X1.out HP0.out (by omega) HEM.out (by omega) (by omega) HLE.out HSR.out (Hid.mk9 (fun u15 u16 u17 u18 u19 u20 u21 u22 u23 u24 u25 u26 u27 u28 u29 u30 u31 u32 u33 u34 u35 u36 u37 u38 wC hbC => ?_))
            have HB2 := Hid.mk9 (below2 HB1.out hbC)
            clear hbC
            go_wp2_with fail
            go_ret
            exact bool_no HB2.out HN.out
        · have HN := Hid.mk9 (HNO.out fun h => hlt2 ((HOK.out.1 h).1 (by omega)))
          have HLE : Hid (decide (c ≤ c0) = true) := Hid.mk9 (by simp; omega)
          clear hlt2 hk0
          refine mt_1 _ _ _ _ _ _ _ _ _ _ _ _ _ _ _ _ _ _ _ _ _ _ _ _ _ _ _ _ _ _ _ _ _ _ _ _ _ _ b off k m len cap bx c d c0 w1 _ X0.out X1.out HP0.out (by omega) HEM.out (by omega) (by omega) HLE.out (Hid.mk9 (fun u15 u16 u17 u18 u19 u20 u21 u22 u23 u24 u25 u26 u27 u28 u29 u30 u31 u32 u33 u34 u35 u36 u37 u38 wC hbC => ?_))
          have HB2 := Hid.mk9 (below2 HB1.out hbC)
          clear hbC
          go_wp2_with fail
          go_ret
          exact bool_no HB2.out HN.out
    · obtain rfl : k = len := by omega
      have HY : Hid (DnsMay ds) := Hid.mk9 ⟨by omega, fun i hi => hT.out i (by omega)⟩
      clear hT
      go_wp2_with fail
      go_ret
      exact bool_yes hbel.out HY.out
set_option maxHeartbeats 1000000 in
set_option maxRecDepth 60000 in
theorem shCheck_any (v : Value) (s : Shf) (w : World) (h : ShAt w v s) : Calls Tryz.prog 11 #[v] w fun e w' => ErrPost (ShMay s) w e w' := by
  obtain ⟨la, ln, lc, da, dn, dc, rfl, hL, hD⟩ := h
  obtain ⟨ls, ds, fl⟩ := s
  simp only at hL hD ⊢
  have b0 := below_alloc w (.cells #[.slice la ln lc, .slice da dn dc, .int .i64 fl] 25)
  have HB0 := Hid.mk9 b0
  have HCL := Hid.mk9 (mayStand_any la ln lc ls fl _ (hL.below b0))
  have HDA : Hid (∀ W, Below w.heap.size w W → Calls Tryz.prog 30 #[.slice da dn dc] W fun e w' => BoolPost (DnsMay ds) W e w') := fun W hb => mayBeTold_any da dn dc ds W (hD.below hb)
  have HX : Hid ((w.alloc (.cells #[.slice la ln lc, .slice da dn dc, .int .i64 fl] 25)).cell? ⟨w.heap.size, 1, none⟩ = some (.slice da dn dc)) := Hid.mk9 (by simp)
  clear b0 hL hD
  have HM : Hid (ShMay ⟨ls, ds, fl⟩ ↔ (0 ≤ fl ∧ fl ≤ 1099511627776) ∧ LnsMay ls fl ∧ DnsMay ds) := Iff.rfl
  generalize ShMay ⟨ls, ds, fl⟩ = P at *
  by_cases hf : 0 ≤ fl ∧ fl ≤ 1099511627776
  · have HW := Hid.mk9 (within_yes hf)
    by_cases hl : LnsMay ls fl
    · have HC1 := Hid.mk9 (bool_true HCL.out hl)
      by_cases hd : DnsMay ds
      · have HC2 : Hid (∀ W, Below w.heap.size w W → Calls Tryz.prog 30 #[.slice da dn dc] W fun e w' => e = .returned (.bool true) ∧ Below W.heap.size W w') := fun W hb => bool_true (HDA.out W hb) hd
        have HP := Hid.mk9 (HM.out.2 ⟨hf, hl, hd⟩)
        clear hf hl hd HM HCL HDA
        go_enter Tryz.func11, Tryz.ntmps11
        go_wp2_with (first
          | (go_at_call 28; refine (HW.out _).mono ?_; rintro e w1 ⟨rfl, rfl⟩)
          | (go_at_call 29; refine HC1.out.mono ?_; rintro e w1 ⟨rfl, hb1⟩; have x1 := kept3 HX.out hb1; replace HB0 := Hid.mk9 (below2 HB0.out hb1); clear hb1)
          | (go_at_call 30; refine (HC2.out _ HB0.out).mono ?_; rintro e w2 ⟨rfl, hb2⟩; replace HB0 := Hid.mk9 (below2 HB0.out hb2); clear hb2))
        go_ret
        exact ⟨HB0.out, .inl ⟨rfl, HP.out⟩⟩
      · have HC2 : Hid (∀ W, Below w.heap.size w W → Calls Tryz.prog 30 #[.slice da dn dc] W fun e w' => e = .returned (.bool false) ∧ Below W.heap.size W w') := fun W hb => bool_false (HDA.out W hb) hd
        have HP := Hid.mk9 fun h => hd (HM.out.1 h).2.2
        clear hf hl hd HM HCL HDA
        go_enter Tryz.func11, Tryz.ntmps11
        go_wp2_with (first
          | (go_at_call 28; refine (HW.out _).mono ?_; rintro e w1 ⟨rfl, rfl⟩)
          | (go_at_call 29; refine HC1.out.mono ?_; rintro e w1 ⟨rfl, hb1⟩; have x1 := kept3 HX.out hb1; replace HB0 := Hid.mk9 (below2 HB0.out hb1); clear hb1)
          | (go_at_call 30; refine (HC2.out _ HB0.out).mono ?_; rintro e w2 ⟨rfl, hb2⟩; replace HB0 := Hid.mk9 (below2 HB0.out hb2); clear hb2))
        go_ret
        exact ⟨HB0.out, .inr ⟨rfl, HP.out⟩⟩
    · have HC1 := Hid.mk9 (bool_false HCL.out hl)
      have HP := Hid.mk9 fun h => hl (HM.out.1 h).2.1
      clear hf hl HM HCL HDA
      go_enter Tryz.func11, Tryz.ntmps11
      go_wp2_with (first
        | (go_at_call 28; refine (HW.out _).mono ?_; rintro e w1 ⟨rfl, rfl⟩)
        | (go_at_call 29; refine HC1.out.mono ?_; rintro e w1 ⟨rfl, hb1⟩; replace HB0 := Hid.mk9 (below2 HB0.out hb1); clear hb1))
      go_ret
      exact ⟨HB0.out, .inr ⟨rfl, HP.out⟩⟩
  · have HW := Hid.mk9 (within_no hf)
    have HP := Hid.mk9 fun h => hf (HM.out.1 h).1
    clear hf HM HCL HDA
    go_enter Tryz.func11, Tryz.ntmps11
    go_wp2_with (go_at_call 28; refine (HW.out _).mono ?_; rintro e w1 ⟨rfl, rfl⟩)
    go_ret
    exact ⟨HB0.out, .inr ⟨rfl, HP.out⟩⟩
theorem shCheck_yes {v : Value} {s : Shf} {w : World} (h : ShAt w v s) (hM : ShMay s) : Calls Tryz.prog 11 #[v] w fun e w' => e = .returned (.int .i64 0) ∧ Below w.heap.size w w' :=
  (shCheck_any v s w h).mono fun _ _ ⟨hb, hq⟩ => by rcases hq with ⟨he, _⟩ | ⟨_, hn⟩; exact ⟨he, hb⟩; exact absurd hM hn
end Go.Proofs.YtihohcmocejijaaGreat.Bk
