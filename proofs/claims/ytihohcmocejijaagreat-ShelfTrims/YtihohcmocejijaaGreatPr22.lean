/-
  The drawn regions of write and of trim.
  write.
-/
import Derived.Test.YtihohcmocejijaaGreatPr21
namespace Go.Proofs.YtihohcmocejijaaGreat.Bk
open Go.ChangeShapes Go.WideShapes Go.ChangeAt Go.RowKit
set_option maxHeartbeats 4000000 in
set_option maxRecDepth 60000 in
theorem wr_1 (t1 t2 t3 t4 t6 t7 t8 t9 t10 t11 t12 t13 t14 t15 t16 t17 t18 t19 t20 t21 t22 t23 t24 t25 t26 t27 t28 t29 t30 t31 t32 t33 t34 t35 t36 t37 t38 t39 t40 t41 t42 t43 t44 t45 t46 t47 t48 t49 t50 t51 t52 t53 : Value) (p bx : Nat) (x y fl : Int) (w1 : World) (Q : Exit → Act → World → Prop)
    (hbx : SmBox w1 bx x y) (hc : w1.cell? ⟨p, 2, none⟩ = some (.int .i64 fl))
    (hQ : Hid (∀ (u9 u10 u11 u12 u13 u14 : Value) (wC : World), Below w1.heap.size w1 wC → Q .normal ⟨#[.pointer (some ⟨p, 0, none⟩), t1, t2, t3, t4, .pointer (some ⟨bx, 0, none⟩), t6, t7, t8, u9, u10, u11, u12, u13, u14, .bool (decide (x < fl)), t16, t17, t18, t19, t20, t21, t22, t23, t24, t25, t26, t27, t28, t29, t30, t31, t32, t33, t34, t35, t36, t37, t38, t39, t40, t41, t42, t43, t44, t45, t46, t47, t48, t49, t50, t51, t52, t53], []⟩ wC)) :
    Code.wp Tryz.prog ((Tryz.f54.body.bind (regionOf 1)).getD .skip) Q ⟨#[.pointer (some ⟨p, 0, none⟩), t1, t2, t3, t4, .pointer (some ⟨bx, 0, none⟩), t6, t7, t8, t9, t10, t11, t12, t13, t14, t15, t16, t17, t18, t19, t20, t21, t22, t23, t24, t25, t26, t27, t28, t29, t30, t31, t32, t33, t34, t35, t36, t37, t38, t39, t40, t41, t42, t43, t44, t45, t46, t47, t48, t49, t50, t51, t52, t53], []⟩ w1 := by
  have hS : (fun w' => Below w1.heap.size w1 w' ∧ SmBox w' bx x y ∧ w'.cell? ⟨p, 2, none⟩ = some (.int .i64 fl)) w1.drew := ⟨below_drew _, hbx, hc⟩
  conv => arg 2; whnf
  refine held_start (S := fun w' => Below w1.heap.size w1 w' ∧ SmBox w' bx x y ∧ w'.cell? ⟨p, 2, none⟩ = some (.int .i64 fl)) mixed9 ?_
  refine held_take (i := 0) (v := .pointer (some ⟨bx, 0, none⟩)) rfl (by kernel_rfl) (fun _ _ _ h => h) (.inl ⟨rfl, fun w hS => ?_⟩) hS ?_
  · obtain ⟨-, q0, q1⟩ := hS
    go_simp
  try simp only [Act.put, List.setIfInBounds_toArray, List.set_cons_zero, List.set_cons_succ]
  refine held_take (i := 1) (v := .int .i64 x) rfl (by kernel_rfl) (fun _ _ _ h => h) (.inl ⟨rfl, fun w hS => ?_⟩) hS ?_
  · obtain ⟨-, q0, q1⟩ := hS
    have z0 := q0.c0
    go_simp
  try simp only [Act.put, List.setIfInBounds_toArray, List.set_cons_zero, List.set_cons_succ]
  refine held_take (i := 2) (v := .pointer (some ⟨p, 0, none⟩)) rfl (by kernel_rfl) (fun _ _ _ h => h) (.inl ⟨rfl, fun w hS => ?_⟩) hS ?_
  · obtain ⟨-, q0, q1⟩ := hS
    go_simp
  try simp only [Act.put, List.setIfInBounds_toArray, List.set_cons_zero, List.set_cons_succ]
  refine held_take (i := 3) (v := .pointer (some ⟨p, 0, none⟩)) rfl (by kernel_rfl) (fun _ _ _ h => h) (.inl ⟨rfl, fun w hS => ?_⟩) hS ?_
  · obtain ⟨-, q0, q1⟩ := hS
    go_simp
  try simp only [Act.put, List.setIfInBounds_toArray, List.set_cons_zero, List.set_cons_succ]
  refine held_take (i := 4) (v := .pointer (some ⟨p, 2, none⟩)) rfl (by kernel_rfl) (fun _ _ _ h => h) (.inl ⟨rfl, fun w hS => ?_⟩) hS ?_
  · obtain ⟨-, q0, q1⟩ := hS
    go_simp
  try simp only [Act.put, List.setIfInBounds_toArray, List.set_cons_zero, List.set_cons_succ]
  refine held_take (i := 5) (v := .int .i64 fl) rfl (by kernel_rfl) (fun _ _ _ h => h) (.inl ⟨rfl, fun w hS => ?_⟩) hS ?_
  · obtain ⟨-, q0, q1⟩ := hS
    go_simp
  try simp only [Act.put, List.setIfInBounds_toArray, List.set_cons_zero, List.set_cons_succ]
  refine held_take (i := 6) (v := .bool (decide (x < fl))) rfl (by kernel_rfl) (fun _ _ _ h => h) (.inl ⟨rfl, fun w hS => ?_⟩) hS ?_
  · obtain ⟨-, q0, q1⟩ := hS
    go_simp
  try simp only [Act.put, List.setIfInBounds_toArray, List.set_cons_zero, List.set_cons_succ]
  refine wpAnyH_done (by kernel_rfl) ?_ _
  refine NoPanic.normal ?_
  exact hQ.out _ _ _ _ _ _ _ hS.1
set_option maxHeartbeats 4000000 in
set_option maxRecDepth 60000 in
theorem wr_5 (t1 t2 t3 t4 t8 t9 t10 t11 t12 t13 t14 t15 t16 t17 t18 t19 t20 t21 t22 t23 t24 t25 t26 t27 t28 t29 t30 t31 t32 t33 t34 t35 t36 t37 t38 t39 t40 t41 t42 t43 t44 t45 t46 t47 t48 t49 t50 t51 t52 t53 : Value) (p bx rb g k N lc : Nat) (x y e0 e2 : Int) (e1 : Bool) (v0 v1 v2 : Value) (R : World → Prop) (w1 : World) (Q : Exit → Act → World → Prop)
    (h0 : w1.cell? ⟨p, 0, none⟩ = some (.slice (some ⟨g, 0, none⟩) N lc)) (hbx : SmBox w1 bx x y) (hk0 : (0 : Int) ≤ (k : Int)) (hkN : (k : Int) < (N : Int)) (HP : Hid (Calls Tryz.prog 77 #[.pointer (some ⟨g, k * 2, none⟩), .agg #[.int .i64 x, .int .i64 y]] w1.drew fun e w' => e = .returned (.agg #[.int .i64 e0, .bool e1, .int .i64 e2]) ∧ R w' ∧ (fun w' => w'.cell? ⟨p, 0, none⟩ = some (.slice (some ⟨g, 0, none⟩) N lc) ∧ SmBox w' bx x y) w' ∧ Bx3 w' rb 37 v0 v1 v2))
    (hQ : Hid (∀ (u24 u25 u26 u27 u28 u29 u30 u31 : Value) (w2 wC : World), R w2 → wC = put3 w2 rb (.int .i64 e0) (.bool e1) (.int .i64 e2) → Q .normal ⟨#[.pointer (some ⟨p, 0, none⟩), t1, t2, t3, t4, .pointer (some ⟨bx, 0, none⟩), .pointer (some ⟨rb, 0, none⟩), .int .i64 (k : Int), t8, t9, t10, t11, t12, t13, t14, t15, t16, t17, t18, t19, t20, t21, t22, t23, u24, u25, u26, u27, u28, u29, u30, u31, t32, t33, t34, t35, t36, t37, t38, t39, t40, t41, t42, t43, t44, t45, t46, t47, t48, t49, t50, t51, t52, t53], []⟩ wC)) :
    Code.wp Tryz.prog ((Tryz.f54.body.bind (regionOf 5)).getD .skip) Q ⟨#[.pointer (some ⟨p, 0, none⟩), t1, t2, t3, t4, .pointer (some ⟨bx, 0, none⟩), .pointer (some ⟨rb, 0, none⟩), .int .i64 (k : Int), t8, t9, t10, t11, t12, t13, t14, t15, t16, t17, t18, t19, t20, t21, t22, t23, t24, t25, t26, t27, t28, t29, t30, t31, t32, t33, t34, t35, t36, t37, t38, t39, t40, t41, t42, t43, t44, t45, t46, t47, t48, t49, t50, t51, t52, t53], []⟩ w1 := by
  have hS : (fun w' => w'.cell? ⟨p, 0, none⟩ = some (.slice (some ⟨g, 0, none⟩) N lc) ∧ SmBox w' bx x y) w1.drew := ⟨h0, hbx⟩
  conv => arg 2; whnf
  refine wp_region_but (S := fun w' => w'.cell? ⟨p, 0, none⟩ = some (.slice (some ⟨g, 0, none⟩) N lc) ∧ SmBox w' bx x y) (n := 8) mixed9 ?_
  refine but_take (i := 0) (v := .pointer (some ⟨p, 0, none⟩)) rfl (by kernel_rfl) (fun _ _ _ h => h) (.inl ⟨rfl, fun w hS => ?_⟩) hS ?_
  · obtain ⟨q0, q1⟩ := hS
    go_simp
  try simp only [Act.put, List.setIfInBounds_toArray, List.set_cons_zero, List.set_cons_succ]
  refine but_take (i := 1) (v := .pointer (some ⟨p, 0, none⟩)) rfl (by kernel_rfl) (fun _ _ _ h => h) (.inl ⟨rfl, fun w hS => ?_⟩) hS ?_
  · obtain ⟨q0, q1⟩ := hS
    go_simp
  try simp only [Act.put, List.setIfInBounds_toArray, List.set_cons_zero, List.set_cons_succ]
  refine but_take (i := 2) (v := .pointer (some ⟨p, 0, none⟩)) rfl (by kernel_rfl) (fun _ _ _ h => h) (.inl ⟨rfl, fun w hS => ?_⟩) hS ?_
  · obtain ⟨q0, q1⟩ := hS
    go_simp
  try simp only [Act.put, List.setIfInBounds_toArray, List.set_cons_zero, List.set_cons_succ]
  refine but_take (i := 3) (v := .slice (some ⟨g, 0, none⟩) N lc) rfl (by kernel_rfl) (fun _ _ _ h => h) (.inl ⟨rfl, fun w hS => ?_⟩) hS ?_
  · obtain ⟨q0, q1⟩ := hS
    go_simp
  try simp only [Act.put, List.setIfInBounds_toArray, List.set_cons_zero, List.set_cons_succ]
  refine but_take (i := 4) (v := .int .i64 (k : Int)) rfl (by kernel_rfl) (fun _ _ _ h => h) (.inl ⟨rfl, fun w hS => ?_⟩) hS ?_
  · obtain ⟨q0, q1⟩ := hS
    go_simp
  try simp only [Act.put, List.setIfInBounds_toArray, List.set_cons_zero, List.set_cons_succ]
  refine but_take (i := 5) (v := .pointer (some ⟨g, k * 2, none⟩)) rfl (by kernel_rfl) (fun _ _ _ h => h) (.inl ⟨rfl, fun w hS => ?_⟩) hS ?_
  · obtain ⟨q0, q1⟩ := hS
    go_simp
  try simp only [Act.put, List.setIfInBounds_toArray, List.set_cons_zero, List.set_cons_succ]
  refine but_take (i := 6) (v := .agg #[.int .i64 x, .int .i64 y]) rfl (by kernel_rfl) (fun _ _ _ h => h) (.inl ⟨rfl, fun w hS => ?_⟩) hS ?_
  · obtain ⟨q0, q1⟩ := hS
    have z0 := q1.c0
    have z1 := q1.c1
    go_simp
  try simp only [Act.put, List.setIfInBounds_toArray, List.set_cons_zero, List.set_cons_succ]
  refine but_one (i := 7) (by kernel_rfl) rfl rfl ?_
  intro K hK
  go_simp
  go_at_call 77
  refine (HP.out).mono ?_
  rintro e w2 ⟨rfl, hR, hS2, hb2⟩
  refine hK.out _ _ (fun _ => hS2) ?_
  have hS9 := hS2
  clear hK hS
  have hS := hS9
  clear hS9
  try simp only [Act.put, List.setIfInBounds_toArray, List.set_cons_zero, List.set_cons_succ]
  refine but_one (i := 8) (by kernel_rfl) rfl rfl ?_
  intro K hK
  obtain ⟨c0, c1, c2⟩ := hb2.cells
  obtain ⟨f0, f1, f2⟩ := hb2.frz
  go_simp
  show K _ (put3 w2 rb (.int .i64 e0) (.bool e1) (.int .i64 e2))
  refine hK.out _ _ (fun h => absurd rfl h) ?_
  clear hK
  try simp only [Act.put, List.setIfInBounds_toArray, List.set_cons_zero, List.set_cons_succ]
  refine AnyBut.done (by kernel_rfl) ?_ _
  refine NoPanic.normal ?_
  exact hQ.out _ _ _ _ _ _ _ _ w2 _ hR rfl
theorem frz_kept {w w' : World} {g i : Nat} {u : Value} (h : w.cell? ⟨g, i, none⟩ = some u) (hf : w.frozen? ⟨g, i, none⟩ = false) (hb : Below w.heap.size w w') : w'.frozen? ⟨g, i, none⟩ = false := by
  have hlt : g < w.heap.size := World.block_lt_of_cell? w ⟨g, i, none⟩ h
  unfold World.frozen? at hf ⊢
  rw [show w'.heap[(⟨g, i, none⟩ : Addr).block]? = w.heap[(⟨g, i, none⟩ : Addr).block]? from hb.block g hlt]
  exact hf
set_option maxHeartbeats 4000000 in
set_option maxRecDepth 60000 in
theorem wr_8 (t2 t3 t4 t6 t8 t9 t10 t11 t12 t13 t14 t15 t16 t17 t18 t19 t20 t21 t22 t23 t24 t25 t26 t27 t28 t29 t30 t31 t32 t33 t34 t35 t36 t37 t38 t39 t40 t41 t42 t43 t44 t45 t46 t47 t48 t49 t50 t51 t52 t53 : Value) (p bx k N lc : Nat) (la : Option Addr) (n : ByteArray) (x y : Int) (R : Nat → Nat → World → Prop) (w1 : World) (Q : Exit → Act → World → Prop)
    (h0 : w1.cell? ⟨p, 0, none⟩ = some (.slice la N lc)) (h1 : w1.frozen? ⟨p, 0, none⟩ = false) (hbx : SmBox w1 bx x y) (HP : Hid (Calls Tryz.prog 78 #[.slice la N lc, .int .i64 (k : Int), .slice (some ⟨w1.heap.size + 1, 0, none⟩) 1 1] ((w1.drew.alloc (.cells #[.int .i64 x, .int .i64 y] 27)).alloc (.cells #[.string n, .slice (some ⟨w1.heap.size, 0, none⟩) 1 1] 55)) fun e w' => ∃ g c, e = .returned (.slice (some ⟨g, 0, none⟩) (N + 1) c) ∧ R g c w' ∧ (fun w' => w'.cell? ⟨p, 0, none⟩ = some (.slice la N lc) ∧ w'.frozen? ⟨p, 0, none⟩ = false ∧ SmBox w' bx x y) w'))
    (hQ : Hid (∀ (u39 u40 u41 u42 u43 u44 u45 u46 u47 u48 u49 u50 u51 u52 : Value) (g c : Nat) (w2 wC : World), R g c w2 → wC = w2.setCell ⟨p, 0, none⟩ (.slice (some ⟨g, 0, none⟩) (N + 1) c) → Q .normal ⟨#[.pointer (some ⟨p, 0, none⟩), .string n, t2, t3, t4, .pointer (some ⟨bx, 0, none⟩), t6, .int .i64 (k : Int), t8, t9, t10, t11, t12, t13, t14, t15, t16, t17, t18, t19, t20, t21, t22, t23, t24, t25, t26, t27, t28, t29, t30, t31, t32, t33, t34, t35, t36, t37, t38, u39, u40, u41, u42, u43, u44, u45, u46, u47, u48, u49, u50, u51, u52, t53], []⟩ wC)) :
    Code.wp Tryz.prog ((Tryz.f54.body.bind (regionOf 8)).getD .skip) Q ⟨#[.pointer (some ⟨p, 0, none⟩), .string n, t2, t3, t4, .pointer (some ⟨bx, 0, none⟩), t6, .int .i64 (k : Int), t8, t9, t10, t11, t12, t13, t14, t15, t16, t17, t18, t19, t20, t21, t22, t23, t24, t25, t26, t27, t28, t29, t30, t31, t32, t33, t34, t35, t36, t37, t38, t39, t40, t41, t42, t43, t44, t45, t46, t47, t48, t49, t50, t51, t52, t53], []⟩ w1 := by
  have hS : (fun w' => w'.cell? ⟨p, 0, none⟩ = some (.slice la N lc) ∧ w'.frozen? ⟨p, 0, none⟩ = false ∧ SmBox w' bx x y) w1.drew := ⟨h0, h1, hbx⟩
  conv => arg 2; whnf
  refine wp_region_but (S := fun w' => w'.cell? ⟨p, 0, none⟩ = some (.slice la N lc) ∧ w'.frozen? ⟨p, 0, none⟩ = false ∧ SmBox w' bx x y) (n := 14) mixed9 ?_
  refine but_take (i := 0) (v := .pointer (some ⟨p, 0, none⟩)) rfl (by kernel_rfl) (fun _ _ _ h => h) (.inl ⟨rfl, fun w hS => ?_⟩) hS ?_
  · obtain ⟨q0, -, q1⟩ := hS
    go_simp
  try simp only [Act.put, List.setIfInBounds_toArray, List.set_cons_zero, List.set_cons_succ]
  refine but_take (i := 1) (v := .pointer (some ⟨p, 0, none⟩)) rfl (by kernel_rfl) (fun _ _ _ h => h) (.inl ⟨rfl, fun w hS => ?_⟩) hS ?_
  · obtain ⟨q0, -, q1⟩ := hS
    go_simp
  try simp only [Act.put, List.setIfInBounds_toArray, List.set_cons_zero, List.set_cons_succ]
  refine but_take (i := 2) (v := .pointer (some ⟨p, 0, none⟩)) rfl (by kernel_rfl) (fun _ _ _ h => h) (.inl ⟨rfl, fun w hS => ?_⟩) hS ?_
  · obtain ⟨q0, -, q1⟩ := hS
    go_simp
  try simp only [Act.put, List.setIfInBounds_toArray, List.set_cons_zero, List.set_cons_succ]
  refine but_take (i := 3) (v := .pointer (some ⟨p, 0, none⟩)) rfl (by kernel_rfl) (fun _ _ _ h => h) (.inl ⟨rfl, fun w hS => ?_⟩) hS ?_
  · obtain ⟨q0, -, q1⟩ := hS
    go_simp
  try simp only [Act.put, List.setIfInBounds_toArray, List.set_cons_zero, List.set_cons_succ]
  refine but_take (i := 4) (v := .slice la N lc) rfl (by kernel_rfl) (fun _ _ _ h => h) (.inl ⟨rfl, fun w hS => ?_⟩) hS ?_
  · obtain ⟨q0, -, q1⟩ := hS
    go_simp
  try simp only [Act.put, List.setIfInBounds_toArray, List.set_cons_zero, List.set_cons_succ]
  refine but_take (i := 5) (v := .int .i64 (k : Int)) rfl (by kernel_rfl) (fun _ _ _ h => h) (.inl ⟨rfl, fun w hS => ?_⟩) hS ?_
  · obtain ⟨q0, -, q1⟩ := hS
    go_simp
  try simp only [Act.put, List.setIfInBounds_toArray, List.set_cons_zero, List.set_cons_succ]
  refine but_take (i := 6) (v := .string n) rfl (by kernel_rfl) (fun _ _ _ h => h) (.inl ⟨rfl, fun w hS => ?_⟩) hS ?_
  · obtain ⟨q0, -, q1⟩ := hS
    go_simp
  try simp only [Act.put, List.setIfInBounds_toArray, List.set_cons_zero, List.set_cons_succ]
  refine but_take (i := 7) (v := .agg #[.int .i64 x, .int .i64 y]) rfl (by kernel_rfl) (fun _ _ _ h => h) (.inl ⟨rfl, fun w hS => ?_⟩) hS ?_
  · obtain ⟨q0, -, q1⟩ := hS
    have z0 := q1.c0
    have z1 := q1.c1
    go_simp
  try simp only [Act.put, List.setIfInBounds_toArray, List.set_cons_zero, List.set_cons_succ]
  refine but_one (i := 8) (by kernel_rfl) rfl rfl ?_
  intro K hK
  go_simp
  have hN : (fun w' => w'.cell? ⟨p, 0, none⟩ = some (.slice la N lc) ∧ w'.frozen? ⟨p, 0, none⟩ = false ∧ SmBox w' bx x y) (w1.drew.alloc (.cells #[.int .i64 x, .int .i64 y] 27)) := ⟨kept3 hS.1 (below_alloc _ _), frz_kept hS.1 hS.2.1 (below_alloc _ _), hS.2.2.below (below_alloc _ _)⟩
  refine hK.out _ _ (fun _ => hN) ?_
  have hS9 := hN
  clear hK hS
  have hS := hS9
  clear hS9
  try simp only [Act.put, List.setIfInBounds_toArray, List.set_cons_zero, List.set_cons_succ]
  refine but_take (i := 9) (v := .agg #[.string n, .slice (some ⟨w1.heap.size, 0, none⟩) 1 1]) rfl (by kernel_rfl) (fun _ _ _ h => h) (.inl ⟨rfl, fun w hS => ?_⟩) hS ?_
  · obtain ⟨q0, -, q1⟩ := hS
    go_simp
  try simp only [Act.put, List.setIfInBounds_toArray, List.set_cons_zero, List.set_cons_succ]
  refine but_one (i := 10) (by kernel_rfl) rfl rfl ?_
  intro K hK
  go_simp
  have hN : (fun w' => w'.cell? ⟨p, 0, none⟩ = some (.slice la N lc) ∧ w'.frozen? ⟨p, 0, none⟩ = false ∧ SmBox w' bx x y) ((w1.drew.alloc (.cells #[.int .i64 x, .int .i64 y] 27)).alloc (.cells #[.string n, .slice (some ⟨w1.heap.size, 0, none⟩) 1 1] 55)) := ⟨kept3 hS.1 (below_alloc _ _), frz_kept hS.1 hS.2.1 (below_alloc _ _), hS.2.2.below (below_alloc _ _)⟩
  refine hK.out _ _ (fun _ => hN) ?_
  have hS9 := hN
  clear hK hS
  have hS := hS9
  clear hS9
  try simp only [Act.put, List.setIfInBounds_toArray, List.set_cons_zero, List.set_cons_succ]
  refine but_one (i := 11) (by kernel_rfl) rfl rfl ?_
  intro K hK
  go_simp
  go_at_call 78
  refine (HP.out).mono ?_
  rintro e w2 ⟨g, c, rfl, hR, hS2⟩
  refine hK.out _ _ (fun _ => hS2) ?_
  have hS9 := hS2
  clear hK hS
  have hS := hS9
  clear hS9
  try simp only [Act.put, List.setIfInBounds_toArray, List.set_cons_zero, List.set_cons_succ]
  refine but_take (i := 12) (v := .pointer (some ⟨p, 0, none⟩)) rfl (by kernel_rfl) (fun _ _ _ h => h) (.inl ⟨rfl, fun w hS => ?_⟩) hS ?_
  · obtain ⟨q0, -, q1⟩ := hS
    go_simp
  try simp only [Act.put, List.setIfInBounds_toArray, List.set_cons_zero, List.set_cons_succ]
  refine but_take (i := 13) (v := .pointer (some ⟨p, 0, none⟩)) rfl (by kernel_rfl) (fun _ _ _ h => h) (.inl ⟨rfl, fun w hS => ?_⟩) hS ?_
  · obtain ⟨q0, -, q1⟩ := hS
    go_simp
  try simp only [Act.put, List.setIfInBounds_toArray, List.set_cons_zero, List.set_cons_succ]
  refine but_one (i := 14) (by kernel_rfl) rfl rfl ?_
  intro K hK
  obtain ⟨q0, q1, -⟩ := hS
  go_simp
  refine hK.out _ _ (fun h => absurd rfl h) ?_
  clear hK
  try simp only [Act.put, List.setIfInBounds_toArray, List.set_cons_zero, List.set_cons_succ]
  refine AnyBut.done (by kernel_rfl) ?_ _
  refine NoPanic.normal ?_
  exact hQ.out _ _ _ _ _ _ _ _ _ _ _ _ _ _ g c w2 _ hR rfl
set_option maxHeartbeats 4000000 in
set_option maxRecDepth 60000 in
theorem tr_7 (t2 t3 t4 t7 t8 t9 t10 t11 t12 t13 t14 t15 t16 t17 t18 t19 t20 t21 t22 t23 t24 t25 t26 t27 t28 t29 t30 t31 t32 t33 t34 t35 t36 t37 t38 t39 t40 t41 t42 t43 t44 t45 t46 t47 t48 : Value) (p lb g k N lc n c : Nat) (a : Option Addr) (f : Int) (u0 : Value) (xs : List Sm) (w1 : World) (Q : Exit → Act → World → Prop)
    (h0 : w1.cell? ⟨p, 0, none⟩ = some (.slice (some ⟨g, 0, none⟩) N lc)) (h1 : w1.cell? ⟨lb, 1, none⟩ = some (.slice a n c)) (h2 : w1.cell? ⟨g, k * 2 + 1, none⟩ = some u0) (h3 : w1.frozen? ⟨g, k * 2 + 1, none⟩ = false) (hk0 : (0 : Int) ≤ (k : Int)) (hkN : (k : Int) < (N : Int)) (hs : SmsAt w1 a n c xs) (hM : MayS xs)
    (hQ : Hid (∀ (u28 u29 u30 u31 u32 u33 u34 u35 u36 u37 u38 : Value) (a2 : Option Addr) (n2 c2 : Nat) (w2 wC : World), Below w1.heap.size w1 w2 → SmsAt w2 a2 n2 c2 (trimP xs f) → TyS w2 a2 → wC = w2.setCell ⟨g, k * 2 + 1, none⟩ (.slice a2 n2 c2) → Q .normal ⟨#[.pointer (some ⟨p, 0, none⟩), .int .i64 f, t2, t3, t4, .int .i64 (k : Int), .pointer (some ⟨lb, 0, none⟩), t7, t8, t9, t10, t11, t12, t13, t14, t15, t16, t17, t18, t19, t20, t21, t22, t23, t24, t25, t26, t27, u28, u29, u30, u31, u32, u33, u34, u35, u36, u37, u38, t39, t40, t41, t42, t43, t44, t45, t46, t47, t48], []⟩ wC)) :
    Code.wp Tryz.prog ((Tryz.f55.body.bind (regionOf 7)).getD .skip) Q ⟨#[.pointer (some ⟨p, 0, none⟩), .int .i64 f, t2, t3, t4, .int .i64 (k : Int), .pointer (some ⟨lb, 0, none⟩), t7, t8, t9, t10, t11, t12, t13, t14, t15, t16, t17, t18, t19, t20, t21, t22, t23, t24, t25, t26, t27, t28, t29, t30, t31, t32, t33, t34, t35, t36, t37, t38, t39, t40, t41, t42, t43, t44, t45, t46, t47, t48], []⟩ w1 := by
  have hS : (fun w' => Below w1.heap.size w1 w' ∧ w'.cell? ⟨p, 0, none⟩ = some (.slice (some ⟨g, 0, none⟩) N lc) ∧ w'.cell? ⟨lb, 1, none⟩ = some (.slice a n c) ∧ (w'.cell? ⟨g, k * 2 + 1, none⟩ = some u0 ∧ w'.frozen? ⟨g, k * 2 + 1, none⟩ = false)) w1.drew := ⟨below_drew _, h0, h1, h2, h3⟩
  conv => arg 2; whnf
  refine wp_region_but (S := fun w' => Below w1.heap.size w1 w' ∧ w'.cell? ⟨p, 0, none⟩ = some (.slice (some ⟨g, 0, none⟩) N lc) ∧ w'.cell? ⟨lb, 1, none⟩ = some (.slice a n c) ∧ (w'.cell? ⟨g, k * 2 + 1, none⟩ = some u0 ∧ w'.frozen? ⟨g, k * 2 + 1, none⟩ = false)) (n := 11) mixed9 ?_
  refine but_take (i := 0) (v := .pointer (some ⟨p, 0, none⟩)) rfl (by kernel_rfl) (fun _ _ _ h => h) (.inl ⟨rfl, fun w hS => ?_⟩) hS ?_
  · obtain ⟨-, q0, q1, q2, q3⟩ := hS
    go_simp
  try simp only [Act.put, List.setIfInBounds_toArray, List.set_cons_zero, List.set_cons_succ]
  refine but_take (i := 1) (v := .pointer (some ⟨p, 0, none⟩)) rfl (by kernel_rfl) (fun _ _ _ h => h) (.inl ⟨rfl, fun w hS => ?_⟩) hS ?_
  · obtain ⟨-, q0, q1, q2, q3⟩ := hS
    go_simp
  try simp only [Act.put, List.setIfInBounds_toArray, List.set_cons_zero, List.set_cons_succ]
  refine but_take (i := 2) (v := .pointer (some ⟨p, 0, none⟩)) rfl (by kernel_rfl) (fun _ _ _ h => h) (.inl ⟨rfl, fun w hS => ?_⟩) hS ?_
  · obtain ⟨-, q0, q1, q2, q3⟩ := hS
    go_simp
  try simp only [Act.put, List.setIfInBounds_toArray, List.set_cons_zero, List.set_cons_succ]
  refine but_take (i := 3) (v := .slice (some ⟨g, 0, none⟩) N lc) rfl (by kernel_rfl) (fun _ _ _ h => h) (.inl ⟨rfl, fun w hS => ?_⟩) hS ?_
  · obtain ⟨-, q0, q1, q2, q3⟩ := hS
    go_simp
  try simp only [Act.put, List.setIfInBounds_toArray, List.set_cons_zero, List.set_cons_succ]
  refine but_take (i := 4) (v := .int .i64 (k : Int)) rfl (by kernel_rfl) (fun _ _ _ h => h) (.inl ⟨rfl, fun w hS => ?_⟩) hS ?_
  · obtain ⟨-, q0, q1, q2, q3⟩ := hS
    go_simp
  try simp only [Act.put, List.setIfInBounds_toArray, List.set_cons_zero, List.set_cons_succ]
  refine but_take (i := 5) (v := .pointer (some ⟨lb, 1, none⟩)) rfl (by kernel_rfl) (fun _ _ _ h => h) (.inl ⟨rfl, fun w hS => ?_⟩) hS ?_
  · obtain ⟨-, q0, q1, q2, q3⟩ := hS
    go_simp
  try simp only [Act.put, List.setIfInBounds_toArray, List.set_cons_zero, List.set_cons_succ]
  refine but_take (i := 6) (v := .slice a n c) rfl (by kernel_rfl) (fun _ _ _ h => h) (.inl ⟨rfl, fun w hS => ?_⟩) hS ?_
  · obtain ⟨-, q0, q1, q2, q3⟩ := hS
    go_simp
  try simp only [Act.put, List.setIfInBounds_toArray, List.set_cons_zero, List.set_cons_succ]
  refine but_take (i := 7) (v := .int .i64 f) rfl (by kernel_rfl) (fun _ _ _ h => h) (.inl ⟨rfl, fun w hS => ?_⟩) hS ?_
  · obtain ⟨-, q0, q1, q2, q3⟩ := hS
    go_simp
  try simp only [Act.put, List.setIfInBounds_toArray, List.set_cons_zero, List.set_cons_succ]
  refine but_one (i := 8) (by kernel_rfl) rfl rfl ?_
  intro K hK
  go_simp
  go_at_call 79
  refine (trim_yes a n c xs f _ (hs.below hS.1) hM).mono ?_
  rintro e w2 ⟨hb2, a2, n2, c2, rfl, hs2, ht2⟩
  have hN : (fun w' => Below w1.heap.size w1 w' ∧ w'.cell? ⟨p, 0, none⟩ = some (.slice (some ⟨g, 0, none⟩) N lc) ∧ w'.cell? ⟨lb, 1, none⟩ = some (.slice a n c) ∧ (w'.cell? ⟨g, k * 2 + 1, none⟩ = some u0 ∧ w'.frozen? ⟨g, k * 2 + 1, none⟩ = false)) w2 := ⟨below2 hS.1 hb2, kept3 hS.2.1 hb2, kept3 hS.2.2.1 hb2, kept3 hS.2.2.2.1 hb2, frz_kept hS.2.2.2.1 hS.2.2.2.2 hb2⟩
  refine hK.out _ _ (fun _ => hN) ?_
  have hS9 := hN
  clear hK hS
  have hS := hS9
  clear hS9
  try simp only [Act.put, List.setIfInBounds_toArray, List.set_cons_zero, List.set_cons_succ]
  refine but_take (i := 9) (v := .pointer (some ⟨g, k * 2, none⟩)) rfl (by kernel_rfl) (fun _ _ _ h => h) (.inl ⟨rfl, fun w hS => ?_⟩) hS ?_
  · obtain ⟨-, q0, q1, q2, q3⟩ := hS
    go_simp
  try simp only [Act.put, List.setIfInBounds_toArray, List.set_cons_zero, List.set_cons_succ]
  refine but_take (i := 10) (v := .pointer (some ⟨g, k * 2 + 1, none⟩)) rfl (by kernel_rfl) (fun _ _ _ h => h) (.inl ⟨rfl, fun w hS => ?_⟩) hS ?_
  · obtain ⟨-, q0, q1, q2, q3⟩ := hS
    go_simp
  try simp only [Act.put, List.setIfInBounds_toArray, List.set_cons_zero, List.set_cons_succ]
  refine but_one (i := 11) (by kernel_rfl) rfl rfl ?_
  intro K hK
  obtain ⟨qb, -, -, q0, q1⟩ := hS
  go_simp
  refine hK.out _ _ (fun h => absurd rfl h) ?_
  clear hK
  try simp only [Act.put, List.setIfInBounds_toArray, List.set_cons_zero, List.set_cons_succ]
  refine AnyBut.done (by kernel_rfl) ?_ _
  refine NoPanic.normal ?_
  exact hQ.out _ _ _ _ _ _ _ _ _ _ _ a2 n2 c2 w2 _ qb hs2 ht2 rfl
end Go.Proofs.YtihohcmocejijaaGreat.Bk
namespace Go.Proofs.YtihohcmocejijaaGreat.Bk
open Go.ChangeShapes Go.WideShapes Go.ChangeAt Go.RowKit
theorem putLn_split {p m q : List Ln} {n : ByteArray} (x : List Sm) (h1 : ∀ l ∈ p, Lb.ltB l.1 n = true) (h2 : ∀ l ∈ m, l.1 = n) (h3 : ∀ l ∈ q, Lb.ltB n l.1 = true) : putLn (p ++ (m ++ q)) n x = p ++ (n, x) :: q := by
  unfold putLn
  have a1 : p.filter (fun l => Lb.ltB l.1 n) = p := List.filter_eq_self.2 h1
  have a2 : m.filter (fun l => Lb.ltB l.1 n) = [] := List.filter_eq_nil_iff.2 fun l hl => by rw [h2 l hl, Lb.ltB_irrefl]; simp
  have a3 : q.filter (fun l => Lb.ltB l.1 n) = [] := List.filter_eq_nil_iff.2 fun l hl => by rw [Lb.ltB_asymm (h3 l hl)]; simp
  have b1 : p.filter (fun l => Lb.ltB n l.1) = [] := List.filter_eq_nil_iff.2 fun l hl => by rw [Lb.ltB_asymm (h1 l hl)]; simp
  have b2 : m.filter (fun l => Lb.ltB n l.1) = [] := List.filter_eq_nil_iff.2 fun l hl => by rw [h2 l hl, Lb.ltB_irrefl]; simp
  have b3 : q.filter (fun l => Lb.ltB n l.1) = q := List.filter_eq_self.2 h3
  rw [List.filter_append, List.filter_append, List.filter_append, List.filter_append, a1, a2, a3, b1, b2, b3]
  simp
theorem lns_mem {ls : List Ln} {x : Ln} (h : x ∈ ls) : ∃ i, i < ls.length ∧ ls.getD i ln0 = x := by
  obtain ⟨i, hi, rfl⟩ := List.getElem_of_mem h
  exact ⟨i, hi, getDn hi⟩
theorem take_mem {ls : List Ln} {k : Nat} {x : Ln} (h : x ∈ ls.take k) : ∃ i, i < k ∧ i < ls.length ∧ ls.getD i ln0 = x := by
  obtain ⟨i, hi, rfl⟩ := List.mem_take_iff_getElem.1 h
  exact ⟨i, by omega, by omega, getDn (by omega)⟩
theorem drop_mem {ls : List Ln} {k : Nat} {x : Ln} (h : x ∈ ls.drop k) : ∃ i, k ≤ i ∧ i < ls.length ∧ ls.getD i ln0 = x := by
  obtain ⟨i, hi, rfl⟩ := List.mem_drop_iff_getElem.1 h
  exact ⟨k + i, by omega, by omega, getDn (by omega)⟩
theorem putLn_set {ls : List Ln} {fl : Int} {n : ByteArray} {k : Nat} (hM : LnsMay ls fl) (hk : k < ls.length) (e : (ls.getD k ln0).1 = n) (x : List Sm) : putLn ls n x = ls.set k (n, x) := by
  have e1 : ls = ls.take k ++ ([ls[k]] ++ ls.drop (k + 1)) := by simp
  have e2 : putLn (ls.take k ++ ([ls[k]] ++ ls.drop (k + 1))) n x = ls.take k ++ (n, x) :: ls.drop (k + 1) := by
    refine putLn_split x (fun l hl => ?_) (fun l hl => ?_) (fun l hl => ?_)
    · obtain ⟨i, h1, h2, rfl⟩ := take_mem hl
      rw [← e]; exact lns_lt hM i k h1 hk
    · obtain rfl : l = ls[k] := by simpa using hl
      rw [← e, getDn hk]
    · obtain ⟨i, h1, h2, rfl⟩ := drop_mem hl
      rw [← e]; exact lns_lt hM k i (by omega) h2
  rw [← e1] at e2
  rw [e2, List.set_eq_take_append_cons_drop, if_pos hk]
theorem putLn_ins {ls : List Ln} {fl : Int} {n : ByteArray} {k : Nat} (hM : LnsMay ls fl) (hP : Pl ls.length (fun j => Lb.ltB (ls.getD j ln0).1 n) k) (hn : ¬ (k < ls.length ∧ (ls.getD k ln0).1 = n)) (x : List Sm) : putLn ls n x = ls.take k ++ (n, x) :: ls.drop k := by
  have e2 : putLn (ls.take k ++ ([] ++ ls.drop k)) n x = ls.take k ++ (n, x) :: ls.drop k := by
    refine putLn_split x (fun l hl => ?_) (fun l hl => by simp at hl) (fun l hl => ?_)
    · obtain ⟨i, h1, h2, rfl⟩ := take_mem hl
      exact hP.2.1 i h1
    · obtain ⟨i, h1, h2, rfl⟩ := drop_mem hl
      have h3 := hP.2.2 i h1 h2
      simp only at h3
      cases h4 : Lb.ltB n (ls.getD i ln0).1 with
      | true => rfl
      | false =>
        have h5 := Lb.ltB_total h3 h4
        by_cases e : i = k
        · subst e; exact absurd ⟨h2, h5⟩ hn
        · have h6 := lns_lt hM k i (by omega) h2
          rw [h5] at h6
          have h7 := hP.2.2 k (Nat.le_refl _) (by omega)
          simp only at h7
          rw [h6] at h7
          cases h7
  simpa using e2
theorem lnsX_take (X : List LX) (k : Nat) : lnsX (X.take k) = (lnsX X).take k := by simp [lnsX, List.map_take]
theorem lnsX_drop (X : List LX) (k : Nat) : lnsX (X.drop k) = (lnsX X).drop k := by simp [lnsX, List.map_drop]
theorem lnsX_app (X Y : List LX) : lnsX (X ++ Y) = lnsX X ++ lnsX Y := by simp [lnsX]
theorem writeS_some {ls : List Ln} {ds : List Dn} {fl : Int} {n : ByteArray} {x : Sm} {xs : List Sm} (hf : ¬ x.1 < fl) (h : findL ls n = some xs) : writeS ⟨ls, ds, fl⟩ n x = if putE xs x = 0 then (⟨putLn ls n (putL xs x), ds, fl⟩, putA xs x) else (⟨ls, ds, fl⟩, putA xs x) := by
  unfold writeS putA
  rw [if_neg hf]
  simp only [h]
  by_cases h0 : putE xs x = 0
  · rw [if_pos h0, if_pos h0, if_pos h0]
  · rw [if_neg h0, if_neg h0, if_neg h0]
    by_cases h7 : putE xs x = 7
    · rw [if_pos h7, if_pos h7]
    · rw [if_neg h7, if_neg h7]
def WL (w : World) (n : ByteArray) (x y : Int) : World := (w.alloc (.cells #[.int .i64 x, .int .i64 y] 27)).alloc (.cells #[.string n, .slice (some ⟨w.heap.size, 0, none⟩) 1 1] 55)
theorem LvA.ins {B p : Nat} {la : Option Addr} {lc : Nat} {X : List LX} {da : Option Addr} {dc : Nat} {ds : List Dn} {fl : Int} {w : World} (h : LvA B p la lc X da dc ds fl w) (hX : X.length ≤ 100) {k : Nat} (hk : k ≤ X.length) (n : ByteArray) (x y : Int) :
    Calls Tryz.prog 78 #[.slice la X.length lc, .int .i64 (k : Int), .slice (some ⟨w.heap.size + 1, 0, none⟩) 1 1] (WL w n x y) fun e w' => ∃ g c, e = .returned (.slice (some ⟨g, 0, none⟩) (X.length + 1) c) ∧ LvR B (some ⟨g, 0, none⟩) c (X.take k ++ ([(n, .slice (some ⟨w.heap.size, 0, none⟩) 1 1, [(x, y)])] ++ X.drop k)) da dc ds w' ∧ Bx3 w' p 25 (.slice la X.length lc) (.slice da ds.length dc) (.int .i64 fl) ∧ Below B w w' ∧ KpS p w w' := by
  have b1 := below_alloc w (.cells #[.int .i64 x, .int .i64 y] 27)
  have b2 : Below w.heap.size w (WL w n x y) := below2 b1 (below_alloc _ _)
  have hA := h.below b2
  have hB : B ≤ w.heap.size := Nat.le_trans h.2.1 (Nat.le_of_lt h.lt)
  have hsz : (w.alloc (.cells #[.int .i64 x, .int .i64 y] 27)).heap.size = w.heap.size + 1 := by simp
  have hvb : (WL w n x y).heap[w.heap.size + 1]? = some (.cells [.string n, .slice (some ⟨w.heap.size, 0, none⟩) 1 1].toArray 55 (0, 0)) := by
    have := heap_alloc_new (w.alloc (.cells #[.int .i64 x, .int .i64 y] 27)) (.cells #[.string n, .slice (some ⟨w.heap.size, 0, none⟩) 1 1] 55)
    rw [hsz] at this
    exact this
  have hrx : RowX (WL w n x y) (n, .slice (some ⟨w.heap.size, 0, none⟩) 1 1, [(x, y)]) := by
    refine ⟨_, _, _, rfl, (sms_lit w x y).below (below_alloc _ _), fun q hq => ?_⟩
    cases hq
    have := heap_alloc_new w (.cells #[.int .i64 x, .int .i64 y] 27)
    exact ⟨_, _, ((below_alloc (w.alloc (.cells #[.int .i64 x, .int .i64 y] 27)) _).block w.heap.size (by simp)).trans this⟩
  refine (insLn_any (WL w n x y) hA.2.2.1 (Nat.le_trans hB b2.size) k hk (by omega) (by rfl) hvb (fun e => by have := (h.2.2.1.lt _ e).2; omega) (fun u hu => by simp at hu; rcases hu with rfl | rfl <;> rfl) (cellsX_one hA.2.2.2.1)).mono ?_
  rintro e w' ⟨g, c, rfl, hO, hg⟩
  have hlen : (X.take k ++ ([(n, Value.slice (some ⟨w.heap.size, 0, none⟩) 1 1, [(x, y)])] ++ X.drop k)).length = X.length + 1 := by simp; omega
  have hcel : cellsX (X.take k ++ ([(n, Value.slice (some ⟨w.heap.size, 0, none⟩) 1 1, [(x, y)])] ++ X.drop k)) = (cellsX X).take (k * 2) ++ ([Value.string n, Value.slice (some ⟨w.heap.size, 0, none⟩) 1 1] ++ (cellsX X).drop (k * 2)) := by
    rw [cellsX_append, cellsX_append, cellsX_take, cellsX_drop]; rfl
  refine ⟨g, c, rfl, hA.rows.of_lines hg (by rw [hlen, hcel]; exact hO) (fun z hz => ?_), hA.box.kept (hg.block p hA.lt (fun e => hA.neL e.symm)), (b2.mono hB).trans (below_of_grown (Nat.le_trans hB b2.size) hA.2.2.1 hg), (KpS.of_below b2).trans (KpS.of_grown hA.2.2.1 (.inl rfl) hg)⟩
  rcases List.mem_append.1 hz with h1 | h1
  · exact hA.2.2.2.1 z (List.mem_of_mem_take h1)
  · rcases List.mem_append.1 h1 with h2 | h2
    · obtain rfl := List.mem_singleton.1 h2
      exact hrx
    · exact hA.2.2.2.1 z (List.mem_of_mem_drop h2)
set_option maxHeartbeats 4000000 in
set_option maxRecDepth 60000 in
theorem write_any {B p : Nat} {la : Option Addr} {lc : Nat} {X : List LX} {da : Option Addr} {dc : Nat} {ds : List Dn} {fl : Int} {w : World} (h : LvA B p la lc X da dc ds fl w) (hM : LnsMay (lnsX X) fl) (n : ByteArray) (x y : Int) :
    Calls Tryz.prog 54 #[.pointer (some ⟨p, 0, none⟩), .string n, .agg #[.int .i64 x, .int .i64 y]] w fun e w' => TnPost B p (writeS ⟨lnsX X, ds, fl⟩ n (x, y)) w e w' := by
  have HB0 : Hid (B ≤ w.heap.size) := Hid.mk9 (Nat.le_trans h.2.1 (Nat.le_of_lt h.lt))
  have HPL : Hid (p < w.heap.size) := Hid.mk9 h.lt
  have b0 := below2 (below_alloc w (.cells #[.int .i64 x, .int .i64 y] 27)) (below_alloc _ (.cells #[.int .i64 0, .bool false, .int .i64 0] 37))
  have HX := Hid.mk9 ((SmBox.new w x y).below (below_alloc _ (.cells #[.int .i64 0, .bool false, .int .i64 0] 37)))
  have HR : Hid (Bx3 ((w.alloc (.cells #[.int .i64 x, .int .i64 y] 27)).alloc (.cells #[.int .i64 0, .bool false, .int .i64 0] 37)) (w.heap.size + 1) 37 (.int .i64 0) (.bool false) (.int .i64 0)) := by
    have := Bx3.new (w.alloc (.cells #[.int .i64 x, .int .i64 y] 27)) 37 (.int .i64 0) (.bool false) (.int .i64 0)
    rw [show (w.alloc (.cells #[.int .i64 x, .int .i64 y] 27)).heap.size = w.heap.size + 1 from by simp] at this
    exact this
  have HA := Hid.mk9 (h.below b0)
  have HB := Hid.mk9 b0
  have HM := Hid.mk9 hM
  have hxl : (lnsX X).length = X.length := by simp [lnsX]
  clear h b0 hM
  go_enter Tryz.func54, Tryz.ntmps54
  go_upto_region 1 with fail
  generalize ((w.alloc (.cells #[.int .i64 x, .int .i64 y] 27)).alloc (.cells #[.int .i64 0, .bool false, .int .i64 0] 37)) = wA at *
  refine wr_1 _ _ _ _ _ _ _ _ _ _ _ _ _ _ _ _ _ _ _ _ _ _ _ _ _ _ _ _ _ _ _ _ _ _ _ _ _ _ _ _ _ _ _ _ _ _ _ _ _ _ _ _ p w.heap.size x y fl wA _ HX.out HA.out.c2 (Hid.mk9 (fun u9 u10 u11 u12 u13 u14 wB hbB => ?_))
  replace HA := Hid.mk9 (HA.out.below hbB)
  replace HR := Hid.mk9 (HR.out.below hbB)
  replace HX := Hid.mk9 (HX.out.below hbB)
  replace HB := Hid.mk9 (below2 HB.out hbB)
  clear hbB
  by_cases hf : x < fl
  · have HW : Hid (writeS ⟨lnsX X, ds, fl⟩ n (x, y) = (⟨lnsX X, ds, fl⟩, ⟨9, false, 0⟩)) := Hid.mk9 (by unfold writeS; rw [if_pos hf])
    have HKp := Hid.mk9 (KpS.of_below (p := p) HB.out)
    have HBb := Hid.mk9 (HB.out.mono HB0.out)
    rw [decide_eq_true hf]
    clear hf
    obtain ⟨c0, c1, c2⟩ := HR.out.cells
    obtain ⟨f0, f1, f2⟩ := HR.out.frz
    have HRs := Hid.mk9 (HR.out.set (.int .i64 9) (.bool false) (.int .i64 0))
    have HLs := Hid.mk9 (HA.out.ans HR.out (.int .i64 9) (.bool false) (.int .i64 0))
    have HKs := Hid.mk9 (HKp.out.ans (r := w.heap.size + 1) (by omega) (.int .i64 9) (.bool false) (.int .i64 0))
    have HBs := Hid.mk9 (put3_below HBb.out (b := w.heap.size + 1) (by have := HB0.out; omega) (.int .i64 9) (.bool false) (.int .i64 0))
    clear HR HA HKp HBb
    go_wp2_with fail
    refine bodyPost_ret (retA rfl _ _ (w.heap.size + 1) (.int .i64 9) (.bool false) (.int .i64 0) rfl HRs.out) rfl ?_
    rw [HW.out]
    exact ⟨rfl, ⟨_, _, _, _, _, HLs.out, rfl⟩, HBs.out, HKs.out⟩
  · have HC := Hid.mk9 (line_any HA.out HM.out n)
    rw [decide_eq_false hf]
    have HF0 := Hid.mk9 hf
    clear hf
    go_upto_region 4 with (go_at_call 76; refine HC.out.mono ?_; rintro e wD ⟨hbD, k, q, hp, hq, rfl⟩)
    replace HA := Hid.mk9 (HA.out.below hbD)
    replace HR := Hid.mk9 (HR.out.below hbD)
    replace HX := Hid.mk9 (HX.out.below hbD)
    replace HB := Hid.mk9 (below2 HB.out hbD)
    clear hbD HC
    cases q with
    | true =>
      have hk : k < X.length := by have := (hq.1 rfl).1; omega
      have HE := Hid.mk9 (hq.1 rfl).2
      have HF := Hid.mk9 (findL_yes HM.out (hq.1 rfl).1 (hq.1 rfl).2)
      have HPU := Hid.mk9 (fun z => putLn_set HM.out (hq.1 rfl).1 (hq.1 rfl).2 z)
      have HMk : Hid (MayS (X.getD k lx0).2.2) := by
        have := (HM.out.2 k (by omega)).2.2.2.1
        rw [lnsX_getD] at this
        exact this
      rw [lnsX_getD] at HF HE
      simp only at HF HE
      obtain ⟨g, a9, n9, c9, rfl, -, -, -, -, -, -, -, -⟩ := HA.out.cell hk
      have hk0 : (0 : Int) ≤ (k : Int) := by omega
      have hk1 : (k : Int) < (X.length : Int) := by omega
      have HPT := put_any HA.out k hk x y HMk.out
      obtain ⟨an, han⟩ : ∃ an, putA (X.getD k lx0).2.2 (x, y) = an := ⟨_, rfl⟩
      have HAN := Hid.mk9 han
      obtain ⟨e0, e1, e2⟩ := an
      have HP : Hid (Calls Tryz.prog 77 #[.pointer (some ⟨g, k * 2, none⟩), .agg #[.int .i64 x, .int .i64 y]] wD.drew fun e w' => e = .returned (.agg #[.int .i64 e0, .bool e1, .int .i64 e2]) ∧ (PtPost B p (some ⟨g, 0, none⟩) lc X k da dc ds fl (x, y) wD (.returned (anV (putA (X.getD k lx0).2.2 (x, y)))) w' ∧ Bx3 w' (w.heap.size + 1) 37 (.int .i64 0) (.bool false) (.int .i64 0)) ∧ (w'.cell? ⟨p, 0, none⟩ = some (.slice (some ⟨g, 0, none⟩) X.length lc) ∧ SmBox w' w.heap.size x y) ∧ Bx3 w' (w.heap.size + 1) 37 (.int .i64 0) (.bool false) (.int .i64 0)) := Hid.mk9 (by
        have hA' := HA.out.below (below_drew wD)
        refine (put_any hA' k hk x y HMk.out).mono ?_
        rintro e w' ⟨rfl, hbw, hkp, hc⟩
        have hc0 : w'.cell? ⟨p, 0, none⟩ = some (.slice (some ⟨g, 0, none⟩) X.length lc) := by
          rcases hc with ⟨-, hl⟩ | ⟨-, v, hl⟩
          · exact hl.c0
          · have := hl.c0
            rwa [List.length_set] at this
        refine ⟨by rw [han]; rfl, ⟨⟨rfl, ⟨hbw.os, hbw.tape, hbw.output, hbw.size, hbw.block⟩, hkp, hc⟩, ?_⟩, ⟨hc0, ?_⟩, ?_⟩
        · exact (show Bx3 wD.drew _ _ _ _ _ from HR.out).kp hkp (by have := HPL.out; omega) (by decide) (by decide)
        · exact hkp w.heap.size _ HX.out (by have := HPL.out; omega) (fun c f e => by injection e with _ e2; exact absurd e2 (by decide)) (fun c f e => by injection e with _ e2; exact absurd e2 (by decide))
        · exact (show Bx3 wD.drew _ _ _ _ _ from HR.out).kp hkp (by have := HPL.out; omega) (by decide) (by decide))
      have c0 := HA.out.c0
      clear HPT hp hq han
      go_upto_region 5 with fail
      refine wr_5 _ _ _ _ _ _ _ _ _ _ _ _ _ _ _ _ _ _ _ _ _ _ _ _ _ _ _ _ _ _ _ _ _ _ _ _ _ _ _ _ _ _ _ _ _ _ _ _ _ _ p w.heap.size (w.heap.size + 1) g k X.length lc x y e0 e2 e1 (.int .i64 0) (.bool false) (.int .i64 0) _ wD _ c0 HX.out hk0 hk1 HP (Hid.mk9 (fun u24 u25 u26 u27 u28 u29 u30 u31 w2 wC hR hwC => ?_))
      subst hwC
      obtain ⟨⟨-, hbw, hkp, hc⟩, hrb⟩ := hR
      have HRs := Hid.mk9 (hrb.set (.int .i64 e0) (.bool e1) (.int .i64 e2))
      have HKs := Hid.mk9 (((KpS.of_below (p := p) HB.out).trans hkp).ans (r := w.heap.size + 1) (by omega) (.int .i64 e0) (.bool e1) (.int .i64 e2))
      have HBs := Hid.mk9 (put3_below ((HB.out.mono HB0.out).trans hbw) (b := w.heap.size + 1) (by have := HB0.out; omega) (.int .i64 e0) (.bool e1) (.int .i64 e2))
      have HT : Hid (LvS B p (writeS ⟨lnsX X, ds, fl⟩ n (x, y)).1 (put3 w2 (w.heap.size + 1) (.int .i64 e0) (.bool e1) (.int .i64 e2)) ∧ (writeS ⟨lnsX X, ds, fl⟩ n (x, y)).2 = ⟨e0, e1, e2⟩) := Hid.mk9 (by
        rw [writeS_some (x := (x, y)) (show ¬ x < fl by have := HF0.out; omega) HF.out]
        rcases hc with ⟨hne, hl⟩ | ⟨h0, v, hl⟩
        · rw [if_neg hne]
          exact ⟨⟨_, _, _, _, _, hl.ans hrb _ _ _, rfl⟩, HAN.out⟩
        · rw [if_pos h0]
          refine ⟨⟨_, _, _, _, _, hl.ans hrb _ _ _, ?_⟩, HAN.out⟩
          rw [lnsX_set]
          simp only
          rw [HPU.out, HE.out])
      clear hbw hkp hc hrb HA HR HX HB HP HF HPU HMk c0
      go_wp2_with fail
      refine bodyPost_ret (retA rfl _ _ (w.heap.size + 1) (.int .i64 e0) (.bool e1) (.int .i64 e2) rfl HRs.out) rfl ?_
      exact ⟨by rw [HT.out.2]; rfl, HT.out.1, HBs.out, HKs.out⟩
    | false =>
      have HF := Hid.mk9 (findL_no hp (lns_lt HM.out) (fun h => absurd (hq.2 h) (by decide)))
      have HPU := Hid.mk9 (putLn_ins HM.out hp (fun h => absurd (hq.2 h) (by decide)) [(x, y)])
      have hkX : k ≤ X.length := by have := hp.1; omega
      have hX16 : X.length ≤ 16 := by have := HM.out.1; omega
      have c0 := HA.out.c0
      clear hp hq
      by_cases h16 : 16 ≤ X.length
      · have HW : Hid (writeS ⟨lnsX X, ds, fl⟩ n (x, y) = (⟨lnsX X, ds, fl⟩, ⟨6, false, 0⟩)) := Hid.mk9 (by unfold writeS; rw [if_neg (show ¬ x < fl by have := HF0.out; omega)]; simp only [HF.out]; rw [if_pos (by omega)])
        have HKp := Hid.mk9 (KpS.of_below (p := p) HB.out)
        have HBb := Hid.mk9 (HB.out.mono HB0.out)
        have h16' : (16 : Int) ≤ (X.length : Int) := by omega
        generalize hN : X.length = N at *
        obtain ⟨c0, c1, c2⟩ := HR.out.cells
        obtain ⟨f0, f1, f2⟩ := HR.out.frz
        have HRs := Hid.mk9 (HR.out.set (.int .i64 6) (.bool false) (.int .i64 0))
        have HLs := Hid.mk9 (HA.out.ans HR.out (.int .i64 6) (.bool false) (.int .i64 0))
        have HKs := Hid.mk9 (HKp.out.ans (r := w.heap.size + 1) (by omega) (.int .i64 6) (.bool false) (.int .i64 0))
        have HBs := Hid.mk9 (put3_below HBb.out (b := w.heap.size + 1) (by have := HB0.out; omega) (.int .i64 6) (.bool false) (.int .i64 0))
        clear HR HA HKp HBb
        go_wp2_with fail
        refine bodyPost_ret (retA rfl _ _ (w.heap.size + 1) (.int .i64 6) (.bool false) (.int .i64 0) rfl HRs.out) rfl ?_
        rw [HW.out]
        exact ⟨rfl, ⟨_, _, _, _, _, HLs.out, rfl⟩, HBs.out, HKs.out⟩
      · have HW : Hid (writeS ⟨lnsX X, ds, fl⟩ n (x, y) = (⟨putLn (lnsX X) n [(x, y)], ds, fl⟩, ⟨0, true, 0⟩)) := Hid.mk9 (by unfold writeS; rw [if_neg (show ¬ x < fl by have := HF0.out; omega)]; simp only [HF.out]; rw [if_neg (by omega)])
        have h16' : ¬ (16 : Int) ≤ (X.length : Int) := by omega
        have hI := (HA.out.below (below_drew wD)).ins (by omega) hkX n x y
        have f0 := HA.out.f0
        have HP : Hid (Calls Tryz.prog 78 #[.slice la X.length lc, .int .i64 (k : Int), .slice (some ⟨wD.heap.size + 1, 0, none⟩) 1 1] ((wD.drew.alloc (.cells #[.int .i64 x, .int .i64 y] 27)).alloc (.cells #[.string n, .slice (some ⟨wD.heap.size, 0, none⟩) 1 1] 55)) fun e w' => ∃ g c, e = .returned (.slice (some ⟨g, 0, none⟩) (X.length + 1) c) ∧ (LvR B (some ⟨g, 0, none⟩) c (X.take k ++ ([(n, .slice (some ⟨wD.heap.size, 0, none⟩) 1 1, [(x, y)])] ++ X.drop k)) da dc ds w' ∧ Bx3 w' p 25 (.slice la X.length lc) (.slice da ds.length dc) (.int .i64 fl) ∧ Below B wD w' ∧ KpS p wD w' ∧ Bx3 w' (w.heap.size + 1) 37 (.int .i64 0) (.bool false) (.int .i64 0)) ∧ (w'.cell? ⟨p, 0, none⟩ = some (.slice la X.length lc) ∧ w'.frozen? ⟨p, 0, none⟩ = false ∧ SmBox w' w.heap.size x y)) := Hid.mk9 (by
          refine hI.mono ?_
          rintro e w' ⟨g, c, rfl, h1, h2, h3, h4⟩
          refine ⟨g, c, rfl, ⟨h1, h2, ⟨h3.os, h3.tape, h3.output, h3.size, h3.block⟩, h4, ?_⟩, h2.cells.1, h2.frz.1, ?_⟩
          · exact (show Bx3 wD.drew _ _ _ _ _ from HR.out).kp h4 (by have := HPL.out; omega) (by decide) (by decide)
          · exact h4 w.heap.size _ HX.out (by have := HPL.out; omega) (fun c f e => by injection e with _ e2; exact absurd e2 (by decide)) (fun c f e => by injection e with _ e2; exact absurd e2 (by decide)))
        have HBp : Hid (B ≤ p) := Hid.mk9 HA.out.2.1
        clear hI
        go_upto_region 8 with fail
        refine wr_8 _ _ _ _ _ _ _ _ _ _ _ _ _ _ _ _ _ _ _ _ _ _ _ _ _ _ _ _ _ _ _ _ _ _ _ _ _ _ _ _ _ _ _ _ _ _ _ _ _ _ p w.heap.size k X.length lc la n x y (fun g c w' => LvR B (some ⟨g, 0, none⟩) c (X.take k ++ ([(n, .slice (some ⟨wD.heap.size, 0, none⟩) 1 1, [(x, y)])] ++ X.drop k)) da dc ds w' ∧ Bx3 w' p 25 (.slice la X.length lc) (.slice da ds.length dc) (.int .i64 fl) ∧ Below B wD w' ∧ KpS p wD w' ∧ Bx3 w' (w.heap.size + 1) 37 (.int .i64 0) (.bool false) (.int .i64 0)) wD _ c0 f0 HX.out HP (Hid.mk9 (fun u39 u40 u41 u42 u43 u44 u45 u46 u47 u48 u49 u50 u51 u52 g c w2 wC hR hwC => ?_))
        obtain ⟨h1, h2, h3, h4, h5⟩ := hR
        have hlen : (X.take k ++ ([(n, Value.slice (some ⟨wD.heap.size, 0, none⟩) 1 1, [(x, y)])] ++ X.drop k)).length = X.length + 1 := by simp; omega
        have hL := h1.lines h2 HBp.out
        rw [hlen, ← hwC] at hL
        have HRr : Hid (Bx3 wC (w.heap.size + 1) 37 (.int .i64 0) (.bool false) (.int .i64 0)) := Hid.mk9 (by rw [hwC]; exact h5.kept (set_heap w2 p 0 _ (w.heap.size + 1) (by have := HPL.out; omega)))
        have HKp : Hid (KpS p w wC) := Hid.mk9 (by rw [hwC]; exact ((KpS.of_below (p := p) HB.out).trans h4).trans (KpS.set_box p 0 w2 _))
        have HBb : Hid (Below B w wC) := Hid.mk9 (by rw [hwC]; exact ((HB.out.mono HB0.out).trans h3).setCell (p := ⟨p, 0, none⟩) HBp.out _)
        have HL := Hid.mk9 hL
        have HQ : Hid (lnsX (X.take k ++ ([(n, Value.slice (some ⟨wD.heap.size, 0, none⟩) 1 1, [(x, y)])] ++ X.drop k)) = putLn (lnsX X) n [(x, y)]) := Hid.mk9 (by rw [HPU.out, lnsX_app, lnsX_app, lnsX_take, lnsX_drop]; rfl)
        clear h1 h2 h3 h4 h5 hL hwC hlen HA HR HX HB HP HF HPU c0 f0
        obtain ⟨c0, c1, c2⟩ := HRr.out.cells
        obtain ⟨f0, f1, f2⟩ := HRr.out.frz
        have HRs := Hid.mk9 (HRr.out.set (.int .i64 0) (.bool true) (.int .i64 0))
        have HLs := Hid.mk9 (HL.out.ans HRr.out (.int .i64 0) (.bool true) (.int .i64 0))
        have HKs := Hid.mk9 (HKp.out.ans (r := w.heap.size + 1) (by omega) (.int .i64 0) (.bool true) (.int .i64 0))
        have HBs := Hid.mk9 (put3_below HBb.out (b := w.heap.size + 1) (by have := HB0.out; omega) (.int .i64 0) (.bool true) (.int .i64 0))
        clear HRr HL HKp HBb
        go_wp2_with fail
        refine bodyPost_ret (retA rfl _ _ (w.heap.size + 1) (.int .i64 0) (.bool true) (.int .i64 0) rfl HRs.out) rfl ?_
        rw [HW.out]
        exact ⟨rfl, ⟨_, _, _, _, _, HLs.out, HQ.out⟩, HBs.out, HKs.out⟩
end Go.Proofs.YtihohcmocejijaaGreat.Bk
