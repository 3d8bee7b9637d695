/-
  zip's drawn regions that write: a sample behind, the fronts off.
-/
import Derived.Test.YtppajhjfnlhmaaaSpE
namespace Go.Proofs.Ytppajhjfnlhmaaa.Bk
open Go.ChangeShapes Go.WideShapes Go.ChangeAt Go.RowKit
set_option maxHeartbeats 4000000 in
set_option maxRecDepth 60000 in
theorem zip_9 (t1 t2 t3 t4 t5 t7 t8 t9 t10 t11 t12 t13 t14 t15 t16 t17 t18 t19 t20 t21 t22 t23 t24 t25 t26 t27 t28 t29 t30 t31 t32 t33 t34 t35 t36 t37 t38 t39 t40 t41 t42 t43 t44 t45 t46 t47 t48 t49 t50 t51 t52 t53 t54 t55 t56 t57 t58 t59 t60 t61 t62 t63 t64 t65 t66 t67 t68 t69 t70 t71 t72 t73 t74 t75 t76 t77 t78 t79 : Value) (ab ao al ac : Nat) (az : Option Addr) (x y : Int) (v : Value) (n : Nat) (M : List Sm) (w0 : World) (w1 : World) (Q : Exit → Act → World → Prop)
    (hal : 0 < al) (hac : al ≤ ac) (ham : ac ≤ 9223372036854775807) (hifa : (if ac = 1 then some ⟨ab, ao, none⟩ else some ⟨ab, ao + 2, none⟩) = az)
    (c0 : w1.cell? ⟨ab, ao, none⟩ = some (.int .i64 x)) (c1 : w1.cell? ⟨ab, ao + 1, none⟩ = some (.int .i64 y)) (hq : ab < w0.heap.size) (hO : w1.ownsRow w0.heap.size 24 2 v n (cellsS M)) (hn : (n : Int) ≤ 1000) (hb : Below w0.heap.size w0 w1)
    (hQ : Hid (∀ (u67 u68 u69 u70 u71 u72 u73 u74 : Value) (v' : Value) (wC : World), wC.ownsRow w0.heap.size 24 2 v' (n + 1) (cellsS (M ++ [(x, y)])) → Below w0.heap.size w0 wC → Q .normal ⟨#[.slice az (al - 1) (ac - 1), t1, t2, t3, t4, t5, v', t7, t8, t9, t10, t11, t12, t13, t14, t15, t16, t17, t18, t19, t20, t21, t22, t23, t24, t25, t26, t27, t28, t29, t30, t31, t32, t33, t34, t35, t36, t37, t38, t39, t40, t41, t42, t43, t44, t45, t46, t47, t48, t49, t50, t51, t52, t53, t54, t55, t56, t57, t58, t59, t60, t61, t62, t63, t64, t65, t66, u67, u68, u69, u70, u71, u72, u73, u74, t75, t76, t77, t78, t79], []⟩ wC)) :
    Code.wp Try.prog ((Try.f27.body.bind (regionOf 9)).getD .skip) Q ⟨#[.slice (some ⟨ab, ao, none⟩) al ac, t1, t2, t3, t4, t5, v, t7, t8, t9, t10, t11, t12, t13, t14, t15, t16, t17, t18, t19, t20, t21, t22, t23, t24, t25, t26, t27, t28, t29, t30, t31, t32, t33, t34, t35, t36, t37, t38, t39, t40, t41, t42, t43, t44, t45, t46, t47, t48, t49, t50, t51, t52, t53, t54, t55, t56, t57, t58, t59, t60, t61, t62, t63, t64, t65, t66, t67, t68, t69, t70, t71, t72, t73, t74, t75, t76, t77, t78, t79], []⟩ w1 := by
  have HO := Hid.mk9 (own_below hO (below_drew w1))
  have HB := Hid.mk9 (below2 hb (below_drew w1))
  clear hO hb
  have pa : (0 : Int) < (al : Int) := by omega
  have pa1 : (1 : Int) ≤ (al : Int) := by omega
  have pa2 : (1 : Int) ≤ (ac : Int) := by omega
  have pa3 : (al : Int) ≤ (ac : Int) := by omega
  have hS : (fun w' => w'.cell? ⟨ab, ao, none⟩ = some (.int .i64 x) ∧ w'.cell? ⟨ab, ao + 1, none⟩ = some (.int .i64 y)) w1.drew := ⟨kept3 c0 (below_drew w1), kept3 c1 (below_drew w1)⟩
  conv => arg 2; whnf
  refine held_start (S := fun w' => w'.cell? ⟨ab, ao, none⟩ = some (.int .i64 x) ∧ w'.cell? ⟨ab, ao + 1, none⟩ = some (.int .i64 y)) mixed5 ?_
  refine held_take (i := 0) (v := v) rfl (by kernel_rfl) (fun _ _ _ h => h) (.inl ⟨rfl, fun w hS => ?_⟩) hS ?_
  · obtain ⟨s0, s1⟩ := hS
    go_simp
  try simp only [Act.put, List.setIfInBounds_toArray, List.set_cons_zero, List.set_cons_succ]
  refine held_take (i := 1) (v := .slice (some ⟨ab, ao, none⟩) al ac) rfl (by kernel_rfl) (fun _ _ _ h => h) (.inl ⟨rfl, fun w hS => ?_⟩) hS ?_
  · obtain ⟨s0, s1⟩ := hS
    go_simp
  try simp only [Act.put, List.setIfInBounds_toArray, List.set_cons_zero, List.set_cons_succ]
  refine held_take (i := 2) (v := .pointer (some ⟨ab, ao, none⟩)) rfl (by kernel_rfl) (fun _ _ _ h => h) (.inl ⟨rfl, fun w hS => ?_⟩) hS ?_
  · obtain ⟨s0, s1⟩ := hS
    go_simp
  try simp only [Act.put, List.setIfInBounds_toArray, List.set_cons_zero, List.set_cons_succ]
  refine held_take (i := 3) (v := .agg #[.int .i64 x, .int .i64 y]) rfl (by kernel_rfl) (fun _ _ _ h => h) (.inl ⟨rfl, fun w hS => ?_⟩) hS ?_
  · obtain ⟨s0, s1⟩ := hS
    go_simp
  try simp only [Act.put, List.setIfInBounds_toArray, List.set_cons_zero, List.set_cons_succ]
  refine held_take (i := 6) (v := .slice (some ⟨ab, ao, none⟩) al ac) rfl (by kernel_rfl) (fun _ _ _ h => h) (.inl ⟨rfl, fun w hS => ?_⟩) hS ?_
  · obtain ⟨s0, s1⟩ := hS
    go_simp
  try simp only [Act.put, List.setIfInBounds_toArray, List.set_cons_zero, List.set_cons_succ]
  refine held_take (i := 7) (v := (.slice az (al - 1) (ac - 1))) rfl (by kernel_rfl) (fun _ _ _ h => h) (.inl ⟨rfl, fun w hS => ?_⟩) hS ?_
  · obtain ⟨s0, s1⟩ := hS
    go_simp
  try simp only [Act.put, List.setIfInBounds_toArray, List.set_cons_zero, List.set_cons_succ]
  generalize w1.drew = w2 at *
  refine held_one (i := 4) (by kernel_rfl) rfl rfl ?_
  intro K hK
  go_simp
  have b3 := below_alloc w2 (.cells #[.int .i64 x, .int .i64 y] 24)
  have hS9 : (w2.alloc (.cells #[.int .i64 x, .int .i64 y] 24)).cell? ⟨ab, ao, none⟩ = some (.int .i64 x) ∧ (w2.alloc (.cells #[.int .i64 x, .int .i64 y] 24)).cell? ⟨ab, ao + 1, none⟩ = some (.int .i64 y) := ⟨kept3 hS.1 b3, kept3 hS.2 b3⟩
  refine hK.out _ _ hS9 ?_
  have HN := Hid.mk9 (sms_lit w2 x y)
  replace HO := Hid.mk9 (own_below HO.out b3)
  replace HB := Hid.mk9 (below2 HB.out b3)
  clear hK hS b3
  try simp only [Act.put, List.setIfInBounds_toArray, List.set_cons_zero, List.set_cons_succ]
  generalize w2.alloc (.cells #[.int .i64 x, .int .i64 y] 24) = w3 at *
  generalize w2.heap.size = g at *
  obtain ⟨i0, hi, hz0, hz1, hz2⟩ := info_parts infoS
  refine held_one (i := 5) (by kernel_rfl) rfl rfl ?_
  intro K hK
  refine wp_append_own _ (.tmp 67) (.tmp 71) 22 rfl w0.heap.size 24 i0 (.agg #[.int .i64 0, .int .i64 0]) 2 16 Try.underlying22 hi hz0 hz1 hz2 rfl (by decide) v n (cellsS M) rfl HO.out ⟨g, 0, none⟩ 1 1 (cellsS [(x, y)]) rfl rfl (sms_cells HN.out) (cellsS_one _) (by unfold maxLen; omega) (by omega) HB.out.size ?_
  intro v' w' ho' hg' _
  have HO' : Hid (w'.ownsRow w0.heap.size 24 2 v' (n + 1) (cellsS (M ++ [(x, y)]))) := Hid.mk9 (by rw [cellsS_append]; exact ho')
  have HB' : Hid (Below w0.heap.size w0 w') := Hid.mk9 (HB.out.grown hg' HB.out.size (fun k hk => (HO.out.lt k hk).1))
  have hblk : w'.heap[ab]? = w3.heap[ab]? := hg'.block ab (Nat.lt_of_lt_of_le hq HB.out.size) (fun e => by have := (HO.out.lt ab e.symm).1; omega)
  have hS8 : w'.cell? ⟨ab, ao, none⟩ = some (.int .i64 x) ∧ w'.cell? ⟨ab, ao + 1, none⟩ = some (.int .i64 y) := ⟨(World.cell?_of_block (a := ⟨ab, ao, none⟩) hblk).trans hS9.1, (World.cell?_of_block (a := ⟨ab, ao + 1, none⟩) hblk).trans hS9.2⟩
  refine hK.out _ _ hS8 ?_
  clear hK hblk ho' hg' hS9 HO HB HN hi hz0 hz1 hz2 i0
  have hS := hS8
  clear hS8
  try simp only [Act.put, List.setIfInBounds_toArray, List.set_cons_zero, List.set_cons_succ]
  refine held_take (i := 8) (v := v') rfl (by kernel_rfl) (fun _ _ _ h => h) (.inl ⟨rfl, fun w hS => ?_⟩) hS ?_
  · obtain ⟨s0, s1⟩ := hS
    go_simp
  try simp only [Act.put, List.setIfInBounds_toArray, List.set_cons_zero, List.set_cons_succ]
  refine held_take (i := 9) (v := (.slice az (al - 1) (ac - 1))) rfl (by kernel_rfl) (fun _ _ _ h => h) (.inl ⟨rfl, fun w hS => ?_⟩) hS ?_
  · obtain ⟨s0, s1⟩ := hS
    go_simp
  try simp only [Act.put, List.setIfInBounds_toArray, List.set_cons_zero]
  refine wpAnyH_done (by kernel_rfl) ?_ _
  refine NoPanic.normal ?_
  exact hQ.out _ _ _ _ _ _ _ _ v' _ HO'.out HB'.out
set_option maxHeartbeats 4000000 in
set_option maxRecDepth 60000 in
theorem zip_3 (t0 t2 t3 t4 t5 t7 t8 t9 t10 t11 t12 t13 t14 t15 t16 t17 t18 t19 t20 t21 t22 t23 t24 t25 t26 t27 t28 t29 t30 t31 t32 t33 t34 t35 t36 t37 t38 t39 t40 t41 t42 t43 t44 t45 t46 t47 t48 t49 t50 t51 t52 t53 t54 t55 t56 t57 t58 t59 t60 t61 t62 t63 t64 t65 t66 t67 t68 t69 t70 t71 t72 t73 t74 t75 t76 t77 t78 t79 : Value) (bb bo bl bc : Nat) (bz : Option Addr) (x y : Int) (v : Value) (n : Nat) (M : List Sm) (w0 : World) (w1 : World) (Q : Exit → Act → World → Prop)
    (hbl : 0 < bl) (hbc : bl ≤ bc) (hbm : bc ≤ 9223372036854775807) (hifb : (if bc = 1 then some ⟨bb, bo, none⟩ else some ⟨bb, bo + 2, none⟩) = bz)
    (c0 : w1.cell? ⟨bb, bo, none⟩ = some (.int .i64 x)) (c1 : w1.cell? ⟨bb, bo + 1, none⟩ = some (.int .i64 y)) (hq : bb < w0.heap.size) (hO : w1.ownsRow w0.heap.size 24 2 v n (cellsS M)) (hn : (n : Int) ≤ 1000) (hb : Below w0.heap.size w0 w1)
    (hQ : Hid (∀ (u21 u22 u23 u24 u25 u26 u27 u28 : Value) (v' : Value) (wC : World), wC.ownsRow w0.heap.size 24 2 v' (n + 1) (cellsS (M ++ [(x, y)])) → Below w0.heap.size w0 wC → Q .normal ⟨#[t0, .slice bz (bl - 1) (bc - 1), t2, t3, t4, t5, v', t7, t8, t9, t10, t11, t12, t13, t14, t15, t16, t17, t18, t19, t20, u21, u22, u23, u24, u25, u26, u27, u28, t29, t30, t31, t32, t33, t34, t35, t36, t37, t38, t39, t40, t41, t42, t43, t44, t45, t46, t47, t48, t49, t50, t51, t52, t53, t54, t55, t56, t57, t58, t59, t60, t61, t62, t63, t64, t65, t66, t67, t68, t69, t70, t71, t72, t73, t74, t75, t76, t77, t78, t79], []⟩ wC)) :
    Code.wp Try.prog ((Try.f27.body.bind (regionOf 3)).getD .skip) Q ⟨#[t0, .slice (some ⟨bb, bo, none⟩) bl bc, t2, t3, t4, t5, v, t7, t8, t9, t10, t11, t12, t13, t14, t15, t16, t17, t18, t19, t20, t21, t22, t23, t24, t25, t26, t27, t28, t29, t30, t31, t32, t33, t34, t35, t36, t37, t38, t39, t40, t41, t42, t43, t44, t45, t46, t47, t48, t49, t50, t51, t52, t53, t54, t55, t56, t57, t58, t59, t60, t61, t62, t63, t64, t65, t66, t67, t68, t69, t70, t71, t72, t73, t74, t75, t76, t77, t78, t79], []⟩ w1 := by
  have HO := Hid.mk9 (own_below hO (below_drew w1))
  have HB := Hid.mk9 (below2 hb (below_drew w1))
  clear hO hb
  have pb : (0 : Int) < (bl : Int) := by omega
  have pb1 : (1 : Int) ≤ (bl : Int) := by omega
  have pb2 : (1 : Int) ≤ (bc : Int) := by omega
  have pb3 : (bl : Int) ≤ (bc : Int) := by omega
  have hS : (fun w' => w'.cell? ⟨bb, bo, none⟩ = some (.int .i64 x) ∧ w'.cell? ⟨bb, bo + 1, none⟩ = some (.int .i64 y)) w1.drew := ⟨kept3 c0 (below_drew w1), kept3 c1 (below_drew w1)⟩
  conv => arg 2; whnf
  refine held_start (S := fun w' => w'.cell? ⟨bb, bo, none⟩ = some (.int .i64 x) ∧ w'.cell? ⟨bb, bo + 1, none⟩ = some (.int .i64 y)) mixed5 ?_
  refine held_take (i := 0) (v := v) rfl (by kernel_rfl) (fun _ _ _ h => h) (.inl ⟨rfl, fun w hS => ?_⟩) hS ?_
  · obtain ⟨s0, s1⟩ := hS
    go_simp
  try simp only [Act.put, List.setIfInBounds_toArray, List.set_cons_zero, List.set_cons_succ]
  refine held_take (i := 1) (v := .slice (some ⟨bb, bo, none⟩) bl bc) rfl (by kernel_rfl) (fun _ _ _ h => h) (.inl ⟨rfl, fun w hS => ?_⟩) hS ?_
  · obtain ⟨s0, s1⟩ := hS
    go_simp
  try simp only [Act.put, List.setIfInBounds_toArray, List.set_cons_zero, List.set_cons_succ]
  refine held_take (i := 2) (v := .pointer (some ⟨bb, bo, none⟩)) rfl (by kernel_rfl) (fun _ _ _ h => h) (.inl ⟨rfl, fun w hS => ?_⟩) hS ?_
  · obtain ⟨s0, s1⟩ := hS
    go_simp
  try simp only [Act.put, List.setIfInBounds_toArray, List.set_cons_zero, List.set_cons_succ]
  refine held_take (i := 3) (v := .agg #[.int .i64 x, .int .i64 y]) rfl (by kernel_rfl) (fun _ _ _ h => h) (.inl ⟨rfl, fun w hS => ?_⟩) hS ?_
  · obtain ⟨s0, s1⟩ := hS
    go_simp
  try simp only [Act.put, List.setIfInBounds_toArray, List.set_cons_zero, List.set_cons_succ]
  refine held_take (i := 6) (v := .slice (some ⟨bb, bo, none⟩) bl bc) rfl (by kernel_rfl) (fun _ _ _ h => h) (.inl ⟨rfl, fun w hS => ?_⟩) hS ?_
  · obtain ⟨s0, s1⟩ := hS
    go_simp
  try simp only [Act.put, List.setIfInBounds_toArray, List.set_cons_zero, List.set_cons_succ]
  refine held_take (i := 7) (v := (.slice bz (bl - 1) (bc - 1))) rfl (by kernel_rfl) (fun _ _ _ h => h) (.inl ⟨rfl, fun w hS => ?_⟩) hS ?_
  · obtain ⟨s0, s1⟩ := hS
    go_simp
  try simp only [Act.put, List.setIfInBounds_toArray, List.set_cons_zero, List.set_cons_succ]
  generalize w1.drew = w2 at *
  refine held_one (i := 4) (by kernel_rfl) rfl rfl ?_
  intro K hK
  go_simp
  have b3 := below_alloc w2 (.cells #[.int .i64 x, .int .i64 y] 24)
  have hS9 : (w2.alloc (.cells #[.int .i64 x, .int .i64 y] 24)).cell? ⟨bb, bo, none⟩ = some (.int .i64 x) ∧ (w2.alloc (.cells #[.int .i64 x, .int .i64 y] 24)).cell? ⟨bb, bo + 1, none⟩ = some (.int .i64 y) := ⟨kept3 hS.1 b3, kept3 hS.2 b3⟩
  refine hK.out _ _ hS9 ?_
  have HN := Hid.mk9 (sms_lit w2 x y)
  replace HO := Hid.mk9 (own_below HO.out b3)
  replace HB := Hid.mk9 (below2 HB.out b3)
  clear hK hS b3
  try simp only [Act.put, List.setIfInBounds_toArray, List.set_cons_zero, List.set_cons_succ]
  generalize w2.alloc (.cells #[.int .i64 x, .int .i64 y] 24) = w3 at *
  generalize w2.heap.size = g at *
  obtain ⟨i0, hi, hz0, hz1, hz2⟩ := info_parts infoS
  refine held_one (i := 5) (by kernel_rfl) rfl rfl ?_
  intro K hK
  refine wp_append_own _ (.tmp 21) (.tmp 25) 22 rfl w0.heap.size 24 i0 (.agg #[.int .i64 0, .int .i64 0]) 2 16 Try.underlying22 hi hz0 hz1 hz2 rfl (by decide) v n (cellsS M) rfl HO.out ⟨g, 0, none⟩ 1 1 (cellsS [(x, y)]) rfl rfl (sms_cells HN.out) (cellsS_one _) (by unfold maxLen; omega) (by omega) HB.out.size ?_
  intro v' w' ho' hg' _
  have HO' : Hid (w'.ownsRow w0.heap.size 24 2 v' (n + 1) (cellsS (M ++ [(x, y)]))) := Hid.mk9 (by rw [cellsS_append]; exact ho')
  have HB' : Hid (Below w0.heap.size w0 w') := Hid.mk9 (HB.out.grown hg' HB.out.size (fun k hk => (HO.out.lt k hk).1))
  have hblk : w'.heap[bb]? = w3.heap[bb]? := hg'.block bb (Nat.lt_of_lt_of_le hq HB.out.size) (fun e => by have := (HO.out.lt bb e.symm).1; omega)
  have hS8 : w'.cell? ⟨bb, bo, none⟩ = some (.int .i64 x) ∧ w'.cell? ⟨bb, bo + 1, none⟩ = some (.int .i64 y) := ⟨(World.cell?_of_block (a := ⟨bb, bo, none⟩) hblk).trans hS9.1, (World.cell?_of_block (a := ⟨bb, bo + 1, none⟩) hblk).trans hS9.2⟩
  refine hK.out _ _ hS8 ?_
  clear hK hblk ho' hg' hS9 HO HB HN hi hz0 hz1 hz2 i0
  have hS := hS8
  clear hS8
  try simp only [Act.put, List.setIfInBounds_toArray, List.set_cons_zero, List.set_cons_succ]
  refine held_take (i := 8) (v := v') rfl (by kernel_rfl) (fun _ _ _ h => h) (.inl ⟨rfl, fun w hS => ?_⟩) hS ?_
  · obtain ⟨s0, s1⟩ := hS
    go_simp
  try simp only [Act.put, List.setIfInBounds_toArray, List.set_cons_zero, List.set_cons_succ]
  refine held_take (i := 9) (v := (.slice bz (bl - 1) (bc - 1))) rfl (by kernel_rfl) (fun _ _ _ h => h) (.inl ⟨rfl, fun w hS => ?_⟩) hS ?_
  · obtain ⟨s0, s1⟩ := hS
    go_simp
  try simp only [Act.put, List.setIfInBounds_toArray, List.set_cons_zero, List.set_cons_succ]
  refine wpAnyH_done (by kernel_rfl) ?_ _
  refine NoPanic.normal ?_
  exact hQ.out _ _ _ _ _ _ _ _ v' _ HO'.out HB'.out
set_option maxHeartbeats 4000000 in
set_option maxRecDepth 60000 in
theorem zip_5 (t2 t3 t4 t5 t7 t8 t9 t10 t11 t12 t13 t14 t15 t16 t17 t18 t19 t20 t21 t22 t23 t24 t25 t26 t27 t28 t29 t30 t31 t32 t33 t34 t35 t36 t37 t38 t39 t40 t41 t42 t43 t44 t45 t46 t47 t48 t49 t50 t51 t52 t53 t54 t55 t56 t57 t58 t59 t60 t61 t62 t63 t64 t65 t66 t67 t68 t69 t70 t71 t72 t73 t74 t75 t76 t77 t78 t79 : Value) (ab ao al ac : Nat) (az : Option Addr) (bb bo bl bc : Nat) (bz : Option Addr) (x y : Int) (v : Value) (n : Nat) (M : List Sm) (w0 : World) (w1 : World) (Q : Exit → Act → World → Prop)
    (hal : 0 < al) (hac : al ≤ ac) (ham : ac ≤ 9223372036854775807) (hifa : (if ac = 1 then some ⟨ab, ao, none⟩ else some ⟨ab, ao + 2, none⟩) = az)
    (hbl : 0 < bl) (hbc : bl ≤ bc) (hbm : bc ≤ 9223372036854775807) (hifb : (if bc = 1 then some ⟨bb, bo, none⟩ else some ⟨bb, bo + 2, none⟩) = bz)
    (c0 : w1.cell? ⟨ab, ao, none⟩ = some (.int .i64 x)) (c1 : w1.cell? ⟨ab, ao + 1, none⟩ = some (.int .i64 y)) (hq : ab < w0.heap.size) (hO : w1.ownsRow w0.heap.size 24 2 v n (cellsS M)) (hn : (n : Int) ≤ 1000) (hb : Below w0.heap.size w0 w1)
    (hQ : Hid (∀ (u37 u38 u39 u40 u41 u42 u43 u44 u45 u46 : Value) (v' : Value) (wC : World), wC.ownsRow w0.heap.size 24 2 v' (n + 1) (cellsS (M ++ [(x, y)])) → Below w0.heap.size w0 wC → Q .normal ⟨#[.slice az (al - 1) (ac - 1), .slice bz (bl - 1) (bc - 1), t2, t3, t4, t5, v', t7, t8, t9, t10, t11, t12, t13, t14, t15, t16, t17, t18, t19, t20, t21, t22, t23, t24, t25, t26, t27, t28, t29, t30, t31, t32, t33, t34, t35, t36, u37, u38, u39, u40, u41, u42, u43, u44, u45, u46, t47, t48, t49, t50, t51, t52, t53, t54, t55, t56, t57, t58, t59, t60, t61, t62, t63, t64, t65, t66, t67, t68, t69, t70, t71, t72, t73, t74, t75, t76, t77, t78, t79], []⟩ wC)) :
    Code.wp Try.prog ((Try.f27.body.bind (regionOf 5)).getD .skip) Q ⟨#[.slice (some ⟨ab, ao, none⟩) al ac, .slice (some ⟨bb, bo, none⟩) bl bc, t2, t3, t4, t5, v, t7, t8, t9, t10, t11, t12, t13, t14, t15, t16, t17, t18, t19, t20, t21, t22, t23, t24, t25, t26, t27, t28, t29, t30, t31, t32, t33, t34, t35, t36, t37, t38, t39, t40, t41, t42, t43, t44, t45, t46, t47, t48, t49, t50, t51, t52, t53, t54, t55, t56, t57, t58, t59, t60, t61, t62, t63, t64, t65, t66, t67, t68, t69, t70, t71, t72, t73, t74, t75, t76, t77, t78, t79], []⟩ w1 := by
  have HO := Hid.mk9 (own_below hO (below_drew w1))
  have HB := Hid.mk9 (below2 hb (below_drew w1))
  clear hO hb
  have pa : (0 : Int) < (al : Int) := by omega
  have pa1 : (1 : Int) ≤ (al : Int) := by omega
  have pa2 : (1 : Int) ≤ (ac : Int) := by omega
  have pa3 : (al : Int) ≤ (ac : Int) := by omega
  have pb : (0 : Int) < (bl : Int) := by omega
  have pb1 : (1 : Int) ≤ (bl : Int) := by omega
  have pb2 : (1 : Int) ≤ (bc : Int) := by omega
  have pb3 : (bl : Int) ≤ (bc : Int) := by omega
  have hS : (fun w' => w'.cell? ⟨ab, ao, none⟩ = some (.int .i64 x) ∧ w'.cell? ⟨ab, ao + 1, none⟩ = some (.int .i64 y)) w1.drew := ⟨kept3 c0 (below_drew w1), kept3 c1 (below_drew w1)⟩
  conv => arg 2; whnf
  refine held_start (S := fun w' => w'.cell? ⟨ab, ao, none⟩ = some (.int .i64 x) ∧ w'.cell? ⟨ab, ao + 1, none⟩ = some (.int .i64 y)) mixed5 ?_
  refine held_take (i := 0) (v := v) rfl (by kernel_rfl) (fun _ _ _ h => h) (.inl ⟨rfl, fun w hS => ?_⟩) hS ?_
  · obtain ⟨s0, s1⟩ := hS
    go_simp
  try simp only [Act.put, List.setIfInBounds_toArray, List.set_cons_zero, List.set_cons_succ]
  refine held_take (i := 1) (v := .slice (some ⟨ab, ao, none⟩) al ac) rfl (by kernel_rfl) (fun _ _ _ h => h) (.inl ⟨rfl, fun w hS => ?_⟩) hS ?_
  · obtain ⟨s0, s1⟩ := hS
    go_simp
  try simp only [Act.put, List.setIfInBounds_toArray, List.set_cons_zero, List.set_cons_succ]
  refine held_take (i := 2) (v := .pointer (some ⟨ab, ao, none⟩)) rfl (by kernel_rfl) (fun _ _ _ h => h) (.inl ⟨rfl, fun w hS => ?_⟩) hS ?_
  · obtain ⟨s0, s1⟩ := hS
    go_simp
  try simp only [Act.put, List.setIfInBounds_toArray, List.set_cons_zero, List.set_cons_succ]
  refine held_take (i := 3) (v := .agg #[.int .i64 x, .int .i64 y]) rfl (by kernel_rfl) (fun _ _ _ h => h) (.inl ⟨rfl, fun w hS => ?_⟩) hS ?_
  · obtain ⟨s0, s1⟩ := hS
    go_simp
  try simp only [Act.put, List.setIfInBounds_toArray, List.set_cons_zero, List.set_cons_succ]
  refine held_take (i := 6) (v := .slice (some ⟨ab, ao, none⟩) al ac) rfl (by kernel_rfl) (fun _ _ _ h => h) (.inl ⟨rfl, fun w hS => ?_⟩) hS ?_
  · obtain ⟨s0, s1⟩ := hS
    go_simp
  try simp only [Act.put, List.setIfInBounds_toArray, List.set_cons_zero, List.set_cons_succ]
  refine held_take (i := 7) (v := (.slice az (al - 1) (ac - 1))) rfl (by kernel_rfl) (fun _ _ _ h => h) (.inl ⟨rfl, fun w hS => ?_⟩) hS ?_
  · obtain ⟨s0, s1⟩ := hS
    go_simp
  try simp only [Act.put, List.setIfInBounds_toArray, List.set_cons_zero, List.set_cons_succ]
  refine held_take (i := 8) (v := .slice (some ⟨bb, bo, none⟩) bl bc) rfl (by kernel_rfl) (fun _ _ _ h => h) (.inl ⟨rfl, fun w hS => ?_⟩) hS ?_
  · obtain ⟨s0, s1⟩ := hS
    go_simp
  try simp only [Act.put, List.setIfInBounds_toArray, List.set_cons_zero, List.set_cons_succ]
  refine held_take (i := 9) (v := (.slice bz (bl - 1) (bc - 1))) rfl (by kernel_rfl) (fun _ _ _ h => h) (.inl ⟨rfl, fun w hS => ?_⟩) hS ?_
  · obtain ⟨s0, s1⟩ := hS
    go_simp
  try simp only [Act.put, List.setIfInBounds_toArray, List.set_cons_zero, List.set_cons_succ]
  generalize w1.drew = w2 at *
  refine held_one (i := 4) (by kernel_rfl) rfl rfl ?_
  intro K hK
  go_simp
  have b3 := below_alloc w2 (.cells #[.int .i64 x, .int .i64 y] 24)
  have hS9 : (w2.alloc (.cells #[.int .i64 x, .int .i64 y] 24)).cell? ⟨ab, ao, none⟩ = some (.int .i64 x) ∧ (w2.alloc (.cells #[.int .i64 x, .int .i64 y] 24)).cell? ⟨ab, ao + 1, none⟩ = some (.int .i64 y) := ⟨kept3 hS.1 b3, kept3 hS.2 b3⟩
  refine hK.out _ _ hS9 ?_
  have HN := Hid.mk9 (sms_lit w2 x y)
  replace HO := Hid.mk9 (own_below HO.out b3)
  replace HB := Hid.mk9 (below2 HB.out b3)
  clear hK hS b3
  try simp only [Act.put, List.setIfInBounds_toArray, List.set_cons_zero, List.set_cons_succ]
  generalize w2.alloc (.cells #[.int .i64 x, .int .i64 y] 24) = w3 at *
  generalize w2.heap.size = g at *
  obtain ⟨i0, hi, hz0, hz1, hz2⟩ := info_parts infoS
  refine held_one (i := 5) (by kernel_rfl) rfl rfl ?_
  intro K hK
  refine wp_append_own _ (.tmp 37) (.tmp 41) 22 rfl w0.heap.size 24 i0 (.agg #[.int .i64 0, .int .i64 0]) 2 16 Try.underlying22 hi hz0 hz1 hz2 rfl (by decide) v n (cellsS M) rfl HO.out ⟨g, 0, none⟩ 1 1 (cellsS [(x, y)]) rfl rfl (sms_cells HN.out) (cellsS_one _) (by unfold maxLen; omega) (by omega) HB.out.size ?_
  intro v' w' ho' hg' _
  have HO' : Hid (w'.ownsRow w0.heap.size 24 2 v' (n + 1) (cellsS (M ++ [(x, y)]))) := Hid.mk9 (by rw [cellsS_append]; exact ho')
  have HB' : Hid (Below w0.heap.size w0 w') := Hid.mk9 (HB.out.grown hg' HB.out.size (fun k hk => (HO.out.lt k hk).1))
  have hblk : w'.heap[ab]? = w3.heap[ab]? := hg'.block ab (Nat.lt_of_lt_of_le hq HB.out.size) (fun e => by have := (HO.out.lt ab e.symm).1; omega)
  have hS8 : w'.cell? ⟨ab, ao, none⟩ = some (.int .i64 x) ∧ w'.cell? ⟨ab, ao + 1, none⟩ = some (.int .i64 y) := ⟨(World.cell?_of_block (a := ⟨ab, ao, none⟩) hblk).trans hS9.1, (World.cell?_of_block (a := ⟨ab, ao + 1, none⟩) hblk).trans hS9.2⟩
  refine hK.out _ _ hS8 ?_
  clear hK hblk ho' hg' hS9 HO HB HN hi hz0 hz1 hz2 i0
  have hS := hS8
  clear hS8
  try simp only [Act.put, List.setIfInBounds_toArray, List.set_cons_zero, List.set_cons_succ]
  refine held_take (i := 10) (v := v') rfl (by kernel_rfl) (fun _ _ _ h => h) (.inl ⟨rfl, fun w hS => ?_⟩) hS ?_
  · obtain ⟨s0, s1⟩ := hS
    go_simp
  try simp only [Act.put, List.setIfInBounds_toArray, List.set_cons_zero, List.set_cons_succ]
  refine held_take (i := 11) (v := (.slice az (al - 1) (ac - 1))) rfl (by kernel_rfl) (fun _ _ _ h => h) (.inl ⟨rfl, fun w hS => ?_⟩) hS ?_
  · obtain ⟨s0, s1⟩ := hS
    go_simp
  try simp only [Act.put, List.setIfInBounds_toArray, List.set_cons_zero]
  refine held_take (i := 12) (v := (.slice bz (bl - 1) (bc - 1))) rfl (by kernel_rfl) (fun _ _ _ h => h) (.inl ⟨rfl, fun w hS => ?_⟩) hS ?_
  · obtain ⟨s0, s1⟩ := hS
    go_simp
  try simp only [Act.put, List.setIfInBounds_toArray, List.set_cons_zero, List.set_cons_succ]
  refine wpAnyH_done (by kernel_rfl) ?_ _
  refine NoPanic.normal ?_
  exact hQ.out _ _ _ _ _ _ _ _ _ _ v' _ HO'.out HB'.out
end Go.Proofs.Ytppajhjfnlhmaaa.Bk
