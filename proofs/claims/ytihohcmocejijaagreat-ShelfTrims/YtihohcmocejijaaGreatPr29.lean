/-
  The drawn regions of doOp.
  doOp: an op done to a shelf of one's own.
-/
import Derived.Test.YtihohcmocejijaaGreatPr23
import Derived.Test.YtihohcmocejijaaGreatPr27
import Derived.Test.YtihohcmocejijaaGreatPr28
namespace Go.Proofs.YtihohcmocejijaaGreat.Bk
open Go.ChangeShapes Go.WideShapes Go.ChangeAt Go.RowKit
theorem filter_may {ls : List Sm} (p : Sm → Bool) (h : MayS ls) : MayS (ls.filter p) := by
  obtain ⟨h1, h2, h3⟩ := (may_iff _).1 h
  exact (may_iff _).2 ⟨Nat.le_trans (List.length_filter_le _ _) h1, fun x hx => h2 x (List.mem_filter.1 hx).1, h3.sublist List.filter_sublist⟩
theorem range_may {ls : List Sm} (f t : Int) (h : MayS ls) : MayS (rangeP ls f t) := filter_may _ h
theorem trim_may {ls : List Sm} (t : Int) (h : MayS ls) : MayS (trimP ls t) := filter_may _ h
set_option maxHeartbeats 4000000 in
set_option maxRecDepth 60000 in
theorem op_10 (t1 t2 t4 t5 t6 t7 t8 t9 t10 t11 t12 t13 t14 t15 t16 t17 t18 t19 t20 t21 t22 t23 t24 t25 t26 t27 t28 t29 t30 t31 t32 t33 t34 t35 t36 t37 t38 t39 t40 t41 t42 t43 t44 t45 t46 t47 t48 t49 t50 t51 t52 t53 t54 t55 t56 t57 t58 t59 t60 t61 t62 t63 t64 t65 : Value) (p ob : Nat) (k t v f u m : Int) (s : ByteArray) (xs : List Sm) (w1 : World) (Q : Exit → Act → World → Prop)
    (hbx : Bx7 w1 ob 29 (.int .i64 k) (.string s) (.int .i64 t) (.int .i64 v) (.int .i64 f) (.int .i64 u) (.int .i64 m)) (hM : MayS xs) (HP : Hid (∀ W, Below w1.heap.size w1 W → Calls Tryz.prog 58 #[.pointer (some ⟨p, 0, none⟩), .string s] W fun e w' => RowPost xs W e w'))
    (hQ : Hid (∀ (u34 u35 u36 u37 u38 u39 u40 u41 u42 u43 u44 u45 u46 u47 u48 : Value) (wC : World), Below w1.heap.size w1 wC → Q .normal ⟨#[.pointer (some ⟨p, 0, none⟩), t1, t2, .pointer (some ⟨ob, 0, none⟩), t4, t5, .int .i64 ((totP m (rangeP xs f u)).getD 0), .bool (totP m (rangeP xs f u)).isSome, t8, t9, t10, t11, t12, t13, t14, t15, t16, t17, t18, t19, t20, t21, t22, t23, t24, t25, t26, t27, t28, t29, t30, t31, t32, t33, u34, u35, u36, u37, u38, u39, u40, u41, u42, u43, u44, u45, u46, u47, u48, t49, t50, t51, t52, t53, t54, t55, t56, t57, t58, t59, t60, t61, t62, t63, t64, t65], []⟩ wC)) :
    Code.wp Tryz.prog ((Tryz.f36.body.bind (regionOf 10)).getD .skip) Q ⟨#[.pointer (some ⟨p, 0, none⟩), t1, t2, .pointer (some ⟨ob, 0, none⟩), t4, t5, t6, t7, t8, t9, t10, t11, t12, t13, t14, t15, t16, t17, t18, t19, t20, t21, t22, t23, t24, t25, t26, t27, t28, t29, t30, t31, t32, t33, t34, t35, t36, t37, t38, t39, t40, t41, t42, t43, t44, t45, t46, t47, t48, t49, t50, t51, t52, t53, t54, t55, t56, t57, t58, t59, t60, t61, t62, t63, t64, t65], []⟩ w1 := by
  have hS : (fun w' => Below w1.heap.size w1 w' ∧ Bx7 w' ob 29 (.int .i64 k) (.string s) (.int .i64 t) (.int .i64 v) (.int .i64 f) (.int .i64 u) (.int .i64 m)) w1.drew := ⟨below_drew _, hbx⟩
  conv => arg 2; whnf
  refine held_start (S := fun w' => Below w1.heap.size w1 w' ∧ Bx7 w' ob 29 (.int .i64 k) (.string s) (.int .i64 t) (.int .i64 v) (.int .i64 f) (.int .i64 u) (.int .i64 m)) mixed9 ?_
  refine held_take (i := 0) (v := .pointer (some ⟨ob, 6, none⟩)) rfl (by kernel_rfl) (fun _ _ _ h => h) (.inl ⟨rfl, fun w hS => ?_⟩) hS ?_
  · obtain ⟨-, q⟩ := hS
    go_simp
  try simp only [Act.put, List.setIfInBounds_toArray, List.set_cons_zero, List.set_cons_succ]
  refine held_take (i := 1) (v := .int .i64 m) rfl (by kernel_rfl) (fun _ _ _ h => h) (.inl ⟨rfl, fun w hS => ?_⟩) hS ?_
  · obtain ⟨-, q⟩ := hS
    obtain ⟨c0, c1, c2, c3, c4, c5, c6⟩ := q.cells
    go_simp
  try simp only [Act.put, List.setIfInBounds_toArray, List.set_cons_zero, List.set_cons_succ]
  refine held_take (i := 2) (v := .pointer (some ⟨p, 0, none⟩)) rfl (by kernel_rfl) (fun _ _ _ h => h) (.inl ⟨rfl, fun w hS => ?_⟩) hS ?_
  · obtain ⟨-, q⟩ := hS
    go_simp
  try simp only [Act.put, List.setIfInBounds_toArray, List.set_cons_zero, List.set_cons_succ]
  refine held_take (i := 3) (v := .pointer (some ⟨ob, 1, none⟩)) rfl (by kernel_rfl) (fun _ _ _ h => h) (.inl ⟨rfl, fun w hS => ?_⟩) hS ?_
  · obtain ⟨-, q⟩ := hS
    go_simp
  try simp only [Act.put, List.setIfInBounds_toArray, List.set_cons_zero, List.set_cons_succ]
  refine held_take (i := 4) (v := .string s) rfl (by kernel_rfl) (fun _ _ _ h => h) (.inl ⟨rfl, fun w hS => ?_⟩) hS ?_
  · obtain ⟨-, q⟩ := hS
    obtain ⟨c0, c1, c2, c3, c4, c5, c6⟩ := q.cells
    go_simp
  try simp only [Act.put, List.setIfInBounds_toArray, List.set_cons_zero, List.set_cons_succ]
  refine held_take (i := 6) (v := .pointer (some ⟨ob, 4, none⟩)) rfl (by kernel_rfl) (fun _ _ _ h => h) (.inl ⟨rfl, fun w hS => ?_⟩) hS ?_
  · obtain ⟨-, q⟩ := hS
    go_simp
  try simp only [Act.put, List.setIfInBounds_toArray, List.set_cons_zero, List.set_cons_succ]
  refine held_take (i := 7) (v := .int .i64 f) rfl (by kernel_rfl) (fun _ _ _ h => h) (.inl ⟨rfl, fun w hS => ?_⟩) hS ?_
  · obtain ⟨-, q⟩ := hS
    obtain ⟨c0, c1, c2, c3, c4, c5, c6⟩ := q.cells
    go_simp
  try simp only [Act.put, List.setIfInBounds_toArray, List.set_cons_zero, List.set_cons_succ]
  refine held_take (i := 8) (v := .pointer (some ⟨ob, 5, none⟩)) rfl (by kernel_rfl) (fun _ _ _ h => h) (.inl ⟨rfl, fun w hS => ?_⟩) hS ?_
  · obtain ⟨-, q⟩ := hS
    go_simp
  try simp only [Act.put, List.setIfInBounds_toArray, List.set_cons_zero, List.set_cons_succ]
  refine held_take (i := 9) (v := .int .i64 u) rfl (by kernel_rfl) (fun _ _ _ h => h) (.inl ⟨rfl, fun w hS => ?_⟩) hS ?_
  · obtain ⟨-, q⟩ := hS
    obtain ⟨c0, c1, c2, c3, c4, c5, c6⟩ := q.cells
    go_simp
  try simp only [Act.put, List.setIfInBounds_toArray, List.set_cons_zero, List.set_cons_succ]
  refine held_one (i := 5) (by kernel_rfl) rfl rfl ?_
  intro K hK
  go_simp
  go_at_call 58
  refine (HP.out _ hS.1).mono ?_
  rintro e w2 ⟨hb2, a, n, c, rfl, hs, -⟩
  have hN : (fun w' => Below w1.heap.size w1 w' ∧ Bx7 w' ob 29 (.int .i64 k) (.string s) (.int .i64 t) (.int .i64 v) (.int .i64 f) (.int .i64 u) (.int .i64 m)) w2 := ⟨below2 hS.1 hb2, hS.2.below hb2⟩
  refine hK.out _ _ (hN) ?_
  have hS9 := hN
  clear hK hS
  have hS := hS9
  clear hS9
  try simp only [Act.put, List.setIfInBounds_toArray, List.set_cons_zero, List.set_cons_succ]
  refine held_one (i := 10) (by kernel_rfl) rfl rfl ?_
  intro K hK
  go_simp
  go_at_call 57
  refine (range_yes a n c xs f u _ hs hM).mono ?_
  rintro e w3 ⟨hb2, a2, n2, c2, rfl, hs2, -⟩
  have hN : (fun w' => Below w1.heap.size w1 w' ∧ Bx7 w' ob 29 (.int .i64 k) (.string s) (.int .i64 t) (.int .i64 v) (.int .i64 f) (.int .i64 u) (.int .i64 m)) w3 := ⟨below2 hS.1 hb2, hS.2.below hb2⟩
  refine hK.out _ _ (hN) ?_
  have hS9 := hN
  clear hK hS
  have hS := hS9
  clear hS9
  try simp only [Act.put, List.setIfInBounds_toArray, List.set_cons_zero, List.set_cons_succ]
  refine held_one (i := 11) (by kernel_rfl) rfl rfl ?_
  intro K hK
  go_simp
  go_at_call 56
  refine (of_yes m a2 n2 c2 _ _ hs2 (range_may f u hM)).mono ?_
  rintro e w4 ⟨hb2, rfl⟩
  have hN : (fun w' => Below w1.heap.size w1 w' ∧ Bx7 w' ob 29 (.int .i64 k) (.string s) (.int .i64 t) (.int .i64 v) (.int .i64 f) (.int .i64 u) (.int .i64 m)) w4 := ⟨below2 hS.1 hb2, hS.2.below hb2⟩
  refine hK.out _ _ (hN) ?_
  have hS9 := hN
  clear hK hS
  have hS := hS9
  clear hS9
  try simp only [Act.put, List.setIfInBounds_toArray, List.set_cons_zero, List.set_cons_succ]
  refine held_take (i := 12) (v := .tuple #[.int .i64 ((totP m (rangeP xs f u)).getD 0), .bool (totP m (rangeP xs f u)).isSome]) rfl (by kernel_rfl) (fun _ _ _ h => h) (.inl ⟨rfl, fun w hS => ?_⟩) hS ?_
  · obtain ⟨-, q⟩ := hS
    go_simp
  try simp only [Act.put, List.setIfInBounds_toArray, List.set_cons_zero, List.set_cons_succ]
  refine held_take (i := 13) (v := .int .i64 ((totP m (rangeP xs f u)).getD 0)) rfl (by kernel_rfl) (fun _ _ _ h => h) (.inl ⟨rfl, fun w hS => ?_⟩) hS ?_
  · obtain ⟨-, q⟩ := hS
    go_simp
  try simp only [Act.put, List.setIfInBounds_toArray, List.set_cons_zero, List.set_cons_succ]
  refine held_take (i := 14) (v := .bool (totP m (rangeP xs f u)).isSome) rfl (by kernel_rfl) (fun _ _ _ h => h) (.inl ⟨rfl, fun w hS => ?_⟩) hS ?_
  · obtain ⟨-, q⟩ := hS
    go_simp
  try simp only [Act.put, List.setIfInBounds_toArray, List.set_cons_zero, List.set_cons_succ]
  refine held_take (i := 15) (v := .int .i64 ((totP m (rangeP xs f u)).getD 0)) rfl (by kernel_rfl) (fun _ _ _ h => h) (.inl ⟨rfl, fun w hS => ?_⟩) hS ?_
  · obtain ⟨-, q⟩ := hS
    go_simp
  try simp only [Act.put, List.setIfInBounds_toArray, List.set_cons_zero, List.set_cons_succ]
  refine held_take (i := 16) (v := .bool (totP m (rangeP xs f u)).isSome) rfl (by kernel_rfl) (fun _ _ _ h => h) (.inl ⟨rfl, fun w hS => ?_⟩) hS ?_
  · obtain ⟨-, q⟩ := hS
    go_simp
  try simp only [Act.put, List.setIfInBounds_toArray, List.set_cons_zero, List.set_cons_succ]
  refine wpAnyH_done (by kernel_rfl) ?_ _
  refine NoPanic.normal ?_
  exact hQ.out _ _ _ _ _ _ _ _ _ _ _ _ _ _ _ _ hS.1
theorem held_two {P : Program} {ops : Array Oper} {Q : Exit → Act → World → Prop} {md : Region.Mode} {S : World → Prop} {i j : Nat} {o o2 : Oper} {fuel : Nat} {listed : Array Bool} {a : Act} {w : World} (hr : Region.ready md ops listed = [i, j]) (hi : ops.toList[i]? = some o) (hj : ops.toList[j]? = some o2) (hg : Region.wanted o (yielded ops a.tmps) = true) (hg2 : Region.wanted o2 (yielded ops a.tmps) = true)
    (h : ∀ K : Act → World → Prop, Hid (∀ a' w', S w' → wpAnyH P md ops Q S fuel (listed.setIfInBounds i true) a' w' → K a' w') → o.wp P a w K Q)
    (h2 : ∀ K : Act → World → Prop, Hid (∀ a' w', S w' → wpAnyH P md ops Q S fuel (listed.setIfInBounds j true) a' w' → K a' w') → o2.wp P a w K Q) : wpAnyH P md ops Q S (fuel + 1) listed a w := by
  have ho : ops[i]? = some o := by simpa using hi
  have ho2 : ops[j]? = some o2 := by simpa using hj
  refine wpAnyH_all hr (by simp) (fun l hl => ?_)
  have hl2 : l = i ∨ l = j := by simpa using hl
  rcases hl2 with rfl | rfl
  · unfold wpOp
    simp only [ho]
    rw [if_pos hg]
    exact .inl (h _ (fun _ _ h1 h2 => ⟨h1, h2⟩))
  · unfold wpOp
    simp only [ho2]
    rw [if_pos hg2]
    exact .inl (h2 _ (fun _ _ h1 h2 => ⟨h1, h2⟩))
set_option maxHeartbeats 4000000 in
set_option maxRecDepth 60000 in
theorem op_12 (t1 t2 t4 t5 t6 t7 t8 t9 t10 t11 t12 t13 t14 t15 t16 t17 t18 t19 t20 t21 t22 t23 t24 t25 t26 t27 t28 t29 t30 t31 t32 t33 t34 t35 t36 t37 t38 t39 t40 t41 t42 t43 t44 t45 t46 t47 t48 t49 t50 t51 t52 t53 t54 t55 t56 t57 t58 t59 t60 t61 t62 t63 t64 t65 : Value) (p ob : Nat) (k t v f u m : Int) (s : ByteArray) (xs : List Sm) (w1 : World) (Q : Exit → Act → World → Prop)
    (hbx : Bx7 w1 ob 29 (.int .i64 k) (.string s) (.int .i64 t) (.int .i64 v) (.int .i64 f) (.int .i64 u) (.int .i64 m)) (hM : MayS xs) (HP : Hid (∀ W, Below w1.heap.size w1 W → Calls Tryz.prog 58 #[.pointer (some ⟨p, 0, none⟩), .string s] W fun e w' => RowPost xs W e w'))
    (hQ : Hid (∀ (u52 u53 u54 u55 u56 u57 u58 u59 u60 u61 : Value) (r : Nat) (wC : World), w1.heap.size ≤ r → Below w1.heap.size w1 wC → SmBox wC r ((findP xs f).getD sm0).1 ((findP xs f).getD sm0).2 → Q .normal ⟨#[.pointer (some ⟨p, 0, none⟩), t1, t2, .pointer (some ⟨ob, 0, none⟩), t4, t5, t6, t7, .pointer (some ⟨r, 0, none⟩), .bool (findP xs f).isSome, t10, t11, t12, t13, t14, t15, t16, t17, t18, t19, t20, t21, t22, t23, t24, t25, t26, t27, t28, t29, t30, t31, t32, t33, t34, t35, t36, t37, t38, t39, t40, t41, t42, t43, t44, t45, t46, t47, t48, t49, t50, t51, u52, u53, u54, u55, u56, u57, u58, u59, u60, u61, t62, t63, t64, t65], []⟩ wC)) :
    Code.wp Tryz.prog ((Tryz.f36.body.bind (regionOf 12)).getD .skip) Q ⟨#[.pointer (some ⟨p, 0, none⟩), t1, t2, .pointer (some ⟨ob, 0, none⟩), t4, t5, t6, t7, t8, t9, t10, t11, t12, t13, t14, t15, t16, t17, t18, t19, t20, t21, t22, t23, t24, t25, t26, t27, t28, t29, t30, t31, t32, t33, t34, t35, t36, t37, t38, t39, t40, t41, t42, t43, t44, t45, t46, t47, t48, t49, t50, t51, t52, t53, t54, t55, t56, t57, t58, t59, t60, t61, t62, t63, t64, t65], []⟩ w1 := by
  have hS : (fun w' => Below w1.heap.size w1 w' ∧ Bx7 w' ob 29 (.int .i64 k) (.string s) (.int .i64 t) (.int .i64 v) (.int .i64 f) (.int .i64 u) (.int .i64 m)) w1.drew := ⟨below_drew _, hbx⟩
  conv => arg 2; whnf
  refine held_start (S := fun w' => Below w1.heap.size w1 w' ∧ Bx7 w' ob 29 (.int .i64 k) (.string s) (.int .i64 t) (.int .i64 v) (.int .i64 f) (.int .i64 u) (.int .i64 m)) mixed9 ?_
  refine held_take (i := 0) (v := .pointer (some ⟨p, 0, none⟩)) rfl (by kernel_rfl) (fun _ _ _ h => h) (.inl ⟨rfl, fun w hS => ?_⟩) hS ?_
  · obtain ⟨-, q⟩ := hS
    go_simp
  try simp only [Act.put, List.setIfInBounds_toArray, List.set_cons_zero, List.set_cons_succ]
  refine held_take (i := 1) (v := .pointer (some ⟨ob, 1, none⟩)) rfl (by kernel_rfl) (fun _ _ _ h => h) (.inl ⟨rfl, fun w hS => ?_⟩) hS ?_
  · obtain ⟨-, q⟩ := hS
    go_simp
  try simp only [Act.put, List.setIfInBounds_toArray, List.set_cons_zero, List.set_cons_succ]
  refine held_take (i := 2) (v := .string s) rfl (by kernel_rfl) (fun _ _ _ h => h) (.inl ⟨rfl, fun w hS => ?_⟩) hS ?_
  · obtain ⟨-, q⟩ := hS
    obtain ⟨c0, c1, c2, c3, c4, c5, c6⟩ := q.cells
    go_simp
  try simp only [Act.put, List.setIfInBounds_toArray, List.set_cons_zero, List.set_cons_succ]
  refine held_take (i := 4) (v := .pointer (some ⟨ob, 4, none⟩)) rfl (by kernel_rfl) (fun _ _ _ h => h) (.inl ⟨rfl, fun w hS => ?_⟩) hS ?_
  · obtain ⟨-, q⟩ := hS
    go_simp
  try simp only [Act.put, List.setIfInBounds_toArray, List.set_cons_zero, List.set_cons_succ]
  refine held_take (i := 5) (v := .int .i64 f) rfl (by kernel_rfl) (fun _ _ _ h => h) (.inl ⟨rfl, fun w hS => ?_⟩) hS ?_
  · obtain ⟨-, q⟩ := hS
    obtain ⟨c0, c1, c2, c3, c4, c5, c6⟩ := q.cells
    go_simp
  try simp only [Act.put, List.setIfInBounds_toArray, List.set_cons_zero, List.set_cons_succ]
  refine held_two (i := 3) (j := 10) (by kernel_rfl) rfl rfl rfl rfl ?_ ?_
  · intro K hK
    go_simp
    go_at_call 58
    refine (HP.out _ hS.1).mono ?_
    rintro e w2 ⟨hb2, a, n, c, rfl, hs, -⟩
    have hN : (fun w' => Below w1.heap.size w1 w' ∧ Bx7 w' ob 29 (.int .i64 k) (.string s) (.int .i64 t) (.int .i64 v) (.int .i64 f) (.int .i64 u) (.int .i64 m)) w2 := ⟨below2 hS.1 hb2, hS.2.below hb2⟩
    refine hK.out _ _ hN ?_
    clear hK hS
    have hS := hN
    clear hN
    try simp only [Act.put, List.setIfInBounds_toArray, List.set_cons_zero, List.set_cons_succ]
    refine held_two (i := 6) (j := 10) (by kernel_rfl) rfl rfl rfl rfl ?_ ?_
    · intro K hK
      go_simp
      go_at_call 59
      refine (get_yes a n c xs f _ hs hM).mono ?_
      rintro e w3 ⟨hb2, rfl⟩
      have hN : (fun w' => Below w1.heap.size w1 w' ∧ Bx7 w' ob 29 (.int .i64 k) (.string s) (.int .i64 t) (.int .i64 v) (.int .i64 f) (.int .i64 u) (.int .i64 m)) w3 := ⟨below2 hS.1 hb2, hS.2.below hb2⟩
      refine hK.out _ _ hN ?_
      clear hK hS
      have hS := hN
      clear hN
      try simp only [Act.put, List.setIfInBounds_toArray, List.set_cons_zero, List.set_cons_succ]
      refine held_take (i := 7) (v := .tuple #[.agg #[.int .i64 ((findP xs f).getD sm0).1, .int .i64 ((findP xs f).getD sm0).2], .bool (findP xs f).isSome]) rfl (by kernel_rfl) (fun _ _ _ h => h) (.inl ⟨rfl, fun w hS => ?_⟩) hS ?_
      · obtain ⟨-, q⟩ := hS
        go_simp
      try simp only [Act.put, List.setIfInBounds_toArray, List.set_cons_zero, List.set_cons_succ]
      refine held_take (i := 8) (v := .agg #[.int .i64 ((findP xs f).getD sm0).1, .int .i64 ((findP xs f).getD sm0).2]) rfl (by kernel_rfl) (fun _ _ _ h => h) (.inl ⟨rfl, fun w hS => ?_⟩) hS ?_
      · obtain ⟨-, q⟩ := hS
        go_simp
      try simp only [Act.put, List.setIfInBounds_toArray, List.set_cons_zero, List.set_cons_succ]
      refine held_take (i := 9) (v := .bool (findP xs f).isSome) rfl (by kernel_rfl) (fun _ _ _ h => h) (.inl ⟨rfl, fun w hS => ?_⟩) hS ?_
      · obtain ⟨-, q⟩ := hS
        go_simp
      try simp only [Act.put, List.setIfInBounds_toArray, List.set_cons_zero, List.set_cons_succ]
      refine held_one (i := 10) (by kernel_rfl) rfl rfl ?_
      intro K hK
      go_simp
      have hb2 := below_alloc w3 (.cells #[.int .i64 0, .int .i64 0] 27)
      have hz := SmBox.new w3 0 0
      have hr : w1.heap.size ≤ w3.heap.size := hS.1.size
      generalize w3.alloc (.cells #[.int .i64 0, .int .i64 0] 27) = wz at *
      have hN : (fun w' => Below w1.heap.size w1 w' ∧ Bx7 w' ob 29 (.int .i64 k) (.string s) (.int .i64 t) (.int .i64 v) (.int .i64 f) (.int .i64 u) (.int .i64 m)) wz := ⟨below2 hS.1 hb2, hS.2.below hb2⟩
      refine hK.out _ _ hN ?_
      clear hK hS
      have hS := hN
      clear hN
      try simp only [Act.put, List.setIfInBounds_toArray, List.set_cons_zero, List.set_cons_succ]
      refine held_one (i := 11) (by kernel_rfl) rfl rfl ?_
      intro K hK
      have z0 := hz.c0
      have z1 := hz.c1
      have z2 := hz.f0
      have z3 := hz.f1
      go_simp
      have hN := hz.set ((findP xs f).getD sm0).1 ((findP xs f).getD sm0).2
      have hB := set2_below hS.1 hr (.int .i64 ((findP xs f).getD sm0).1) (.int .i64 ((findP xs f).getD sm0).2)
      have hX := hS.2.kept (set2_else (b := w3.heap.size) (.int .i64 ((findP xs f).getD sm0).1) (.int .i64 ((findP xs f).getD sm0).2) (by have := hbx.lt; omega))
      unfold set2 at hN hB hX
      refine hK.out _ _ ⟨hB, hX⟩ ?_
      clear hK
      have hS9 := And.intro hB hX
      clear hS
      have hS : (fun w' => Below w1.heap.size w1 w' ∧ Bx7 w' ob 29 (.int .i64 k) (.string s) (.int .i64 t) (.int .i64 v) (.int .i64 f) (.int .i64 u) (.int .i64 m)) _ := hS9
      clear hS9 hB hX
      try simp only [Act.put, List.setIfInBounds_toArray, List.set_cons_zero, List.set_cons_succ]
      refine held_take (i := 12) (v := .bool (findP xs f).isSome) rfl (by kernel_rfl) (fun _ _ _ h => h) (.inl ⟨rfl, fun w hS => ?_⟩) hS ?_
      · obtain ⟨-, q⟩ := hS
        go_simp
      try simp only [Act.put, List.setIfInBounds_toArray, List.set_cons_zero, List.set_cons_succ]
      refine wpAnyH_done (by kernel_rfl) ?_ _
      refine NoPanic.normal ?_
      exact hQ.out _ _ _ _ _ _ _ _ _ _ _ _ hr hS.1 hN
    · intro K hK
      go_simp
      have hb2 := below_alloc w2 (.cells #[.int .i64 0, .int .i64 0] 27)
      have hz := SmBox.new w2 0 0
      have hr : w1.heap.size ≤ w2.heap.size := hS.1.size
      replace hs := hs.below hb2
      generalize w2.alloc (.cells #[.int .i64 0, .int .i64 0] 27) = wz at *
      have hN : (fun w' => Below w1.heap.size w1 w' ∧ Bx7 w' ob 29 (.int .i64 k) (.string s) (.int .i64 t) (.int .i64 v) (.int .i64 f) (.int .i64 u) (.int .i64 m)) wz := ⟨below2 hS.1 hb2, hS.2.below hb2⟩
      refine hK.out _ _ hN ?_
      clear hK hS
      have hS := hN
      clear hN
      try simp only [Act.put, List.setIfInBounds_toArray, List.set_cons_zero, List.set_cons_succ]
      refine held_one (i := 6) (by kernel_rfl) rfl rfl ?_
      intro K hK
      go_simp
      go_at_call 59
      refine (get_yes a n c xs f _ hs hM).mono ?_
      rintro e w3 ⟨hb2, rfl⟩
      have hN : (fun w' => Below w1.heap.size w1 w' ∧ Bx7 w' ob 29 (.int .i64 k) (.string s) (.int .i64 t) (.int .i64 v) (.int .i64 f) (.int .i64 u) (.int .i64 m)) w3 := ⟨below2 hS.1 hb2, hS.2.below hb2⟩
      replace hz := hz.below hb2
      refine hK.out _ _ hN ?_
      clear hK hS
      have hS := hN
      clear hN
      try simp only [Act.put, List.setIfInBounds_toArray, List.set_cons_zero, List.set_cons_succ]
      refine held_take (i := 7) (v := .tuple #[.agg #[.int .i64 ((findP xs f).getD sm0).1, .int .i64 ((findP xs f).getD sm0).2], .bool (findP xs f).isSome]) rfl (by kernel_rfl) (fun _ _ _ h => h) (.inl ⟨rfl, fun w hS => ?_⟩) hS ?_
      · obtain ⟨-, q⟩ := hS
        go_simp
      try simp only [Act.put, List.setIfInBounds_toArray, List.set_cons_zero, List.set_cons_succ]
      refine held_take (i := 8) (v := .agg #[.int .i64 ((findP xs f).getD sm0).1, .int .i64 ((findP xs f).getD sm0).2]) rfl (by kernel_rfl) (fun _ _ _ h => h) (.inl ⟨rfl, fun w hS => ?_⟩) hS ?_
      · obtain ⟨-, q⟩ := hS
        go_simp
      try simp only [Act.put, List.setIfInBounds_toArray, List.set_cons_zero, List.set_cons_succ]
      refine held_take (i := 9) (v := .bool (findP xs f).isSome) rfl (by kernel_rfl) (fun _ _ _ h => h) (.inl ⟨rfl, fun w hS => ?_⟩) hS ?_
      · obtain ⟨-, q⟩ := hS
        go_simp
      try simp only [Act.put, List.setIfInBounds_toArray, List.set_cons_zero, List.set_cons_succ]
      refine held_one (i := 11) (by kernel_rfl) rfl rfl ?_
      intro K hK
      have z0 := hz.c0
      have z1 := hz.c1
      have z2 := hz.f0
      have z3 := hz.f1
      go_simp
      have hN := hz.set ((findP xs f).getD sm0).1 ((findP xs f).getD sm0).2
      have hB := set2_below hS.1 hr (.int .i64 ((findP xs f).getD sm0).1) (.int .i64 ((findP xs f).getD sm0).2)
      have hX := hS.2.kept (set2_else (b := w2.heap.size) (.int .i64 ((findP xs f).getD sm0).1) (.int .i64 ((findP xs f).getD sm0).2) (by have := hbx.lt; omega))
      unfold set2 at hN hB hX
      refine hK.out _ _ ⟨hB, hX⟩ ?_
      clear hK
      have hS9 := And.intro hB hX
      clear hS
      have hS : (fun w' => Below w1.heap.size w1 w' ∧ Bx7 w' ob 29 (.int .i64 k) (.string s) (.int .i64 t) (.int .i64 v) (.int .i64 f) (.int .i64 u) (.int .i64 m)) _ := hS9
      clear hS9 hB hX
      try simp only [Act.put, List.setIfInBounds_toArray, List.set_cons_zero, List.set_cons_succ]
      refine held_take (i := 12) (v := .bool (findP xs f).isSome) rfl (by kernel_rfl) (fun _ _ _ h => h) (.inl ⟨rfl, fun w hS => ?_⟩) hS ?_
      · obtain ⟨-, q⟩ := hS
        go_simp
      try simp only [Act.put, List.setIfInBounds_toArray, List.set_cons_zero, List.set_cons_succ]
      refine wpAnyH_done (by kernel_rfl) ?_ _
      refine NoPanic.normal ?_
      exact hQ.out _ _ _ _ _ _ _ _ _ _ _ _ hr hS.1 hN
  · intro K hK
    go_simp
    have hb2 := below_alloc w1.drew (.cells #[.int .i64 0, .int .i64 0] 27)
    have hz := SmBox.new w1.drew 0 0
    have hr : w1.heap.size ≤ w1.drew.heap.size := hS.1.size
    change Below _ _ (w1.alloc (.cells #[.int .i64 0, .int .i64 0] 27)).drew at hb2
    change SmBox (w1.alloc (.cells #[.int .i64 0, .int .i64 0] 27)).drew w1.heap.size 0 0 at hz
    generalize (w1.alloc (.cells #[.int .i64 0, .int .i64 0] 27)).drew = wz at *
    have hN : (fun w' => Below w1.heap.size w1 w' ∧ Bx7 w' ob 29 (.int .i64 k) (.string s) (.int .i64 t) (.int .i64 v) (.int .i64 f) (.int .i64 u) (.int .i64 m)) wz := ⟨below2 hS.1 hb2, hS.2.below hb2⟩
    refine hK.out _ _ hN ?_
    clear hK hS
    have hS := hN
    clear hN
    try simp only [Act.put, List.setIfInBounds_toArray, List.set_cons_zero, List.set_cons_succ]
    refine held_one (i := 3) (by kernel_rfl) rfl rfl ?_
    intro K hK
    go_simp
    go_at_call 58
    refine (HP.out _ hS.1).mono ?_
    rintro e w2 ⟨hb2, a, n, c, rfl, hs, -⟩
    have hN : (fun w' => Below w1.heap.size w1 w' ∧ Bx7 w' ob 29 (.int .i64 k) (.string s) (.int .i64 t) (.int .i64 v) (.int .i64 f) (.int .i64 u) (.int .i64 m)) w2 := ⟨below2 hS.1 hb2, hS.2.below hb2⟩
    replace hz := hz.below hb2
    refine hK.out _ _ hN ?_
    clear hK hS
    have hS := hN
    clear hN
    try simp only [Act.put, List.setIfInBounds_toArray, List.set_cons_zero, List.set_cons_succ]
    refine held_one (i := 6) (by kernel_rfl) rfl rfl ?_
    intro K hK
    go_simp
    go_at_call 59
    refine (get_yes a n c xs f _ hs hM).mono ?_
    rintro e w3 ⟨hb2, rfl⟩
    have hN : (fun w' => Below w1.heap.size w1 w' ∧ Bx7 w' ob 29 (.int .i64 k) (.string s) (.int .i64 t) (.int .i64 v) (.int .i64 f) (.int .i64 u) (.int .i64 m)) w3 := ⟨below2 hS.1 hb2, hS.2.below hb2⟩
    replace hz := hz.below hb2
    refine hK.out _ _ hN ?_
    clear hK hS
    have hS := hN
    clear hN
    try simp only [Act.put, List.setIfInBounds_toArray, List.set_cons_zero, List.set_cons_succ]
    refine held_take (i := 7) (v := .tuple #[.agg #[.int .i64 ((findP xs f).getD sm0).1, .int .i64 ((findP xs f).getD sm0).2], .bool (findP xs f).isSome]) rfl (by kernel_rfl) (fun _ _ _ h => h) (.inl ⟨rfl, fun w hS => ?_⟩) hS ?_
    · obtain ⟨-, q⟩ := hS
      go_simp
    try simp only [Act.put, List.setIfInBounds_toArray, List.set_cons_zero, List.set_cons_succ]
    refine held_take (i := 8) (v := .agg #[.int .i64 ((findP xs f).getD sm0).1, .int .i64 ((findP xs f).getD sm0).2]) rfl (by kernel_rfl) (fun _ _ _ h => h) (.inl ⟨rfl, fun w hS => ?_⟩) hS ?_
    · obtain ⟨-, q⟩ := hS
      go_simp
    try simp only [Act.put, List.setIfInBounds_toArray, List.set_cons_zero, List.set_cons_succ]
    refine held_take (i := 9) (v := .bool (findP xs f).isSome) rfl (by kernel_rfl) (fun _ _ _ h => h) (.inl ⟨rfl, fun w hS => ?_⟩) hS ?_
    · obtain ⟨-, q⟩ := hS
      go_simp
    try simp only [Act.put, List.setIfInBounds_toArray, List.set_cons_zero, List.set_cons_succ]
    refine held_one (i := 11) (by kernel_rfl) rfl rfl ?_
    intro K hK
    have z0 := hz.c0
    have z1 := hz.c1
    have z2 := hz.f0
    have z3 := hz.f1
    go_simp
    have hN := hz.set ((findP xs f).getD sm0).1 ((findP xs f).getD sm0).2
    have hB := set2_below hS.1 hr (.int .i64 ((findP xs f).getD sm0).1) (.int .i64 ((findP xs f).getD sm0).2)
    have hX := hS.2.kept (set2_else (b := w1.heap.size) (.int .i64 ((findP xs f).getD sm0).1) (.int .i64 ((findP xs f).getD sm0).2) (by have := hbx.lt; omega))
    unfold set2 at hN hB hX
    refine hK.out _ _ ⟨hB, hX⟩ ?_
    clear hK
    have hS9 := And.intro hB hX
    clear hS
    have hS : (fun w' => Below w1.heap.size w1 w' ∧ Bx7 w' ob 29 (.int .i64 k) (.string s) (.int .i64 t) (.int .i64 v) (.int .i64 f) (.int .i64 u) (.int .i64 m)) _ := hS9
    clear hS9 hB hX
    try simp only [Act.put, List.setIfInBounds_toArray, List.set_cons_zero, List.set_cons_succ]
    refine held_take (i := 12) (v := .bool (findP xs f).isSome) rfl (by kernel_rfl) (fun _ _ _ h => h) (.inl ⟨rfl, fun w hS => ?_⟩) hS ?_
    · obtain ⟨-, q⟩ := hS
      go_simp
    try simp only [Act.put, List.setIfInBounds_toArray, List.set_cons_zero, List.set_cons_succ]
    refine wpAnyH_done (by kernel_rfl) ?_ _
    refine NoPanic.normal ?_
    exact hQ.out _ _ _ _ _ _ _ _ _ _ _ _ hr hS.1 hN
end Go.Proofs.YtihohcmocejijaaGreat.Bk
namespace Go.Proofs.YtihohcmocejijaaGreat.Bk
open Go.ChangeShapes Go.WideShapes Go.ChangeAt Go.RowKit
theorem LvS.ans {B p r : Nat} {s : Shf} {w : World} {v0 v1 v2 : Value} (h : LvS B p s w) (hb : Bx3 w r 37 v0 v1 v2) (u0 u1 u2 : Value) : LvS B p s (put3 w r u0 u1 u2) := by
  obtain ⟨la, lc, X, da, dc, h1, h2⟩ := h
  exact ⟨la, lc, X, da, dc, h1.ans hb u0 u1 u2, h2⟩
theorem LvS.below {B p : Nat} {s : Shf} {w w' : World} (h : LvS B p s w) (hb : Below w.heap.size w w') : LvS B p s w' := by
  obtain ⟨la, lc, X, da, dc, h1, h2⟩ := h
  exact ⟨la, lc, X, da, dc, h1.below hb, h2⟩
theorem find_may {ls : List Ln} {fl : Int} {n : ByteArray} (hM : LnsMay ls fl) : MayS ((findL ls n).getD []) := by
  unfold findL
  cases h : ls.find? (fun l => decide (l.1 = n)) with
  | none => exact may_nil
  | some x =>
    obtain ⟨i, hi, e⟩ := lns_mem (List.mem_of_find?_eq_some h)
    have := (hM.2 i hi).2.2.2.1
    rw [e] at this
    exact this
theorem TnPost.fin {B p r : Nat} {R : Shf × An} {w wB wC : World} {v0 v1 v2 : Value} (hw : B ≤ w.heap.size) (hr : w.heap.size ≤ r) (hB : Below w.heap.size w wB) (hL : LvS B p R.1 wC) (hb : Below B wB wC) (hk : KpS p wB wC) (hx : Bx3 wC r 37 v0 v1 v2) : TnPost B p R w (.returned (anV R.2)) (put3 wC r (.int .i64 R.2.cd) (.bool R.2.hs) (.int .i64 R.2.nn)) :=
  ⟨rfl, hL.ans hx _ _ _, put3_below ((hB.mono hw).trans hb) (Nat.le_trans hw hr) _ _ _, ((KpS.of_below hB).trans hk).ans hr _ _ _⟩
set_option maxHeartbeats 4000000 in
set_option maxRecDepth 60000 in
theorem doOp_any {B p : Nat} {la : Option Addr} {lc : Nat} {X : List LX} {da : Option Addr} {dc : Nat} {ds : List Dn} {fl : Int} {w : World} (h : LvA B p la lc X da dc ds fl w) (hM : LnsMay (lnsX X) fl) (o : Opp) :
    Calls Tryz.prog 36 #[.pointer (some ⟨p, 0, none⟩), opV o] w fun e w' => TnPost B p (applyS ⟨lnsX X, ds, fl⟩ o) w e w' := by
  have HB0 : Hid (B ≤ w.heap.size) := Hid.mk9 (Nat.le_trans h.2.1 (Nat.le_of_lt h.lt))
  have HPL : Hid (p < w.heap.size) := Hid.mk9 h.lt
  have HC1 : Hid (∀ W, OpMay o → Calls Tryz.prog 13 #[opV o] W fun e w' => e = .returned (.int .i64 0) ∧ Below W.heap.size W w') := Hid.mk9 (fun W hM => checkOp_yes hM)
  have HC2 : Hid (∀ W, ¬ OpMay o → Calls Tryz.prog 13 #[opV o] W fun e w' => e = .returned (.int .i64 1) ∧ Below W.heap.size W w') := Hid.mk9 (fun W hM => checkOp_no hM)
  have HOM : Hid (OpMay o ∨ ¬ OpMay o) := Hid.mk9 (Classical.em _)
  have HAY : Hid (OpMay o → applyS ⟨lnsX X, ds, fl⟩ o = opS ⟨lnsX X, ds, fl⟩ o) := Hid.mk9 (fun h => by unfold applyS; rw [if_pos h])
  have HAN : Hid (¬ OpMay o → applyS ⟨lnsX X, ds, fl⟩ o = (⟨lnsX X, ds, fl⟩, ⟨1, false, 0⟩)) := Hid.mk9 (fun h => by unfold applyS; rw [if_neg h])
  have HOK : Hid (OpMay o → o.k = 1 ∨ o.k = 2 ∨ o.k = 3 ∨ o.k = 4) := Hid.mk9 (fun h => by unfold OpMay at h; rcases h with h | h | h | h <;> simp [h.1])
  have HTOT : Hid (o.k = 3 → opS ⟨lnsX X, ds, fl⟩ o = (⟨lnsX X, ds, fl⟩, totS ⟨lnsX X, ds, fl⟩ o)) := Hid.mk9 (fun h => by unfold opS; simp [h])
  have HGET : Hid (o.k = 4 → opS ⟨lnsX X, ds, fl⟩ o = (⟨lnsX X, ds, fl⟩, getS ⟨lnsX X, ds, fl⟩ o)) := Hid.mk9 (fun h => by unfold opS; simp [h])
  have HWRI : Hid (o.k = 1 → opS ⟨lnsX X, ds, fl⟩ o = writeS ⟨lnsX X, ds, fl⟩ o.s (o.t, o.v)) := Hid.mk9 (fun h => by unfold opS; simp [h])
  have HTRI : Hid (o.k = 2 → opS ⟨lnsX X, ds, fl⟩ o = trimS ⟨lnsX X, ds, fl⟩ o.f) := Hid.mk9 (fun h => by unfold opS; simp [h])
  obtain ⟨k, s, t, v, f, u, m⟩ := o
  simp only [opV] at HC1 HC2 ⊢
  simp only at HOK HTOT HGET HWRI HTRI
  have b0 := below2 (below_alloc w (.cells #[.int .i64 k, .string s, .int .i64 t, .int .i64 v, .int .i64 f, .int .i64 u, .int .i64 m] 29)) (below_alloc _ (.cells #[.int .i64 0, .bool false, .int .i64 0] 37))
  have HX := Hid.mk9 ((Bx7.new w 29 (.int .i64 k) (.string s) (.int .i64 t) (.int .i64 v) (.int .i64 f) (.int .i64 u) (.int .i64 m)).below (below_alloc _ (.cells #[.int .i64 0, .bool false, .int .i64 0] 37)))
  have HR : Hid (Bx3 ((w.alloc (.cells #[.int .i64 k, .string s, .int .i64 t, .int .i64 v, .int .i64 f, .int .i64 u, .int .i64 m] 29)).alloc (.cells #[.int .i64 0, .bool false, .int .i64 0] 37)) (w.heap.size + 1) 37 (.int .i64 0) (.bool false) (.int .i64 0)) := by
    have := Bx3.new (w.alloc (.cells #[.int .i64 k, .string s, .int .i64 t, .int .i64 v, .int .i64 f, .int .i64 u, .int .i64 m] 29)) 37 (.int .i64 0) (.bool false) (.int .i64 0)
    rw [show (w.alloc (.cells #[.int .i64 k, .string s, .int .i64 t, .int .i64 v, .int .i64 f, .int .i64 u, .int .i64 m] 29)).heap.size = w.heap.size + 1 from by simp] at this
    exact this
  have HA := Hid.mk9 (h.below b0)
  have HB := Hid.mk9 b0
  have HM := Hid.mk9 hM
  clear h b0 hM
  go_enter Tryz.func36, Tryz.ntmps36
  go_upto_region 1 with fail
  generalize ((w.alloc (.cells #[.int .i64 k, .string s, .int .i64 t, .int .i64 v, .int .i64 f, .int .i64 u, .int .i64 m] 29)).alloc (.cells #[.int .i64 0, .bool false, .int .i64 0] 37)) = wA at *
  obtain ⟨x0, x1, x2, x3, x4, x5, x6⟩ := HX.out.cells
  rcases HOM.out with hO | hO
  · have HC := Hid.mk9 (HC1.out wA hO)
    have HAP := Hid.mk9 (HAY.out hO)
    have HK4 := Hid.mk9 (HOK.out hO)
    clear hO HC1 HC2 HOM HAY HAN HOK
    go_upto_region 4 with (go_at_call 13; refine HC.out.mono ?_; rintro e wB ⟨rfl, hbB⟩)
    replace HA := Hid.mk9 (HA.out.below hbB)
    replace HR := Hid.mk9 (HR.out.below hbB)
    replace HX := Hid.mk9 (HX.out.below hbB)
    replace HB := Hid.mk9 (below2 HB.out hbB)
    clear hbB x0 x1 x2 x3 x4 x5 x6 HC
    obtain ⟨x0, x1, x2, x3, x4, x5, x6⟩ := HX.out.cells
    rcases HK4.out with rfl | rfl | rfl | rfl
    · have HW := Hid.mk9 (HAP.out.trans (HWRI.out rfl))
      clear HAP HWRI HTRI HTOT HGET HK4
      obtain ⟨⟨S', e0, e1, e2⟩, hr⟩ : ∃ r, writeS ⟨lnsX X, ds, fl⟩ s (t, v) = r := ⟨_, rfl⟩
      have HC : Hid (Calls Tryz.prog 54 #[.pointer (some ⟨p, 0, none⟩), .string s, .agg #[.int .i64 t, .int .i64 v]] wB fun e w' => e = .returned (.agg #[.int .i64 e0, .bool e1, .int .i64 e2]) ∧ LvS B p S' w' ∧ Below B wB w' ∧ KpS p wB w') := Hid.mk9 (by have := write_any HA.out HM.out s t v; rw [hr] at this; exact this)
      have HWW := Hid.mk9 (HW.out.trans hr)
      clear hr HW
      go_wp2_with (go_at_call 54; refine HC.out.mono ?_; rintro e wC ⟨rfl, hL, hb, hk⟩; (have HL := Hid.mk9 hL); (have HBC := Hid.mk9 hb); (have HK := Hid.mk9 hk); (have HRc := Hid.mk9 (HR.out.kp hk (by have := HPL.out; omega) (by decide) (by decide))); clear hL hb hk; (obtain ⟨r0, r1, r2⟩ := HRc.out.cells); (obtain ⟨g0, g1, g2⟩ := HRc.out.frz))
      refine bodyPost_ret (retA rfl _ _ (w.heap.size + 1) (.int .i64 e0) (.bool e1) (.int .i64 e2) rfl (HRc.out.set _ _ _)) rfl ?_
      have hF := TnPost.fin (R := (S', ⟨e0, e1, e2⟩)) HB0.out (show w.heap.size ≤ w.heap.size + 1 by omega) HB.out HL.out HBC.out HK.out HRc.out
      rw [HWW.out]
      exact hF
    · have HW := Hid.mk9 (HAP.out.trans (HTRI.out rfl))
      clear HAP HWRI HTRI HTOT HGET HK4
      obtain ⟨⟨S', e0, e1, e2⟩, hr⟩ : ∃ r, trimS ⟨lnsX X, ds, fl⟩ f = r := ⟨_, rfl⟩
      have HC : Hid (Calls Tryz.prog 55 #[.pointer (some ⟨p, 0, none⟩), .int .i64 f] wB fun e w' => e = .returned (.agg #[.int .i64 e0, .bool e1, .int .i64 e2]) ∧ LvS B p S' w' ∧ Below B wB w' ∧ KpS p wB w') := Hid.mk9 (by have := trim_any HA.out HM.out f; rw [hr] at this; exact this)
      have HWW := Hid.mk9 (HW.out.trans hr)
      clear hr HW
      go_wp2_with (go_at_call 55; refine HC.out.mono ?_; rintro e wC ⟨rfl, hL, hb, hk⟩; (have HL := Hid.mk9 hL); (have HBC := Hid.mk9 hb); (have HK := Hid.mk9 hk); (have HRc := Hid.mk9 (HR.out.kp hk (by have := HPL.out; omega) (by decide) (by decide))); clear hL hb hk; (obtain ⟨r0, r1, r2⟩ := HRc.out.cells); (obtain ⟨g0, g1, g2⟩ := HRc.out.frz))
      refine bodyPost_ret (retA rfl _ _ (w.heap.size + 1) (.int .i64 e0) (.bool e1) (.int .i64 e2) rfl (HRc.out.set _ _ _)) rfl ?_
      have hF := TnPost.fin (R := (S', ⟨e0, e1, e2⟩)) HB0.out (show w.heap.size ≤ w.heap.size + 1 by omega) HB.out HL.out HBC.out HK.out HRc.out
      rw [HWW.out]
      exact hF
    · have HW := Hid.mk9 (HAP.out.trans (HTOT.out rfl))
      have HP : Hid (∀ W, Below wB.heap.size wB W → Calls Tryz.prog 58 #[.pointer (some ⟨p, 0, none⟩), .string s] W fun e w' => RowPost ((findL (lnsX X) s).getD []) W e w') := Hid.mk9 (fun W hb => samplesOf_any (HA.out.below hb) HM.out s)
      have HMS := Hid.mk9 (find_may (n := s) HM.out)
      clear HAP HWRI HTRI HTOT HGET HK4
      go_upto_region 10 with fail
      refine op_10 _ _ _ _ _ _ _ _ _ _ _ _ _ _ _ _ _ _ _ _ _ _ _ _ _ _ _ _ _ _ _ _ _ _ _ _ _ _ _ _ _ _ _ _ _ _ _ _ _ _ _ _ _ _ _ _ _ _ _ _ _ _ _ _ p w.heap.size _ t v f u m s ((findL (lnsX X) s).getD []) wB _ HX.out HMS.out HP (Hid.mk9 (fun u34 u35 u36 u37 u38 u39 u40 u41 u42 u43 u44 u45 u46 u47 u48 wC hbC => ?_))
      obtain ⟨z, hz⟩ : ∃ z, (totP m (rangeP ((findL (lnsX X) s).getD []) f u)).getD 0 = z := ⟨_, rfl⟩
      obtain ⟨b, hb⟩ : ∃ b, (totP m (rangeP ((findL (lnsX X) s).getD []) f u)).isSome = b := ⟨_, rfl⟩
      have HZ : Hid ((totP m (rangeP ((findL (lnsX X) s).getD []) f u)).getD 0 = z ∧ (totP m (rangeP ((findL (lnsX X) s).getD []) f u)).isSome = b) := Hid.mk9 ⟨hz, hb⟩
      have hW := HW.out
      simp only [totS, linS] at hW
      rw [hz, hb] at hW
      have HWW := Hid.mk9 hW
      have HAC := Hid.mk9 (HA.out.below hbC)
      have HRc := Hid.mk9 (HR.out.below hbC)
      have HBC := Hid.mk9 hbC
      obtain ⟨r0, r1, r2⟩ := HRc.out.cells
      obtain ⟨g0, g1, g2⟩ := HRc.out.frz
      try rw [hz]
      try rw [hb]
      clear hbC HW HX HP HMS hz hb HZ hW HA x0 x1 x2 x3 x4 x5 x6
      dsimp only
      go_upto_region 11 with fail
      go_wp2_with fail
      refine bodyPost_ret (retA rfl _ _ (w.heap.size + 1) (.int .i64 0) (.bool b) (.int .i64 z) rfl (HRc.out.set _ _ _)) rfl ?_
      have hF := TnPost.fin (R := (⟨lnsX X, ds, fl⟩, ⟨0, b, z⟩)) HB0.out (show w.heap.size ≤ w.heap.size + 1 by omega) HB.out ⟨_, _, _, _, _, HAC.out, rfl⟩ (HBC.out.mono (Nat.le_trans HB0.out HB.out.size)) (KpS.of_below HBC.out) HRc.out
      rw [HWW.out]
      exact hF
    · have HW := Hid.mk9 (HAP.out.trans (HGET.out rfl))
      have HP : Hid (∀ W, Below wB.heap.size wB W → Calls Tryz.prog 58 #[.pointer (some ⟨p, 0, none⟩), .string s] W fun e w' => RowPost ((findL (lnsX X) s).getD []) W e w') := Hid.mk9 (fun W hb => samplesOf_any (HA.out.below hb) HM.out s)
      have HMS := Hid.mk9 (find_may (n := s) HM.out)
      clear HAP HWRI HTRI HTOT HGET HK4
      go_upto_region 12 with fail
      refine op_12 _ _ _ _ _ _ _ _ _ _ _ _ _ _ _ _ _ _ _ _ _ _ _ _ _ _ _ _ _ _ _ _ _ _ _ _ _ _ _ _ _ _ _ _ _ _ _ _ _ _ _ _ _ _ _ _ _ _ _ _ _ _ _ _ p w.heap.size _ t v f u m s ((findL (lnsX X) s).getD []) wB _ HX.out HMS.out HP (Hid.mk9 (fun u52 u53 u54 u55 u56 u57 u58 u59 u60 u61 r wC hrr hbC hbz => ?_))
      obtain ⟨z, hz⟩ : ∃ z, ((findP ((findL (lnsX X) s).getD []) f).getD sm0).2 = z := ⟨_, rfl⟩
      obtain ⟨b, hb⟩ : ∃ b, (findP ((findL (lnsX X) s).getD []) f).isSome = b := ⟨_, rfl⟩
      rw [hz] at hbz
      have z1 := hbz.c1
      have HZ : Hid (((findP ((findL (lnsX X) s).getD []) f).getD sm0).2 = z ∧ (findP ((findL (lnsX X) s).getD []) f).isSome = b) := Hid.mk9 ⟨hz, hb⟩
      have hW := HW.out
      simp only [getS, linS] at hW
      rw [hz, hb] at hW
      have HWW := Hid.mk9 hW
      have HAC := Hid.mk9 (HA.out.below hbC)
      have HRc := Hid.mk9 (HR.out.below hbC)
      have HBC := Hid.mk9 hbC
      obtain ⟨r0, r1, r2⟩ := HRc.out.cells
      obtain ⟨g0, g1, g2⟩ := HRc.out.frz
      try rw [hz]
      try rw [hb]
      clear hbC HW HX HP HMS hz hb HZ hW HA x0 x1 x2 x3 x4 x5 x6
      dsimp only
      go_upto_region 13 with fail
      go_wp2_with fail
      refine bodyPost_ret (retA rfl _ _ (w.heap.size + 1) (.int .i64 0) (.bool b) (.int .i64 z) rfl (HRc.out.set _ _ _)) rfl ?_
      have hF := TnPost.fin (R := (⟨lnsX X, ds, fl⟩, ⟨0, b, z⟩)) HB0.out (show w.heap.size ≤ w.heap.size + 1 by omega) HB.out ⟨_, _, _, _, _, HAC.out, rfl⟩ (HBC.out.mono (Nat.le_trans HB0.out HB.out.size)) (KpS.of_below HBC.out) HRc.out
      rw [HWW.out]
      exact hF
  · have HC := Hid.mk9 (HC2.out wA hO)
    have HW := Hid.mk9 (HAN.out hO)
    clear hO HC1 HC2 HOM HAY HAN HOK HWRI HTRI HTOT HGET
    go_wp2_with (go_at_call 13; refine HC.out.mono ?_; rintro e wB ⟨rfl, hbB⟩; (have HAB := Hid.mk9 (HA.out.below hbB)); (have HRc := Hid.mk9 (HR.out.below hbB)); (have HBB := Hid.mk9 hbB); clear hbB; (obtain ⟨r0, r1, r2⟩ := HRc.out.cells); (obtain ⟨g0, g1, g2⟩ := HRc.out.frz))
    refine bodyPost_ret (retA rfl _ _ (w.heap.size + 1) (.int .i64 1) (.bool false) (.int .i64 0) rfl (HRc.out.set _ _ _)) rfl ?_
    have hF := TnPost.fin (R := (⟨lnsX X, ds, fl⟩, ⟨1, false, 0⟩)) HB0.out (show w.heap.size ≤ w.heap.size + 1 by omega) HB.out ⟨_, _, _, _, _, HAB.out, rfl⟩ (HBB.out.mono (Nat.le_trans HB0.out HB.out.size)) (KpS.of_below HBB.out) HRc.out
    rw [HW.out]
    exact hF
end Go.Proofs.YtihohcmocejijaaGreat.Bk
