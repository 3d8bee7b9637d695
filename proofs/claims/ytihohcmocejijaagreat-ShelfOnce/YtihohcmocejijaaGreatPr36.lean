/-
  ShelfOnce's drawn regions: a shelf is folded, an entry is done, and both are laid into new boxes.
-/
import Derived.Test.YtihohcmocejijaaGreatPr35
namespace Go.Proofs.YtihohcmocejijaaGreat.Bk
open Go.ChangeShapes Go.WideShapes Go.ChangeAt Go.RowKit
theorem held_three {P : Program} {ops : Array Oper} {Q : Exit → Act → World → Prop} {md : Region.Mode} {S : World → Prop} {i j k : Nat} {o o2 o3 : Oper} {fuel : Nat} {listed : Array Bool} {a : Act} {w : World} (hr : Region.ready md ops listed = [i, j, k]) (hi : ops.toList[i]? = some o) (hj : ops.toList[j]? = some o2) (hk : ops.toList[k]? = some o3) (hg : Region.wanted o (yielded ops a.tmps) = true) (hg2 : Region.wanted o2 (yielded ops a.tmps) = true) (hg3 : Region.wanted o3 (yielded ops a.tmps) = true)
    (h : ∀ K : Act → World → Prop, Hid (∀ a' w', S w' → wpAnyH P md ops Q S fuel (listed.setIfInBounds i true) a' w' → K a' w') → o.wp P a w K Q)
    (h2 : ∀ K : Act → World → Prop, Hid (∀ a' w', S w' → wpAnyH P md ops Q S fuel (listed.setIfInBounds j true) a' w' → K a' w') → o2.wp P a w K Q)
    (h3 : ∀ K : Act → World → Prop, Hid (∀ a' w', S w' → wpAnyH P md ops Q S fuel (listed.setIfInBounds k true) a' w' → K a' w') → o3.wp P a w K Q) : wpAnyH P md ops Q S (fuel + 1) listed a w := by
  have ho : ops[i]? = some o := by simpa using hi
  have ho2 : ops[j]? = some o2 := by simpa using hj
  have ho3 : ops[k]? = some o3 := by simpa using hk
  refine wpAnyH_all hr (by simp) (fun l hl => ?_)
  have hl2 : l = i ∨ l = j ∨ l = k := by simpa using hl
  rcases hl2 with rfl | rfl | rfl
  · unfold wpOp
    simp only [ho]
    rw [if_pos hg]
    exact .inl (h _ (fun _ _ h1 h2 => ⟨h1, h2⟩))
  · unfold wpOp
    simp only [ho2]
    rw [if_pos hg2]
    exact .inl (h2 _ (fun _ _ h1 h2 => ⟨h1, h2⟩))
  · unfold wpOp
    simp only [ho3]
    rw [if_pos hg3]
    exact .inl (h3 _ (fun _ _ h1 h2 => ⟨h1, h2⟩))
set_option maxHeartbeats 4000000 in
set_option maxRecDepth 60000 in
theorem on_3 (t1 t2 t3 t5 t6 t7 t8 t9 t10 t11 t12 t13 t14 t15 t16 t17 t18 t19 t20 t21 t22 t23 t24 t25 t26 t27 t28 t29 t30 t31 t32 t33 t34 t35 t36 t37 t38 t39 t40 t41 t42 t43 t44 t45 t46 t47 t48 t49 t50 t51 t52 t53 t54 t55 t56 t57 t58 t59 t60 t61 t62 t63 t64 t65 t66 t67 t68 t69 t70 t71 t72 t73 t74 t75 t76 t77 t78 t79 t80 t81 t82 t83 t84 t85 t86 t87 t88 t89 t90 t91 t92 t93 t94 t95 t96 t97 t98 t99 t100 t101 t102 t103 t104 t105 t106 t107 t108 t109 t110 t111 t112 t113 t114 t115 t116 t117 t118 t119 t120 t121 t122 t123 t124 t125 t126 t127 t128 t129 t130 t131 t132 t133 t134 t135 t136 t137 t138 t139 : Value) (a : Option Addr) (len cap eb : Nat) (ep cl id ok ot ov of ou om : Int) (os : ByteArray) (S0 R : Shf) (e0 e2 : Int) (e1 : Bool) (w1 : World) (Q : Exit → Act → World → Prop)
    (hbx : Bx10 w1 eb 31 (.int .i64 ep) (.int .i64 cl) (.int .i64 id) (.int .i64 ok) (.string os) (.int .i64 ot) (.int .i64 ov) (.int .i64 of) (.int .i64 ou) (.int .i64 om)) (HP1 : Hid (∀ W, Below w1.heap.size w1 W → Calls Tryz.prog 21 #[.slice a len cap] W fun x w' => ShPost S0 W x w')) (HP2 : Hid (∀ W v, OwnS W v S0 → Calls Tryz.prog 10 #[v, .agg #[.int .i64 ep, .int .i64 cl, .int .i64 id, .int .i64 ok, .string os, .int .i64 ot, .int .i64 ov, .int .i64 of, .int .i64 ou, .int .i64 om]] W fun x w' => DoYes (R, ⟨e0, e1, e2⟩) W x w'))
    (hQ : Hid (∀ (u54 u55 u56 u57 u58 u59 u60 u61 : Value) (r7 r8 : Nat) (la : Option Addr) (X : List LX) (lc : Nat) (da : Option Addr) (dc : Nat) (wC : World), w1.heap.size ≤ r7 → w1.heap.size ≤ r8 → r7 ≠ r8 → Below w1.heap.size w1 wC → Bx3 wC r7 25 (.slice la X.length lc) (.slice da R.ds.length dc) (.int .i64 R.fl) → Bx3 wC r8 37 (.int .i64 e0) (.bool e1) (.int .i64 e2) → OwnS wC (.agg #[.slice la X.length lc, .slice da R.ds.length dc, .int .i64 R.fl]) R → Q .normal ⟨#[.slice a len cap, t1, t2, t3, .pointer (some ⟨eb, 0, none⟩), t5, t6, .pointer (some ⟨r7, 0, none⟩), .pointer (some ⟨r8, 0, none⟩), .int .i64 0, t10, t11, t12, t13, t14, t15, t16, t17, t18, t19, t20, t21, t22, t23, t24, t25, t26, t27, t28, t29, t30, t31, t32, t33, t34, t35, t36, t37, t38, t39, t40, t41, t42, t43, t44, t45, t46, t47, t48, t49, t50, t51, t52, t53, u54, u55, u56, u57, u58, u59, u60, u61, t62, t63, t64, t65, t66, t67, t68, t69, t70, t71, t72, t73, t74, t75, t76, t77, t78, t79, t80, t81, t82, t83, t84, t85, t86, t87, t88, t89, t90, t91, t92, t93, t94, t95, t96, t97, t98, t99, t100, t101, t102, t103, t104, t105, t106, t107, t108, t109, t110, t111, t112, t113, t114, t115, t116, t117, t118, t119, t120, t121, t122, t123, t124, t125, t126, t127, t128, t129, t130, t131, t132, t133, t134, t135, t136, t137, t138, t139], []⟩ wC)) :
    Code.wp Tryz.prog ((Tryz.f5.body.bind (regionOf 3)).getD .skip) Q ⟨#[.slice a len cap, t1, t2, t3, .pointer (some ⟨eb, 0, none⟩), t5, t6, t7, t8, t9, t10, t11, t12, t13, t14, t15, t16, t17, t18, t19, t20, t21, t22, t23, t24, t25, t26, t27, t28, t29, t30, t31, t32, t33, t34, t35, t36, t37, t38, t39, t40, t41, t42, t43, t44, t45, t46, t47, t48, t49, t50, t51, t52, t53, t54, t55, t56, t57, t58, t59, t60, t61, t62, t63, t64, t65, t66, t67, t68, t69, t70, t71, t72, t73, t74, t75, t76, t77, t78, t79, t80, t81, t82, t83, t84, t85, t86, t87, t88, t89, t90, t91, t92, t93, t94, t95, t96, t97, t98, t99, t100, t101, t102, t103, t104, t105, t106, t107, t108, t109, t110, t111, t112, t113, t114, t115, t116, t117, t118, t119, t120, t121, t122, t123, t124, t125, t126, t127, t128, t129, t130, t131, t132, t133, t134, t135, t136, t137, t138, t139], []⟩ w1 := by
  have hS : (fun w' => Below w1.heap.size w1 w' ∧ Bx10 w' eb 31 (.int .i64 ep) (.int .i64 cl) (.int .i64 id) (.int .i64 ok) (.string os) (.int .i64 ot) (.int .i64 ov) (.int .i64 of) (.int .i64 ou) (.int .i64 om)) w1.drew := ⟨below_drew _, hbx⟩
  conv => arg 2; whnf
  refine held_start (S := fun w' => Below w1.heap.size w1 w' ∧ Bx10 w' eb 31 (.int .i64 ep) (.int .i64 cl) (.int .i64 id) (.int .i64 ok) (.string os) (.int .i64 ot) (.int .i64 ov) (.int .i64 of) (.int .i64 ou) (.int .i64 om)) mixed9 ?_
  have hbx2 : Bx10 w1.drew eb 31 (.int .i64 ep) (.int .i64 cl) (.int .i64 id) (.int .i64 ok) (.string os) (.int .i64 ot) (.int .i64 ov) (.int .i64 of) (.int .i64 ou) (.int .i64 om) := hbx
  have heb : eb < w1.heap.size := hbx.lt
  clear hbx
  generalize w1.drew = wz at *
  refine held_take (i := 0) (v := .slice a len cap) rfl (by kernel_rfl) (fun _ _ _ h => h) (.inl ⟨rfl, fun w hS => ?_⟩) hS ?_
  · obtain ⟨-, q⟩ := hS
    go_simp
  try simp only [Act.put, List.setIfInBounds_toArray, List.set_cons_zero, List.set_cons_succ]
  refine held_take (i := 2) (v := .agg #[.int .i64 ep, .int .i64 cl, .int .i64 id, .int .i64 ok, .string os, .int .i64 ot, .int .i64 ov, .int .i64 of, .int .i64 ou, .int .i64 om]) rfl (by kernel_rfl) (fun _ _ _ h => h) (.inl ⟨rfl, fun w hS => ?_⟩) hS ?_
  · obtain ⟨-, q⟩ := hS
    obtain ⟨c0, c1, c2, c3, c4, c5, c6, c7, c8, c9⟩ := q.cells
    go_simp
  try simp only [Act.put, List.setIfInBounds_toArray, List.set_cons_zero, List.set_cons_succ]
  refine held_three (i := 1) (j := 8) (k := 9) (by kernel_rfl) rfl rfl rfl rfl rfl rfl ?_ ?_ ?_
  · intro K hK
    go_simp
    go_at_call 21
    refine (HP1.out _ hS.1).mono ?_
    rintro e wv1 ⟨hb2, v, rfl, hO⟩
    have hN : (fun w' => Below w1.heap.size w1 w' ∧ Bx10 w' eb 31 (.int .i64 ep) (.int .i64 cl) (.int .i64 id) (.int .i64 ok) (.string os) (.int .i64 ot) (.int .i64 ov) (.int .i64 of) (.int .i64 ou) (.int .i64 om)) wv1 := ⟨below2 hS.1 hb2, hS.2.below hb2⟩
    refine hK.out _ _ hN ?_
    clear hK hS
    have hS := hN
    clear hN hb2
    try simp only [Act.put, List.setIfInBounds_toArray, List.set_cons_zero, List.set_cons_succ]
    refine held_three (i := 3) (j := 8) (k := 9) (by kernel_rfl) rfl rfl rfl rfl rfl rfl ?_ ?_ ?_
    · intro K hK
      go_simp
      go_at_call 10
      refine (HP2.out _ v hO).mono ?_
      rintro e wv2 ⟨hb2, v2, rfl, hO2⟩
      clear hO
      obtain ⟨B, la, lc, X, da, dc, rfl, hXX, hRR⟩ := hO2
      have hO : OwnS wv2 (.agg #[.slice la X.length lc, .slice da R.ds.length dc, .int .i64 R.fl]) R := ⟨B, la, lc, X, da, dc, rfl, hXX, hRR⟩
      clear hXX hRR
      simp only [anV]
      have hN : (fun w' => Below w1.heap.size w1 w' ∧ Bx10 w' eb 31 (.int .i64 ep) (.int .i64 cl) (.int .i64 id) (.int .i64 ok) (.string os) (.int .i64 ot) (.int .i64 ov) (.int .i64 of) (.int .i64 ou) (.int .i64 om)) wv2 := ⟨below2 hS.1 hb2, hS.2.below hb2⟩
      refine hK.out _ _ hN ?_
      clear hK hS
      have hS := hN
      clear hN hb2
      try simp only [Act.put, List.setIfInBounds_toArray, List.set_cons_zero, List.set_cons_succ]
      refine held_take (i := 4) (v := .tuple #[.agg #[.slice la X.length lc, .slice da R.ds.length dc, .int .i64 R.fl], .agg #[.int .i64 e0, .bool e1, .int .i64 e2], .int .i64 0]) rfl (by kernel_rfl) (fun _ _ _ h => h) (.inl ⟨rfl, fun w hS => ?_⟩) hS ?_
      · go_simp
      try simp only [Act.put, List.setIfInBounds_toArray, List.set_cons_zero, List.set_cons_succ]
      refine held_take (i := 5) (v := .agg #[.slice la X.length lc, .slice da R.ds.length dc, .int .i64 R.fl]) rfl (by kernel_rfl) (fun _ _ _ h => h) (.inl ⟨rfl, fun w hS => ?_⟩) hS ?_
      · go_simp
      try simp only [Act.put, List.setIfInBounds_toArray, List.set_cons_zero, List.set_cons_succ]
      refine held_take (i := 6) (v := .agg #[.int .i64 e0, .bool e1, .int .i64 e2]) rfl (by kernel_rfl) (fun _ _ _ h => h) (.inl ⟨rfl, fun w hS => ?_⟩) hS ?_
      · go_simp
      try simp only [Act.put, List.setIfInBounds_toArray, List.set_cons_zero, List.set_cons_succ]
      refine held_take (i := 7) (v := .int .i64 0) rfl (by kernel_rfl) (fun _ _ _ h => h) (.inl ⟨rfl, fun w hS => ?_⟩) hS ?_
      · go_simp
      try simp only [Act.put, List.setIfInBounds_toArray, List.set_cons_zero, List.set_cons_succ]
      refine held_two (i := 8) (j := 9) (by kernel_rfl) rfl rfl rfl rfl ?_ ?_
      · intro K hK
        go_simp
        have hb2 := below_alloc wv2 (.cells #[.slice none 0 0, .slice none 0 0, .int .i64 0] 25)
        have hX := Bx3.new wv2 25 (.slice none 0 0) (.slice none 0 0) (.int .i64 0)
        have hr7 : w1.heap.size ≤ wv2.heap.size := hS.1.size
        generalize wv2.alloc (.cells #[.slice none 0 0, .slice none 0 0, .int .i64 0] 25) = wv3 at *
        have hN : (fun w' => Below w1.heap.size w1 w' ∧ Bx10 w' eb 31 (.int .i64 ep) (.int .i64 cl) (.int .i64 id) (.int .i64 ok) (.string os) (.int .i64 ot) (.int .i64 ov) (.int .i64 of) (.int .i64 ou) (.int .i64 om)) wv3 := ⟨below2 hS.1 hb2, hS.2.below hb2⟩
        replace hO := hO.below hb2
        refine hK.out _ _ hN ?_
        clear hK hS
        have hS := hN
        clear hN hb2
        generalize wv2.heap.size = r7 at *
        try simp only [Act.put, List.setIfInBounds_toArray, List.set_cons_zero, List.set_cons_succ]
        refine held_one (i := 9) (by kernel_rfl) rfl rfl ?_
        intro K hK
        go_simp
        have hb2 := below_alloc wv3 (.cells #[.int .i64 0, .bool false, .int .i64 0] 37)
        have hY := Bx3.new wv3 37 (.int .i64 0) (.bool false) (.int .i64 0)
        have hr8 : w1.heap.size ≤ wv3.heap.size := hS.1.size
        have hxy : r7 ≠ wv3.heap.size := fun e => by have := hX.lt; omega
        generalize wv3.alloc (.cells #[.int .i64 0, .bool false, .int .i64 0] 37) = wv4 at *
        have hN : (fun w' => Below w1.heap.size w1 w' ∧ Bx10 w' eb 31 (.int .i64 ep) (.int .i64 cl) (.int .i64 id) (.int .i64 ok) (.string os) (.int .i64 ot) (.int .i64 ov) (.int .i64 of) (.int .i64 ou) (.int .i64 om)) wv4 := ⟨below2 hS.1 hb2, hS.2.below hb2⟩
        replace hX := hX.below hb2
        replace hO := hO.below hb2
        refine hK.out _ _ hN ?_
        clear hK hS
        have hS := hN
        clear hN hb2
        generalize wv3.heap.size = r8 at *
        try simp only [Act.put, List.setIfInBounds_toArray, List.set_cons_zero, List.set_cons_succ]
        refine held_one (i := 10) (by kernel_rfl) rfl rfl ?_
        intro K hK
        obtain ⟨c0, c1, c2⟩ := hX.cells
        obtain ⟨f0, f1, f2⟩ := hX.frz
        go_simp
        have hN : (fun w' => Below w1.heap.size w1 w' ∧ Bx10 w' eb 31 (.int .i64 ep) (.int .i64 cl) (.int .i64 id) (.int .i64 ok) (.string os) (.int .i64 ot) (.int .i64 ov) (.int .i64 of) (.int .i64 ou) (.int .i64 om)) (put3 wv4 r7 (.slice la X.length lc) (.slice da R.ds.length dc) (.int .i64 R.fl)) := ⟨put3_below hS.1 hr7 (.slice la X.length lc) (.slice da R.ds.length dc) (.int .i64 R.fl), hS.2.kept (put3_else (b := r7) (.slice la X.length lc) (.slice da R.ds.length dc) (.int .i64 R.fl) (by omega))⟩
        show K _ (put3 wv4 r7 (.slice la X.length lc) (.slice da R.ds.length dc) (.int .i64 R.fl))
        refine hK.out _ _ hN ?_
        clear hK c0 c1 c2 f0 f1 f2
        have hX2 := hX.set (.slice la X.length lc) (.slice da R.ds.length dc) (.int .i64 R.fl)
        have hY2 := hY.kept (put3_else (b := r7) (.slice la X.length lc) (.slice da R.ds.length dc) (.int .i64 R.fl) (fun e => hxy e.symm))
        have hO2 := hO.put hX (by decide) (by decide) (by decide) (.slice la X.length lc) (.slice da R.ds.length dc) (.int .i64 R.fl)
        try simp only [Act.put, List.setIfInBounds_toArray, List.set_cons_zero, List.set_cons_succ]
        generalize (put3 wv4 r7 (.slice la X.length lc) (.slice da R.ds.length dc) (.int .i64 R.fl)) = wp1 at *
        clear hX hY hO hS
        refine held_one (i := 11) (by kernel_rfl) rfl rfl ?_
        intro K hK
        obtain ⟨c0, c1, c2⟩ := hY2.cells
        obtain ⟨f0, f1, f2⟩ := hY2.frz
        go_simp
        have hN2 : (fun w' => Below w1.heap.size w1 w' ∧ Bx10 w' eb 31 (.int .i64 ep) (.int .i64 cl) (.int .i64 id) (.int .i64 ok) (.string os) (.int .i64 ot) (.int .i64 ov) (.int .i64 of) (.int .i64 ou) (.int .i64 om)) (put3 wp1 r8 (.int .i64 e0) (.bool e1) (.int .i64 e2)) := ⟨put3_below hN.1 hr8 (.int .i64 e0) (.bool e1) (.int .i64 e2), hN.2.kept (put3_else (b := r8) (.int .i64 e0) (.bool e1) (.int .i64 e2) (by omega))⟩
        show K _ (put3 wp1 r8 (.int .i64 e0) (.bool e1) (.int .i64 e2))
        refine hK.out _ _ hN2 ?_
        clear hK c0 c1 c2 f0 f1 f2
        have hX3 := hX2.kept (put3_else (b := r8) (.int .i64 e0) (.bool e1) (.int .i64 e2) hxy)
        have hY3 := hY2.set (.int .i64 e0) (.bool e1) (.int .i64 e2)
        have hO3 := hO2.put hY2 (by decide) (by decide) (by decide) (.int .i64 e0) (.bool e1) (.int .i64 e2)
        try simp only [Act.put, List.setIfInBounds_toArray, List.set_cons_zero, List.set_cons_succ]
        generalize put3 wp1 r8 (.int .i64 e0) (.bool e1) (.int .i64 e2) = wp2 at *
        have hS := hN2
        refine held_take (i := 12) (v := .int .i64 0) rfl (by kernel_rfl) (fun _ _ _ h => h) (.inl ⟨rfl, fun w hS => ?_⟩) hS ?_
        · go_simp
        try simp only [Act.put, List.setIfInBounds_toArray, List.set_cons_zero, List.set_cons_succ]
        refine wpAnyH_done (by kernel_rfl) ?_ _
        refine NoPanic.normal ?_
        exact hQ.out _ _ _ _ _ _ _ _ r7 r8 _ _ _ _ _ _ hr7 hr8 hxy hS.1 hX3 hY3 hO3
      · intro K hK
        go_simp
        have hb2 := below_alloc wv2 (.cells #[.int .i64 0, .bool false, .int .i64 0] 37)
        have hY := Bx3.new wv2 37 (.int .i64 0) (.bool false) (.int .i64 0)
        have hr8 : w1.heap.size ≤ wv2.heap.size := hS.1.size
        generalize wv2.alloc (.cells #[.int .i64 0, .bool false, .int .i64 0] 37) = wv5 at *
        have hN : (fun w' => Below w1.heap.size w1 w' ∧ Bx10 w' eb 31 (.int .i64 ep) (.int .i64 cl) (.int .i64 id) (.int .i64 ok) (.string os) (.int .i64 ot) (.int .i64 ov) (.int .i64 of) (.int .i64 ou) (.int .i64 om)) wv5 := ⟨below2 hS.1 hb2, hS.2.below hb2⟩
        replace hO := hO.below hb2
        refine hK.out _ _ hN ?_
        clear hK hS
        have hS := hN
        clear hN hb2
        generalize wv2.heap.size = r8 at *
        try simp only [Act.put, List.setIfInBounds_toArray, List.set_cons_zero, List.set_cons_succ]
        refine held_one (i := 8) (by kernel_rfl) rfl rfl ?_
        intro K hK
        go_simp
        have hb2 := below_alloc wv5 (.cells #[.slice none 0 0, .slice none 0 0, .int .i64 0] 25)
        have hX := Bx3.new wv5 25 (.slice none 0 0) (.slice none 0 0) (.int .i64 0)
        have hr7 : w1.heap.size ≤ wv5.heap.size := hS.1.size
        have hxy : wv5.heap.size ≠ r8 := fun e => by have := hY.lt; omega
        generalize wv5.alloc (.cells #[.slice none 0 0, .slice none 0 0, .int .i64 0] 25) = wv6 at *
        have hN : (fun w' => Below w1.heap.size w1 w' ∧ Bx10 w' eb 31 (.int .i64 ep) (.int .i64 cl) (.int .i64 id) (.int .i64 ok) (.string os) (.int .i64 ot) (.int .i64 ov) (.int .i64 of) (.int .i64 ou) (.int .i64 om)) wv6 := ⟨below2 hS.1 hb2, hS.2.below hb2⟩
        replace hY := hY.below hb2
        replace hO := hO.below hb2
        refine hK.out _ _ hN ?_
        clear hK hS
        have hS := hN
        clear hN hb2
        generalize wv5.heap.size = r7 at *
        try simp only [Act.put, List.setIfInBounds_toArray, List.set_cons_zero, List.set_cons_succ]
        refine held_one (i := 10) (by kernel_rfl) rfl rfl ?_
        intro K hK
        obtain ⟨c0, c1, c2⟩ := hX.cells
        obtain ⟨f0, f1, f2⟩ := hX.frz
        go_simp
        have hN : (fun w' => Below w1.heap.size w1 w' ∧ Bx10 w' eb 31 (.int .i64 ep) (.int .i64 cl) (.int .i64 id) (.int .i64 ok) (.string os) (.int .i64 ot) (.int .i64 ov) (.int .i64 of) (.int .i64 ou) (.int .i64 om)) (put3 wv6 r7 (.slice la X.length lc) (.slice da R.ds.length dc) (.int .i64 R.fl)) := ⟨put3_below hS.1 hr7 (.slice la X.length lc) (.slice da R.ds.length dc) (.int .i64 R.fl), hS.2.kept (put3_else (b := r7) (.slice la X.length lc) (.slice da R.ds.length dc) (.int .i64 R.fl) (by omega))⟩
        show K _ (put3 wv6 r7 (.slice la X.length lc) (.slice da R.ds.length dc) (.int .i64 R.fl))
        refine hK.out _ _ hN ?_
        clear hK c0 c1 c2 f0 f1 f2
        have hX2 := hX.set (.slice la X.length lc) (.slice da R.ds.length dc) (.int .i64 R.fl)
        have hY2 := hY.kept (put3_else (b := r7) (.slice la X.length lc) (.slice da R.ds.length dc) (.int .i64 R.fl) (fun e => hxy e.symm))
        have hO2 := hO.put hX (by decide) (by decide) (by decide) (.slice la X.length lc) (.slice da R.ds.length dc) (.int .i64 R.fl)
        try simp only [Act.put, List.setIfInBounds_toArray, List.set_cons_zero, List.set_cons_succ]
        generalize (put3 wv6 r7 (.slice la X.length lc) (.slice da R.ds.length dc) (.int .i64 R.fl)) = wp1 at *
        clear hX hY hO hS
        refine held_one (i := 11) (by kernel_rfl) rfl rfl ?_
        intro K hK
        obtain ⟨c0, c1, c2⟩ := hY2.cells
        obtain ⟨f0, f1, f2⟩ := hY2.frz
        go_simp
        have hN2 : (fun w' => Below w1.heap.size w1 w' ∧ Bx10 w' eb 31 (.int .i64 ep) (.int .i64 cl) (.int .i64 id) (.int .i64 ok) (.string os) (.int .i64 ot) (.int .i64 ov) (.int .i64 of) (.int .i64 ou) (.int .i64 om)) (put3 wp1 r8 (.int .i64 e0) (.bool e1) (.int .i64 e2)) := ⟨put3_below hN.1 hr8 (.int .i64 e0) (.bool e1) (.int .i64 e2), hN.2.kept (put3_else (b := r8) (.int .i64 e0) (.bool e1) (.int .i64 e2) (by omega))⟩
        show K _ (put3 wp1 r8 (.int .i64 e0) (.bool e1) (.int .i64 e2))
        refine hK.out _ _ hN2 ?_
        clear hK c0 c1 c2 f0 f1 f2
        have hX3 := hX2.kept (put3_else (b := r8) (.int .i64 e0) (.bool e1) (.int .i64 e2) hxy)
        have hY3 := hY2.set (.int .i64 e0) (.bool e1) (.int .i64 e2)
        have hO3 := hO2.put hY2 (by decide) (by decide) (by decide) (.int .i64 e0) (.bool e1) (.int .i64 e2)
        try simp only [Act.put, List.setIfInBounds_toArray, List.set_cons_zero, List.set_cons_succ]
        generalize put3 wp1 r8 (.int .i64 e0) (.bool e1) (.int .i64 e2) = wp2 at *
        have hS := hN2
        refine held_take (i := 12) (v := .int .i64 0) rfl (by kernel_rfl) (fun _ _ _ h => h) (.inl ⟨rfl, fun w hS => ?_⟩) hS ?_
        · go_simp
        try simp only [Act.put, List.setIfInBounds_toArray, List.set_cons_zero, List.set_cons_succ]
        refine wpAnyH_done (by kernel_rfl) ?_ _
        refine NoPanic.normal ?_
        exact hQ.out _ _ _ _ _ _ _ _ r7 r8 _ _ _ _ _ _ hr7 hr8 hxy hS.1 hX3 hY3 hO3
    · intro K hK
      go_simp
      have hb2 := below_alloc wv1 (.cells #[.slice none 0 0, .slice none 0 0, .int .i64 0] 25)
      have hX := Bx3.new wv1 25 (.slice none 0 0) (.slice none 0 0) (.int .i64 0)
      have hr7 : w1.heap.size ≤ wv1.heap.size := hS.1.size
      generalize wv1.alloc (.cells #[.slice none 0 0, .slice none 0 0, .int .i64 0] 25) = wv7 at *
      have hN : (fun w' => Below w1.heap.size w1 w' ∧ Bx10 w' eb 31 (.int .i64 ep) (.int .i64 cl) (.int .i64 id) (.int .i64 ok) (.string os) (.int .i64 ot) (.int .i64 ov) (.int .i64 of) (.int .i64 ou) (.int .i64 om)) wv7 := ⟨below2 hS.1 hb2, hS.2.below hb2⟩
      replace hO := hO.below hb2
      refine hK.out _ _ hN ?_
      clear hK hS
      have hS := hN
      clear hN hb2
      generalize wv1.heap.size = r7 at *
      try simp only [Act.put, List.setIfInBounds_toArray, List.set_cons_zero, List.set_cons_succ]
      refine held_two (i := 3) (j := 9) (by kernel_rfl) rfl rfl rfl rfl ?_ ?_
      · intro K hK
        go_simp
        go_at_call 10
        refine (HP2.out _ v hO).mono ?_
        rintro e wv8 ⟨hb2, v2, rfl, hO2⟩
        clear hO
        obtain ⟨B, la, lc, X, da, dc, rfl, hXX, hRR⟩ := hO2
        have hO : OwnS wv8 (.agg #[.slice la X.length lc, .slice da R.ds.length dc, .int .i64 R.fl]) R := ⟨B, la, lc, X, da, dc, rfl, hXX, hRR⟩
        clear hXX hRR
        simp only [anV]
        have hN : (fun w' => Below w1.heap.size w1 w' ∧ Bx10 w' eb 31 (.int .i64 ep) (.int .i64 cl) (.int .i64 id) (.int .i64 ok) (.string os) (.int .i64 ot) (.int .i64 ov) (.int .i64 of) (.int .i64 ou) (.int .i64 om)) wv8 := ⟨below2 hS.1 hb2, hS.2.below hb2⟩
        replace hX := hX.below hb2
        refine hK.out _ _ hN ?_
        clear hK hS
        have hS := hN
        clear hN hb2
        try simp only [Act.put, List.setIfInBounds_toArray, List.set_cons_zero, List.set_cons_succ]
        refine held_take (i := 4) (v := .tuple #[.agg #[.slice la X.length lc, .slice da R.ds.length dc, .int .i64 R.fl], .agg #[.int .i64 e0, .bool e1, .int .i64 e2], .int .i64 0]) rfl (by kernel_rfl) (fun _ _ _ h => h) (.inl ⟨rfl, fun w hS => ?_⟩) hS ?_
        · go_simp
        try simp only [Act.put, List.setIfInBounds_toArray, List.set_cons_zero, List.set_cons_succ]
        refine held_take (i := 5) (v := .agg #[.slice la X.length lc, .slice da R.ds.length dc, .int .i64 R.fl]) rfl (by kernel_rfl) (fun _ _ _ h => h) (.inl ⟨rfl, fun w hS => ?_⟩) hS ?_
        · go_simp
        try simp only [Act.put, List.setIfInBounds_toArray, List.set_cons_zero, List.set_cons_succ]
        refine held_take (i := 6) (v := .agg #[.int .i64 e0, .bool e1, .int .i64 e2]) rfl (by kernel_rfl) (fun _ _ _ h => h) (.inl ⟨rfl, fun w hS => ?_⟩) hS ?_
        · go_simp
        try simp only [Act.put, List.setIfInBounds_toArray, List.set_cons_zero, List.set_cons_succ]
        refine held_take (i := 7) (v := .int .i64 0) rfl (by kernel_rfl) (fun _ _ _ h => h) (.inl ⟨rfl, fun w hS => ?_⟩) hS ?_
        · go_simp
        try simp only [Act.put, List.setIfInBounds_toArray, List.set_cons_zero, List.set_cons_succ]
        refine held_one (i := 9) (by kernel_rfl) rfl rfl ?_
        intro K hK
        go_simp
        have hb2 := below_alloc wv8 (.cells #[.int .i64 0, .bool false, .int .i64 0] 37)
        have hY := Bx3.new wv8 37 (.int .i64 0) (.bool false) (.int .i64 0)
        have hr8 : w1.heap.size ≤ wv8.heap.size := hS.1.size
        have hxy : r7 ≠ wv8.heap.size := fun e => by have := hX.lt; omega
        generalize wv8.alloc (.cells #[.int .i64 0, .bool false, .int .i64 0] 37) = wv9 at *
        have hN : (fun w' => Below w1.heap.size w1 w' ∧ Bx10 w' eb 31 (.int .i64 ep) (.int .i64 cl) (.int .i64 id) (.int .i64 ok) (.string os) (.int .i64 ot) (.int .i64 ov) (.int .i64 of) (.int .i64 ou) (.int .i64 om)) wv9 := ⟨below2 hS.1 hb2, hS.2.below hb2⟩
        replace hX := hX.below hb2
        replace hO := hO.below hb2
        refine hK.out _ _ hN ?_
        clear hK hS
        have hS := hN
        clear hN hb2
        generalize wv8.heap.size = r8 at *
        try simp only [Act.put, List.setIfInBounds_toArray, List.set_cons_zero, List.set_cons_succ]
        refine held_one (i := 10) (by kernel_rfl) rfl rfl ?_
        intro K hK
        obtain ⟨c0, c1, c2⟩ := hX.cells
        obtain ⟨f0, f1, f2⟩ := hX.frz
        go_simp
        have hN : (fun w' => Below w1.heap.size w1 w' ∧ Bx10 w' eb 31 (.int .i64 ep) (.int .i64 cl) (.int .i64 id) (.int .i64 ok) (.string os) (.int .i64 ot) (.int .i64 ov) (.int .i64 of) (.int .i64 ou) (.int .i64 om)) (put3 wv9 r7 (.slice la X.length lc) (.slice da R.ds.length dc) (.int .i64 R.fl)) := ⟨put3_below hS.1 hr7 (.slice la X.length lc) (.slice da R.ds.length dc) (.int .i64 R.fl), hS.2.kept (put3_else (b := r7) (.slice la X.length lc) (.slice da R.ds.length dc) (.int .i64 R.fl) (by omega))⟩
        show K _ (put3 wv9 r7 (.slice la X.length lc) (.slice da R.ds.length dc) (.int .i64 R.fl))
        refine hK.out _ _ hN ?_
        clear hK c0 c1 c2 f0 f1 f2
        have hX2 := hX.set (.slice la X.length lc) (.slice da R.ds.length dc) (.int .i64 R.fl)
        have hY2 := hY.kept (put3_else (b := r7) (.slice la X.length lc) (.slice da R.ds.length dc) (.int .i64 R.fl) (fun e => hxy e.symm))
        have hO2 := hO.put hX (by decide) (by decide) (by decide) (.slice la X.length lc) (.slice da R.ds.length dc) (.int .i64 R.fl)
        try simp only [Act.put, List.setIfInBounds_toArray, List.set_cons_zero, List.set_cons_succ]
        generalize (put3 wv9 r7 (.slice la X.length lc) (.slice da R.ds.length dc) (.int .i64 R.fl)) = wp1 at *
        clear hX hY hO hS
        refine held_one (i := 11) (by kernel_rfl) rfl rfl ?_
        intro K hK
        obtain ⟨c0, c1, c2⟩ := hY2.cells
        obtain ⟨f0, f1, f2⟩ := hY2.frz
        go_simp
        have hN2 : (fun w' => Below w1.heap.size w1 w' ∧ Bx10 w' eb 31 (.int .i64 ep) (.int .i64 cl) (.int .i64 id) (.int .i64 ok) (.string os) (.int .i64 ot) (.int .i64 ov) (.int .i64 of) (.int .i64 ou) (.int .i64 om)) (put3 wp1 r8 (.int .i64 e0) (.bool e1) (.int .i64 e2)) := ⟨put3_below hN.1 hr8 (.int .i64 e0) (.bool e1) (.int .i64 e2), hN.2.kept (put3_else (b := r8) (.int .i64 e0) (.bool e1) (.int .i64 e2) (by omega))⟩
        show K _ (put3 wp1 r8 (.int .i64 e0) (.bool e1) (.int .i64 e2))
        refine hK.out _ _ hN2 ?_
        clear hK c0 c1 c2 f0 f1 f2
        have hX3 := hX2.kept (put3_else (b := r8) (.int .i64 e0) (.bool e1) (.int .i64 e2) hxy)
        have hY3 := hY2.set (.int .i64 e0) (.bool e1) (.int .i64 e2)
        have hO3 := hO2.put hY2 (by decide) (by decide) (by decide) (.int .i64 e0) (.bool e1) (.int .i64 e2)
        try simp only [Act.put, List.setIfInBounds_toArray, List.set_cons_zero, List.set_cons_succ]
        generalize put3 wp1 r8 (.int .i64 e0) (.bool e1) (.int .i64 e2) = wp2 at *
        have hS := hN2
        refine held_take (i := 12) (v := .int .i64 0) rfl (by kernel_rfl) (fun _ _ _ h => h) (.inl ⟨rfl, fun w hS => ?_⟩) hS ?_
        · go_simp
        try simp only [Act.put, List.setIfInBounds_toArray, List.set_cons_zero, List.set_cons_succ]
        refine wpAnyH_done (by kernel_rfl) ?_ _
        refine NoPanic.normal ?_
        exact hQ.out _ _ _ _ _ _ _ _ r7 r8 _ _ _ _ _ _ hr7 hr8 hxy hS.1 hX3 hY3 hO3
      · intro K hK
        go_simp
        have hb2 := below_alloc wv7 (.cells #[.int .i64 0, .bool false, .int .i64 0] 37)
        have hY := Bx3.new wv7 37 (.int .i64 0) (.bool false) (.int .i64 0)
        have hr8 : w1.heap.size ≤ wv7.heap.size := hS.1.size
        have hxy : r7 ≠ wv7.heap.size := fun e => by have := hX.lt; omega
        generalize wv7.alloc (.cells #[.int .i64 0, .bool false, .int .i64 0] 37) = wv10 at *
        have hN : (fun w' => Below w1.heap.size w1 w' ∧ Bx10 w' eb 31 (.int .i64 ep) (.int .i64 cl) (.int .i64 id) (.int .i64 ok) (.string os) (.int .i64 ot) (.int .i64 ov) (.int .i64 of) (.int .i64 ou) (.int .i64 om)) wv10 := ⟨below2 hS.1 hb2, hS.2.below hb2⟩
        replace hX := hX.below hb2
        replace hO := hO.below hb2
        refine hK.out _ _ hN ?_
        clear hK hS
        have hS := hN
        clear hN hb2
        generalize wv7.heap.size = r8 at *
        try simp only [Act.put, List.setIfInBounds_toArray, List.set_cons_zero, List.set_cons_succ]
        refine held_one (i := 3) (by kernel_rfl) rfl rfl ?_
        intro K hK
        go_simp
        go_at_call 10
        refine (HP2.out _ v hO).mono ?_
        rintro e wv11 ⟨hb2, v2, rfl, hO2⟩
        clear hO
        obtain ⟨B, la, lc, X, da, dc, rfl, hXX, hRR⟩ := hO2
        have hO : OwnS wv11 (.agg #[.slice la X.length lc, .slice da R.ds.length dc, .int .i64 R.fl]) R := ⟨B, la, lc, X, da, dc, rfl, hXX, hRR⟩
        clear hXX hRR
        simp only [anV]
        have hN : (fun w' => Below w1.heap.size w1 w' ∧ Bx10 w' eb 31 (.int .i64 ep) (.int .i64 cl) (.int .i64 id) (.int .i64 ok) (.string os) (.int .i64 ot) (.int .i64 ov) (.int .i64 of) (.int .i64 ou) (.int .i64 om)) wv11 := ⟨below2 hS.1 hb2, hS.2.below hb2⟩
        replace hX := hX.below hb2
        replace hY := hY.below hb2
        refine hK.out _ _ hN ?_
        clear hK hS
        have hS := hN
        clear hN hb2
        try simp only [Act.put, List.setIfInBounds_toArray, List.set_cons_zero, List.set_cons_succ]
        refine held_take (i := 4) (v := .tuple #[.agg #[.slice la X.length lc, .slice da R.ds.length dc, .int .i64 R.fl], .agg #[.int .i64 e0, .bool e1, .int .i64 e2], .int .i64 0]) rfl (by kernel_rfl) (fun _ _ _ h => h) (.inl ⟨rfl, fun w hS => ?_⟩) hS ?_
        · go_simp
        try simp only [Act.put, List.setIfInBounds_toArray, List.set_cons_zero, List.set_cons_succ]
        refine held_take (i := 5) (v := .agg #[.slice la X.length lc, .slice da R.ds.length dc, .int .i64 R.fl]) rfl (by kernel_rfl) (fun _ _ _ h => h) (.inl ⟨rfl, fun w hS => ?_⟩) hS ?_
        · go_simp
        try simp only [Act.put, List.setIfInBounds_toArray, List.set_cons_zero, List.set_cons_succ]
        refine held_take (i := 6) (v := .agg #[.int .i64 e0, .bool e1, .int .i64 e2]) rfl (by kernel_rfl) (fun _ _ _ h => h) (.inl ⟨rfl, fun w hS => ?_⟩) hS ?_
        · go_simp
        try simp only [Act.put, List.setIfInBounds_toArray, List.set_cons_zero, List.set_cons_succ]
        refine held_take (i := 7) (v := .int .i64 0) rfl (by kernel_rfl) (fun _ _ _ h => h) (.inl ⟨rfl, fun w hS => ?_⟩) hS ?_
        · go_simp
        try simp only [Act.put, List.setIfInBounds_toArray, List.set_cons_zero, List.set_cons_succ]
        refine held_one (i := 10) (by kernel_rfl) rfl rfl ?_
        intro K hK
        obtain ⟨c0, c1, c2⟩ := hX.cells
        obtain ⟨f0, f1, f2⟩ := hX.frz
        go_simp
        have hN : (fun w' => Below w1.heap.size w1 w' ∧ Bx10 w' eb 31 (.int .i64 ep) (.int .i64 cl) (.int .i64 id) (.int .i64 ok) (.string os) (.int .i64 ot) (.int .i64 ov) (.int .i64 of) (.int .i64 ou) (.int .i64 om)) (put3 wv11 r7 (.slice la X.length lc) (.slice da R.ds.length dc) (.int .i64 R.fl)) := ⟨put3_below hS.1 hr7 (.slice la X.length lc) (.slice da R.ds.length dc) (.int .i64 R.fl), hS.2.kept (put3_else (b := r7) (.slice la X.length lc) (.slice da R.ds.length dc) (.int .i64 R.fl) (by omega))⟩
        show K _ (put3 wv11 r7 (.slice la X.length lc) (.slice da R.ds.length dc) (.int .i64 R.fl))
        refine hK.out _ _ hN ?_
        clear hK c0 c1 c2 f0 f1 f2
        have hX2 := hX.set (.slice la X.length lc) (.slice da R.ds.length dc) (.int .i64 R.fl)
        have hY2 := hY.kept (put3_else (b := r7) (.slice la X.length lc) (.slice da R.ds.length dc) (.int .i64 R.fl) (fun e => hxy e.symm))
        have hO2 := hO.put hX (by decide) (by decide) (by decide) (.slice la X.length lc) (.slice da R.ds.length dc) (.int .i64 R.fl)
        try simp only [Act.put, List.setIfInBounds_toArray, List.set_cons_zero, List.set_cons_succ]
        generalize (put3 wv11 r7 (.slice la X.length lc) (.slice da R.ds.length dc) (.int .i64 R.fl)) = wp1 at *
        clear hX hY hO hS
        refine held_one (i := 11) (by kernel_rfl) rfl rfl ?_
        intro K hK
        obtain ⟨c0, c1, c2⟩ := hY2.cells
        obtain ⟨f0, f1, f2⟩ := hY2.frz
        go_simp
        have hN2 : (fun w' => Below w1.heap.size w1 w' ∧ Bx10 w' eb 31 (.int .i64 ep) (.int .i64 cl) (.int .i64 id) (.int .i64 ok) (.string os) (.int .i64 ot) (.int .i64 ov) (.int .i64 of) (.int .i64 ou) (.int .i64 om)) (put3 wp1 r8 (.int .i64 e0) (.bool e1) (.int .i64 e2)) := ⟨put3_below hN.1 hr8 (.int .i64 e0) (.bool e1) (.int .i64 e2), hN.2.kept (put3_else (b := r8) (.int .i64 e0) (.bool e1) (.int .i64 e2) (by omega))⟩
        show K _ (put3 wp1 r8 (.int .i64 e0) (.bool e1) (.int .i64 e2))
        refine hK.out _ _ hN2 ?_
        clear hK c0 c1 c2 f0 f1 f2
        have hX3 := hX2.kept (put3_else (b := r8) (.int .i64 e0) (.bool e1) (.int .i64 e2) hxy)
        have hY3 := hY2.set (.int .i64 e0) (.bool e1) (.int .i64 e2)
        have hO3 := hO2.put hY2 (by decide) (by decide) (by decide) (.int .i64 e0) (.bool e1) (.int .i64 e2)
        try simp only [Act.put, List.setIfInBounds_toArray, List.set_cons_zero, List.set_cons_succ]
        generalize put3 wp1 r8 (.int .i64 e0) (.bool e1) (.int .i64 e2) = wp2 at *
        have hS := hN2
        refine held_take (i := 12) (v := .int .i64 0) rfl (by kernel_rfl) (fun _ _ _ h => h) (.inl ⟨rfl, fun w hS => ?_⟩) hS ?_
        · go_simp
        try simp only [Act.put, List.setIfInBounds_toArray, List.set_cons_zero, List.set_cons_succ]
        refine wpAnyH_done (by kernel_rfl) ?_ _
        refine NoPanic.normal ?_
        exact hQ.out _ _ _ _ _ _ _ _ r7 r8 _ _ _ _ _ _ hr7 hr8 hxy hS.1 hX3 hY3 hO3
    · intro K hK
      go_simp
      have hb2 := below_alloc wv1 (.cells #[.int .i64 0, .bool false, .int .i64 0] 37)
      have hY := Bx3.new wv1 37 (.int .i64 0) (.bool false) (.int .i64 0)
      have hr8 : w1.heap.size ≤ wv1.heap.size := hS.1.size
      generalize wv1.alloc (.cells #[.int .i64 0, .bool false, .int .i64 0] 37) = wv12 at *
      have hN : (fun w' => Below w1.heap.size w1 w' ∧ Bx10 w' eb 31 (.int .i64 ep) (.int .i64 cl) (.int .i64 id) (.int .i64 ok) (.string os) (.int .i64 ot) (.int .i64 ov) (.int .i64 of) (.int .i64 ou) (.int .i64 om)) wv12 := ⟨below2 hS.1 hb2, hS.2.below hb2⟩
      replace hO := hO.below hb2
      refine hK.out _ _ hN ?_
      clear hK hS
      have hS := hN
      clear hN hb2
      generalize wv1.heap.size = r8 at *
      try simp only [Act.put, List.setIfInBounds_toArray, List.set_cons_zero, List.set_cons_succ]
      refine held_two (i := 3) (j := 8) (by kernel_rfl) rfl rfl rfl rfl ?_ ?_
      · intro K hK
        go_simp
        go_at_call 10
        refine (HP2.out _ v hO).mono ?_
        rintro e wv13 ⟨hb2, v2, rfl, hO2⟩
        clear hO
        obtain ⟨B, la, lc, X, da, dc, rfl, hXX, hRR⟩ := hO2
        have hO : OwnS wv13 (.agg #[.slice la X.length lc, .slice da R.ds.length dc, .int .i64 R.fl]) R := ⟨B, la, lc, X, da, dc, rfl, hXX, hRR⟩
        clear hXX hRR
        simp only [anV]
        have hN : (fun w' => Below w1.heap.size w1 w' ∧ Bx10 w' eb 31 (.int .i64 ep) (.int .i64 cl) (.int .i64 id) (.int .i64 ok) (.string os) (.int .i64 ot) (.int .i64 ov) (.int .i64 of) (.int .i64 ou) (.int .i64 om)) wv13 := ⟨below2 hS.1 hb2, hS.2.below hb2⟩
        replace hY := hY.below hb2
        refine hK.out _ _ hN ?_
        clear hK hS
        have hS := hN
        clear hN hb2
        try simp only [Act.put, List.setIfInBounds_toArray, List.set_cons_zero, List.set_cons_succ]
        refine held_take (i := 4) (v := .tuple #[.agg #[.slice la X.length lc, .slice da R.ds.length dc, .int .i64 R.fl], .agg #[.int .i64 e0, .bool e1, .int .i64 e2], .int .i64 0]) rfl (by kernel_rfl) (fun _ _ _ h => h) (.inl ⟨rfl, fun w hS => ?_⟩) hS ?_
        · go_simp
        try simp only [Act.put, List.setIfInBounds_toArray, List.set_cons_zero, List.set_cons_succ]
        refine held_take (i := 5) (v := .agg #[.slice la X.length lc, .slice da R.ds.length dc, .int .i64 R.fl]) rfl (by kernel_rfl) (fun _ _ _ h => h) (.inl ⟨rfl, fun w hS => ?_⟩) hS ?_
        · go_simp
        try simp only [Act.put, List.setIfInBounds_toArray, List.set_cons_zero, List.set_cons_succ]
        refine held_take (i := 6) (v := .agg #[.int .i64 e0, .bool e1, .int .i64 e2]) rfl (by kernel_rfl) (fun _ _ _ h => h) (.inl ⟨rfl, fun w hS => ?_⟩) hS ?_
        · go_simp
        try simp only [Act.put, List.setIfInBounds_toArray, List.set_cons_zero, List.set_cons_succ]
        refine held_take (i := 7) (v := .int .i64 0) rfl (by kernel_rfl) (fun _ _ _ h => h) (.inl ⟨rfl, fun w hS => ?_⟩) hS ?_
        · go_simp
        try simp only [Act.put, List.setIfInBounds_toArray, List.set_cons_zero, List.set_cons_succ]
        refine held_one (i := 8) (by kernel_rfl) rfl rfl ?_
        intro K hK
        go_simp
        have hb2 := below_alloc wv13 (.cells #[.slice none 0 0, .slice none 0 0, .int .i64 0] 25)
        have hX := Bx3.new wv13 25 (.slice none 0 0) (.slice none 0 0) (.int .i64 0)
        have hr7 : w1.heap.size ≤ wv13.heap.size := hS.1.size
        have hxy : wv13.heap.size ≠ r8 := fun e => by have := hY.lt; omega
        generalize wv13.alloc (.cells #[.slice none 0 0, .slice none 0 0, .int .i64 0] 25) = wv14 at *
        have hN : (fun w' => Below w1.heap.size w1 w' ∧ Bx10 w' eb 31 (.int .i64 ep) (.int .i64 cl) (.int .i64 id) (.int .i64 ok) (.string os) (.int .i64 ot) (.int .i64 ov) (.int .i64 of) (.int .i64 ou) (.int .i64 om)) wv14 := ⟨below2 hS.1 hb2, hS.2.below hb2⟩
        replace hY := hY.below hb2
        replace hO := hO.below hb2
        refine hK.out _ _ hN ?_
        clear hK hS
        have hS := hN
        clear hN hb2
        generalize wv13.heap.size = r7 at *
        try simp only [Act.put, List.setIfInBounds_toArray, List.set_cons_zero, List.set_cons_succ]
        refine held_one (i := 10) (by kernel_rfl) rfl rfl ?_
        intro K hK
        obtain ⟨c0, c1, c2⟩ := hX.cells
        obtain ⟨f0, f1, f2⟩ := hX.frz
        go_simp
        have hN : (fun w' => Below w1.heap.size w1 w' ∧ Bx10 w' eb 31 (.int .i64 ep) (.int .i64 cl) (.int .i64 id) (.int .i64 ok) (.string os) (.int .i64 ot) (.int .i64 ov) (.int .i64 of) (.int .i64 ou) (.int .i64 om)) (put3 wv14 r7 (.slice la X.length lc) (.slice da R.ds.length dc) (.int .i64 R.fl)) := ⟨put3_below hS.1 hr7 (.slice la X.length lc) (.slice da R.ds.length dc) (.int .i64 R.fl), hS.2.kept (put3_else (b := r7) (.slice la X.length lc) (.slice da R.ds.length dc) (.int .i64 R.fl) (by omega))⟩
        show K _ (put3 wv14 r7 (.slice la X.length lc) (.slice da R.ds.length dc) (.int .i64 R.fl))
        refine hK.out _ _ hN ?_
        clear hK c0 c1 c2 f0 f1 f2
        have hX2 := hX.set (.slice la X.length lc) (.slice da R.ds.length dc) (.int .i64 R.fl)
        have hY2 := hY.kept (put3_else (b := r7) (.slice la X.length lc) (.slice da R.ds.length dc) (.int .i64 R.fl) (fun e => hxy e.symm))
        have hO2 := hO.put hX (by decide) (by decide) (by decide) (.slice la X.length lc) (.slice da R.ds.length dc) (.int .i64 R.fl)
        try simp only [Act.put, List.setIfInBounds_toArray, List.set_cons_zero, List.set_cons_succ]
        generalize (put3 wv14 r7 (.slice la X.length lc) (.slice da R.ds.length dc) (.int .i64 R.fl)) = wp1 at *
        clear hX hY hO hS
        refine held_one (i := 11) (by kernel_rfl) rfl rfl ?_
        intro K hK
        obtain ⟨c0, c1, c2⟩ := hY2.cells
        obtain ⟨f0, f1, f2⟩ := hY2.frz
        go_simp
        have hN2 : (fun w' => Below w1.heap.size w1 w' ∧ Bx10 w' eb 31 (.int .i64 ep) (.int .i64 cl) (.int .i64 id) (.int .i64 ok) (.string os) (.int .i64 ot) (.int .i64 ov) (.int .i64 of) (.int .i64 ou) (.int .i64 om)) (put3 wp1 r8 (.int .i64 e0) (.bool e1) (.int .i64 e2)) := ⟨put3_below hN.1 hr8 (.int .i64 e0) (.bool e1) (.int .i64 e2), hN.2.kept (put3_else (b := r8) (.int .i64 e0) (.bool e1) (.int .i64 e2) (by omega))⟩
        show K _ (put3 wp1 r8 (.int .i64 e0) (.bool e1) (.int .i64 e2))
        refine hK.out _ _ hN2 ?_
        clear hK c0 c1 c2 f0 f1 f2
        have hX3 := hX2.kept (put3_else (b := r8) (.int .i64 e0) (.bool e1) (.int .i64 e2) hxy)
        have hY3 := hY2.set (.int .i64 e0) (.bool e1) (.int .i64 e2)
        have hO3 := hO2.put hY2 (by decide) (by decide) (by decide) (.int .i64 e0) (.bool e1) (.int .i64 e2)
        try simp only [Act.put, List.setIfInBounds_toArray, List.set_cons_zero, List.set_cons_succ]
        generalize put3 wp1 r8 (.int .i64 e0) (.bool e1) (.int .i64 e2) = wp2 at *
        have hS := hN2
        refine held_take (i := 12) (v := .int .i64 0) rfl (by kernel_rfl) (fun _ _ _ h => h) (.inl ⟨rfl, fun w hS => ?_⟩) hS ?_
        · go_simp
        try simp only [Act.put, List.setIfInBounds_toArray, List.set_cons_zero, List.set_cons_succ]
        refine wpAnyH_done (by kernel_rfl) ?_ _
        refine NoPanic.normal ?_
        exact hQ.out _ _ _ _ _ _ _ _ r7 r8 _ _ _ _ _ _ hr7 hr8 hxy hS.1 hX3 hY3 hO3
      · intro K hK
        go_simp
        have hb2 := below_alloc wv12 (.cells #[.slice none 0 0, .slice none 0 0, .int .i64 0] 25)
        have hX := Bx3.new wv12 25 (.slice none 0 0) (.slice none 0 0) (.int .i64 0)
        have hr7 : w1.heap.size ≤ wv12.heap.size := hS.1.size
        have hxy : wv12.heap.size ≠ r8 := fun e => by have := hY.lt; omega
        generalize wv12.alloc (.cells #[.slice none 0 0, .slice none 0 0, .int .i64 0] 25) = wv15 at *
        have hN : (fun w' => Below w1.heap.size w1 w' ∧ Bx10 w' eb 31 (.int .i64 ep) (.int .i64 cl) (.int .i64 id) (.int .i64 ok) (.string os) (.int .i64 ot) (.int .i64 ov) (.int .i64 of) (.int .i64 ou) (.int .i64 om)) wv15 := ⟨below2 hS.1 hb2, hS.2.below hb2⟩
        replace hY := hY.below hb2
        replace hO := hO.below hb2
        refine hK.out _ _ hN ?_
        clear hK hS
        have hS := hN
        clear hN hb2
        generalize wv12.heap.size = r7 at *
        try simp only [Act.put, List.setIfInBounds_toArray, List.set_cons_zero, List.set_cons_succ]
        refine held_one (i := 3) (by kernel_rfl) rfl rfl ?_
        intro K hK
        go_simp
        go_at_call 10
        refine (HP2.out _ v hO).mono ?_
        rintro e wv16 ⟨hb2, v2, rfl, hO2⟩
        clear hO
        obtain ⟨B, la, lc, X, da, dc, rfl, hXX, hRR⟩ := hO2
        have hO : OwnS wv16 (.agg #[.slice la X.length lc, .slice da R.ds.length dc, .int .i64 R.fl]) R := ⟨B, la, lc, X, da, dc, rfl, hXX, hRR⟩
        clear hXX hRR
        simp only [anV]
        have hN : (fun w' => Below w1.heap.size w1 w' ∧ Bx10 w' eb 31 (.int .i64 ep) (.int .i64 cl) (.int .i64 id) (.int .i64 ok) (.string os) (.int .i64 ot) (.int .i64 ov) (.int .i64 of) (.int .i64 ou) (.int .i64 om)) wv16 := ⟨below2 hS.1 hb2, hS.2.below hb2⟩
        replace hX := hX.below hb2
        replace hY := hY.below hb2
        refine hK.out _ _ hN ?_
        clear hK hS
        have hS := hN
        clear hN hb2
        try simp only [Act.put, List.setIfInBounds_toArray, List.set_cons_zero, List.set_cons_succ]
        refine held_take (i := 4) (v := .tuple #[.agg #[.slice la X.length lc, .slice da R.ds.length dc, .int .i64 R.fl], .agg #[.int .i64 e0, .bool e1, .int .i64 e2], .int .i64 0]) rfl (by kernel_rfl) (fun _ _ _ h => h) (.inl ⟨rfl, fun w hS => ?_⟩) hS ?_
        · go_simp
        try simp only [Act.put, List.setIfInBounds_toArray, List.set_cons_zero, List.set_cons_succ]
        refine held_take (i := 5) (v := .agg #[.slice la X.length lc, .slice da R.ds.length dc, .int .i64 R.fl]) rfl (by kernel_rfl) (fun _ _ _ h => h) (.inl ⟨rfl, fun w hS => ?_⟩) hS ?_
        · go_simp
        try simp only [Act.put, List.setIfInBounds_toArray, List.set_cons_zero, List.set_cons_succ]
        refine held_take (i := 6) (v := .agg #[.int .i64 e0, .bool e1, .int .i64 e2]) rfl (by kernel_rfl) (fun _ _ _ h => h) (.inl ⟨rfl, fun w hS => ?_⟩) hS ?_
        · go_simp
        try simp only [Act.put, List.setIfInBounds_toArray, List.set_cons_zero, List.set_cons_succ]
        refine held_take (i := 7) (v := .int .i64 0) rfl (by kernel_rfl) (fun _ _ _ h => h) (.inl ⟨rfl, fun w hS => ?_⟩) hS ?_
        · go_simp
        try simp only [Act.put, List.setIfInBounds_toArray, List.set_cons_zero, List.set_cons_succ]
        refine held_one (i := 10) (by kernel_rfl) rfl rfl ?_
        intro K hK
        obtain ⟨c0, c1, c2⟩ := hX.cells
        obtain ⟨f0, f1, f2⟩ := hX.frz
        go_simp
        have hN : (fun w' => Below w1.heap.size w1 w' ∧ Bx10 w' eb 31 (.int .i64 ep) (.int .i64 cl) (.int .i64 id) (.int .i64 ok) (.string os) (.int .i64 ot) (.int .i64 ov) (.int .i64 of) (.int .i64 ou) (.int .i64 om)) (put3 wv16 r7 (.slice la X.length lc) (.slice da R.ds.length dc) (.int .i64 R.fl)) := ⟨put3_below hS.1 hr7 (.slice la X.length lc) (.slice da R.ds.length dc) (.int .i64 R.fl), hS.2.kept (put3_else (b := r7) (.slice la X.length lc) (.slice da R.ds.length dc) (.int .i64 R.fl) (by omega))⟩
        show K _ (put3 wv16 r7 (.slice la X.length lc) (.slice da R.ds.length dc) (.int .i64 R.fl))
        refine hK.out _ _ hN ?_
        clear hK c0 c1 c2 f0 f1 f2
        have hX2 := hX.set (.slice la X.length lc) (.slice da R.ds.length dc) (.int .i64 R.fl)
        have hY2 := hY.kept (put3_else (b := r7) (.slice la X.length lc) (.slice da R.ds.length dc) (.int .i64 R.fl) (fun e => hxy e.symm))
        have hO2 := hO.put hX (by decide) (by decide) (by decide) (.slice la X.length lc) (.slice da R.ds.length dc) (.int .i64 R.fl)
        try simp only [Act.put, List.setIfInBounds_toArray, List.set_cons_zero, List.set_cons_succ]
        generalize (put3 wv16 r7 (.slice la X.length lc) (.slice da R.ds.length dc) (.int .i64 R.fl)) = wp1 at *
        clear hX hY hO hS
        refine held_one (i := 11) (by kernel_rfl) rfl rfl ?_
        intro K hK
        obtain ⟨c0, c1, c2⟩ := hY2.cells
        obtain ⟨f0, f1, f2⟩ := hY2.frz
        go_simp
        have hN2 : (fun w' => Below w1.heap.size w1 w' ∧ Bx10 w' eb 31 (.int .i64 ep) (.int .i64 cl) (.int .i64 id) (.int .i64 ok) (.string os) (.int .i64 ot) (.int .i64 ov) (.int .i64 of) (.int .i64 ou) (.int .i64 om)) (put3 wp1 r8 (.int .i64 e0) (.bool e1) (.int .i64 e2)) := ⟨put3_below hN.1 hr8 (.int .i64 e0) (.bool e1) (.int .i64 e2), hN.2.kept (put3_else (b := r8) (.int .i64 e0) (.bool e1) (.int .i64 e2) (by omega))⟩
        show K _ (put3 wp1 r8 (.int .i64 e0) (.bool e1) (.int .i64 e2))
        refine hK.out _ _ hN2 ?_
        clear hK c0 c1 c2 f0 f1 f2
        have hX3 := hX2.kept (put3_else (b := r8) (.int .i64 e0) (.bool e1) (.int .i64 e2) hxy)
        have hY3 := hY2.set (.int .i64 e0) (.bool e1) (.int .i64 e2)
        have hO3 := hO2.put hY2 (by decide) (by decide) (by decide) (.int .i64 e0) (.bool e1) (.int .i64 e2)
        try simp only [Act.put, List.setIfInBounds_toArray, List.set_cons_zero, List.set_cons_succ]
        generalize put3 wp1 r8 (.int .i64 e0) (.bool e1) (.int .i64 e2) = wp2 at *
        have hS := hN2
        refine held_take (i := 12) (v := .int .i64 0) rfl (by kernel_rfl) (fun _ _ _ h => h) (.inl ⟨rfl, fun w hS => ?_⟩) hS ?_
        · go_simp
        try simp only [Act.put, List.setIfInBounds_toArray, List.set_cons_zero, List.set_cons_succ]
        refine wpAnyH_done (by kernel_rfl) ?_ _
        refine NoPanic.normal ?_
        exact hQ.out _ _ _ _ _ _ _ _ r7 r8 _ _ _ _ _ _ hr7 hr8 hxy hS.1 hX3 hY3 hO3
  · intro K hK
    go_simp
    have hb2 := below_alloc wz (.cells #[.slice none 0 0, .slice none 0 0, .int .i64 0] 25)
    have hX := Bx3.new wz 25 (.slice none 0 0) (.slice none 0 0) (.int .i64 0)
    have hr7 : w1.heap.size ≤ wz.heap.size := hS.1.size
    generalize wz.alloc (.cells #[.slice none 0 0, .slice none 0 0, .int .i64 0] 25) = wv17 at *
    have hN : (fun w' => Below w1.heap.size w1 w' ∧ Bx10 w' eb 31 (.int .i64 ep) (.int .i64 cl) (.int .i64 id) (.int .i64 ok) (.string os) (.int .i64 ot) (.int .i64 ov) (.int .i64 of) (.int .i64 ou) (.int .i64 om)) wv17 := ⟨below2 hS.1 hb2, hS.2.below hb2⟩
    refine hK.out _ _ hN ?_
    clear hK hS
    have hS := hN
    clear hN hb2
    generalize wz.heap.size = r7 at *
    try simp only [Act.put, List.setIfInBounds_toArray, List.set_cons_zero, List.set_cons_succ]
    refine held_two (i := 1) (j := 9) (by kernel_rfl) rfl rfl rfl rfl ?_ ?_
    · intro K hK
      go_simp
      go_at_call 21
      refine (HP1.out _ hS.1).mono ?_
      rintro e wv18 ⟨hb2, v, rfl, hO⟩
      have hN : (fun w' => Below w1.heap.size w1 w' ∧ Bx10 w' eb 31 (.int .i64 ep) (.int .i64 cl) (.int .i64 id) (.int .i64 ok) (.string os) (.int .i64 ot) (.int .i64 ov) (.int .i64 of) (.int .i64 ou) (.int .i64 om)) wv18 := ⟨below2 hS.1 hb2, hS.2.below hb2⟩
      replace hX := hX.below hb2
      refine hK.out _ _ hN ?_
      clear hK hS
      have hS := hN
      clear hN hb2
      try simp only [Act.put, List.setIfInBounds_toArray, List.set_cons_zero, List.set_cons_succ]
      refine held_two (i := 3) (j := 9) (by kernel_rfl) rfl rfl rfl rfl ?_ ?_
      · intro K hK
        go_simp
        go_at_call 10
        refine (HP2.out _ v hO).mono ?_
        rintro e wv19 ⟨hb2, v2, rfl, hO2⟩
        clear hO
        obtain ⟨B, la, lc, X, da, dc, rfl, hXX, hRR⟩ := hO2
        have hO : OwnS wv19 (.agg #[.slice la X.length lc, .slice da R.ds.length dc, .int .i64 R.fl]) R := ⟨B, la, lc, X, da, dc, rfl, hXX, hRR⟩
        clear hXX hRR
        simp only [anV]
        have hN : (fun w' => Below w1.heap.size w1 w' ∧ Bx10 w' eb 31 (.int .i64 ep) (.int .i64 cl) (.int .i64 id) (.int .i64 ok) (.string os) (.int .i64 ot) (.int .i64 ov) (.int .i64 of) (.int .i64 ou) (.int .i64 om)) wv19 := ⟨below2 hS.1 hb2, hS.2.below hb2⟩
        replace hX := hX.below hb2
        refine hK.out _ _ hN ?_
        clear hK hS
        have hS := hN
        clear hN hb2
        try simp only [Act.put, List.setIfInBounds_toArray, List.set_cons_zero, List.set_cons_succ]
        refine held_take (i := 4) (v := .tuple #[.agg #[.slice la X.length lc, .slice da R.ds.length dc, .int .i64 R.fl], .agg #[.int .i64 e0, .bool e1, .int .i64 e2], .int .i64 0]) rfl (by kernel_rfl) (fun _ _ _ h => h) (.inl ⟨rfl, fun w hS => ?_⟩) hS ?_
        · go_simp
        try simp only [Act.put, List.setIfInBounds_toArray, List.set_cons_zero, List.set_cons_succ]
        refine held_take (i := 5) (v := .agg #[.slice la X.length lc, .slice da R.ds.length dc, .int .i64 R.fl]) rfl (by kernel_rfl) (fun _ _ _ h => h) (.inl ⟨rfl, fun w hS => ?_⟩) hS ?_
        · go_simp
        try simp only [Act.put, List.setIfInBounds_toArray, List.set_cons_zero, List.set_cons_succ]
        refine held_take (i := 6) (v := .agg #[.int .i64 e0, .bool e1, .int .i64 e2]) rfl (by kernel_rfl) (fun _ _ _ h => h) (.inl ⟨rfl, fun w hS => ?_⟩) hS ?_
        · go_simp
        try simp only [Act.put, List.setIfInBounds_toArray, List.set_cons_zero, List.set_cons_succ]
        refine held_take (i := 7) (v := .int .i64 0) rfl (by kernel_rfl) (fun _ _ _ h => h) (.inl ⟨rfl, fun w hS => ?_⟩) hS ?_
        · go_simp
        try simp only [Act.put, List.setIfInBounds_toArray, List.set_cons_zero, List.set_cons_succ]
        refine held_one (i := 9) (by kernel_rfl) rfl rfl ?_
        intro K hK
        go_simp
        have hb2 := below_alloc wv19 (.cells #[.int .i64 0, .bool false, .int .i64 0] 37)
        have hY := Bx3.new wv19 37 (.int .i64 0) (.bool false) (.int .i64 0)
        have hr8 : w1.heap.size ≤ wv19.heap.size := hS.1.size
        have hxy : r7 ≠ wv19.heap.size := fun e => by have := hX.lt; omega
        generalize wv19.alloc (.cells #[.int .i64 0, .bool false, .int .i64 0] 37) = wv20 at *
        have hN : (fun w' => Below w1.heap.size w1 w' ∧ Bx10 w' eb 31 (.int .i64 ep) (.int .i64 cl) (.int .i64 id) (.int .i64 ok) (.string os) (.int .i64 ot) (.int .i64 ov) (.int .i64 of) (.int .i64 ou) (.int .i64 om)) wv20 := ⟨below2 hS.1 hb2, hS.2.below hb2⟩
        replace hX := hX.below hb2
        replace hO := hO.below hb2
        refine hK.out _ _ hN ?_
        clear hK hS
        have hS := hN
        clear hN hb2
        generalize wv19.heap.size = r8 at *
        try simp only [Act.put, List.setIfInBounds_toArray, List.set_cons_zero, List.set_cons_succ]
        refine held_one (i := 10) (by kernel_rfl) rfl rfl ?_
        intro K hK
        obtain ⟨c0, c1, c2⟩ := hX.cells
        obtain ⟨f0, f1, f2⟩ := hX.frz
        go_simp
        have hN : (fun w' => Below w1.heap.size w1 w' ∧ Bx10 w' eb 31 (.int .i64 ep) (.int .i64 cl) (.int .i64 id) (.int .i64 ok) (.string os) (.int .i64 ot) (.int .i64 ov) (.int .i64 of) (.int .i64 ou) (.int .i64 om)) (put3 wv20 r7 (.slice la X.length lc) (.slice da R.ds.length dc) (.int .i64 R.fl)) := ⟨put3_below hS.1 hr7 (.slice la X.length lc) (.slice da R.ds.length dc) (.int .i64 R.fl), hS.2.kept (put3_else (b := r7) (.slice la X.length lc) (.slice da R.ds.length dc) (.int .i64 R.fl) (by omega))⟩
        show K _ (put3 wv20 r7 (.slice la X.length lc) (.slice da R.ds.length dc) (.int .i64 R.fl))
        refine hK.out _ _ hN ?_
        clear hK c0 c1 c2 f0 f1 f2
        have hX2 := hX.set (.slice la X.length lc) (.slice da R.ds.length dc) (.int .i64 R.fl)
        have hY2 := hY.kept (put3_else (b := r7) (.slice la X.length lc) (.slice da R.ds.length dc) (.int .i64 R.fl) (fun e => hxy e.symm))
        have hO2 := hO.put hX (by decide) (by decide) (by decide) (.slice la X.length lc) (.slice da R.ds.length dc) (.int .i64 R.fl)
        try simp only [Act.put, List.setIfInBounds_toArray, List.set_cons_zero, List.set_cons_succ]
        generalize (put3 wv20 r7 (.slice la X.length lc) (.slice da R.ds.length dc) (.int .i64 R.fl)) = wp1 at *
        clear hX hY hO hS
        refine held_one (i := 11) (by kernel_rfl) rfl rfl ?_
        intro K hK
        obtain ⟨c0, c1, c2⟩ := hY2.cells
        obtain ⟨f0, f1, f2⟩ := hY2.frz
        go_simp
        have hN2 : (fun w' => Below w1.heap.size w1 w' ∧ Bx10 w' eb 31 (.int .i64 ep) (.int .i64 cl) (.int .i64 id) (.int .i64 ok) (.string os) (.int .i64 ot) (.int .i64 ov) (.int .i64 of) (.int .i64 ou) (.int .i64 om)) (put3 wp1 r8 (.int .i64 e0) (.bool e1) (.int .i64 e2)) := ⟨put3_below hN.1 hr8 (.int .i64 e0) (.bool e1) (.int .i64 e2), hN.2.kept (put3_else (b := r8) (.int .i64 e0) (.bool e1) (.int .i64 e2) (by omega))⟩
        show K _ (put3 wp1 r8 (.int .i64 e0) (.bool e1) (.int .i64 e2))
        refine hK.out _ _ hN2 ?_
        clear hK c0 c1 c2 f0 f1 f2
        have hX3 := hX2.kept (put3_else (b := r8) (.int .i64 e0) (.bool e1) (.int .i64 e2) hxy)
        have hY3 := hY2.set (.int .i64 e0) (.bool e1) (.int .i64 e2)
        have hO3 := hO2.put hY2 (by decide) (by decide) (by decide) (.int .i64 e0) (.bool e1) (.int .i64 e2)
        try simp only [Act.put, List.setIfInBounds_toArray, List.set_cons_zero, List.set_cons_succ]
        generalize put3 wp1 r8 (.int .i64 e0) (.bool e1) (.int .i64 e2) = wp2 at *
        have hS := hN2
        refine held_take (i := 12) (v := .int .i64 0) rfl (by kernel_rfl) (fun _ _ _ h => h) (.inl ⟨rfl, fun w hS => ?_⟩) hS ?_
        · go_simp
        try simp only [Act.put, List.setIfInBounds_toArray, List.set_cons_zero, List.set_cons_succ]
        refine wpAnyH_done (by kernel_rfl) ?_ _
        refine NoPanic.normal ?_
        exact hQ.out _ _ _ _ _ _ _ _ r7 r8 _ _ _ _ _ _ hr7 hr8 hxy hS.1 hX3 hY3 hO3
      · intro K hK
        go_simp
        have hb2 := below_alloc wv18 (.cells #[.int .i64 0, .bool false, .int .i64 0] 37)
        have hY := Bx3.new wv18 37 (.int .i64 0) (.bool false) (.int .i64 0)
        have hr8 : w1.heap.size ≤ wv18.heap.size := hS.1.size
        have hxy : r7 ≠ wv18.heap.size := fun e => by have := hX.lt; omega
        generalize wv18.alloc (.cells #[.int .i64 0, .bool false, .int .i64 0] 37) = wv21 at *
        have hN : (fun w' => Below w1.heap.size w1 w' ∧ Bx10 w' eb 31 (.int .i64 ep) (.int .i64 cl) (.int .i64 id) (.int .i64 ok) (.string os) (.int .i64 ot) (.int .i64 ov) (.int .i64 of) (.int .i64 ou) (.int .i64 om)) wv21 := ⟨below2 hS.1 hb2, hS.2.below hb2⟩
        replace hX := hX.below hb2
        replace hO := hO.below hb2
        refine hK.out _ _ hN ?_
        clear hK hS
        have hS := hN
        clear hN hb2
        generalize wv18.heap.size = r8 at *
        try simp only [Act.put, List.setIfInBounds_toArray, List.set_cons_zero, List.set_cons_succ]
        refine held_one (i := 3) (by kernel_rfl) rfl rfl ?_
        intro K hK
        go_simp
        go_at_call 10
        refine (HP2.out _ v hO).mono ?_
        rintro e wv22 ⟨hb2, v2, rfl, hO2⟩
        clear hO
        obtain ⟨B, la, lc, X, da, dc, rfl, hXX, hRR⟩ := hO2
        have hO : OwnS wv22 (.agg #[.slice la X.length lc, .slice da R.ds.length dc, .int .i64 R.fl]) R := ⟨B, la, lc, X, da, dc, rfl, hXX, hRR⟩
        clear hXX hRR
        simp only [anV]
        have hN : (fun w' => Below w1.heap.size w1 w' ∧ Bx10 w' eb 31 (.int .i64 ep) (.int .i64 cl) (.int .i64 id) (.int .i64 ok) (.string os) (.int .i64 ot) (.int .i64 ov) (.int .i64 of) (.int .i64 ou) (.int .i64 om)) wv22 := ⟨below2 hS.1 hb2, hS.2.below hb2⟩
        replace hX := hX.below hb2
        replace hY := hY.below hb2
        refine hK.out _ _ hN ?_
        clear hK hS
        have hS := hN
        clear hN hb2
        try simp only [Act.put, List.setIfInBounds_toArray, List.set_cons_zero, List.set_cons_succ]
        refine held_take (i := 4) (v := .tuple #[.agg #[.slice la X.length lc, .slice da R.ds.length dc, .int .i64 R.fl], .agg #[.int .i64 e0, .bool e1, .int .i64 e2], .int .i64 0]) rfl (by kernel_rfl) (fun _ _ _ h => h) (.inl ⟨rfl, fun w hS => ?_⟩) hS ?_
        · go_simp
        try simp only [Act.put, List.setIfInBounds_toArray, List.set_cons_zero, List.set_cons_succ]
        refine held_take (i := 5) (v := .agg #[.slice la X.length lc, .slice da R.ds.length dc, .int .i64 R.fl]) rfl (by kernel_rfl) (fun _ _ _ h => h) (.inl ⟨rfl, fun w hS => ?_⟩) hS ?_
        · go_simp
        try simp only [Act.put, List.setIfInBounds_toArray, List.set_cons_zero, List.set_cons_succ]
        refine held_take (i := 6) (v := .agg #[.int .i64 e0, .bool e1, .int .i64 e2]) rfl (by kernel_rfl) (fun _ _ _ h => h) (.inl ⟨rfl, fun w hS => ?_⟩) hS ?_
        · go_simp
        try simp only [Act.put, List.setIfInBounds_toArray, List.set_cons_zero, List.set_cons_succ]
        refine held_take (i := 7) (v := .int .i64 0) rfl (by kernel_rfl) (fun _ _ _ h => h) (.inl ⟨rfl, fun w hS => ?_⟩) hS ?_
        · go_simp
        try simp only [Act.put, List.setIfInBounds_toArray, List.set_cons_zero, List.set_cons_succ]
        refine held_one (i := 10) (by kernel_rfl) rfl rfl ?_
        intro K hK
        obtain ⟨c0, c1, c2⟩ := hX.cells
        obtain ⟨f0, f1, f2⟩ := hX.frz
        go_simp
        have hN : (fun w' => Below w1.heap.size w1 w' ∧ Bx10 w' eb 31 (.int .i64 ep) (.int .i64 cl) (.int .i64 id) (.int .i64 ok) (.string os) (.int .i64 ot) (.int .i64 ov) (.int .i64 of) (.int .i64 ou) (.int .i64 om)) (put3 wv22 r7 (.slice la X.length lc) (.slice da R.ds.length dc) (.int .i64 R.fl)) := ⟨put3_below hS.1 hr7 (.slice la X.length lc) (.slice da R.ds.length dc) (.int .i64 R.fl), hS.2.kept (put3_else (b := r7) (.slice la X.length lc) (.slice da R.ds.length dc) (.int .i64 R.fl) (by omega))⟩
        show K _ (put3 wv22 r7 (.slice la X.length lc) (.slice da R.ds.length dc) (.int .i64 R.fl))
        refine hK.out _ _ hN ?_
        clear hK c0 c1 c2 f0 f1 f2
        have hX2 := hX.set (.slice la X.length lc) (.slice da R.ds.length dc) (.int .i64 R.fl)
        have hY2 := hY.kept (put3_else (b := r7) (.slice la X.length lc) (.slice da R.ds.length dc) (.int .i64 R.fl) (fun e => hxy e.symm))
        have hO2 := hO.put hX (by decide) (by decide) (by decide) (.slice la X.length lc) (.slice da R.ds.length dc) (.int .i64 R.fl)
        try simp only [Act.put, List.setIfInBounds_toArray, List.set_cons_zero, List.set_cons_succ]
        generalize (put3 wv22 r7 (.slice la X.length lc) (.slice da R.ds.length dc) (.int .i64 R.fl)) = wp1 at *
        clear hX hY hO hS
        refine held_one (i := 11) (by kernel_rfl) rfl rfl ?_
        intro K hK
        obtain ⟨c0, c1, c2⟩ := hY2.cells
        obtain ⟨f0, f1, f2⟩ := hY2.frz
        go_simp
        have hN2 : (fun w' => Below w1.heap.size w1 w' ∧ Bx10 w' eb 31 (.int .i64 ep) (.int .i64 cl) (.int .i64 id) (.int .i64 ok) (.string os) (.int .i64 ot) (.int .i64 ov) (.int .i64 of) (.int .i64 ou) (.int .i64 om)) (put3 wp1 r8 (.int .i64 e0) (.bool e1) (.int .i64 e2)) := ⟨put3_below hN.1 hr8 (.int .i64 e0) (.bool e1) (.int .i64 e2), hN.2.kept (put3_else (b := r8) (.int .i64 e0) (.bool e1) (.int .i64 e2) (by omega))⟩
        show K _ (put3 wp1 r8 (.int .i64 e0) (.bool e1) (.int .i64 e2))
        refine hK.out _ _ hN2 ?_
        clear hK c0 c1 c2 f0 f1 f2
        have hX3 := hX2.kept (put3_else (b := r8) (.int .i64 e0) (.bool e1) (.int .i64 e2) hxy)
        have hY3 := hY2.set (.int .i64 e0) (.bool e1) (.int .i64 e2)
        have hO3 := hO2.put hY2 (by decide) (by decide) (by decide) (.int .i64 e0) (.bool e1) (.int .i64 e2)
        try simp only [Act.put, List.setIfInBounds_toArray, List.set_cons_zero, List.set_cons_succ]
        generalize put3 wp1 r8 (.int .i64 e0) (.bool e1) (.int .i64 e2) = wp2 at *
        have hS := hN2
        refine held_take (i := 12) (v := .int .i64 0) rfl (by kernel_rfl) (fun _ _ _ h => h) (.inl ⟨rfl, fun w hS => ?_⟩) hS ?_
        · go_simp
        try simp only [Act.put, List.setIfInBounds_toArray, List.set_cons_zero, List.set_cons_succ]
        refine wpAnyH_done (by kernel_rfl) ?_ _
        refine NoPanic.normal ?_
        exact hQ.out _ _ _ _ _ _ _ _ r7 r8 _ _ _ _ _ _ hr7 hr8 hxy hS.1 hX3 hY3 hO3
    · intro K hK
      go_simp
      have hb2 := below_alloc wv17 (.cells #[.int .i64 0, .bool false, .int .i64 0] 37)
      have hY := Bx3.new wv17 37 (.int .i64 0) (.bool false) (.int .i64 0)
      have hr8 : w1.heap.size ≤ wv17.heap.size := hS.1.size
      have hxy : r7 ≠ wv17.heap.size := fun e => by have := hX.lt; omega
      generalize wv17.alloc (.cells #[.int .i64 0, .bool false, .int .i64 0] 37) = wv23 at *
      have hN : (fun w' => Below w1.heap.size w1 w' ∧ Bx10 w' eb 31 (.int .i64 ep) (.int .i64 cl) (.int .i64 id) (.int .i64 ok) (.string os) (.int .i64 ot) (.int .i64 ov) (.int .i64 of) (.int .i64 ou) (.int .i64 om)) wv23 := ⟨below2 hS.1 hb2, hS.2.below hb2⟩
      replace hX := hX.below hb2
      refine hK.out _ _ hN ?_
      clear hK hS
      have hS := hN
      clear hN hb2
      generalize wv17.heap.size = r8 at *
      try simp only [Act.put, List.setIfInBounds_toArray, List.set_cons_zero, List.set_cons_succ]
      refine held_one (i := 1) (by kernel_rfl) rfl rfl ?_
      intro K hK
      go_simp
      go_at_call 21
      refine (HP1.out _ hS.1).mono ?_
      rintro e wv24 ⟨hb2, v, rfl, hO⟩
      have hN : (fun w' => Below w1.heap.size w1 w' ∧ Bx10 w' eb 31 (.int .i64 ep) (.int .i64 cl) (.int .i64 id) (.int .i64 ok) (.string os) (.int .i64 ot) (.int .i64 ov) (.int .i64 of) (.int .i64 ou) (.int .i64 om)) wv24 := ⟨below2 hS.1 hb2, hS.2.below hb2⟩
      replace hX := hX.below hb2
      replace hY := hY.below hb2
      refine hK.out _ _ hN ?_
      clear hK hS
      have hS := hN
      clear hN hb2
      try simp only [Act.put, List.setIfInBounds_toArray, List.set_cons_zero, List.set_cons_succ]
      refine held_one (i := 3) (by kernel_rfl) rfl rfl ?_
      intro K hK
      go_simp
      go_at_call 10
      refine (HP2.out _ v hO).mono ?_
      rintro e wv25 ⟨hb2, v2, rfl, hO2⟩
      clear hO
      obtain ⟨B, la, lc, X, da, dc, rfl, hXX, hRR⟩ := hO2
      have hO : OwnS wv25 (.agg #[.slice la X.length lc, .slice da R.ds.length dc, .int .i64 R.fl]) R := ⟨B, la, lc, X, da, dc, rfl, hXX, hRR⟩
      clear hXX hRR
      simp only [anV]
      have hN : (fun w' => Below w1.heap.size w1 w' ∧ Bx10 w' eb 31 (.int .i64 ep) (.int .i64 cl) (.int .i64 id) (.int .i64 ok) (.string os) (.int .i64 ot) (.int .i64 ov) (.int .i64 of) (.int .i64 ou) (.int .i64 om)) wv25 := ⟨below2 hS.1 hb2, hS.2.below hb2⟩
      replace hX := hX.below hb2
      replace hY := hY.below hb2
      refine hK.out _ _ hN ?_
      clear hK hS
      have hS := hN
      clear hN hb2
      try simp only [Act.put, List.setIfInBounds_toArray, List.set_cons_zero, List.set_cons_succ]
      refine held_take (i := 4) (v := .tuple #[.agg #[.slice la X.length lc, .slice da R.ds.length dc, .int .i64 R.fl], .agg #[.int .i64 e0, .bool e1, .int .i64 e2], .int .i64 0]) rfl (by kernel_rfl) (fun _ _ _ h => h) (.inl ⟨rfl, fun w hS => ?_⟩) hS ?_
      · go_simp
      try simp only [Act.put, List.setIfInBounds_toArray, List.set_cons_zero, List.set_cons_succ]
      refine held_take (i := 5) (v := .agg #[.slice la X.length lc, .slice da R.ds.length dc, .int .i64 R.fl]) rfl (by kernel_rfl) (fun _ _ _ h => h) (.inl ⟨rfl, fun w hS => ?_⟩) hS ?_
      · go_simp
      try simp only [Act.put, List.setIfInBounds_toArray, List.set_cons_zero, List.set_cons_succ]
      refine held_take (i := 6) (v := .agg #[.int .i64 e0, .bool e1, .int .i64 e2]) rfl (by kernel_rfl) (fun _ _ _ h => h) (.inl ⟨rfl, fun w hS => ?_⟩) hS ?_
      · go_simp
      try simp only [Act.put, List.setIfInBounds_toArray, List.set_cons_zero, List.set_cons_succ]
      refine held_take (i := 7) (v := .int .i64 0) rfl (by kernel_rfl) (fun _ _ _ h => h) (.inl ⟨rfl, fun w hS => ?_⟩) hS ?_
      · go_simp
      try simp only [Act.put, List.setIfInBounds_toArray, List.set_cons_zero, List.set_cons_succ]
      refine held_one (i := 10) (by kernel_rfl) rfl rfl ?_
      intro K hK
      obtain ⟨c0, c1, c2⟩ := hX.cells
      obtain ⟨f0, f1, f2⟩ := hX.frz
      go_simp
      have hN : (fun w' => Below w1.heap.size w1 w' ∧ Bx10 w' eb 31 (.int .i64 ep) (.int .i64 cl) (.int .i64 id) (.int .i64 ok) (.string os) (.int .i64 ot) (.int .i64 ov) (.int .i64 of) (.int .i64 ou) (.int .i64 om)) (put3 wv25 r7 (.slice la X.length lc) (.slice da R.ds.length dc) (.int .i64 R.fl)) := ⟨put3_below hS.1 hr7 (.slice la X.length lc) (.slice da R.ds.length dc) (.int .i64 R.fl), hS.2.kept (put3_else (b := r7) (.slice la X.length lc) (.slice da R.ds.length dc) (.int .i64 R.fl) (by omega))⟩
      show K _ (put3 wv25 r7 (.slice la X.length lc) (.slice da R.ds.length dc) (.int .i64 R.fl))
      refine hK.out _ _ hN ?_
      clear hK c0 c1 c2 f0 f1 f2
      have hX2 := hX.set (.slice la X.length lc) (.slice da R.ds.length dc) (.int .i64 R.fl)
      have hY2 := hY.kept (put3_else (b := r7) (.slice la X.length lc) (.slice da R.ds.length dc) (.int .i64 R.fl) (fun e => hxy e.symm))
      have hO2 := hO.put hX (by decide) (by decide) (by decide) (.slice la X.length lc) (.slice da R.ds.length dc) (.int .i64 R.fl)
      try simp only [Act.put, List.setIfInBounds_toArray, List.set_cons_zero, List.set_cons_succ]
      generalize (put3 wv25 r7 (.slice la X.length lc) (.slice da R.ds.length dc) (.int .i64 R.fl)) = wp1 at *
      clear hX hY hO hS
      refine held_one (i := 11) (by kernel_rfl) rfl rfl ?_
      intro K hK
      obtain ⟨c0, c1, c2⟩ := hY2.cells
      obtain ⟨f0, f1, f2⟩ := hY2.frz
      go_simp
      have hN2 : (fun w' => Below w1.heap.size w1 w' ∧ Bx10 w' eb 31 (.int .i64 ep) (.int .i64 cl) (.int .i64 id) (.int .i64 ok) (.string os) (.int .i64 ot) (.int .i64 ov) (.int .i64 of) (.int .i64 ou) (.int .i64 om)) (put3 wp1 r8 (.int .i64 e0) (.bool e1) (.int .i64 e2)) := ⟨put3_below hN.1 hr8 (.int .i64 e0) (.bool e1) (.int .i64 e2), hN.2.kept (put3_else (b := r8) (.int .i64 e0) (.bool e1) (.int .i64 e2) (by omega))⟩
      show K _ (put3 wp1 r8 (.int .i64 e0) (.bool e1) (.int .i64 e2))
      refine hK.out _ _ hN2 ?_
      clear hK c0 c1 c2 f0 f1 f2
      have hX3 := hX2.kept (put3_else (b := r8) (.int .i64 e0) (.bool e1) (.int .i64 e2) hxy)
      have hY3 := hY2.set (.int .i64 e0) (.bool e1) (.int .i64 e2)
      have hO3 := hO2.put hY2 (by decide) (by decide) (by decide) (.int .i64 e0) (.bool e1) (.int .i64 e2)
      try simp only [Act.put, List.setIfInBounds_toArray, List.set_cons_zero, List.set_cons_succ]
      generalize put3 wp1 r8 (.int .i64 e0) (.bool e1) (.int .i64 e2) = wp2 at *
      have hS := hN2
      refine held_take (i := 12) (v := .int .i64 0) rfl (by kernel_rfl) (fun _ _ _ h => h) (.inl ⟨rfl, fun w hS => ?_⟩) hS ?_
      · go_simp
      try simp only [Act.put, List.setIfInBounds_toArray, List.set_cons_zero, List.set_cons_succ]
      refine wpAnyH_done (by kernel_rfl) ?_ _
      refine NoPanic.normal ?_
      exact hQ.out _ _ _ _ _ _ _ _ r7 r8 _ _ _ _ _ _ hr7 hr8 hxy hS.1 hX3 hY3 hO3
  · intro K hK
    go_simp
    have hb2 := below_alloc wz (.cells #[.int .i64 0, .bool false, .int .i64 0] 37)
    have hY := Bx3.new wz 37 (.int .i64 0) (.bool false) (.int .i64 0)
    have hr8 : w1.heap.size ≤ wz.heap.size := hS.1.size
    generalize wz.alloc (.cells #[.int .i64 0, .bool false, .int .i64 0] 37) = wv26 at *
    have hN : (fun w' => Below w1.heap.size w1 w' ∧ Bx10 w' eb 31 (.int .i64 ep) (.int .i64 cl) (.int .i64 id) (.int .i64 ok) (.string os) (.int .i64 ot) (.int .i64 ov) (.int .i64 of) (.int .i64 ou) (.int .i64 om)) wv26 := ⟨below2 hS.1 hb2, hS.2.below hb2⟩
    refine hK.out _ _ hN ?_
    clear hK hS
    have hS := hN
    clear hN hb2
    generalize wz.heap.size = r8 at *
    try simp only [Act.put, List.setIfInBounds_toArray, List.set_cons_zero, List.set_cons_succ]
    refine held_two (i := 1) (j := 8) (by kernel_rfl) rfl rfl rfl rfl ?_ ?_
    · intro K hK
      go_simp
      go_at_call 21
      refine (HP1.out _ hS.1).mono ?_
      rintro e wv27 ⟨hb2, v, rfl, hO⟩
      have hN : (fun w' => Below w1.heap.size w1 w' ∧ Bx10 w' eb 31 (.int .i64 ep) (.int .i64 cl) (.int .i64 id) (.int .i64 ok) (.string os) (.int .i64 ot) (.int .i64 ov) (.int .i64 of) (.int .i64 ou) (.int .i64 om)) wv27 := ⟨below2 hS.1 hb2, hS.2.below hb2⟩
      replace hY := hY.below hb2
      refine hK.out _ _ hN ?_
      clear hK hS
      have hS := hN
      clear hN hb2
      try simp only [Act.put, List.setIfInBounds_toArray, List.set_cons_zero, List.set_cons_succ]
      refine held_two (i := 3) (j := 8) (by kernel_rfl) rfl rfl rfl rfl ?_ ?_
      · intro K hK
        go_simp
        go_at_call 10
        refine (HP2.out _ v hO).mono ?_
        rintro e wv28 ⟨hb2, v2, rfl, hO2⟩
        clear hO
        obtain ⟨B, la, lc, X, da, dc, rfl, hXX, hRR⟩ := hO2
        have hO : OwnS wv28 (.agg #[.slice la X.length lc, .slice da R.ds.length dc, .int .i64 R.fl]) R := ⟨B, la, lc, X, da, dc, rfl, hXX, hRR⟩
        clear hXX hRR
        simp only [anV]
        have hN : (fun w' => Below w1.heap.size w1 w' ∧ Bx10 w' eb 31 (.int .i64 ep) (.int .i64 cl) (.int .i64 id) (.int .i64 ok) (.string os) (.int .i64 ot) (.int .i64 ov) (.int .i64 of) (.int .i64 ou) (.int .i64 om)) wv28 := ⟨below2 hS.1 hb2, hS.2.below hb2⟩
        replace hY := hY.below hb2
        refine hK.out _ _ hN ?_
        clear hK hS
        have hS := hN
        clear hN hb2
        try simp only [Act.put, List.setIfInBounds_toArray, List.set_cons_zero, List.set_cons_succ]
        refine held_take (i := 4) (v := .tuple #[.agg #[.slice la X.length lc, .slice da R.ds.length dc, .int .i64 R.fl], .agg #[.int .i64 e0, .bool e1, .int .i64 e2], .int .i64 0]) rfl (by kernel_rfl) (fun _ _ _ h => h) (.inl ⟨rfl, fun w hS => ?_⟩) hS ?_
        · go_simp
        try simp only [Act.put, List.setIfInBounds_toArray, List.set_cons_zero, List.set_cons_succ]
        refine held_take (i := 5) (v := .agg #[.slice la X.length lc, .slice da R.ds.length dc, .int .i64 R.fl]) rfl (by kernel_rfl) (fun _ _ _ h => h) (.inl ⟨rfl, fun w hS => ?_⟩) hS ?_
        · go_simp
        try simp only [Act.put, List.setIfInBounds_toArray, List.set_cons_zero, List.set_cons_succ]
        refine held_take (i := 6) (v := .agg #[.int .i64 e0, .bool e1, .int .i64 e2]) rfl (by kernel_rfl) (fun _ _ _ h => h) (.inl ⟨rfl, fun w hS => ?_⟩) hS ?_
        · go_simp
        try simp only [Act.put, List.setIfInBounds_toArray, List.set_cons_zero, List.set_cons_succ]
        refine held_take (i := 7) (v := .int .i64 0) rfl (by kernel_rfl) (fun _ _ _ h => h) (.inl ⟨rfl, fun w hS => ?_⟩) hS ?_
        · go_simp
        try simp only [Act.put, List.setIfInBounds_toArray, List.set_cons_zero, List.set_cons_succ]
        refine held_one (i := 8) (by kernel_rfl) rfl rfl ?_
        intro K hK
        go_simp
        have hb2 := below_alloc wv28 (.cells #[.slice none 0 0, .slice none 0 0, .int .i64 0] 25)
        have hX := Bx3.new wv28 25 (.slice none 0 0) (.slice none 0 0) (.int .i64 0)
        have hr7 : w1.heap.size ≤ wv28.heap.size := hS.1.size
        have hxy : wv28.heap.size ≠ r8 := fun e => by have := hY.lt; omega
        generalize wv28.alloc (.cells #[.slice none 0 0, .slice none 0 0, .int .i64 0] 25) = wv29 at *
        have hN : (fun w' => Below w1.heap.size w1 w' ∧ Bx10 w' eb 31 (.int .i64 ep) (.int .i64 cl) (.int .i64 id) (.int .i64 ok) (.string os) (.int .i64 ot) (.int .i64 ov) (.int .i64 of) (.int .i64 ou) (.int .i64 om)) wv29 := ⟨below2 hS.1 hb2, hS.2.below hb2⟩
        replace hY := hY.below hb2
        replace hO := hO.below hb2
        refine hK.out _ _ hN ?_
        clear hK hS
        have hS := hN
        clear hN hb2
        generalize wv28.heap.size = r7 at *
        try simp only [Act.put, List.setIfInBounds_toArray, List.set_cons_zero, List.set_cons_succ]
        refine held_one (i := 10) (by kernel_rfl) rfl rfl ?_
        intro K hK
        obtain ⟨c0, c1, c2⟩ := hX.cells
        obtain ⟨f0, f1, f2⟩ := hX.frz
        go_simp
        have hN : (fun w' => Below w1.heap.size w1 w' ∧ Bx10 w' eb 31 (.int .i64 ep) (.int .i64 cl) (.int .i64 id) (.int .i64 ok) (.string os) (.int .i64 ot) (.int .i64 ov) (.int .i64 of) (.int .i64 ou) (.int .i64 om)) (put3 wv29 r7 (.slice la X.length lc) (.slice da R.ds.length dc) (.int .i64 R.fl)) := ⟨put3_below hS.1 hr7 (.slice la X.length lc) (.slice da R.ds.length dc) (.int .i64 R.fl), hS.2.kept (put3_else (b := r7) (.slice la X.length lc) (.slice da R.ds.length dc) (.int .i64 R.fl) (by omega))⟩
        show K _ (put3 wv29 r7 (.slice la X.length lc) (.slice da R.ds.length dc) (.int .i64 R.fl))
        refine hK.out _ _ hN ?_
        clear hK c0 c1 c2 f0 f1 f2
        have hX2 := hX.set (.slice la X.length lc) (.slice da R.ds.length dc) (.int .i64 R.fl)
        have hY2 := hY.kept (put3_else (b := r7) (.slice la X.length lc) (.slice da R.ds.length dc) (.int .i64 R.fl) (fun e => hxy e.symm))
        have hO2 := hO.put hX (by decide) (by decide) (by decide) (.slice la X.length lc) (.slice da R.ds.length dc) (.int .i64 R.fl)
        try simp only [Act.put, List.setIfInBounds_toArray, List.set_cons_zero, List.set_cons_succ]
        generalize (put3 wv29 r7 (.slice la X.length lc) (.slice da R.ds.length dc) (.int .i64 R.fl)) = wp1 at *
        clear hX hY hO hS
        refine held_one (i := 11) (by kernel_rfl) rfl rfl ?_
        intro K hK
        obtain ⟨c0, c1, c2⟩ := hY2.cells
        obtain ⟨f0, f1, f2⟩ := hY2.frz
        go_simp
        have hN2 : (fun w' => Below w1.heap.size w1 w' ∧ Bx10 w' eb 31 (.int .i64 ep) (.int .i64 cl) (.int .i64 id) (.int .i64 ok) (.string os) (.int .i64 ot) (.int .i64 ov) (.int .i64 of) (.int .i64 ou) (.int .i64 om)) (put3 wp1 r8 (.int .i64 e0) (.bool e1) (.int .i64 e2)) := ⟨put3_below hN.1 hr8 (.int .i64 e0) (.bool e1) (.int .i64 e2), hN.2.kept (put3_else (b := r8) (.int .i64 e0) (.bool e1) (.int .i64 e2) (by omega))⟩
        show K _ (put3 wp1 r8 (.int .i64 e0) (.bool e1) (.int .i64 e2))
        refine hK.out _ _ hN2 ?_
        clear hK c0 c1 c2 f0 f1 f2
        have hX3 := hX2.kept (put3_else (b := r8) (.int .i64 e0) (.bool e1) (.int .i64 e2) hxy)
        have hY3 := hY2.set (.int .i64 e0) (.bool e1) (.int .i64 e2)
        have hO3 := hO2.put hY2 (by decide) (by decide) (by decide) (.int .i64 e0) (.bool e1) (.int .i64 e2)
        try simp only [Act.put, List.setIfInBounds_toArray, List.set_cons_zero, List.set_cons_succ]
        generalize put3 wp1 r8 (.int .i64 e0) (.bool e1) (.int .i64 e2) = wp2 at *
        have hS := hN2
        refine held_take (i := 12) (v := .int .i64 0) rfl (by kernel_rfl) (fun _ _ _ h => h) (.inl ⟨rfl, fun w hS => ?_⟩) hS ?_
        · go_simp
        try simp only [Act.put, List.setIfInBounds_toArray, List.set_cons_zero, List.set_cons_succ]
        refine wpAnyH_done (by kernel_rfl) ?_ _
        refine NoPanic.normal ?_
        exact hQ.out _ _ _ _ _ _ _ _ r7 r8 _ _ _ _ _ _ hr7 hr8 hxy hS.1 hX3 hY3 hO3
      · intro K hK
        go_simp
        have hb2 := below_alloc wv27 (.cells #[.slice none 0 0, .slice none 0 0, .int .i64 0] 25)
        have hX := Bx3.new wv27 25 (.slice none 0 0) (.slice none 0 0) (.int .i64 0)
        have hr7 : w1.heap.size ≤ wv27.heap.size := hS.1.size
        have hxy : wv27.heap.size ≠ r8 := fun e => by have := hY.lt; omega
        generalize wv27.alloc (.cells #[.slice none 0 0, .slice none 0 0, .int .i64 0] 25) = wv30 at *
        have hN : (fun w' => Below w1.heap.size w1 w' ∧ Bx10 w' eb 31 (.int .i64 ep) (.int .i64 cl) (.int .i64 id) (.int .i64 ok) (.string os) (.int .i64 ot) (.int .i64 ov) (.int .i64 of) (.int .i64 ou) (.int .i64 om)) wv30 := ⟨below2 hS.1 hb2, hS.2.below hb2⟩
        replace hY := hY.below hb2
        replace hO := hO.below hb2
        refine hK.out _ _ hN ?_
        clear hK hS
        have hS := hN
        clear hN hb2
        generalize wv27.heap.size = r7 at *
        try simp only [Act.put, List.setIfInBounds_toArray, List.set_cons_zero, List.set_cons_succ]
        refine held_one (i := 3) (by kernel_rfl) rfl rfl ?_
        intro K hK
        go_simp
        go_at_call 10
        refine (HP2.out _ v hO).mono ?_
        rintro e wv31 ⟨hb2, v2, rfl, hO2⟩
        clear hO
        obtain ⟨B, la, lc, X, da, dc, rfl, hXX, hRR⟩ := hO2
        have hO : OwnS wv31 (.agg #[.slice la X.length lc, .slice da R.ds.length dc, .int .i64 R.fl]) R := ⟨B, la, lc, X, da, dc, rfl, hXX, hRR⟩
        clear hXX hRR
        simp only [anV]
        have hN : (fun w' => Below w1.heap.size w1 w' ∧ Bx10 w' eb 31 (.int .i64 ep) (.int .i64 cl) (.int .i64 id) (.int .i64 ok) (.string os) (.int .i64 ot) (.int .i64 ov) (.int .i64 of) (.int .i64 ou) (.int .i64 om)) wv31 := ⟨below2 hS.1 hb2, hS.2.below hb2⟩
        replace hX := hX.below hb2
        replace hY := hY.below hb2
        refine hK.out _ _ hN ?_
        clear hK hS
        have hS := hN
        clear hN hb2
        try simp only [Act.put, List.setIfInBounds_toArray, List.set_cons_zero, List.set_cons_succ]
        refine held_take (i := 4) (v := .tuple #[.agg #[.slice la X.length lc, .slice da R.ds.length dc, .int .i64 R.fl], .agg #[.int .i64 e0, .bool e1, .int .i64 e2], .int .i64 0]) rfl (by kernel_rfl) (fun _ _ _ h => h) (.inl ⟨rfl, fun w hS => ?_⟩) hS ?_
        · go_simp
        try simp only [Act.put, List.setIfInBounds_toArray, List.set_cons_zero, List.set_cons_succ]
        refine held_take (i := 5) (v := .agg #[.slice la X.length lc, .slice da R.ds.length dc, .int .i64 R.fl]) rfl (by kernel_rfl) (fun _ _ _ h => h) (.inl ⟨rfl, fun w hS => ?_⟩) hS ?_
        · go_simp
        try simp only [Act.put, List.setIfInBounds_toArray, List.set_cons_zero, List.set_cons_succ]
        refine held_take (i := 6) (v := .agg #[.int .i64 e0, .bool e1, .int .i64 e2]) rfl (by kernel_rfl) (fun _ _ _ h => h) (.inl ⟨rfl, fun w hS => ?_⟩) hS ?_
        · go_simp
        try simp only [Act.put, List.setIfInBounds_toArray, List.set_cons_zero, List.set_cons_succ]
        refine held_take (i := 7) (v := .int .i64 0) rfl (by kernel_rfl) (fun _ _ _ h => h) (.inl ⟨rfl, fun w hS => ?_⟩) hS ?_
        · go_simp
        try simp only [Act.put, List.setIfInBounds_toArray, List.set_cons_zero, List.set_cons_succ]
        refine held_one (i := 10) (by kernel_rfl) rfl rfl ?_
        intro K hK
        obtain ⟨c0, c1, c2⟩ := hX.cells
        obtain ⟨f0, f1, f2⟩ := hX.frz
        go_simp
        have hN : (fun w' => Below w1.heap.size w1 w' ∧ Bx10 w' eb 31 (.int .i64 ep) (.int .i64 cl) (.int .i64 id) (.int .i64 ok) (.string os) (.int .i64 ot) (.int .i64 ov) (.int .i64 of) (.int .i64 ou) (.int .i64 om)) (put3 wv31 r7 (.slice la X.length lc) (.slice da R.ds.length dc) (.int .i64 R.fl)) := ⟨put3_below hS.1 hr7 (.slice la X.length lc) (.slice da R.ds.length dc) (.int .i64 R.fl), hS.2.kept (put3_else (b := r7) (.slice la X.length lc) (.slice da R.ds.length dc) (.int .i64 R.fl) (by omega))⟩
        show K _ (put3 wv31 r7 (.slice la X.length lc) (.slice da R.ds.length dc) (.int .i64 R.fl))
        refine hK.out _ _ hN ?_
        clear hK c0 c1 c2 f0 f1 f2
        have hX2 := hX.set (.slice la X.length lc) (.slice da R.ds.length dc) (.int .i64 R.fl)
        have hY2 := hY.kept (put3_else (b := r7) (.slice la X.length lc) (.slice da R.ds.length dc) (.int .i64 R.fl) (fun e => hxy e.symm))
        have hO2 := hO.put hX (by decide) (by decide) (by decide) (.slice la X.length lc) (.slice da R.ds.length dc) (.int .i64 R.fl)
        try simp only [Act.put, List.setIfInBounds_toArray, List.set_cons_zero, List.set_cons_succ]
        generalize (put3 wv31 r7 (.slice la X.length lc) (.slice da R.ds.length dc) (.int .i64 R.fl)) = wp1 at *
        clear hX hY hO hS
        refine held_one (i := 11) (by kernel_rfl) rfl rfl ?_
        intro K hK
        obtain ⟨c0, c1, c2⟩ := hY2.cells
        obtain ⟨f0, f1, f2⟩ := hY2.frz
        go_simp
        have hN2 : (fun w' => Below w1.heap.size w1 w' ∧ Bx10 w' eb 31 (.int .i64 ep) (.int .i64 cl) (.int .i64 id) (.int .i64 ok) (.string os) (.int .i64 ot) (.int .i64 ov) (.int .i64 of) (.int .i64 ou) (.int .i64 om)) (put3 wp1 r8 (.int .i64 e0) (.bool e1) (.int .i64 e2)) := ⟨put3_below hN.1 hr8 (.int .i64 e0) (.bool e1) (.int .i64 e2), hN.2.kept (put3_else (b := r8) (.int .i64 e0) (.bool e1) (.int .i64 e2) (by omega))⟩
        show K _ (put3 wp1 r8 (.int .i64 e0) (.bool e1) (.int .i64 e2))
        refine hK.out _ _ hN2 ?_
        clear hK c0 c1 c2 f0 f1 f2
        have hX3 := hX2.kept (put3_else (b := r8) (.int .i64 e0) (.bool e1) (.int .i64 e2) hxy)
        have hY3 := hY2.set (.int .i64 e0) (.bool e1) (.int .i64 e2)
        have hO3 := hO2.put hY2 (by decide) (by decide) (by decide) (.int .i64 e0) (.bool e1) (.int .i64 e2)
        try simp only [Act.put, List.setIfInBounds_toArray, List.set_cons_zero, List.set_cons_succ]
        generalize put3 wp1 r8 (.int .i64 e0) (.bool e1) (.int .i64 e2) = wp2 at *
        have hS := hN2
        refine held_take (i := 12) (v := .int .i64 0) rfl (by kernel_rfl) (fun _ _ _ h => h) (.inl ⟨rfl, fun w hS => ?_⟩) hS ?_
        · go_simp
        try simp only [Act.put, List.setIfInBounds_toArray, List.set_cons_zero, List.set_cons_succ]
        refine wpAnyH_done (by kernel_rfl) ?_ _
        refine NoPanic.normal ?_
        exact hQ.out _ _ _ _ _ _ _ _ r7 r8 _ _ _ _ _ _ hr7 hr8 hxy hS.1 hX3 hY3 hO3
    · intro K hK
      go_simp
      have hb2 := below_alloc wv26 (.cells #[.slice none 0 0, .slice none 0 0, .int .i64 0] 25)
      have hX := Bx3.new wv26 25 (.slice none 0 0) (.slice none 0 0) (.int .i64 0)
      have hr7 : w1.heap.size ≤ wv26.heap.size := hS.1.size
      have hxy : wv26.heap.size ≠ r8 := fun e => by have := hY.lt; omega
      generalize wv26.alloc (.cells #[.slice none 0 0, .slice none 0 0, .int .i64 0] 25) = wv32 at *
      have hN : (fun w' => Below w1.heap.size w1 w' ∧ Bx10 w' eb 31 (.int .i64 ep) (.int .i64 cl) (.int .i64 id) (.int .i64 ok) (.string os) (.int .i64 ot) (.int .i64 ov) (.int .i64 of) (.int .i64 ou) (.int .i64 om)) wv32 := ⟨below2 hS.1 hb2, hS.2.below hb2⟩
      replace hY := hY.below hb2
      refine hK.out _ _ hN ?_
      clear hK hS
      have hS := hN
      clear hN hb2
      generalize wv26.heap.size = r7 at *
      try simp only [Act.put, List.setIfInBounds_toArray, List.set_cons_zero, List.set_cons_succ]
      refine held_one (i := 1) (by kernel_rfl) rfl rfl ?_
      intro K hK
      go_simp
      go_at_call 21
      refine (HP1.out _ hS.1).mono ?_
      rintro e wv33 ⟨hb2, v, rfl, hO⟩
      have hN : (fun w' => Below w1.heap.size w1 w' ∧ Bx10 w' eb 31 (.int .i64 ep) (.int .i64 cl) (.int .i64 id) (.int .i64 ok) (.string os) (.int .i64 ot) (.int .i64 ov) (.int .i64 of) (.int .i64 ou) (.int .i64 om)) wv33 := ⟨below2 hS.1 hb2, hS.2.below hb2⟩
      replace hX := hX.below hb2
      replace hY := hY.below hb2
      refine hK.out _ _ hN ?_
      clear hK hS
      have hS := hN
      clear hN hb2
      try simp only [Act.put, List.setIfInBounds_toArray, List.set_cons_zero, List.set_cons_succ]
      refine held_one (i := 3) (by kernel_rfl) rfl rfl ?_
      intro K hK
      go_simp
      go_at_call 10
      refine (HP2.out _ v hO).mono ?_
      rintro e wv34 ⟨hb2, v2, rfl, hO2⟩
      clear hO
      obtain ⟨B, la, lc, X, da, dc, rfl, hXX, hRR⟩ := hO2
      have hO : OwnS wv34 (.agg #[.slice la X.length lc, .slice da R.ds.length dc, .int .i64 R.fl]) R := ⟨B, la, lc, X, da, dc, rfl, hXX, hRR⟩
      clear hXX hRR
      simp only [anV]
      have hN : (fun w' => Below w1.heap.size w1 w' ∧ Bx10 w' eb 31 (.int .i64 ep) (.int .i64 cl) (.int .i64 id) (.int .i64 ok) (.string os) (.int .i64 ot) (.int .i64 ov) (.int .i64 of) (.int .i64 ou) (.int .i64 om)) wv34 := ⟨below2 hS.1 hb2, hS.2.below hb2⟩
      replace hX := hX.below hb2
      replace hY := hY.below hb2
      refine hK.out _ _ hN ?_
      clear hK hS
      have hS := hN
      clear hN hb2
      try simp only [Act.put, List.setIfInBounds_toArray, List.set_cons_zero, List.set_cons_succ]
      refine held_take (i := 4) (v := .tuple #[.agg #[.slice la X.length lc, .slice da R.ds.length dc, .int .i64 R.fl], .agg #[.int .i64 e0, .bool e1, .int .i64 e2], .int .i64 0]) rfl (by kernel_rfl) (fun _ _ _ h => h) (.inl ⟨rfl, fun w hS => ?_⟩) hS ?_
      · go_simp
      try simp only [Act.put, List.setIfInBounds_toArray, List.set_cons_zero, List.set_cons_succ]
      refine held_take (i := 5) (v := .agg #[.slice la X.length lc, .slice da R.ds.length dc, .int .i64 R.fl]) rfl (by kernel_rfl) (fun _ _ _ h => h) (.inl ⟨rfl, fun w hS => ?_⟩) hS ?_
      · go_simp
      try simp only [Act.put, List.setIfInBounds_toArray, List.set_cons_zero, List.set_cons_succ]
      refine held_take (i := 6) (v := .agg #[.int .i64 e0, .bool e1, .int .i64 e2]) rfl (by kernel_rfl) (fun _ _ _ h => h) (.inl ⟨rfl, fun w hS => ?_⟩) hS ?_
      · go_simp
      try simp only [Act.put, List.setIfInBounds_toArray, List.set_cons_zero, List.set_cons_succ]
      refine held_take (i := 7) (v := .int .i64 0) rfl (by kernel_rfl) (fun _ _ _ h => h) (.inl ⟨rfl, fun w hS => ?_⟩) hS ?_
      · go_simp
      try simp only [Act.put, List.setIfInBounds_toArray, List.set_cons_zero, List.set_cons_succ]
      refine held_one (i := 10) (by kernel_rfl) rfl rfl ?_
      intro K hK
      obtain ⟨c0, c1, c2⟩ := hX.cells
      obtain ⟨f0, f1, f2⟩ := hX.frz
      go_simp
      have hN : (fun w' => Below w1.heap.size w1 w' ∧ Bx10 w' eb 31 (.int .i64 ep) (.int .i64 cl) (.int .i64 id) (.int .i64 ok) (.string os) (.int .i64 ot) (.int .i64 ov) (.int .i64 of) (.int .i64 ou) (.int .i64 om)) (put3 wv34 r7 (.slice la X.length lc) (.slice da R.ds.length dc) (.int .i64 R.fl)) := ⟨put3_below hS.1 hr7 (.slice la X.length lc) (.slice da R.ds.length dc) (.int .i64 R.fl), hS.2.kept (put3_else (b := r7) (.slice la X.length lc) (.slice da R.ds.length dc) (.int .i64 R.fl) (by omega))⟩
      show K _ (put3 wv34 r7 (.slice la X.length lc) (.slice da R.ds.length dc) (.int .i64 R.fl))
      refine hK.out _ _ hN ?_
      clear hK c0 c1 c2 f0 f1 f2
      have hX2 := hX.set (.slice la X.length lc) (.slice da R.ds.length dc) (.int .i64 R.fl)
      have hY2 := hY.kept (put3_else (b := r7) (.slice la X.length lc) (.slice da R.ds.length dc) (.int .i64 R.fl) (fun e => hxy e.symm))
      have hO2 := hO.put hX (by decide) (by decide) (by decide) (.slice la X.length lc) (.slice da R.ds.length dc) (.int .i64 R.fl)
      try simp only [Act.put, List.setIfInBounds_toArray, List.set_cons_zero, List.set_cons_succ]
      generalize (put3 wv34 r7 (.slice la X.length lc) (.slice da R.ds.length dc) (.int .i64 R.fl)) = wp1 at *
      clear hX hY hO hS
      refine held_one (i := 11) (by kernel_rfl) rfl rfl ?_
      intro K hK
      obtain ⟨c0, c1, c2⟩ := hY2.cells
      obtain ⟨f0, f1, f2⟩ := hY2.frz
      go_simp
      have hN2 : (fun w' => Below w1.heap.size w1 w' ∧ Bx10 w' eb 31 (.int .i64 ep) (.int .i64 cl) (.int .i64 id) (.int .i64 ok) (.string os) (.int .i64 ot) (.int .i64 ov) (.int .i64 of) (.int .i64 ou) (.int .i64 om)) (put3 wp1 r8 (.int .i64 e0) (.bool e1) (.int .i64 e2)) := ⟨put3_below hN.1 hr8 (.int .i64 e0) (.bool e1) (.int .i64 e2), hN.2.kept (put3_else (b := r8) (.int .i64 e0) (.bool e1) (.int .i64 e2) (by omega))⟩
      show K _ (put3 wp1 r8 (.int .i64 e0) (.bool e1) (.int .i64 e2))
      refine hK.out _ _ hN2 ?_
      clear hK c0 c1 c2 f0 f1 f2
      have hX3 := hX2.kept (put3_else (b := r8) (.int .i64 e0) (.bool e1) (.int .i64 e2) hxy)
      have hY3 := hY2.set (.int .i64 e0) (.bool e1) (.int .i64 e2)
      have hO3 := hO2.put hY2 (by decide) (by decide) (by decide) (.int .i64 e0) (.bool e1) (.int .i64 e2)
      try simp only [Act.put, List.setIfInBounds_toArray, List.set_cons_zero, List.set_cons_succ]
      generalize put3 wp1 r8 (.int .i64 e0) (.bool e1) (.int .i64 e2) = wp2 at *
      have hS := hN2
      refine held_take (i := 12) (v := .int .i64 0) rfl (by kernel_rfl) (fun _ _ _ h => h) (.inl ⟨rfl, fun w hS => ?_⟩) hS ?_
      · go_simp
      try simp only [Act.put, List.setIfInBounds_toArray, List.set_cons_zero, List.set_cons_succ]
      refine wpAnyH_done (by kernel_rfl) ?_ _
      refine NoPanic.normal ?_
      exact hQ.out _ _ _ _ _ _ _ _ r7 r8 _ _ _ _ _ _ hr7 hr8 hxy hS.1 hX3 hY3 hO3
end Go.Proofs.YtihohcmocejijaaGreat.Bk
