/-
  ShelfOnce's drawn region 12: an entry of a list is done, or refused; what is told is laid into new boxes.
-/
import Derived.Test.YtihohcmocejijaaGreatPr37
namespace Go.Proofs.YtihohcmocejijaaGreat.Bk
open Go.ChangeShapes Go.WideShapes Go.ChangeAt Go.RowKit
def OwnO (b : Bool) (w : World) (v : Value) (s : Shf) : Prop := b = true → OwnS w v s
theorem OwnO.below {b : Bool} {w w' : World} {v : Value} {s : Shf} (h : OwnO b w v s) (hb : Below w.heap.size w w') : OwnO b w' v s := fun e => (h e).below hb
theorem OwnO.put {b : Bool} {w : World} {v : Value} {s : Shf} {r T : Nat} {v0 v1 v2 : Value} (h : OwnO b w v s) (hb : Bx3 w r T v0 v1 v2) (h1 : 55 ≠ T) (h2 : 51 ≠ T) (h3 : T ≠ 27) (u0 u1 u2 : Value) : OwnO b (put3 w r u0 u1 u2) v s := fun e => (h e).put hb h1 h2 h3 u0 u1 u2
def DoB (b : Bool) (ec : Int) (s : Shf) (w : World) (x : Ending) (w' : World) : Prop := Below w.heap.size w w' ∧ ∃ (la : Option Addr) (ln lc : Nat) (da : Option Addr) (dn dc : Nat) (fl e0 : Int) (e1 : Bool) (e2 : Int), x = .returned (.tuple #[.agg #[.slice la ln lc, .slice da dn dc, .int .i64 fl], .agg #[.int .i64 e0, .bool e1, .int .i64 e2], .int .i64 ec]) ∧ OwnO b w' (.agg #[.slice la ln lc, .slice da dn dc, .int .i64 fl]) s
theorem doB_yes {r : Shf × An} {w : World} {x : Ending} {w' : World} (h : DoYes r w x w') : DoB true 0 r.1 w x w' := by
  obtain ⟨hb, v, rfl, hO⟩ := h
  have hO' := hO
  obtain ⟨B, la, lc, X, da, dc, rfl, hX, hR⟩ := hO
  exact ⟨hb, _, _, _, _, _, _, _, _, _, _, rfl, fun _ => hO'⟩
theorem doB_no {s : Shf} {w : World} {x : Ending} {w' : World} (h : DoNo w x w') : DoB false 1 s w x w' := by
  obtain ⟨hb, rfl⟩ := h
  exact ⟨hb, _, _, _, _, _, _, _, _, _, _, rfl, fun e => by cases e⟩
theorem EnCells.keep {w w' : World} {b o : Nat} {e : Ent} (h : EnCells w b o e) (hb : w'.heap[b]? = w.heap[b]?) : EnCells w' b o e := by
  have key : ∀ j, w'.cell? ⟨b, j, none⟩ = w.cell? ⟨b, j, none⟩ := fun j => by unfold World.cell?; rw [show w'.heap[(⟨b, j, none⟩ : Addr).block]? = _ from hb]
  unfold EnCells at *
  simp only [key]
  exact h
set_option maxHeartbeats 4000000 in
set_option maxRecDepth 60000 in
theorem on_12 (t0 t1 t3 t4 t5 t6 t8 t9 t11 t12 t13 t14 t15 t16 t17 t18 t19 t20 t21 t22 t23 t24 t25 t26 t27 t28 t29 t30 t31 t32 t33 t34 t35 t36 t37 t38 t39 t40 t41 t42 t43 t44 t45 t46 t47 t48 t49 t50 t51 t52 t53 t54 t55 t56 t57 t58 t59 t60 t61 t62 t63 t64 t65 t66 t67 t68 t69 t70 t71 t72 t73 t74 t75 t76 t77 t78 t79 t80 t81 t82 t83 t84 t85 t86 t87 t88 t89 t90 t91 t92 t93 t94 t95 t96 t97 t98 t99 t100 t101 t102 t103 t104 t105 t106 t107 t108 t109 t110 t111 t112 t113 t114 t115 t116 t117 t118 t119 t120 t121 t122 t123 t124 t125 t126 t127 t128 t129 t130 t131 t132 t133 t134 t135 t136 t137 t138 t139 : Value) (b off len cap i rb : Nat) (y0 y1 y2 : Value) (ep cl id ok ot ov of ou om : Int) (os : ByteArray) (R : Shf) (yes : Bool) (ec : Int) (w1 : World) (Q : Exit → Act → World → Prop)
    (hbx : Bx3 w1 rb 25 y0 y1 y2) (hen : EnCells w1 b (off + i * 10) ⟨ep, cl, id, ⟨ok, os, ot, ov, of, ou, om⟩⟩) (hi : (i : Int) < (len : Int)) (_hlen : (len : Int) ≤ 80) (HP2 : Hid (∀ W, Below w1.heap.size w1 W → Calls Tryz.prog 10 #[.agg #[y0, y1, y2], .agg #[.int .i64 ep, .int .i64 cl, .int .i64 id, .int .i64 ok, .string os, .int .i64 ot, .int .i64 ov, .int .i64 of, .int .i64 ou, .int .i64 om]] W fun x w' => DoB yes ec R W x w'))
    (hQ : Hid (∀ (u82 u83 u84 u85 u86 u87 u88 u89 u90 u91 : Value) (r7 r8 : Nat) (la : Option Addr) (ln lc : Nat) (da : Option Addr) (dn dc : Nat) (fl e0 : Int) (e1 : Bool) (e2 : Int) (wC : World), w1.heap.size ≤ r7 → w1.heap.size ≤ r8 → r7 ≠ r8 → Below w1.heap.size w1 wC → Bx3 wC r7 25 (.slice la ln lc) (.slice da dn dc) (.int .i64 fl) → Bx3 wC r8 37 (.int .i64 e0) (.bool e1) (.int .i64 e2) → OwnO yes wC (.agg #[.slice la ln lc, .slice da dn dc, .int .i64 fl]) R → Q .normal ⟨#[t0, t1, .slice (some ⟨b, off, none⟩) len cap, t3, t4, t5, t6, .pointer (some ⟨rb, 0, none⟩), t8, t9, .int .i64 (i : Int), .pointer (some ⟨r7, 0, none⟩), .pointer (some ⟨r8, 0, none⟩), .int .i64 ec, t14, t15, t16, t17, t18, t19, t20, t21, t22, t23, t24, t25, t26, t27, t28, t29, t30, t31, t32, t33, t34, t35, t36, t37, t38, t39, t40, t41, t42, t43, t44, t45, t46, t47, t48, t49, t50, t51, t52, t53, t54, t55, t56, t57, t58, t59, t60, t61, t62, t63, t64, t65, t66, t67, t68, t69, t70, t71, t72, t73, t74, t75, t76, t77, t78, t79, t80, t81, u82, u83, u84, u85, u86, u87, u88, u89, u90, u91, t92, t93, t94, t95, t96, t97, t98, t99, t100, t101, t102, t103, t104, t105, t106, t107, t108, t109, t110, t111, t112, t113, t114, t115, t116, t117, t118, t119, t120, t121, t122, t123, t124, t125, t126, t127, t128, t129, t130, t131, t132, t133, t134, t135, t136, t137, t138, t139], []⟩ wC)) :
    Code.wp Tryz.prog ((Tryz.f5.body.bind (regionOf 12)).getD .skip) Q ⟨#[t0, t1, .slice (some ⟨b, off, none⟩) len cap, t3, t4, t5, t6, .pointer (some ⟨rb, 0, none⟩), t8, t9, .int .i64 (i : Int), t11, t12, t13, t14, t15, t16, t17, t18, t19, t20, t21, t22, t23, t24, t25, t26, t27, t28, t29, t30, t31, t32, t33, t34, t35, t36, t37, t38, t39, t40, t41, t42, t43, t44, t45, t46, t47, t48, t49, t50, t51, t52, t53, t54, t55, t56, t57, t58, t59, t60, t61, t62, t63, t64, t65, t66, t67, t68, t69, t70, t71, t72, t73, t74, t75, t76, t77, t78, t79, t80, t81, t82, t83, t84, t85, t86, t87, t88, t89, t90, t91, t92, t93, t94, t95, t96, t97, t98, t99, t100, t101, t102, t103, t104, t105, t106, t107, t108, t109, t110, t111, t112, t113, t114, t115, t116, t117, t118, t119, t120, t121, t122, t123, t124, t125, t126, t127, t128, t129, t130, t131, t132, t133, t134, t135, t136, t137, t138, t139], []⟩ w1 := by
  have hS : (fun w' => Below w1.heap.size w1 w' ∧ Bx3 w' rb 25 y0 y1 y2 ∧ EnCells w' b (off + i * 10) ⟨ep, cl, id, ⟨ok, os, ot, ov, of, ou, om⟩⟩) w1.drew := ⟨below_drew _, hbx, hen⟩
  conv => arg 2; whnf
  refine held_start (S := fun w' => Below w1.heap.size w1 w' ∧ Bx3 w' rb 25 y0 y1 y2 ∧ EnCells w' b (off + i * 10) ⟨ep, cl, id, ⟨ok, os, ot, ov, of, ou, om⟩⟩) mixed9 ?_
  have HLT : rb < w1.heap.size := hbx.lt
  have HLB : b < w1.heap.size := World.block_lt_of_cell? w1 ⟨b, off + i * 10, none⟩ hen.1
  clear hbx hen
  generalize w1.drew = wz at *
  refine held_take (i := 0) (v := .agg #[y0, y1, y2]) rfl (by kernel_rfl) (fun _ _ _ h => h) (.inl ⟨rfl, fun w hS => ?_⟩) hS ?_
  · obtain ⟨-, q, -⟩ := hS
    obtain ⟨c0, c1, c2⟩ := q.cells
    go_simp
  try simp only [Act.put, List.setIfInBounds_toArray, List.set_cons_zero, List.set_cons_succ]
  refine held_take (i := 1) (v := .slice (some ⟨b, off, none⟩) len cap) rfl (by kernel_rfl) (fun _ _ _ h => h) (.inl ⟨rfl, fun w hS => ?_⟩) hS ?_
  · go_simp
  try simp only [Act.put, List.setIfInBounds_toArray, List.set_cons_zero, List.set_cons_succ]
  refine held_take (i := 2) (v := .int .i64 (i : Int)) rfl (by kernel_rfl) (fun _ _ _ h => h) (.inl ⟨rfl, fun w hS => ?_⟩) hS ?_
  · go_simp
  try simp only [Act.put, List.setIfInBounds_toArray, List.set_cons_zero, List.set_cons_succ]
  refine held_take (i := 3) (v := .pointer (some ⟨b, off + i * 10, none⟩)) rfl (by kernel_rfl) (fun _ _ _ h => h) (.inl ⟨rfl, fun w hS => ?_⟩) hS ?_
  · go_simp
  try simp only [Act.put, List.setIfInBounds_toArray, List.set_cons_zero, List.set_cons_succ]
  refine held_take (i := 4) (v := .agg #[.int .i64 ep, .int .i64 cl, .int .i64 id, .int .i64 ok, .string os, .int .i64 ot, .int .i64 ov, .int .i64 of, .int .i64 ou, .int .i64 om]) rfl (by kernel_rfl) (fun _ _ _ h => h) (.inl ⟨rfl, fun w hS => ?_⟩) hS ?_
  · obtain ⟨-, -, q⟩ := hS
    obtain ⟨c0, c1, c2, c3, c4, c5, c6, c7, c8, c9⟩ := q
    simp only at c0 c1 c2 c3 c4 c5 c6 c7 c8 c9
    go_simp
  try simp only [Act.put, List.setIfInBounds_toArray, List.set_cons_zero, List.set_cons_succ]
  refine held_three (i := 5) (j := 10) (k := 11) (by kernel_rfl) rfl rfl rfl rfl rfl rfl ?_ ?_ ?_
  · intro K hK
    go_simp
    go_at_call 10
    refine (HP2.out _ hS.1).mono ?_
    rintro e wv1 ⟨hb2, la, ln, lc, da, dn, dc, fl, e0, e1, e2, rfl, hO⟩
    have hN : (fun w' => Below w1.heap.size w1 w' ∧ Bx3 w' rb 25 y0 y1 y2 ∧ EnCells w' b (off + i * 10) ⟨ep, cl, id, ⟨ok, os, ot, ov, of, ou, om⟩⟩) wv1 := ⟨below2 hS.1 hb2, hS.2.1.below hb2, hS.2.2.below hb2⟩
    refine hK.out _ _ hN ?_
    clear hK hS
    have hS := hN
    clear hN hb2
    try simp only [Act.put, List.setIfInBounds_toArray, List.set_cons_zero, List.set_cons_succ]
    refine held_take (i := 6) (v := .tuple #[.agg #[.slice la ln lc, .slice da dn dc, .int .i64 fl], .agg #[.int .i64 e0, .bool e1, .int .i64 e2], .int .i64 ec]) rfl (by kernel_rfl) (fun _ _ _ h => h) (.inl ⟨rfl, fun w hS => ?_⟩) hS ?_
    · go_simp
    try simp only [Act.put, List.setIfInBounds_toArray, List.set_cons_zero, List.set_cons_succ]
    refine held_take (i := 7) (v := .agg #[.slice la ln lc, .slice da dn dc, .int .i64 fl]) rfl (by kernel_rfl) (fun _ _ _ h => h) (.inl ⟨rfl, fun w hS => ?_⟩) hS ?_
    · go_simp
    try simp only [Act.put, List.setIfInBounds_toArray, List.set_cons_zero, List.set_cons_succ]
    refine held_take (i := 8) (v := .agg #[.int .i64 e0, .bool e1, .int .i64 e2]) rfl (by kernel_rfl) (fun _ _ _ h => h) (.inl ⟨rfl, fun w hS => ?_⟩) hS ?_
    · go_simp
    try simp only [Act.put, List.setIfInBounds_toArray, List.set_cons_zero, List.set_cons_succ]
    refine held_take (i := 9) (v := .int .i64 ec) rfl (by kernel_rfl) (fun _ _ _ h => h) (.inl ⟨rfl, fun w hS => ?_⟩) hS ?_
    · go_simp
    try simp only [Act.put, List.setIfInBounds_toArray, List.set_cons_zero, List.set_cons_succ]
    refine held_two (i := 10) (j := 11) (by kernel_rfl) rfl rfl rfl rfl ?_ ?_
    · intro K hK
      go_simp
      have hb2 := below_alloc wv1 (.cells #[.slice none 0 0, .slice none 0 0, .int .i64 0] 25)
      have hX := Bx3.new wv1 25 (.slice none 0 0) (.slice none 0 0) (.int .i64 0)
      have hr7 : w1.heap.size ≤ wv1.heap.size := hS.1.size
      generalize wv1.alloc (.cells #[.slice none 0 0, .slice none 0 0, .int .i64 0] 25) = wv2 at *
      have hN : (fun w' => Below w1.heap.size w1 w' ∧ Bx3 w' rb 25 y0 y1 y2 ∧ EnCells w' b (off + i * 10) ⟨ep, cl, id, ⟨ok, os, ot, ov, of, ou, om⟩⟩) wv2 := ⟨below2 hS.1 hb2, hS.2.1.below hb2, hS.2.2.below hb2⟩
      replace hO := hO.below hb2
      refine hK.out _ _ hN ?_
      clear hK hS
      have hS := hN
      clear hN hb2
      generalize wv1.heap.size = r7 at *
      try simp only [Act.put, List.setIfInBounds_toArray, List.set_cons_zero, List.set_cons_succ]
      refine held_one (i := 11) (by kernel_rfl) rfl rfl ?_
      intro K hK
      go_simp
      have hb2 := below_alloc wv2 (.cells #[.int .i64 0, .bool false, .int .i64 0] 37)
      have hY := Bx3.new wv2 37 (.int .i64 0) (.bool false) (.int .i64 0)
      have hr8 : w1.heap.size ≤ wv2.heap.size := hS.1.size
      have hxy : r7 ≠ wv2.heap.size := fun e => by have := hX.lt; omega
      generalize wv2.alloc (.cells #[.int .i64 0, .bool false, .int .i64 0] 37) = wv3 at *
      have hN : (fun w' => Below w1.heap.size w1 w' ∧ Bx3 w' rb 25 y0 y1 y2 ∧ EnCells w' b (off + i * 10) ⟨ep, cl, id, ⟨ok, os, ot, ov, of, ou, om⟩⟩) wv3 := ⟨below2 hS.1 hb2, hS.2.1.below hb2, hS.2.2.below hb2⟩
      replace hX := hX.below hb2
      replace hO := hO.below hb2
      refine hK.out _ _ hN ?_
      clear hK hS
      have hS := hN
      clear hN hb2
      generalize wv2.heap.size = r8 at *
      try simp only [Act.put, List.setIfInBounds_toArray, List.set_cons_zero, List.set_cons_succ]
      refine held_one (i := 12) (by kernel_rfl) rfl rfl ?_
      intro K hK
      obtain ⟨c0, c1, c2⟩ := hX.cells
      obtain ⟨f0, f1, f2⟩ := hX.frz
      go_simp
      have hN : (fun w' => Below w1.heap.size w1 w' ∧ Bx3 w' rb 25 y0 y1 y2 ∧ EnCells w' b (off + i * 10) ⟨ep, cl, id, ⟨ok, os, ot, ov, of, ou, om⟩⟩) (put3 wv3 r7 (.slice la ln lc) (.slice da dn dc) (.int .i64 fl)) := ⟨put3_below hS.1 hr7 (.slice la ln lc) (.slice da dn dc) (.int .i64 fl), hS.2.1.kept (put3_else (b := r7) (.slice la ln lc) (.slice da dn dc) (.int .i64 fl) (by have := HLT; omega)), EnCells.keep hS.2.2 (put3_else (b := r7) (.slice la ln lc) (.slice da dn dc) (.int .i64 fl) (by have := HLB; omega))⟩
      show K _ (put3 wv3 r7 (.slice la ln lc) (.slice da dn dc) (.int .i64 fl))
      refine hK.out _ _ hN ?_
      clear hK c0 c1 c2 f0 f1 f2
      have hX2 := hX.set (.slice la ln lc) (.slice da dn dc) (.int .i64 fl)
      have hY2 := hY.kept (put3_else (b := r7) (.slice la ln lc) (.slice da dn dc) (.int .i64 fl) (fun e => hxy e.symm))
      have hO2 := hO.put hX (by decide) (by decide) (by decide) (.slice la ln lc) (.slice da dn dc) (.int .i64 fl)
      try simp only [Act.put, List.setIfInBounds_toArray, List.set_cons_zero, List.set_cons_succ]
      generalize (put3 wv3 r7 (.slice la ln lc) (.slice da dn dc) (.int .i64 fl)) = wp1 at *
      clear hX hY hO hS
      refine held_one (i := 13) (by kernel_rfl) rfl rfl ?_
      intro K hK
      obtain ⟨c0, c1, c2⟩ := hY2.cells
      obtain ⟨f0, f1, f2⟩ := hY2.frz
      go_simp
      have hN2 : (fun w' => Below w1.heap.size w1 w' ∧ Bx3 w' rb 25 y0 y1 y2 ∧ EnCells w' b (off + i * 10) ⟨ep, cl, id, ⟨ok, os, ot, ov, of, ou, om⟩⟩) (put3 wp1 r8 (.int .i64 e0) (.bool e1) (.int .i64 e2)) := ⟨put3_below hN.1 hr8 (.int .i64 e0) (.bool e1) (.int .i64 e2), hN.2.1.kept (put3_else (b := r8) (.int .i64 e0) (.bool e1) (.int .i64 e2) (by have := HLT; omega)), EnCells.keep hN.2.2 (put3_else (b := r8) (.int .i64 e0) (.bool e1) (.int .i64 e2) (by have := HLB; omega))⟩
      show K _ (put3 wp1 r8 (.int .i64 e0) (.bool e1) (.int .i64 e2))
      refine hK.out _ _ hN2 ?_
      clear hK c0 c1 c2 f0 f1 f2
      have hX3 := hX2.kept (put3_else (b := r8) (.int .i64 e0) (.bool e1) (.int .i64 e2) hxy)
      have hY3 := hY2.set (.int .i64 e0) (.bool e1) (.int .i64 e2)
      have hO3 := hO2.put hY2 (by decide) (by decide) (by decide) (.int .i64 e0) (.bool e1) (.int .i64 e2)
      try simp only [Act.put, List.setIfInBounds_toArray, List.set_cons_zero, List.set_cons_succ]
      generalize put3 wp1 r8 (.int .i64 e0) (.bool e1) (.int .i64 e2) = wp2 at *
      have hS := hN2
      refine held_take (i := 14) (v := .int .i64 ec) rfl (by kernel_rfl) (fun _ _ _ h => h) (.inl ⟨rfl, fun w hS => ?_⟩) hS ?_
      · go_simp
      try simp only [Act.put, List.setIfInBounds_toArray, List.set_cons_zero, List.set_cons_succ]
      refine wpAnyH_done (by kernel_rfl) ?_ _
      refine NoPanic.normal ?_
      exact hQ.out _ _ _ _ _ _ _ _ _ _ r7 r8 _ _ _ _ _ _ _ _ _ _ _ hr7 hr8 hxy hS.1 hX3 hY3 hO3
    · intro K hK
      go_simp
      have hb2 := below_alloc wv1 (.cells #[.int .i64 0, .bool false, .int .i64 0] 37)
      have hY := Bx3.new wv1 37 (.int .i64 0) (.bool false) (.int .i64 0)
      have hr8 : w1.heap.size ≤ wv1.heap.size := hS.1.size
      generalize wv1.alloc (.cells #[.int .i64 0, .bool false, .int .i64 0] 37) = wv4 at *
      have hN : (fun w' => Below w1.heap.size w1 w' ∧ Bx3 w' rb 25 y0 y1 y2 ∧ EnCells w' b (off + i * 10) ⟨ep, cl, id, ⟨ok, os, ot, ov, of, ou, om⟩⟩) wv4 := ⟨below2 hS.1 hb2, hS.2.1.below hb2, hS.2.2.below hb2⟩
      replace hO := hO.below hb2
      refine hK.out _ _ hN ?_
      clear hK hS
      have hS := hN
      clear hN hb2
      generalize wv1.heap.size = r8 at *
      try simp only [Act.put, List.setIfInBounds_toArray, List.set_cons_zero, List.set_cons_succ]
      refine held_one (i := 10) (by kernel_rfl) rfl rfl ?_
      intro K hK
      go_simp
      have hb2 := below_alloc wv4 (.cells #[.slice none 0 0, .slice none 0 0, .int .i64 0] 25)
      have hX := Bx3.new wv4 25 (.slice none 0 0) (.slice none 0 0) (.int .i64 0)
      have hr7 : w1.heap.size ≤ wv4.heap.size := hS.1.size
      have hxy : wv4.heap.size ≠ r8 := fun e => by have := hY.lt; omega
      generalize wv4.alloc (.cells #[.slice none 0 0, .slice none 0 0, .int .i64 0] 25) = wv5 at *
      have hN : (fun w' => Below w1.heap.size w1 w' ∧ Bx3 w' rb 25 y0 y1 y2 ∧ EnCells w' b (off + i * 10) ⟨ep, cl, id, ⟨ok, os, ot, ov, of, ou, om⟩⟩) wv5 := ⟨below2 hS.1 hb2, hS.2.1.below hb2, hS.2.2.below hb2⟩
      replace hY := hY.below hb2
      replace hO := hO.below hb2
      refine hK.out _ _ hN ?_
      clear hK hS
      have hS := hN
      clear hN hb2
      generalize wv4.heap.size = r7 at *
      try simp only [Act.put, List.setIfInBounds_toArray, List.set_cons_zero, List.set_cons_succ]
      refine held_one (i := 12) (by kernel_rfl) rfl rfl ?_
      intro K hK
      obtain ⟨c0, c1, c2⟩ := hX.cells
      obtain ⟨f0, f1, f2⟩ := hX.frz
      go_simp
      have hN : (fun w' => Below w1.heap.size w1 w' ∧ Bx3 w' rb 25 y0 y1 y2 ∧ EnCells w' b (off + i * 10) ⟨ep, cl, id, ⟨ok, os, ot, ov, of, ou, om⟩⟩) (put3 wv5 r7 (.slice la ln lc) (.slice da dn dc) (.int .i64 fl)) := ⟨put3_below hS.1 hr7 (.slice la ln lc) (.slice da dn dc) (.int .i64 fl), hS.2.1.kept (put3_else (b := r7) (.slice la ln lc) (.slice da dn dc) (.int .i64 fl) (by have := HLT; omega)), EnCells.keep hS.2.2 (put3_else (b := r7) (.slice la ln lc) (.slice da dn dc) (.int .i64 fl) (by have := HLB; omega))⟩
      show K _ (put3 wv5 r7 (.slice la ln lc) (.slice da dn dc) (.int .i64 fl))
      refine hK.out _ _ hN ?_
      clear hK c0 c1 c2 f0 f1 f2
      have hX2 := hX.set (.slice la ln lc) (.slice da dn dc) (.int .i64 fl)
      have hY2 := hY.kept (put3_else (b := r7) (.slice la ln lc) (.slice da dn dc) (.int .i64 fl) (fun e => hxy e.symm))
      have hO2 := hO.put hX (by decide) (by decide) (by decide) (.slice la ln lc) (.slice da dn dc) (.int .i64 fl)
      try simp only [Act.put, List.setIfInBounds_toArray, List.set_cons_zero, List.set_cons_succ]
      generalize (put3 wv5 r7 (.slice la ln lc) (.slice da dn dc) (.int .i64 fl)) = wp1 at *
      clear hX hY hO hS
      refine held_one (i := 13) (by kernel_rfl) rfl rfl ?_
      intro K hK
      obtain ⟨c0, c1, c2⟩ := hY2.cells
      obtain ⟨f0, f1, f2⟩ := hY2.frz
      go_simp
      have hN2 : (fun w' => Below w1.heap.size w1 w' ∧ Bx3 w' rb 25 y0 y1 y2 ∧ EnCells w' b (off + i * 10) ⟨ep, cl, id, ⟨ok, os, ot, ov, of, ou, om⟩⟩) (put3 wp1 r8 (.int .i64 e0) (.bool e1) (.int .i64 e2)) := ⟨put3_below hN.1 hr8 (.int .i64 e0) (.bool e1) (.int .i64 e2), hN.2.1.kept (put3_else (b := r8) (.int .i64 e0) (.bool e1) (.int .i64 e2) (by have := HLT; omega)), EnCells.keep hN.2.2 (put3_else (b := r8) (.int .i64 e0) (.bool e1) (.int .i64 e2) (by have := HLB; omega))⟩
      show K _ (put3 wp1 r8 (.int .i64 e0) (.bool e1) (.int .i64 e2))
      refine hK.out _ _ hN2 ?_
      clear hK c0 c1 c2 f0 f1 f2
      have hX3 := hX2.kept (put3_else (b := r8) (.int .i64 e0) (.bool e1) (.int .i64 e2) hxy)
      have hY3 := hY2.set (.int .i64 e0) (.bool e1) (.int .i64 e2)
      have hO3 := hO2.put hY2 (by decide) (by decide) (by decide) (.int .i64 e0) (.bool e1) (.int .i64 e2)
      try simp only [Act.put, List.setIfInBounds_toArray, List.set_cons_zero, List.set_cons_succ]
      generalize put3 wp1 r8 (.int .i64 e0) (.bool e1) (.int .i64 e2) = wp2 at *
      have hS := hN2
      refine held_take (i := 14) (v := .int .i64 ec) rfl (by kernel_rfl) (fun _ _ _ h => h) (.inl ⟨rfl, fun w hS => ?_⟩) hS ?_
      · go_simp
      try simp only [Act.put, List.setIfInBounds_toArray, List.set_cons_zero, List.set_cons_succ]
      refine wpAnyH_done (by kernel_rfl) ?_ _
      refine NoPanic.normal ?_
      exact hQ.out _ _ _ _ _ _ _ _ _ _ r7 r8 _ _ _ _ _ _ _ _ _ _ _ hr7 hr8 hxy hS.1 hX3 hY3 hO3
  · intro K hK
    go_simp
    have hb2 := below_alloc wz (.cells #[.slice none 0 0, .slice none 0 0, .int .i64 0] 25)
    have hX := Bx3.new wz 25 (.slice none 0 0) (.slice none 0 0) (.int .i64 0)
    have hr7 : w1.heap.size ≤ wz.heap.size := hS.1.size
    generalize wz.alloc (.cells #[.slice none 0 0, .slice none 0 0, .int .i64 0] 25) = wv6 at *
    have hN : (fun w' => Below w1.heap.size w1 w' ∧ Bx3 w' rb 25 y0 y1 y2 ∧ EnCells w' b (off + i * 10) ⟨ep, cl, id, ⟨ok, os, ot, ov, of, ou, om⟩⟩) wv6 := ⟨below2 hS.1 hb2, hS.2.1.below hb2, hS.2.2.below hb2⟩
    refine hK.out _ _ hN ?_
    clear hK hS
    have hS := hN
    clear hN hb2
    generalize wz.heap.size = r7 at *
    try simp only [Act.put, List.setIfInBounds_toArray, List.set_cons_zero, List.set_cons_succ]
    refine held_two (i := 5) (j := 11) (by kernel_rfl) rfl rfl rfl rfl ?_ ?_
    · intro K hK
      go_simp
      go_at_call 10
      refine (HP2.out _ hS.1).mono ?_
      rintro e wv7 ⟨hb2, la, ln, lc, da, dn, dc, fl, e0, e1, e2, rfl, hO⟩
      have hN : (fun w' => Below w1.heap.size w1 w' ∧ Bx3 w' rb 25 y0 y1 y2 ∧ EnCells w' b (off + i * 10) ⟨ep, cl, id, ⟨ok, os, ot, ov, of, ou, om⟩⟩) wv7 := ⟨below2 hS.1 hb2, hS.2.1.below hb2, hS.2.2.below hb2⟩
      replace hX := hX.below hb2
      refine hK.out _ _ hN ?_
      clear hK hS
      have hS := hN
      clear hN hb2
      try simp only [Act.put, List.setIfInBounds_toArray, List.set_cons_zero, List.set_cons_succ]
      refine held_take (i := 6) (v := .tuple #[.agg #[.slice la ln lc, .slice da dn dc, .int .i64 fl], .agg #[.int .i64 e0, .bool e1, .int .i64 e2], .int .i64 ec]) rfl (by kernel_rfl) (fun _ _ _ h => h) (.inl ⟨rfl, fun w hS => ?_⟩) hS ?_
      · go_simp
      try simp only [Act.put, List.setIfInBounds_toArray, List.set_cons_zero, List.set_cons_succ]
      refine held_take (i := 7) (v := .agg #[.slice la ln lc, .slice da dn dc, .int .i64 fl]) rfl (by kernel_rfl) (fun _ _ _ h => h) (.inl ⟨rfl, fun w hS => ?_⟩) hS ?_
      · go_simp
      try simp only [Act.put, List.setIfInBounds_toArray, List.set_cons_zero, List.set_cons_succ]
      refine held_take (i := 8) (v := .agg #[.int .i64 e0, .bool e1, .int .i64 e2]) rfl (by kernel_rfl) (fun _ _ _ h => h) (.inl ⟨rfl, fun w hS => ?_⟩) hS ?_
      · go_simp
      try simp only [Act.put, List.setIfInBounds_toArray, List.set_cons_zero, List.set_cons_succ]
      refine held_take (i := 9) (v := .int .i64 ec) rfl (by kernel_rfl) (fun _ _ _ h => h) (.inl ⟨rfl, fun w hS => ?_⟩) hS ?_
      · go_simp
      try simp only [Act.put, List.setIfInBounds_toArray, List.set_cons_zero, List.set_cons_succ]
      refine held_one (i := 11) (by kernel_rfl) rfl rfl ?_
      intro K hK
      go_simp
      have hb2 := below_alloc wv7 (.cells #[.int .i64 0, .bool false, .int .i64 0] 37)
      have hY := Bx3.new wv7 37 (.int .i64 0) (.bool false) (.int .i64 0)
      have hr8 : w1.heap.size ≤ wv7.heap.size := hS.1.size
      have hxy : r7 ≠ wv7.heap.size := fun e => by have := hX.lt; omega
      generalize wv7.alloc (.cells #[.int .i64 0, .bool false, .int .i64 0] 37) = wv8 at *
      have hN : (fun w' => Below w1.heap.size w1 w' ∧ Bx3 w' rb 25 y0 y1 y2 ∧ EnCells w' b (off + i * 10) ⟨ep, cl, id, ⟨ok, os, ot, ov, of, ou, om⟩⟩) wv8 := ⟨below2 hS.1 hb2, hS.2.1.below hb2, hS.2.2.below hb2⟩
      replace hX := hX.below hb2
      replace hO := hO.below hb2
      refine hK.out _ _ hN ?_
      clear hK hS
      have hS := hN
      clear hN hb2
      generalize wv7.heap.size = r8 at *
      try simp only [Act.put, List.setIfInBounds_toArray, List.set_cons_zero, List.set_cons_succ]
      refine held_one (i := 12) (by kernel_rfl) rfl rfl ?_
      intro K hK
      obtain ⟨c0, c1, c2⟩ := hX.cells
      obtain ⟨f0, f1, f2⟩ := hX.frz
      go_simp
      have hN : (fun w' => Below w1.heap.size w1 w' ∧ Bx3 w' rb 25 y0 y1 y2 ∧ EnCells w' b (off + i * 10) ⟨ep, cl, id, ⟨ok, os, ot, ov, of, ou, om⟩⟩) (put3 wv8 r7 (.slice la ln lc) (.slice da dn dc) (.int .i64 fl)) := ⟨put3_below hS.1 hr7 (.slice la ln lc) (.slice da dn dc) (.int .i64 fl), hS.2.1.kept (put3_else (b := r7) (.slice la ln lc) (.slice da dn dc) (.int .i64 fl) (by have := HLT; omega)), EnCells.keep hS.2.2 (put3_else (b := r7) (.slice la ln lc) (.slice da dn dc) (.int .i64 fl) (by have := HLB; omega))⟩
      show K _ (put3 wv8 r7 (.slice la ln lc) (.slice da dn dc) (.int .i64 fl))
      refine hK.out _ _ hN ?_
      clear hK c0 c1 c2 f0 f1 f2
      have hX2 := hX.set (.slice la ln lc) (.slice da dn dc) (.int .i64 fl)
      have hY2 := hY.kept (put3_else (b := r7) (.slice la ln lc) (.slice da dn dc) (.int .i64 fl) (fun e => hxy e.symm))
      have hO2 := hO.put hX (by decide) (by decide) (by decide) (.slice la ln lc) (.slice da dn dc) (.int .i64 fl)
      try simp only [Act.put, List.setIfInBounds_toArray, List.set_cons_zero, List.set_cons_succ]
      generalize (put3 wv8 r7 (.slice la ln lc) (.slice da dn dc) (.int .i64 fl)) = wp1 at *
      clear hX hY hO hS
      refine held_one (i := 13) (by kernel_rfl) rfl rfl ?_
      intro K hK
      obtain ⟨c0, c1, c2⟩ := hY2.cells
      obtain ⟨f0, f1, f2⟩ := hY2.frz
      go_simp
      have hN2 : (fun w' => Below w1.heap.size w1 w' ∧ Bx3 w' rb 25 y0 y1 y2 ∧ EnCells w' b (off + i * 10) ⟨ep, cl, id, ⟨ok, os, ot, ov, of, ou, om⟩⟩) (put3 wp1 r8 (.int .i64 e0) (.bool e1) (.int .i64 e2)) := ⟨put3_below hN.1 hr8 (.int .i64 e0) (.bool e1) (.int .i64 e2), hN.2.1.kept (put3_else (b := r8) (.int .i64 e0) (.bool e1) (.int .i64 e2) (by have := HLT; omega)), EnCells.keep hN.2.2 (put3_else (b := r8) (.int .i64 e0) (.bool e1) (.int .i64 e2) (by have := HLB; omega))⟩
      show K _ (put3 wp1 r8 (.int .i64 e0) (.bool e1) (.int .i64 e2))
      refine hK.out _ _ hN2 ?_
      clear hK c0 c1 c2 f0 f1 f2
      have hX3 := hX2.kept (put3_else (b := r8) (.int .i64 e0) (.bool e1) (.int .i64 e2) hxy)
      have hY3 := hY2.set (.int .i64 e0) (.bool e1) (.int .i64 e2)
      have hO3 := hO2.put hY2 (by decide) (by decide) (by decide) (.int .i64 e0) (.bool e1) (.int .i64 e2)
      try simp only [Act.put, List.setIfInBounds_toArray, List.set_cons_zero, List.set_cons_succ]
      generalize put3 wp1 r8 (.int .i64 e0) (.bool e1) (.int .i64 e2) = wp2 at *
      have hS := hN2
      refine held_take (i := 14) (v := .int .i64 ec) rfl (by kernel_rfl) (fun _ _ _ h => h) (.inl ⟨rfl, fun w hS => ?_⟩) hS ?_
      · go_simp
      try simp only [Act.put, List.setIfInBounds_toArray, List.set_cons_zero, List.set_cons_succ]
      refine wpAnyH_done (by kernel_rfl) ?_ _
      refine NoPanic.normal ?_
      exact hQ.out _ _ _ _ _ _ _ _ _ _ r7 r8 _ _ _ _ _ _ _ _ _ _ _ hr7 hr8 hxy hS.1 hX3 hY3 hO3
    · intro K hK
      go_simp
      have hb2 := below_alloc wv6 (.cells #[.int .i64 0, .bool false, .int .i64 0] 37)
      have hY := Bx3.new wv6 37 (.int .i64 0) (.bool false) (.int .i64 0)
      have hr8 : w1.heap.size ≤ wv6.heap.size := hS.1.size
      have hxy : r7 ≠ wv6.heap.size := fun e => by have := hX.lt; omega
      generalize wv6.alloc (.cells #[.int .i64 0, .bool false, .int .i64 0] 37) = wv9 at *
      have hN : (fun w' => Below w1.heap.size w1 w' ∧ Bx3 w' rb 25 y0 y1 y2 ∧ EnCells w' b (off + i * 10) ⟨ep, cl, id, ⟨ok, os, ot, ov, of, ou, om⟩⟩) wv9 := ⟨below2 hS.1 hb2, hS.2.1.below hb2, hS.2.2.below hb2⟩
      replace hX := hX.below hb2
      refine hK.out _ _ hN ?_
      clear hK hS
      have hS := hN
      clear hN hb2
      generalize wv6.heap.size = r8 at *
      try simp only [Act.put, List.setIfInBounds_toArray, List.set_cons_zero, List.set_cons_succ]
      refine held_one (i := 5) (by kernel_rfl) rfl rfl ?_
      intro K hK
      go_simp
      go_at_call 10
      refine (HP2.out _ hS.1).mono ?_
      rintro e wv10 ⟨hb2, la, ln, lc, da, dn, dc, fl, e0, e1, e2, rfl, hO⟩
      have hN : (fun w' => Below w1.heap.size w1 w' ∧ Bx3 w' rb 25 y0 y1 y2 ∧ EnCells w' b (off + i * 10) ⟨ep, cl, id, ⟨ok, os, ot, ov, of, ou, om⟩⟩) wv10 := ⟨below2 hS.1 hb2, hS.2.1.below hb2, hS.2.2.below hb2⟩
      replace hX := hX.below hb2
      replace hY := hY.below hb2
      refine hK.out _ _ hN ?_
      clear hK hS
      have hS := hN
      clear hN hb2
      try simp only [Act.put, List.setIfInBounds_toArray, List.set_cons_zero, List.set_cons_succ]
      refine held_take (i := 6) (v := .tuple #[.agg #[.slice la ln lc, .slice da dn dc, .int .i64 fl], .agg #[.int .i64 e0, .bool e1, .int .i64 e2], .int .i64 ec]) rfl (by kernel_rfl) (fun _ _ _ h => h) (.inl ⟨rfl, fun w hS => ?_⟩) hS ?_
      · go_simp
      try simp only [Act.put, List.setIfInBounds_toArray, List.set_cons_zero, List.set_cons_succ]
      refine held_take (i := 7) (v := .agg #[.slice la ln lc, .slice da dn dc, .int .i64 fl]) rfl (by kernel_rfl) (fun _ _ _ h => h) (.inl ⟨rfl, fun w hS => ?_⟩) hS ?_
      · go_simp
      try simp only [Act.put, List.setIfInBounds_toArray, List.set_cons_zero, List.set_cons_succ]
      refine held_take (i := 8) (v := .agg #[.int .i64 e0, .bool e1, .int .i64 e2]) rfl (by kernel_rfl) (fun _ _ _ h => h) (.inl ⟨rfl, fun w hS => ?_⟩) hS ?_
      · go_simp
      try simp only [Act.put, List.setIfInBounds_toArray, List.set_cons_zero, List.set_cons_succ]
      refine held_take (i := 9) (v := .int .i64 ec) rfl (by kernel_rfl) (fun _ _ _ h => h) (.inl ⟨rfl, fun w hS => ?_⟩) hS ?_
      · go_simp
      try simp only [Act.put, List.setIfInBounds_toArray, List.set_cons_zero, List.set_cons_succ]
      refine held_one (i := 12) (by kernel_rfl) rfl rfl ?_
      intro K hK
      obtain ⟨c0, c1, c2⟩ := hX.cells
      obtain ⟨f0, f1, f2⟩ := hX.frz
      go_simp
      have hN : (fun w' => Below w1.heap.size w1 w' ∧ Bx3 w' rb 25 y0 y1 y2 ∧ EnCells w' b (off + i * 10) ⟨ep, cl, id, ⟨ok, os, ot, ov, of, ou, om⟩⟩) (put3 wv10 r7 (.slice la ln lc) (.slice da dn dc) (.int .i64 fl)) := ⟨put3_below hS.1 hr7 (.slice la ln lc) (.slice da dn dc) (.int .i64 fl), hS.2.1.kept (put3_else (b := r7) (.slice la ln lc) (.slice da dn dc) (.int .i64 fl) (by have := HLT; omega)), EnCells.keep hS.2.2 (put3_else (b := r7) (.slice la ln lc) (.slice da dn dc) (.int .i64 fl) (by have := HLB; omega))⟩
      show K _ (put3 wv10 r7 (.slice la ln lc) (.slice da dn dc) (.int .i64 fl))
      refine hK.out _ _ hN ?_
      clear hK c0 c1 c2 f0 f1 f2
      have hX2 := hX.set (.slice la ln lc) (.slice da dn dc) (.int .i64 fl)
      have hY2 := hY.kept (put3_else (b := r7) (.slice la ln lc) (.slice da dn dc) (.int .i64 fl) (fun e => hxy e.symm))
      have hO2 := hO.put hX (by decide) (by decide) (by decide) (.slice la ln lc) (.slice da dn dc) (.int .i64 fl)
      try simp only [Act.put, List.setIfInBounds_toArray, List.set_cons_zero, List.set_cons_succ]
      generalize (put3 wv10 r7 (.slice la ln lc) (.slice da dn dc) (.int .i64 fl)) = wp1 at *
      clear hX hY hO hS
      refine held_one (i := 13) (by kernel_rfl) rfl rfl ?_
      intro K hK
      obtain ⟨c0, c1, c2⟩ := hY2.cells
      obtain ⟨f0, f1, f2⟩ := hY2.frz
      go_simp
      have hN2 : (fun w' => Below w1.heap.size w1 w' ∧ Bx3 w' rb 25 y0 y1 y2 ∧ EnCells w' b (off + i * 10) ⟨ep, cl, id, ⟨ok, os, ot, ov, of, ou, om⟩⟩) (put3 wp1 r8 (.int .i64 e0) (.bool e1) (.int .i64 e2)) := ⟨put3_below hN.1 hr8 (.int .i64 e0) (.bool e1) (.int .i64 e2), hN.2.1.kept (put3_else (b := r8) (.int .i64 e0) (.bool e1) (.int .i64 e2) (by have := HLT; omega)), EnCells.keep hN.2.2 (put3_else (b := r8) (.int .i64 e0) (.bool e1) (.int .i64 e2) (by have := HLB; omega))⟩
      show K _ (put3 wp1 r8 (.int .i64 e0) (.bool e1) (.int .i64 e2))
      refine hK.out _ _ hN2 ?_
      clear hK c0 c1 c2 f0 f1 f2
      have hX3 := hX2.kept (put3_else (b := r8) (.int .i64 e0) (.bool e1) (.int .i64 e2) hxy)
      have hY3 := hY2.set (.int .i64 e0) (.bool e1) (.int .i64 e2)
      have hO3 := hO2.put hY2 (by decide) (by decide) (by decide) (.int .i64 e0) (.bool e1) (.int .i64 e2)
      try simp only [Act.put, List.setIfInBounds_toArray, List.set_cons_zero, List.set_cons_succ]
      generalize put3 wp1 r8 (.int .i64 e0) (.bool e1) (.int .i64 e2) = wp2 at *
      have hS := hN2
      refine held_take (i := 14) (v := .int .i64 ec) rfl (by kernel_rfl) (fun _ _ _ h => h) (.inl ⟨rfl, fun w hS => ?_⟩) hS ?_
      · go_simp
      try simp only [Act.put, List.setIfInBounds_toArray, List.set_cons_zero, List.set_cons_succ]
      refine wpAnyH_done (by kernel_rfl) ?_ _
      refine NoPanic.normal ?_
      exact hQ.out _ _ _ _ _ _ _ _ _ _ r7 r8 _ _ _ _ _ _ _ _ _ _ _ hr7 hr8 hxy hS.1 hX3 hY3 hO3
  · intro K hK
    go_simp
    have hb2 := below_alloc wz (.cells #[.int .i64 0, .bool false, .int .i64 0] 37)
    have hY := Bx3.new wz 37 (.int .i64 0) (.bool false) (.int .i64 0)
    have hr8 : w1.heap.size ≤ wz.heap.size := hS.1.size
    generalize wz.alloc (.cells #[.int .i64 0, .bool false, .int .i64 0] 37) = wv11 at *
    have hN : (fun w' => Below w1.heap.size w1 w' ∧ Bx3 w' rb 25 y0 y1 y2 ∧ EnCells w' b (off + i * 10) ⟨ep, cl, id, ⟨ok, os, ot, ov, of, ou, om⟩⟩) wv11 := ⟨below2 hS.1 hb2, hS.2.1.below hb2, hS.2.2.below hb2⟩
    refine hK.out _ _ hN ?_
    clear hK hS
    have hS := hN
    clear hN hb2
    generalize wz.heap.size = r8 at *
    try simp only [Act.put, List.setIfInBounds_toArray, List.set_cons_zero, List.set_cons_succ]
    refine held_two (i := 5) (j := 10) (by kernel_rfl) rfl rfl rfl rfl ?_ ?_
    · intro K hK
      go_simp
      go_at_call 10
      refine (HP2.out _ hS.1).mono ?_
      rintro e wv12 ⟨hb2, la, ln, lc, da, dn, dc, fl, e0, e1, e2, rfl, hO⟩
      have hN : (fun w' => Below w1.heap.size w1 w' ∧ Bx3 w' rb 25 y0 y1 y2 ∧ EnCells w' b (off + i * 10) ⟨ep, cl, id, ⟨ok, os, ot, ov, of, ou, om⟩⟩) wv12 := ⟨below2 hS.1 hb2, hS.2.1.below hb2, hS.2.2.below hb2⟩
      replace hY := hY.below hb2
      refine hK.out _ _ hN ?_
      clear hK hS
      have hS := hN
      clear hN hb2
      try simp only [Act.put, List.setIfInBounds_toArray, List.set_cons_zero, List.set_cons_succ]
      refine held_take (i := 6) (v := .tuple #[.agg #[.slice la ln lc, .slice da dn dc, .int .i64 fl], .agg #[.int .i64 e0, .bool e1, .int .i64 e2], .int .i64 ec]) rfl (by kernel_rfl) (fun _ _ _ h => h) (.inl ⟨rfl, fun w hS => ?_⟩) hS ?_
      · go_simp
      try simp only [Act.put, List.setIfInBounds_toArray, List.set_cons_zero, List.set_cons_succ]
      refine held_take (i := 7) (v := .agg #[.slice la ln lc, .slice da dn dc, .int .i64 fl]) rfl (by kernel_rfl) (fun _ _ _ h => h) (.inl ⟨rfl, fun w hS => ?_⟩) hS ?_
      · go_simp
      try simp only [Act.put, List.setIfInBounds_toArray, List.set_cons_zero, List.set_cons_succ]
      refine held_take (i := 8) (v := .agg #[.int .i64 e0, .bool e1, .int .i64 e2]) rfl (by kernel_rfl) (fun _ _ _ h => h) (.inl ⟨rfl, fun w hS => ?_⟩) hS ?_
      · go_simp
      try simp only [Act.put, List.setIfInBounds_toArray, List.set_cons_zero, List.set_cons_succ]
      refine held_take (i := 9) (v := .int .i64 ec) rfl (by kernel_rfl) (fun _ _ _ h => h) (.inl ⟨rfl, fun w hS => ?_⟩) hS ?_
      · go_simp
      try simp only [Act.put, List.setIfInBounds_toArray, List.set_cons_zero, List.set_cons_succ]
      refine held_one (i := 10) (by kernel_rfl) rfl rfl ?_
      intro K hK
      go_simp
      have hb2 := below_alloc wv12 (.cells #[.slice none 0 0, .slice none 0 0, .int .i64 0] 25)
      have hX := Bx3.new wv12 25 (.slice none 0 0) (.slice none 0 0) (.int .i64 0)
      have hr7 : w1.heap.size ≤ wv12.heap.size := hS.1.size
      have hxy : wv12.heap.size ≠ r8 := fun e => by have := hY.lt; omega
      generalize wv12.alloc (.cells #[.slice none 0 0, .slice none 0 0, .int .i64 0] 25) = wv13 at *
      have hN : (fun w' => Below w1.heap.size w1 w' ∧ Bx3 w' rb 25 y0 y1 y2 ∧ EnCells w' b (off + i * 10) ⟨ep, cl, id, ⟨ok, os, ot, ov, of, ou, om⟩⟩) wv13 := ⟨below2 hS.1 hb2, hS.2.1.below hb2, hS.2.2.below hb2⟩
      replace hY := hY.below hb2
      replace hO := hO.below hb2
      refine hK.out _ _ hN ?_
      clear hK hS
      have hS := hN
      clear hN hb2
      generalize wv12.heap.size = r7 at *
      try simp only [Act.put, List.setIfInBounds_toArray, List.set_cons_zero, List.set_cons_succ]
      refine held_one (i := 12) (by kernel_rfl) rfl rfl ?_
      intro K hK
      obtain ⟨c0, c1, c2⟩ := hX.cells
      obtain ⟨f0, f1, f2⟩ := hX.frz
      go_simp
      have hN : (fun w' => Below w1.heap.size w1 w' ∧ Bx3 w' rb 25 y0 y1 y2 ∧ EnCells w' b (off + i * 10) ⟨ep, cl, id, ⟨ok, os, ot, ov, of, ou, om⟩⟩) (put3 wv13 r7 (.slice la ln lc) (.slice da dn dc) (.int .i64 fl)) := ⟨put3_below hS.1 hr7 (.slice la ln lc) (.slice da dn dc) (.int .i64 fl), hS.2.1.kept (put3_else (b := r7) (.slice la ln lc) (.slice da dn dc) (.int .i64 fl) (by have := HLT; omega)), EnCells.keep hS.2.2 (put3_else (b := r7) (.slice la ln lc) (.slice da dn dc) (.int .i64 fl) (by have := HLB; omega))⟩
      show K _ (put3 wv13 r7 (.slice la ln lc) (.slice da dn dc) (.int .i64 fl))
      refine hK.out _ _ hN ?_
      clear hK c0 c1 c2 f0 f1 f2
      have hX2 := hX.set (.slice la ln lc) (.slice da dn dc) (.int .i64 fl)
      have hY2 := hY.kept (put3_else (b := r7) (.slice la ln lc) (.slice da dn dc) (.int .i64 fl) (fun e => hxy e.symm))
      have hO2 := hO.put hX (by decide) (by decide) (by decide) (.slice la ln lc) (.slice da dn dc) (.int .i64 fl)
      try simp only [Act.put, List.setIfInBounds_toArray, List.set_cons_zero, List.set_cons_succ]
      generalize (put3 wv13 r7 (.slice la ln lc) (.slice da dn dc) (.int .i64 fl)) = wp1 at *
      clear hX hY hO hS
      refine held_one (i := 13) (by kernel_rfl) rfl rfl ?_
      intro K hK
      obtain ⟨c0, c1, c2⟩ := hY2.cells
      obtain ⟨f0, f1, f2⟩ := hY2.frz
      go_simp
      have hN2 : (fun w' => Below w1.heap.size w1 w' ∧ Bx3 w' rb 25 y0 y1 y2 ∧ EnCells w' b (off + i * 10) ⟨ep, cl, id, ⟨ok, os, ot, ov, of, ou, om⟩⟩) (put3 wp1 r8 (.int .i64 e0) (.bool e1) (.int .i64 e2)) := ⟨put3_below hN.1 hr8 (.int .i64 e0) (.bool e1) (.int .i64 e2), hN.2.1.kept (put3_else (b := r8) (.int .i64 e0) (.bool e1) (.int .i64 e2) (by have := HLT; omega)), EnCells.keep hN.2.2 (put3_else (b := r8) (.int .i64 e0) (.bool e1) (.int .i64 e2) (by have := HLB; omega))⟩
      show K _ (put3 wp1 r8 (.int .i64 e0) (.bool e1) (.int .i64 e2))
      refine hK.out _ _ hN2 ?_
      clear hK c0 c1 c2 f0 f1 f2
      have hX3 := hX2.kept (put3_else (b := r8) (.int .i64 e0) (.bool e1) (.int .i64 e2) hxy)
      have hY3 := hY2.set (.int .i64 e0) (.bool e1) (.int .i64 e2)
      have hO3 := hO2.put hY2 (by decide) (by decide) (by decide) (.int .i64 e0) (.bool e1) (.int .i64 e2)
      try simp only [Act.put, List.setIfInBounds_toArray, List.set_cons_zero, List.set_cons_succ]
      generalize put3 wp1 r8 (.int .i64 e0) (.bool e1) (.int .i64 e2) = wp2 at *
      have hS := hN2
      refine held_take (i := 14) (v := .int .i64 ec) rfl (by kernel_rfl) (fun _ _ _ h => h) (.inl ⟨rfl, fun w hS => ?_⟩) hS ?_
      · go_simp
      try simp only [Act.put, List.setIfInBounds_toArray, List.set_cons_zero, List.set_cons_succ]
      refine wpAnyH_done (by kernel_rfl) ?_ _
      refine NoPanic.normal ?_
      exact hQ.out _ _ _ _ _ _ _ _ _ _ r7 r8 _ _ _ _ _ _ _ _ _ _ _ hr7 hr8 hxy hS.1 hX3 hY3 hO3
    · intro K hK
      go_simp
      have hb2 := below_alloc wv11 (.cells #[.slice none 0 0, .slice none 0 0, .int .i64 0] 25)
      have hX := Bx3.new wv11 25 (.slice none 0 0) (.slice none 0 0) (.int .i64 0)
      have hr7 : w1.heap.size ≤ wv11.heap.size := hS.1.size
      have hxy : wv11.heap.size ≠ r8 := fun e => by have := hY.lt; omega
      generalize wv11.alloc (.cells #[.slice none 0 0, .slice none 0 0, .int .i64 0] 25) = wv14 at *
      have hN : (fun w' => Below w1.heap.size w1 w' ∧ Bx3 w' rb 25 y0 y1 y2 ∧ EnCells w' b (off + i * 10) ⟨ep, cl, id, ⟨ok, os, ot, ov, of, ou, om⟩⟩) wv14 := ⟨below2 hS.1 hb2, hS.2.1.below hb2, hS.2.2.below hb2⟩
      replace hY := hY.below hb2
      refine hK.out _ _ hN ?_
      clear hK hS
      have hS := hN
      clear hN hb2
      generalize wv11.heap.size = r7 at *
      try simp only [Act.put, List.setIfInBounds_toArray, List.set_cons_zero, List.set_cons_succ]
      refine held_one (i := 5) (by kernel_rfl) rfl rfl ?_
      intro K hK
      go_simp
      go_at_call 10
      refine (HP2.out _ hS.1).mono ?_
      rintro e wv15 ⟨hb2, la, ln, lc, da, dn, dc, fl, e0, e1, e2, rfl, hO⟩
      have hN : (fun w' => Below w1.heap.size w1 w' ∧ Bx3 w' rb 25 y0 y1 y2 ∧ EnCells w' b (off + i * 10) ⟨ep, cl, id, ⟨ok, os, ot, ov, of, ou, om⟩⟩) wv15 := ⟨below2 hS.1 hb2, hS.2.1.below hb2, hS.2.2.below hb2⟩
      replace hX := hX.below hb2
      replace hY := hY.below hb2
      refine hK.out _ _ hN ?_
      clear hK hS
      have hS := hN
      clear hN hb2
      try simp only [Act.put, List.setIfInBounds_toArray, List.set_cons_zero, List.set_cons_succ]
      refine held_take (i := 6) (v := .tuple #[.agg #[.slice la ln lc, .slice da dn dc, .int .i64 fl], .agg #[.int .i64 e0, .bool e1, .int .i64 e2], .int .i64 ec]) rfl (by kernel_rfl) (fun _ _ _ h => h) (.inl ⟨rfl, fun w hS => ?_⟩) hS ?_
      · go_simp
      try simp only [Act.put, List.setIfInBounds_toArray, List.set_cons_zero, List.set_cons_succ]
      refine held_take (i := 7) (v := .agg #[.slice la ln lc, .slice da dn dc, .int .i64 fl]) rfl (by kernel_rfl) (fun _ _ _ h => h) (.inl ⟨rfl, fun w hS => ?_⟩) hS ?_
      · go_simp
      try simp only [Act.put, List.setIfInBounds_toArray, List.set_cons_zero, List.set_cons_succ]
      refine held_take (i := 8) (v := .agg #[.int .i64 e0, .bool e1, .int .i64 e2]) rfl (by kernel_rfl) (fun _ _ _ h => h) (.inl ⟨rfl, fun w hS => ?_⟩) hS ?_
      · go_simp
      try simp only [Act.put, List.setIfInBounds_toArray, List.set_cons_zero, List.set_cons_succ]
      refine held_take (i := 9) (v := .int .i64 ec) rfl (by kernel_rfl) (fun _ _ _ h => h) (.inl ⟨rfl, fun w hS => ?_⟩) hS ?_
      · go_simp
      try simp only [Act.put, List.setIfInBounds_toArray, List.set_cons_zero, List.set_cons_succ]
      refine held_one (i := 12) (by kernel_rfl) rfl rfl ?_
      intro K hK
      obtain ⟨c0, c1, c2⟩ := hX.cells
      obtain ⟨f0, f1, f2⟩ := hX.frz
      go_simp
      have hN : (fun w' => Below w1.heap.size w1 w' ∧ Bx3 w' rb 25 y0 y1 y2 ∧ EnCells w' b (off + i * 10) ⟨ep, cl, id, ⟨ok, os, ot, ov, of, ou, om⟩⟩) (put3 wv15 r7 (.slice la ln lc) (.slice da dn dc) (.int .i64 fl)) := ⟨put3_below hS.1 hr7 (.slice la ln lc) (.slice da dn dc) (.int .i64 fl), hS.2.1.kept (put3_else (b := r7) (.slice la ln lc) (.slice da dn dc) (.int .i64 fl) (by have := HLT; omega)), EnCells.keep hS.2.2 (put3_else (b := r7) (.slice la ln lc) (.slice da dn dc) (.int .i64 fl) (by have := HLB; omega))⟩
      show K _ (put3 wv15 r7 (.slice la ln lc) (.slice da dn dc) (.int .i64 fl))
      refine hK.out _ _ hN ?_
      clear hK c0 c1 c2 f0 f1 f2
      have hX2 := hX.set (.slice la ln lc) (.slice da dn dc) (.int .i64 fl)
      have hY2 := hY.kept (put3_else (b := r7) (.slice la ln lc) (.slice da dn dc) (.int .i64 fl) (fun e => hxy e.symm))
      have hO2 := hO.put hX (by decide) (by decide) (by decide) (.slice la ln lc) (.slice da dn dc) (.int .i64 fl)
      try simp only [Act.put, List.setIfInBounds_toArray, List.set_cons_zero, List.set_cons_succ]
      generalize (put3 wv15 r7 (.slice la ln lc) (.slice da dn dc) (.int .i64 fl)) = wp1 at *
      clear hX hY hO hS
      refine held_one (i := 13) (by kernel_rfl) rfl rfl ?_
      intro K hK
      obtain ⟨c0, c1, c2⟩ := hY2.cells
      obtain ⟨f0, f1, f2⟩ := hY2.frz
      go_simp
      have hN2 : (fun w' => Below w1.heap.size w1 w' ∧ Bx3 w' rb 25 y0 y1 y2 ∧ EnCells w' b (off + i * 10) ⟨ep, cl, id, ⟨ok, os, ot, ov, of, ou, om⟩⟩) (put3 wp1 r8 (.int .i64 e0) (.bool e1) (.int .i64 e2)) := ⟨put3_below hN.1 hr8 (.int .i64 e0) (.bool e1) (.int .i64 e2), hN.2.1.kept (put3_else (b := r8) (.int .i64 e0) (.bool e1) (.int .i64 e2) (by have := HLT; omega)), EnCells.keep hN.2.2 (put3_else (b := r8) (.int .i64 e0) (.bool e1) (.int .i64 e2) (by have := HLB; omega))⟩
      show K _ (put3 wp1 r8 (.int .i64 e0) (.bool e1) (.int .i64 e2))
      refine hK.out _ _ hN2 ?_
      clear hK c0 c1 c2 f0 f1 f2
      have hX3 := hX2.kept (put3_else (b := r8) (.int .i64 e0) (.bool e1) (.int .i64 e2) hxy)
      have hY3 := hY2.set (.int .i64 e0) (.bool e1) (.int .i64 e2)
      have hO3 := hO2.put hY2 (by decide) (by decide) (by decide) (.int .i64 e0) (.bool e1) (.int .i64 e2)
      try simp only [Act.put, List.setIfInBounds_toArray, List.set_cons_zero, List.set_cons_succ]
      generalize put3 wp1 r8 (.int .i64 e0) (.bool e1) (.int .i64 e2) = wp2 at *
      have hS := hN2
      refine held_take (i := 14) (v := .int .i64 ec) rfl (by kernel_rfl) (fun _ _ _ h => h) (.inl ⟨rfl, fun w hS => ?_⟩) hS ?_
      · go_simp
      try simp only [Act.put, List.setIfInBounds_toArray, List.set_cons_zero, List.set_cons_succ]
      refine wpAnyH_done (by kernel_rfl) ?_ _
      refine NoPanic.normal ?_
      exact hQ.out _ _ _ _ _ _ _ _ _ _ r7 r8 _ _ _ _ _ _ _ _ _ _ _ hr7 hr8 hxy hS.1 hX3 hY3 hO3
end Go.Proofs.YtihohcmocejijaaGreat.Bk
