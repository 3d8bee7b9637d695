/-
  The answer's Common; the region of its Run that writes into an array.
-/
import Derived.Test.YtmifdjkaclgibaaGreatPh
import Derived.Test.YtmifdjkaclgibaaGreatPe
import Derived.Test.YtmifdjkaclgibaaGreatDrR
namespace Go.Proofs.YtmifdjkaclgibaaGreat.Tp
open Go.ChangeShapes Go.WideShapes Go.ChangeAt Go.RowKit
theorem refCommon_any (size : Int) (w : World) : Calls Tryz.prog 15 #[.int .i64 size] w fun e w' => e = .returned (.slice (some ⟨w.heap.size, 0, none⟩) 5 5) ∧ w' = w.alloc (.cells (comCells size).toArray 50) := by
  go_enter Tryz.func15, Tryz.ntmps15
  go_wp2
  go_ret
  exact ⟨rfl, rfl⟩
/-- the key, folded by the answer -/
theorem refKey_any (g lev z r : Int) (b : Nat) (W : World) (h0 : W.cell? ⟨b, 0, none⟩ = some (.int .u64 ((Dr.bitsOf lev : Nat) : Int))) (h1 : W.cell? ⟨b, 1, none⟩ = some (.int .u64 ((Dr.bitsOf z : Nat) : Int))) (h2 : W.cell? ⟨b, 2, none⟩ = some (.int .u64 ((Dr.bitsOf r : Nat) : Int))) :
    Calls Tryz.prog 25 #[.int .u64 ((Dr.bitsOf g : Nat) : Int), .slice (some ⟨b, 0, none⟩) 3 3] W fun e w' => e = .returned (.int .u64 ((keyOf g lev z r : Nat) : Int)) ∧ w' = W := by
  refine Dr.refFold_some (Dr.bitsOf g) b 0 3 [Dr.bitsOf lev, Dr.bitsOf z, Dr.bitsOf r] W (Dr.bitsOf_lt g) (by simp [maxLen]) (by intro n hn; simp at hn; rcases hn with rfl | rfl | rfl <;> exact Dr.bitsOf_lt _) (fun i hi => ?_)
  have : i = 0 ∨ i = 1 ∨ i = 2 := by simp at hi; omega
  rcases this with rfl | rfl | rfl
  · exact h0
  · exact h1
  · exact h2
def RefOrdP (I : List Int) (w : World) (e : Ending) (w' : World) : Prop := Below w.heap.size w w' ∧ ∃ a cap, e = .returned (.slice a I.length cap) ∧ IntsAt w' a I ∧ I.length ≤ 64 ∧ ∀ p : Addr, a = some p → w.heap.size ≤ p.block
theorem refOrder_p {key : Nat} {l : List Ch} (hM : Dr.MayC l) (hk : key < 18446744073709551616) (a : Option Addr) (cap : Nat) (w : World) (h : ChsAt w a l.length cap l) : Calls Tryz.prog 24 #[.int .u64 (key : Int), .slice a l.length cap] w fun e w' => RefOrdP (ordF key l) w e w' :=
  Dr.refOrder_any key a l.length cap l w hk h ⟨hM.1, fun c hc => by
    have := ((Dr.may_iff l).1 hM).2.1 c hc
    exact ⟨this.2.2.1, this.2.2.2⟩⟩
set_option maxHeartbeats 4000000 in
set_option maxRecDepth 60000 in
theorem y_put1 (t0 t1 t2 t3 t4 t5 t6 t7 t8 t9 t10 t11 t13 t14 t15 t16 t17 t18 t22 t23 t24 t25 t26 t27 t28 t29 t30 t31 t32 t33 t34 t35 t36 t37 t38 t39 t40 t41 t42 t43 t44 t45 t46 t47 t48 t49 t50 t51 t52 t53 t54 t55 t56 t57 t58 t59 t60 t61 t62 t63 t64 t65 t66 t67 t68 t69 t70 t71 t72 t73 t74 t75 t76 t77 t78 t79 t80 t81 t82 t83 t84 t85 t86 t87 t88 t89 t90 t91 t92 t93 t94 t95 t96 t97 t98 t99 t100 t101 t102 t103 t104 t105 t106 t107 t108 t109 t110 t111 t112 t113 t114 t115 t116 t117 t118 t119 t120 t121 t122 t123 t124 t125 t126 t127 t128 t129 t130 t131 t132 t133 t134 t135 t136 t137 t138 t139 t140 t141 t142 t143 : Value) (S p il ci t Y : Nat) (id : Int) (y : Value) (w1 : World) (Q : Exit → Act → World → Prop)
    (x0 : w1.cell? ⟨S, 1, none⟩ = some (.int .i64 1)) (x1 : w1.cell? ⟨p, t, none⟩ = some (.int .i64 id)) (hSY : S < Y) (hpY : p < Y) (hY : Y < w1.heap.size) (y0 : w1.cell? ⟨Y, 0, none⟩ = some y) (yf : w1.frozen? ⟨Y, 0, none⟩ = false) (ht0 : (0 : Int) ≤ (t : Int)) (ht1 : (t : Int) < (il : Int))
    (hQ : Hid (∀ (u130 u131 u132 u133 u134 u135 u136 u137 : Value), Q .normal ⟨#[t0, t1, t2, t3, t4, t5, t6, t7, t8, t9, t10, t11, .pointer (some ⟨S, 0, none⟩), t13, t14, t15, t16, t17, t18, .slice (some ⟨p, 0, none⟩) il ci, .int .i64 (t : Int), .pointer (some ⟨Y, 0, none⟩), t22, t23, t24, t25, t26, t27, t28, t29, t30, t31, t32, t33, t34, t35, t36, t37, t38, t39, t40, t41, t42, t43, t44, t45, t46, t47, t48, t49, t50, t51, t52, t53, t54, t55, t56, t57, t58, t59, t60, t61, t62, t63, t64, t65, t66, t67, t68, t69, t70, t71, t72, t73, t74, t75, t76, t77, t78, t79, t80, t81, t82, t83, t84, t85, t86, t87, t88, t89, t90, t91, t92, t93, t94, t95, t96, t97, t98, t99, t100, t101, t102, t103, t104, t105, t106, t107, t108, t109, t110, t111, t112, t113, t114, t115, t116, t117, t118, t119, t120, t121, t122, t123, t124, t125, t126, t127, t128, t129, u130, u131, u132, u133, u134, u135, u136, u137, t138, t139, t140, t141, t142, t143], []⟩ (w1.drew.setCell ⟨Y, 0, none⟩ (.int .i64 id)))) :
    Code.wp Tryz.prog ((Tryz.f14.body.bind (regionOf 32)).getD .skip) Q ⟨#[t0, t1, t2, t3, t4, t5, t6, t7, t8, t9, t10, t11, .pointer (some ⟨S, 0, none⟩), t13, t14, t15, t16, t17, t18, .slice (some ⟨p, 0, none⟩) il ci, .int .i64 (t : Int), .pointer (some ⟨Y, 0, none⟩), t22, t23, t24, t25, t26, t27, t28, t29, t30, t31, t32, t33, t34, t35, t36, t37, t38, t39, t40, t41, t42, t43, t44, t45, t46, t47, t48, t49, t50, t51, t52, t53, t54, t55, t56, t57, t58, t59, t60, t61, t62, t63, t64, t65, t66, t67, t68, t69, t70, t71, t72, t73, t74, t75, t76, t77, t78, t79, t80, t81, t82, t83, t84, t85, t86, t87, t88, t89, t90, t91, t92, t93, t94, t95, t96, t97, t98, t99, t100, t101, t102, t103, t104, t105, t106, t107, t108, t109, t110, t111, t112, t113, t114, t115, t116, t117, t118, t119, t120, t121, t122, t123, t124, t125, t126, t127, t128, t129, t130, t131, t132, t133, t134, t135, t136, t137, t138, t139, t140, t141, t142, t143], []⟩ w1 := by
  have HS : Hid ((fun w' => w'.cell? ⟨S, 1, none⟩ = some (.int .i64 1) ∧ w'.cell? ⟨p, t, none⟩ = some (.int .i64 id)) w1.drew) := ⟨((below_drew w1).cell (p := ⟨S, 1, none⟩) (Nat.lt_trans hSY hY)).trans x0, ((below_drew w1).cell (p := ⟨p, t, none⟩) (Nat.lt_trans hpY hY)).trans x1⟩
  have yd : w1.drew.cell? ⟨Y, 0, none⟩ = some y := ((below_drew w1).cell (p := ⟨Y, 0, none⟩) hY).trans y0
  have yfd : w1.drew.frozen? ⟨Y, 0, none⟩ = false := yf
  have HS2 : Hid ((fun w' => w'.cell? ⟨S, 1, none⟩ = some (.int .i64 1) ∧ w'.cell? ⟨p, t, none⟩ = some (.int .i64 id)) (w1.drew.setCell ⟨Y, 0, none⟩ (.int .i64 id))) := ⟨(set_else (by omega) _).trans HS.out.1, (set_else (by omega) _).trans HS.out.2⟩
  have hS := HS.out
  clear x0 x1 y0 yf
  conv => arg 2; whnf
  refine held_start (S := (fun w' => w'.cell? ⟨S, 1, none⟩ = some (.int .i64 1) ∧ w'.cell? ⟨p, t, none⟩ = some (.int .i64 id))) mixed5 ?_
  refine held_take (i := 0) (v := .pointer (some ⟨S, 1, none⟩)) rfl (by kernel_rfl) (fun _ _ _ h => h) (.inl ⟨rfl, fun w hS => ?_⟩) hS ?_
  · obtain ⟨s0, s1⟩ := hS
    go_simp
  simp only [Act.put, List.setIfInBounds_toArray, List.set_cons_zero, List.set_cons_succ]
  refine held_take (i := 1) (v := .int .i64 1) rfl (by kernel_rfl) (fun _ _ _ h => h) (.inl ⟨rfl, fun w hS => ?_⟩) hS ?_
  · obtain ⟨s0, s1⟩ := hS
    go_simp
  simp only [Act.put, List.setIfInBounds_toArray, List.set_cons_zero, List.set_cons_succ]
  refine held_take (i := 2) (v := .int .i64 0) rfl (by kernel_rfl) (fun _ _ _ h => h) (.inl ⟨rfl, fun w hS => ?_⟩) hS ?_
  · obtain ⟨s0, s1⟩ := hS
    go_simp
    decide
  simp only [Act.put, List.setIfInBounds_toArray, List.set_cons_zero, List.set_cons_succ]
  refine held_take (i := 3) (v := .slice (some ⟨p, 0, none⟩) il ci) rfl (by kernel_rfl) (fun _ _ _ h => h) (.inl ⟨rfl, fun w hS => ?_⟩) hS ?_
  · obtain ⟨s0, s1⟩ := hS
    go_simp
  simp only [Act.put, List.setIfInBounds_toArray, List.set_cons_zero, List.set_cons_succ]
  refine held_take (i := 4) (v := .int .i64 (t : Int)) rfl (by kernel_rfl) (fun _ _ _ h => h) (.inl ⟨rfl, fun w hS => ?_⟩) hS ?_
  · obtain ⟨s0, s1⟩ := hS
    go_simp
  simp only [Act.put, List.setIfInBounds_toArray, List.set_cons_zero, List.set_cons_succ]
  refine held_take (i := 5) (v := .pointer (some ⟨p, t, none⟩)) rfl (by kernel_rfl) (fun _ _ _ h => h) (.inl ⟨rfl, fun w hS => ?_⟩) hS ?_
  · obtain ⟨s0, s1⟩ := hS
    go_simp
  simp only [Act.put, List.setIfInBounds_toArray, List.set_cons_zero, List.set_cons_succ]
  refine held_take (i := 6) (v := .int .i64 id) rfl (by kernel_rfl) (fun _ _ _ h => h) (.inl ⟨rfl, fun w hS => ?_⟩) hS ?_
  · obtain ⟨s0, s1⟩ := hS
    go_simp
  simp only [Act.put, List.setIfInBounds_toArray, List.set_cons_zero, List.set_cons_succ]
  refine held_take (i := 7) (v := .pointer (some ⟨Y, 0, none⟩)) rfl (by kernel_rfl) (fun _ _ _ h => h) (.inl ⟨rfl, fun w hS => ?_⟩) hS ?_
  · obtain ⟨s0, s1⟩ := hS
    go_simp
  simp only [Act.put, List.setIfInBounds_toArray, List.set_cons_zero, List.set_cons_succ]
  refine held_one (i := 8) (by kernel_rfl) rfl rfl ?_
  intro K hK
  obtain ⟨s0, s1⟩ := hS
  go_simp
  refine hK.out _ _ HS2.out ?_
  clear hK
  try simp only [Act.put, List.setIfInBounds_toArray, List.set_cons_zero, List.set_cons_succ]
  refine wpAnyH_done (by kernel_rfl) ?_ _
  refine NoPanic.normal ?_
  exact hQ.out _ _ _ _ _ _ _ _
set_option maxHeartbeats 4000000 in
set_option maxRecDepth 60000 in
theorem y_put2 (t0 t1 t2 t3 t4 t5 t6 t7 t8 t9 t10 t11 t13 t14 t15 t16 t17 t18 t22 t23 t24 t25 t26 t27 t28 t29 t30 t31 t32 t33 t34 t35 t36 t37 t38 t39 t40 t41 t42 t43 t44 t45 t46 t47 t48 t49 t50 t51 t52 t53 t54 t55 t56 t57 t58 t59 t60 t61 t62 t63 t64 t65 t66 t67 t68 t69 t70 t71 t72 t73 t74 t75 t76 t77 t78 t79 t80 t81 t82 t83 t84 t85 t86 t87 t88 t89 t90 t91 t92 t93 t94 t95 t96 t97 t98 t99 t100 t101 t102 t103 t104 t105 t106 t107 t108 t109 t110 t111 t112 t113 t114 t115 t116 t117 t118 t119 t120 t121 t122 t123 t124 t125 t126 t127 t128 t129 t130 t131 t132 t133 t134 t135 t136 t137 t138 t139 t140 t141 t142 t143 : Value) (S p il ci t Y : Nat) (id : Int) (y : Value) (w1 : World) (Q : Exit → Act → World → Prop)
    (x0 : w1.cell? ⟨S, 1, none⟩ = some (.int .i64 2)) (x1 : w1.cell? ⟨p, t, none⟩ = some (.int .i64 id)) (hSY : S < Y) (hpY : p < Y) (hY : Y < w1.heap.size) (y0 : w1.cell? ⟨Y, 1, none⟩ = some y) (yf : w1.frozen? ⟨Y, 1, none⟩ = false) (ht0 : (0 : Int) ≤ (t : Int)) (ht1 : (t : Int) < (il : Int))
    (hQ : Hid (∀ (u130 u131 u132 u133 u134 u135 u136 u137 : Value), Q .normal ⟨#[t0, t1, t2, t3, t4, t5, t6, t7, t8, t9, t10, t11, .pointer (some ⟨S, 0, none⟩), t13, t14, t15, t16, t17, t18, .slice (some ⟨p, 0, none⟩) il ci, .int .i64 (t : Int), .pointer (some ⟨Y, 0, none⟩), t22, t23, t24, t25, t26, t27, t28, t29, t30, t31, t32, t33, t34, t35, t36, t37, t38, t39, t40, t41, t42, t43, t44, t45, t46, t47, t48, t49, t50, t51, t52, t53, t54, t55, t56, t57, t58, t59, t60, t61, t62, t63, t64, t65, t66, t67, t68, t69, t70, t71, t72, t73, t74, t75, t76, t77, t78, t79, t80, t81, t82, t83, t84, t85, t86, t87, t88, t89, t90, t91, t92, t93, t94, t95, t96, t97, t98, t99, t100, t101, t102, t103, t104, t105, t106, t107, t108, t109, t110, t111, t112, t113, t114, t115, t116, t117, t118, t119, t120, t121, t122, t123, t124, t125, t126, t127, t128, t129, u130, u131, u132, u133, u134, u135, u136, u137, t138, t139, t140, t141, t142, t143], []⟩ (w1.drew.setCell ⟨Y, 1, none⟩ (.int .i64 id)))) :
    Code.wp Tryz.prog ((Tryz.f14.body.bind (regionOf 32)).getD .skip) Q ⟨#[t0, t1, t2, t3, t4, t5, t6, t7, t8, t9, t10, t11, .pointer (some ⟨S, 0, none⟩), t13, t14, t15, t16, t17, t18, .slice (some ⟨p, 0, none⟩) il ci, .int .i64 (t : Int), .pointer (some ⟨Y, 0, none⟩), t22, t23, t24, t25, t26, t27, t28, t29, t30, t31, t32, t33, t34, t35, t36, t37, t38, t39, t40, t41, t42, t43, t44, t45, t46, t47, t48, t49, t50, t51, t52, t53, t54, t55, t56, t57, t58, t59, t60, t61, t62, t63, t64, t65, t66, t67, t68, t69, t70, t71, t72, t73, t74, t75, t76, t77, t78, t79, t80, t81, t82, t83, t84, t85, t86, t87, t88, t89, t90, t91, t92, t93, t94, t95, t96, t97, t98, t99, t100, t101, t102, t103, t104, t105, t106, t107, t108, t109, t110, t111, t112, t113, t114, t115, t116, t117, t118, t119, t120, t121, t122, t123, t124, t125, t126, t127, t128, t129, t130, t131, t132, t133, t134, t135, t136, t137, t138, t139, t140, t141, t142, t143], []⟩ w1 := by
  have HS : Hid ((fun w' => w'.cell? ⟨S, 1, none⟩ = some (.int .i64 2) ∧ w'.cell? ⟨p, t, none⟩ = some (.int .i64 id)) w1.drew) := ⟨((below_drew w1).cell (p := ⟨S, 1, none⟩) (Nat.lt_trans hSY hY)).trans x0, ((below_drew w1).cell (p := ⟨p, t, none⟩) (Nat.lt_trans hpY hY)).trans x1⟩
  have yd : w1.drew.cell? ⟨Y, 1, none⟩ = some y := ((below_drew w1).cell (p := ⟨Y, 1, none⟩) hY).trans y0
  have yfd : w1.drew.frozen? ⟨Y, 1, none⟩ = false := yf
  have HS2 : Hid ((fun w' => w'.cell? ⟨S, 1, none⟩ = some (.int .i64 2) ∧ w'.cell? ⟨p, t, none⟩ = some (.int .i64 id)) (w1.drew.setCell ⟨Y, 1, none⟩ (.int .i64 id))) := ⟨(set_else (by omega) _).trans HS.out.1, (set_else (by omega) _).trans HS.out.2⟩
  have hS := HS.out
  clear x0 x1 y0 yf
  conv => arg 2; whnf
  refine held_start (S := (fun w' => w'.cell? ⟨S, 1, none⟩ = some (.int .i64 2) ∧ w'.cell? ⟨p, t, none⟩ = some (.int .i64 id))) mixed5 ?_
  refine held_take (i := 0) (v := .pointer (some ⟨S, 1, none⟩)) rfl (by kernel_rfl) (fun _ _ _ h => h) (.inl ⟨rfl, fun w hS => ?_⟩) hS ?_
  · obtain ⟨s0, s1⟩ := hS
    go_simp
  simp only [Act.put, List.setIfInBounds_toArray, List.set_cons_zero, List.set_cons_succ]
  refine held_take (i := 1) (v := .int .i64 2) rfl (by kernel_rfl) (fun _ _ _ h => h) (.inl ⟨rfl, fun w hS => ?_⟩) hS ?_
  · obtain ⟨s0, s1⟩ := hS
    go_simp
  simp only [Act.put, List.setIfInBounds_toArray, List.set_cons_zero, List.set_cons_succ]
  refine held_take (i := 2) (v := .int .i64 1) rfl (by kernel_rfl) (fun _ _ _ h => h) (.inl ⟨rfl, fun w hS => ?_⟩) hS ?_
  · obtain ⟨s0, s1⟩ := hS
    go_simp
    decide
  simp only [Act.put, List.setIfInBounds_toArray, List.set_cons_zero, List.set_cons_succ]
  refine held_take (i := 3) (v := .slice (some ⟨p, 0, none⟩) il ci) rfl (by kernel_rfl) (fun _ _ _ h => h) (.inl ⟨rfl, fun w hS => ?_⟩) hS ?_
  · obtain ⟨s0, s1⟩ := hS
    go_simp
  simp only [Act.put, List.setIfInBounds_toArray, List.set_cons_zero, List.set_cons_succ]
  refine held_take (i := 4) (v := .int .i64 (t : Int)) rfl (by kernel_rfl) (fun _ _ _ h => h) (.inl ⟨rfl, fun w hS => ?_⟩) hS ?_
  · obtain ⟨s0, s1⟩ := hS
    go_simp
  simp only [Act.put, List.setIfInBounds_toArray, List.set_cons_zero, List.set_cons_succ]
  refine held_take (i := 5) (v := .pointer (some ⟨p, t, none⟩)) rfl (by kernel_rfl) (fun _ _ _ h => h) (.inl ⟨rfl, fun w hS => ?_⟩) hS ?_
  · obtain ⟨s0, s1⟩ := hS
    go_simp
  simp only [Act.put, List.setIfInBounds_toArray, List.set_cons_zero, List.set_cons_succ]
  refine held_take (i := 6) (v := .int .i64 id) rfl (by kernel_rfl) (fun _ _ _ h => h) (.inl ⟨rfl, fun w hS => ?_⟩) hS ?_
  · obtain ⟨s0, s1⟩ := hS
    go_simp
  simp only [Act.put, List.setIfInBounds_toArray, List.set_cons_zero, List.set_cons_succ]
  refine held_take (i := 7) (v := .pointer (some ⟨Y, 1, none⟩)) rfl (by kernel_rfl) (fun _ _ _ h => h) (.inl ⟨rfl, fun w hS => ?_⟩) hS ?_
  · obtain ⟨s0, s1⟩ := hS
    go_simp
  simp only [Act.put, List.setIfInBounds_toArray, List.set_cons_zero, List.set_cons_succ]
  refine held_one (i := 8) (by kernel_rfl) rfl rfl ?_
  intro K hK
  obtain ⟨s0, s1⟩ := hS
  go_simp
  refine hK.out _ _ HS2.out ?_
  clear hK
  try simp only [Act.put, List.setIfInBounds_toArray, List.set_cons_zero, List.set_cons_succ]
  refine wpAnyH_done (by kernel_rfl) ?_ _
  refine NoPanic.normal ?_
  exact hQ.out _ _ _ _ _ _ _ _
set_option maxHeartbeats 4000000 in
set_option maxRecDepth 60000 in
theorem y_put3 (t0 t1 t2 t3 t4 t5 t6 t7 t8 t9 t10 t11 t13 t14 t15 t16 t17 t18 t22 t23 t24 t25 t26 t27 t28 t29 t30 t31 t32 t33 t34 t35 t36 t37 t38 t39 t40 t41 t42 t43 t44 t45 t46 t47 t48 t49 t50 t51 t52 t53 t54 t55 t56 t57 t58 t59 t60 t61 t62 t63 t64 t65 t66 t67 t68 t69 t70 t71 t72 t73 t74 t75 t76 t77 t78 t79 t80 t81 t82 t83 t84 t85 t86 t87 t88 t89 t90 t91 t92 t93 t94 t95 t96 t97 t98 t99 t100 t101 t102 t103 t104 t105 t106 t107 t108 t109 t110 t111 t112 t113 t114 t115 t116 t117 t118 t119 t120 t121 t122 t123 t124 t125 t126 t127 t128 t129 t130 t131 t132 t133 t134 t135 t136 t137 t138 t139 t140 t141 t142 t143 : Value) (S p il ci t Y : Nat) (id : Int) (y : Value) (w1 : World) (Q : Exit → Act → World → Prop)
    (x0 : w1.cell? ⟨S, 1, none⟩ = some (.int .i64 3)) (x1 : w1.cell? ⟨p, t, none⟩ = some (.int .i64 id)) (hSY : S < Y) (hpY : p < Y) (hY : Y < w1.heap.size) (y0 : w1.cell? ⟨Y, 2, none⟩ = some y) (yf : w1.frozen? ⟨Y, 2, none⟩ = false) (ht0 : (0 : Int) ≤ (t : Int)) (ht1 : (t : Int) < (il : Int))
    (hQ : Hid (∀ (u130 u131 u132 u133 u134 u135 u136 u137 : Value), Q .normal ⟨#[t0, t1, t2, t3, t4, t5, t6, t7, t8, t9, t10, t11, .pointer (some ⟨S, 0, none⟩), t13, t14, t15, t16, t17, t18, .slice (some ⟨p, 0, none⟩) il ci, .int .i64 (t : Int), .pointer (some ⟨Y, 0, none⟩), t22, t23, t24, t25, t26, t27, t28, t29, t30, t31, t32, t33, t34, t35, t36, t37, t38, t39, t40, t41, t42, t43, t44, t45, t46, t47, t48, t49, t50, t51, t52, t53, t54, t55, t56, t57, t58, t59, t60, t61, t62, t63, t64, t65, t66, t67, t68, t69, t70, t71, t72, t73, t74, t75, t76, t77, t78, t79, t80, t81, t82, t83, t84, t85, t86, t87, t88, t89, t90, t91, t92, t93, t94, t95, t96, t97, t98, t99, t100, t101, t102, t103, t104, t105, t106, t107, t108, t109, t110, t111, t112, t113, t114, t115, t116, t117, t118, t119, t120, t121, t122, t123, t124, t125, t126, t127, t128, t129, u130, u131, u132, u133, u134, u135, u136, u137, t138, t139, t140, t141, t142, t143], []⟩ (w1.drew.setCell ⟨Y, 2, none⟩ (.int .i64 id)))) :
    Code.wp Tryz.prog ((Tryz.f14.body.bind (regionOf 32)).getD .skip) Q ⟨#[t0, t1, t2, t3, t4, t5, t6, t7, t8, t9, t10, t11, .pointer (some ⟨S, 0, none⟩), t13, t14, t15, t16, t17, t18, .slice (some ⟨p, 0, none⟩) il ci, .int .i64 (t : Int), .pointer (some ⟨Y, 0, none⟩), t22, t23, t24, t25, t26, t27, t28, t29, t30, t31, t32, t33, t34, t35, t36, t37, t38, t39, t40, t41, t42, t43, t44, t45, t46, t47, t48, t49, t50, t51, t52, t53, t54, t55, t56, t57, t58, t59, t60, t61, t62, t63, t64, t65, t66, t67, t68, t69, t70, t71, t72, t73, t74, t75, t76, t77, t78, t79, t80, t81, t82, t83, t84, t85, t86, t87, t88, t89, t90, t91, t92, t93, t94, t95, t96, t97, t98, t99, t100, t101, t102, t103, t104, t105, t106, t107, t108, t109, t110, t111, t112, t113, t114, t115, t116, t117, t118, t119, t120, t121, t122, t123, t124, t125, t126, t127, t128, t129, t130, t131, t132, t133, t134, t135, t136, t137, t138, t139, t140, t141, t142, t143], []⟩ w1 := by
  have HS : Hid ((fun w' => w'.cell? ⟨S, 1, none⟩ = some (.int .i64 3) ∧ w'.cell? ⟨p, t, none⟩ = some (.int .i64 id)) w1.drew) := ⟨((below_drew w1).cell (p := ⟨S, 1, none⟩) (Nat.lt_trans hSY hY)).trans x0, ((below_drew w1).cell (p := ⟨p, t, none⟩) (Nat.lt_trans hpY hY)).trans x1⟩
  have yd : w1.drew.cell? ⟨Y, 2, none⟩ = some y := ((below_drew w1).cell (p := ⟨Y, 2, none⟩) hY).trans y0
  have yfd : w1.drew.frozen? ⟨Y, 2, none⟩ = false := yf
  have HS2 : Hid ((fun w' => w'.cell? ⟨S, 1, none⟩ = some (.int .i64 3) ∧ w'.cell? ⟨p, t, none⟩ = some (.int .i64 id)) (w1.drew.setCell ⟨Y, 2, none⟩ (.int .i64 id))) := ⟨(set_else (by omega) _).trans HS.out.1, (set_else (by omega) _).trans HS.out.2⟩
  have hS := HS.out
  clear x0 x1 y0 yf
  conv => arg 2; whnf
  refine held_start (S := (fun w' => w'.cell? ⟨S, 1, none⟩ = some (.int .i64 3) ∧ w'.cell? ⟨p, t, none⟩ = some (.int .i64 id))) mixed5 ?_
  refine held_take (i := 0) (v := .pointer (some ⟨S, 1, none⟩)) rfl (by kernel_rfl) (fun _ _ _ h => h) (.inl ⟨rfl, fun w hS => ?_⟩) hS ?_
  · obtain ⟨s0, s1⟩ := hS
    go_simp
  simp only [Act.put, List.setIfInBounds_toArray, List.set_cons_zero, List.set_cons_succ]
  refine held_take (i := 1) (v := .int .i64 3) rfl (by kernel_rfl) (fun _ _ _ h => h) (.inl ⟨rfl, fun w hS => ?_⟩) hS ?_
  · obtain ⟨s0, s1⟩ := hS
    go_simp
  simp only [Act.put, List.setIfInBounds_toArray, List.set_cons_zero, List.set_cons_succ]
  refine held_take (i := 2) (v := .int .i64 2) rfl (by kernel_rfl) (fun _ _ _ h => h) (.inl ⟨rfl, fun w hS => ?_⟩) hS ?_
  · obtain ⟨s0, s1⟩ := hS
    go_simp
    decide
  simp only [Act.put, List.setIfInBounds_toArray, List.set_cons_zero, List.set_cons_succ]
  refine held_take (i := 3) (v := .slice (some ⟨p, 0, none⟩) il ci) rfl (by kernel_rfl) (fun _ _ _ h => h) (.inl ⟨rfl, fun w hS => ?_⟩) hS ?_
  · obtain ⟨s0, s1⟩ := hS
    go_simp
  simp only [Act.put, List.setIfInBounds_toArray, List.set_cons_zero, List.set_cons_succ]
  refine held_take (i := 4) (v := .int .i64 (t : Int)) rfl (by kernel_rfl) (fun _ _ _ h => h) (.inl ⟨rfl, fun w hS => ?_⟩) hS ?_
  · obtain ⟨s0, s1⟩ := hS
    go_simp
  simp only [Act.put, List.setIfInBounds_toArray, List.set_cons_zero, List.set_cons_succ]
  refine held_take (i := 5) (v := .pointer (some ⟨p, t, none⟩)) rfl (by kernel_rfl) (fun _ _ _ h => h) (.inl ⟨rfl, fun w hS => ?_⟩) hS ?_
  · obtain ⟨s0, s1⟩ := hS
    go_simp
  simp only [Act.put, List.setIfInBounds_toArray, List.set_cons_zero, List.set_cons_succ]
  refine held_take (i := 6) (v := .int .i64 id) rfl (by kernel_rfl) (fun _ _ _ h => h) (.inl ⟨rfl, fun w hS => ?_⟩) hS ?_
  · obtain ⟨s0, s1⟩ := hS
    go_simp
  simp only [Act.put, List.setIfInBounds_toArray, List.set_cons_zero, List.set_cons_succ]
  refine held_take (i := 7) (v := .pointer (some ⟨Y, 2, none⟩)) rfl (by kernel_rfl) (fun _ _ _ h => h) (.inl ⟨rfl, fun w hS => ?_⟩) hS ?_
  · obtain ⟨s0, s1⟩ := hS
    go_simp
  simp only [Act.put, List.setIfInBounds_toArray, List.set_cons_zero, List.set_cons_succ]
  refine held_one (i := 8) (by kernel_rfl) rfl rfl ?_
  intro K hK
  obtain ⟨s0, s1⟩ := hS
  go_simp
  refine hK.out _ _ HS2.out ?_
  clear hK
  try simp only [Act.put, List.setIfInBounds_toArray, List.set_cons_zero, List.set_cons_succ]
  refine wpAnyH_done (by kernel_rfl) ?_ _
  refine NoPanic.normal ?_
  exact hQ.out _ _ _ _ _ _ _ _
end Go.Proofs.YtmifdjkaclgibaaGreat.Tp
