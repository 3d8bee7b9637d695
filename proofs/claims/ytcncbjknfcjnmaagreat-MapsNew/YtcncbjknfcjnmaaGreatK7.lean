/-
  The contracts of slices.Insert into nothing, of changeNode and change, for a node added to none.
  The contracts of changeNode and change, for the one node that goes up.
  The contract of turn, of bare maps where those who act no more were too few.
  The contract of Apply, of bare maps, for whatever delta is taken and turns as turn_bare asks.
-/
import Derived.Test.YtcncbjknfcjnmaaGreatK6
import Derived.Test.YtcncbjknfcjnmaaGreatTpR
namespace Go.Proofs.YtcncbjknfcjnmaaGreat.Tp
open Go.ChangeShapes Go.WideShapes Go.ChangeAt Go.RowKit
set_option maxRecDepth 60000 in
theorem added_ex (id z r wt : Int) (w : World) : Calls Tryz.prog 88 #[.agg #[.int .i64 1, .int .i64 id, .int .i64 z, .int .i64 r, .int .i64 wt, .int .i64 0, .slice none 0 0]] w fun e w' => e = .returned (.agg #[.int .i64 id, .int .i64 z, .int .i64 r, .int .i64 wt, .bool false, .bool true]) ∧ w' = (w.alloc (.cells #[.int .i64 1, .int .i64 id, .int .i64 z, .int .i64 r, .int .i64 wt, .int .i64 0, .slice none 0 0] 37)).alloc (.cells #[.int .i64 id, .int .i64 z, .int .i64 r, .int .i64 wt, .bool false, .bool true] 72) := by
  go_enter Tryz.func88, Tryz.ntmps88
  go_wp2_with fail
  refine bodyPost_ret (ret_nd rfl _ _ (w.heap.size + 1) (.int .i64 id) (.int .i64 z) (.int .i64 r) (.int .i64 wt) (.bool false) (.bool true) rfl (by unfold Six; simp)) rfl ?_
  exact ⟨rfl, rfl⟩
set_option maxHeartbeats 1000000 in
set_option maxRecDepth 60000 in
theorem insertNd_none (id z r wt : Int) (W : World) : Calls Tryz.prog 115 #[.slice none 0 0, .int .i64 0, .slice (some ⟨W.heap.size, 0, none⟩) 1 1] (W.alloc (.cells #[.int .i64 id, .int .i64 z, .int .i64 r, .int .i64 wt, .bool false, .bool true] 72)) fun e w' => ∃ g c, e = .returned (.slice (some ⟨g, 0, none⟩) 1 c) ∧ w'.ownsRow W.heap.size 72 6 (.slice (some ⟨g, 0, none⟩) 1 c) 1 (ndsCells [⟨id, z, r, wt, false, true⟩]) ∧ Below W.heap.size W w' := by
  obtain ⟨i0, hi, hz0, hz1, hz2⟩ := info_parts infoNode8
  have H0 := own_nothing (W.alloc (.cells #[.int .i64 id, .int .i64 z, .int .i64 r, .int .i64 wt, .bool false, .bool true] 72)) W.heap.size 72 6
  have hnews := cells_lit W [.int .i64 id, .int .i64 z, .int .i64 r, .int .i64 wt, .bool false, .bool true] 72
  have hb1 := below_alloc W (.cells #[.int .i64 id, .int .i64 z, .int .i64 r, .int .i64 wt, .bool false, .bool true] 72)
  have hsz : W.heap.size ≤ (W.alloc (.cells #[.int .i64 id, .int .i64 z, .int .i64 r, .int .i64 wt, .bool false, .bool true] 72)).heap.size := hb1.size
  generalize hW1 : W.alloc (.cells #[.int .i64 id, .int .i64 z, .int .i64 r, .int .i64 wt, .bool false, .bool true] 72) = W1 at *
  have hnews' : ∀ j u, [.int .i64 id, .int .i64 z, .int .i64 r, .int .i64 wt, .bool false, .bool true][j]? = some u → W1.cell? ((⟨W.heap.size, 0, none⟩ : Addr).add j) = some u := fun j u h => by rw [← hW1]; exact cells_lit W [.int .i64 id, .int .i64 z, .int .i64 r, .int .i64 wt, .bool false, .bool true] 72 j u h
  clear hW1 hnews
  go_enter Tryz.func115, Tryz.ntmps115
  go_wp2_with (at_builtin; refine wpList_append_own _ rfl _ _ 22 rfl W.heap.size 72 i0 (.agg #[.int .i64 0, .int .i64 0, .int .i64 0, .int .i64 0, .bool false, .bool false]) 6 40 Tryz.underlying22 hi hz0 hz1 hz2 rfl (by decide) _ _ _ rfl H0 ⟨W.heap.size, 0, none⟩ 1 1 [.int .i64 id, .int .i64 z, .int .i64 r, .int .i64 wt, .bool false, .bool true] rfl rfl hnews' (by intro u hu; simp at hu; rcases hu with rfl | rfl | rfl | rfl | rfl | rfl <;> rfl) (by unfold maxLen; omega) (by omega) hsz ?_)
  intro v7 w7 hown7 hg7 hiff
  obtain ⟨g, c, rfl, hgB, -, -⟩ := own_some hown7 (by decide)
  have HO : Hid (w7.ownsRow W.heap.size 72 6 (.slice (some ⟨g, 0, none⟩) 1 c) 1 (ndsCells [⟨id, z, r, wt, false, true⟩])) := hown7
  have hb7 : Below W.heap.size W w7 := below2 hb1 ⟨hg7.os, hg7.tape, hg7.output, hg7.size, fun k hk => hg7.block k hk (by simp [Value.ownBlock])⟩
  clear hown7 hg7 hiff H0 hnews'
  go_wp2_with fail
  go_ret
  exact ⟨g, c, rfl, HO.out, hb7⟩
set_option maxHeartbeats 4000000 in
set_option maxRecDepth 60000 in
theorem cn_add (t1 t2 t5 t6 t7 t8 t9 t10 t11 t12 t13 t14 t15 t16 t17 t18 t19 t20 t21 t22 t23 t24 t25 t26 t27 t28 t29 t30 t31 t32 t33 t34 t35 t36 t37 t38 t39 t40 t41 t42 t43 t44 t45 t46 t47 t48 t49 t50 t51 t52 t53 t54 t55 t56 t57 t58 : Value) (pm pd : Nat) (id z r wt ep sz mn gr : Int) (vT vR : Value) (w1 : World) (Q : Exit → Act → World → Prop)
    (hA : Box7 w1 pm (.int .i64 ep) (.int .i64 sz) (.int .i64 mn) (.int .i64 gr) (.slice none 0 0) vT vR) (hD : Box7 w1 pd (.int .i64 1) (.int .i64 id) (.int .i64 z) (.int .i64 r) (.int .i64 wt) (.int .i64 0) (.slice none 0 0))
    (hQ : Hid (∀ (u34 u35 u36 u37 u38 u39 u40 u41 u42 u43 u44 u45 : Value) (g c : Nat) (W : World), Below w1.heap.size w1 W → W.ownsRow w1.heap.size 72 6 (.slice (some ⟨g, 0, none⟩) 1 c) 1 (ndsCells [⟨id, z, r, wt, false, true⟩]) → Q .normal ⟨#[.pointer (some ⟨pm, 0, none⟩), t1, t2, .pointer (some ⟨pd, 0, none⟩), .int .i64 0, t5, t6, t7, t8, t9, t10, t11, t12, t13, t14, t15, t16, t17, t18, t19, t20, t21, t22, t23, t24, t25, t26, t27, t28, t29, t30, t31, t32, t33, u34, u35, u36, u37, u38, u39, u40, u41, u42, u43, u44, u45, t46, t47, t48, t49, t50, t51, t52, t53, t54, t55, t56, t57, t58], []⟩ (W.setCell ⟨pm, 4, none⟩ (.slice (some ⟨g, 0, none⟩) 1 c)))) :
    Code.wp Tryz.prog ((Tryz.f95.body.bind (regionOf 5)).getD .skip) Q ⟨#[.pointer (some ⟨pm, 0, none⟩), t1, t2, .pointer (some ⟨pd, 0, none⟩), .int .i64 0, t5, t6, t7, t8, t9, t10, t11, t12, t13, t14, t15, t16, t17, t18, t19, t20, t21, t22, t23, t24, t25, t26, t27, t28, t29, t30, t31, t32, t33, t34, t35, t36, t37, t38, t39, t40, t41, t42, t43, t44, t45, t46, t47, t48, t49, t50, t51, t52, t53, t54, t55, t56, t57, t58], []⟩ w1 := by
  have HS : Hid (∀ w', Below w1.heap.size w1 w' → (fun w' => Box7 w' pm (.int .i64 ep) (.int .i64 sz) (.int .i64 mn) (.int .i64 gr) (.slice none 0 0) vT vR ∧ Box7 w' pd (.int .i64 1) (.int .i64 id) (.int .i64 z) (.int .i64 r) (.int .i64 wt) (.int .i64 0) (.slice none 0 0) ∧ Below w1.heap.size w1 w') w') := fun w' h => ⟨hA.below h, hD.below h, h⟩
  have HAD : Hid (∀ W, Calls Tryz.prog 88 #[.agg #[.int .i64 1, .int .i64 id, .int .i64 z, .int .i64 r, .int .i64 wt, .int .i64 0, .slice none 0 0]] W fun e w' => e = .returned (.agg #[.int .i64 id, .int .i64 z, .int .i64 r, .int .i64 wt, .bool false, .bool true]) ∧ w' = (W.alloc (.cells #[.int .i64 1, .int .i64 id, .int .i64 z, .int .i64 r, .int .i64 wt, .int .i64 0, .slice none 0 0] 37)).alloc (.cells #[.int .i64 id, .int .i64 z, .int .i64 r, .int .i64 wt, .bool false, .bool true] 72)) := added_ex id z r wt
  have HIN : Hid (∀ W : World, Calls Tryz.prog 115 #[.slice none 0 0, .int .i64 0, .slice (some ⟨W.heap.size, 0, none⟩) 1 1] (W.alloc (.cells #[.int .i64 id, .int .i64 z, .int .i64 r, .int .i64 wt, .bool false, .bool true] 72)) fun e w' => ∃ g c, e = .returned (.slice (some ⟨g, 0, none⟩) 1 c) ∧ w'.ownsRow W.heap.size 72 6 (.slice (some ⟨g, 0, none⟩) 1 c) 1 (ndsCells [⟨id, z, r, wt, false, true⟩]) ∧ Below W.heap.size W w') := insertNd_none id z r wt
  have hS := HS.out w1.drew (below_drew w1)
  clear hA hD
  conv => arg 2; whnf
  refine wp_region_but (S := (fun w' => Box7 w' pm (.int .i64 ep) (.int .i64 sz) (.int .i64 mn) (.int .i64 gr) (.slice none 0 0) vT vR ∧ Box7 w' pd (.int .i64 1) (.int .i64 id) (.int .i64 z) (.int .i64 r) (.int .i64 wt) (.int .i64 0) (.slice none 0 0) ∧ Below w1.heap.size w1 w')) (n := 12) mixed5 ?_
  refine but_take (i := 0) (v := .pointer (some ⟨pm, 0, none⟩)) rfl (by kernel_rfl) (fun _ _ _ h => h) (.inl ⟨rfl, fun w hS => ?_⟩) hS ?_
  · obtain ⟨⟨⟨s0, s1, s2, s3, s4, s5, s6⟩, ⟨f0, f1, f2, f3, f4, f5, f6⟩⟩, ⟨⟨d0, d1, d2, d3, d4, d5, d6⟩, -⟩, hbS⟩ := hS
    go_simp
  simp only [Act.put, List.setIfInBounds_toArray, List.set_cons_zero, List.set_cons_succ]
  refine but_take (i := 1) (v := .pointer (some ⟨pm, 0, none⟩)) rfl (by kernel_rfl) (fun _ _ _ h => h) (.inl ⟨rfl, fun w hS => ?_⟩) hS ?_
  · obtain ⟨⟨⟨s0, s1, s2, s3, s4, s5, s6⟩, ⟨f0, f1, f2, f3, f4, f5, f6⟩⟩, ⟨⟨d0, d1, d2, d3, d4, d5, d6⟩, -⟩, hbS⟩ := hS
    go_simp
  simp only [Act.put, List.setIfInBounds_toArray, List.set_cons_zero, List.set_cons_succ]
  refine but_take (i := 2) (v := .pointer (some ⟨pm, 0, none⟩)) rfl (by kernel_rfl) (fun _ _ _ h => h) (.inl ⟨rfl, fun w hS => ?_⟩) hS ?_
  · obtain ⟨⟨⟨s0, s1, s2, s3, s4, s5, s6⟩, ⟨f0, f1, f2, f3, f4, f5, f6⟩⟩, ⟨⟨d0, d1, d2, d3, d4, d5, d6⟩, -⟩, hbS⟩ := hS
    go_simp
  simp only [Act.put, List.setIfInBounds_toArray, List.set_cons_zero, List.set_cons_succ]
  refine but_take (i := 3) (v := .pointer (some ⟨pm, 4, none⟩)) rfl (by kernel_rfl) (fun _ _ _ h => h) (.inl ⟨rfl, fun w hS => ?_⟩) hS ?_
  · obtain ⟨⟨⟨s0, s1, s2, s3, s4, s5, s6⟩, ⟨f0, f1, f2, f3, f4, f5, f6⟩⟩, ⟨⟨d0, d1, d2, d3, d4, d5, d6⟩, -⟩, hbS⟩ := hS
    go_simp
  simp only [Act.put, List.setIfInBounds_toArray, List.set_cons_zero, List.set_cons_succ]
  refine but_take (i := 4) (v := .slice none 0 0) rfl (by kernel_rfl) (fun _ _ _ h => h) (.inl ⟨rfl, fun w hS => ?_⟩) hS ?_
  · obtain ⟨⟨⟨s0, s1, s2, s3, s4, s5, s6⟩, ⟨f0, f1, f2, f3, f4, f5, f6⟩⟩, ⟨⟨d0, d1, d2, d3, d4, d5, d6⟩, -⟩, hbS⟩ := hS
    go_simp
  simp only [Act.put, List.setIfInBounds_toArray, List.set_cons_zero, List.set_cons_succ]
  refine but_take (i := 5) (v := .int .i64 0) rfl (by kernel_rfl) (fun _ _ _ h => h) (.inl ⟨rfl, fun w hS => ?_⟩) hS ?_
  · obtain ⟨⟨⟨s0, s1, s2, s3, s4, s5, s6⟩, ⟨f0, f1, f2, f3, f4, f5, f6⟩⟩, ⟨⟨d0, d1, d2, d3, d4, d5, d6⟩, -⟩, hbS⟩ := hS
    go_simp
  simp only [Act.put, List.setIfInBounds_toArray, List.set_cons_zero, List.set_cons_succ]
  refine but_take (i := 6) (v := .agg #[.int .i64 1, .int .i64 id, .int .i64 z, .int .i64 r, .int .i64 wt, .int .i64 0, .slice none 0 0]) rfl (by kernel_rfl) (fun _ _ _ h => h) (.inl ⟨rfl, fun w hS => ?_⟩) hS ?_
  · obtain ⟨⟨⟨s0, s1, s2, s3, s4, s5, s6⟩, ⟨f0, f1, f2, f3, f4, f5, f6⟩⟩, ⟨⟨d0, d1, d2, d3, d4, d5, d6⟩, -⟩, hbS⟩ := hS
    go_simp
  simp only [Act.put, List.setIfInBounds_toArray, List.set_cons_zero, List.set_cons_succ]
  refine but_one (i := 7) (by kernel_rfl) rfl rfl ?_
  intro K hK
  go_simp
  go_at_call 88
  refine (HAD.out _).mono ?_
  rintro en w3 ⟨rfl, hw3⟩
  have hb3 : Below w1.heap.size w1 w3 := by rw [hw3]; exact below2 (below_drew w1) (below2 (below_alloc _ _) (below_alloc _ _))
  clear hw3
  refine hK.out _ _ (fun _ => HS.out w3 hb3) ?_
  clear hK hS
  have hS := HS.out w3 hb3
  try simp only [Act.put, List.setIfInBounds_toArray, List.set_cons_zero, List.set_cons_succ]
  refine but_one (i := 8) (by kernel_rfl) rfl rfl ?_
  intro K hK
  go_simp
  have hb4 : Below w1.heap.size w1 (w3.alloc (.cells #[.int .i64 id, .int .i64 z, .int .i64 r, .int .i64 wt, .bool false, .bool true] 72)) := below2 hb3 (below_alloc _ _)
  refine hK.out _ _ (fun _ => HS.out _ hb4) ?_
  clear hK hS
  have hS := HS.out _ hb4
  try simp only [Act.put, List.setIfInBounds_toArray, List.set_cons_zero, List.set_cons_succ]
  refine but_one (i := 9) (by kernel_rfl) rfl rfl ?_
  intro K hK
  go_simp
  go_at_call 115
  refine (HIN.out _).mono ?_
  rintro en w5 ⟨g5, cp5, rfl, ho5, hb5⟩
  have hbz : Below w1.heap.size w1 w5 := below2 hb3 hb5
  have HO5 : Hid (w5.ownsRow w1.heap.size 72 6 (.slice (some ⟨g5, 0, none⟩) 1 cp5) 1 (ndsCells [⟨id, z, r, wt, false, true⟩])) := own_base ho5 hb3.size
  clear ho5
  refine hK.out _ _ (fun _ => HS.out w5 hbz) ?_
  clear hK hS
  have hS := HS.out w5 hbz
  try simp only [Act.put, List.setIfInBounds_toArray, List.set_cons_zero, List.set_cons_succ]
  refine but_take (i := 10) (v := .pointer (some ⟨pm, 0, none⟩)) rfl (by kernel_rfl) (fun _ _ _ h => h) (.inl ⟨rfl, fun w hS => ?_⟩) hS ?_
  · obtain ⟨⟨⟨s0, s1, s2, s3, s4, s5, s6⟩, ⟨f0, f1, f2, f3, f4, f5, f6⟩⟩, ⟨⟨d0, d1, d2, d3, d4, d5, d6⟩, -⟩, hbS⟩ := hS
    go_simp
  simp only [Act.put, List.setIfInBounds_toArray, List.set_cons_zero, List.set_cons_succ]
  refine but_take (i := 11) (v := .pointer (some ⟨pm, 4, none⟩)) rfl (by kernel_rfl) (fun _ _ _ h => h) (.inl ⟨rfl, fun w hS => ?_⟩) hS ?_
  · obtain ⟨⟨⟨s0, s1, s2, s3, s4, s5, s6⟩, ⟨f0, f1, f2, f3, f4, f5, f6⟩⟩, ⟨⟨d0, d1, d2, d3, d4, d5, d6⟩, -⟩, hbS⟩ := hS
    go_simp
  simp only [Act.put, List.setIfInBounds_toArray, List.set_cons_zero, List.set_cons_succ]
  refine but_one (i := 12) (by kernel_rfl) rfl rfl ?_
  intro K hK
  obtain ⟨⟨⟨s0, s1, s2, s3, s4, s5, s6⟩, ⟨f0, f1, f2, f3, f4, f5, f6⟩⟩, ⟨⟨d0, d1, d2, d3, d4, d5, d6⟩, -⟩, hbS⟩ := hS
  go_simp
  refine hK.out _ _ (fun h => absurd rfl h) ?_
  clear hK
  try simp only [Act.put, List.setIfInBounds_toArray, List.set_cons_zero, List.set_cons_succ]
  refine AnyBut.done (by kernel_rfl) ?_ _
  refine NoPanic.normal ?_
  exact hQ.out _ _ _ _ _ _ _ _ _ _ _ _ g5 cp5 w5 hbz HO5.out
set_option maxHeartbeats 2000000 in
set_option maxRecDepth 60000 in
theorem changeNode_add {pm N : Nat} {m : Mp} {s : MV} {id z r wt : Int} (hn : m.nds = []) (hs : s.aN = none ∧ s.lN = 0 ∧ s.cN = 0) (w : World) (hL : Live w pm N m s) (hN : N ≤ w.heap.size) :
    Calls Tryz.prog 95 #[.pointer (some ⟨pm, 0, none⟩), .agg #[.int .i64 1, .int .i64 id, .int .i64 z, .int .i64 r, .int .i64 wt, .int .i64 0, .slice none 0 0]] w fun e w' => e = .returned (.tuple #[]) ∧ (∃ g c, Live w' pm N { m with nds := [⟨id, z, r, wt, false, true⟩] } { s with aN := some ⟨g, 0, none⟩, lN := 1, cN := c }) ∧ Kp w w' ∧ Below N w w' := by
  have hb1 := below_alloc w (.cells #[.int .i64 1, .int .i64 id, .int .i64 z, .int .i64 r, .int .i64 wt, .int .i64 0, .slice none 0 0] 37)
  have HL1 : Hid (Live (w.alloc (.cells #[.int .i64 1, .int .i64 id, .int .i64 z, .int .i64 r, .int .i64 wt, .int .i64 0, .slice none 0 0] 37)) pm N m s) := hL.below hb1
  have HBD : Hid (Box7 (w.alloc (.cells #[.int .i64 1, .int .i64 id, .int .i64 z, .int .i64 r, .int .i64 wt, .int .i64 0, .slice none 0 0] 37)) w.heap.size (.int .i64 1) (.int .i64 id) (.int .i64 z) (.int .i64 r) (.int .i64 wt) (.int .i64 0) (.slice none 0 0)) := Box7.new w _ _ _ _ _ _ _ _
  generalize hw1 : w.alloc (.cells #[.int .i64 1, .int .i64 id, .int .i64 z, .int .i64 r, .int .i64 wt, .int .i64 0, .slice none 0 0] 37) = w1 at *
  have HND : Hid (∀ W, Below w1.heap.size w1 W → Calls Tryz.prog 68 #[.agg (mapCells m s).toArray, .int .i64 id] W fun e w' => e = .returned (.tuple #[.int .i64 0, .bool false]) ∧ Grown W w') := fun W hb => (node_grown m s id W ((nds_own HL1.out.own.nds HL1.out.own.ndl).1.below hb) (by rw [hn]; exact ⟨Nat.zero_le _, fun i hi => by simp at hi⟩)).mono fun e w' ⟨hg, p, t, he, hI⟩ => by
    rw [hn] at hI
    obtain ⟨rfl, rfl⟩ := srch_none hI
    exact ⟨he, hg⟩
  have HAD : Hid (∀ W, Calls Tryz.prog 88 #[.agg #[.int .i64 1, .int .i64 id, .int .i64 z, .int .i64 r, .int .i64 wt, .int .i64 0, .slice none 0 0]] W fun e w' => e = .returned (.agg #[.int .i64 id, .int .i64 z, .int .i64 r, .int .i64 wt, .bool false, .bool true]) ∧ w' = (W.alloc (.cells #[.int .i64 1, .int .i64 id, .int .i64 z, .int .i64 r, .int .i64 wt, .int .i64 0, .slice none 0 0] 37)).alloc (.cells #[.int .i64 id, .int .i64 z, .int .i64 r, .int .i64 wt, .bool false, .bool true] 72)) := added_ex id z r wt
  have HIN : Hid (∀ W : World, Calls Tryz.prog 115 #[.slice none 0 0, .int .i64 0, .slice (some ⟨W.heap.size, 0, none⟩) 1 1] (W.alloc (.cells #[.int .i64 id, .int .i64 z, .int .i64 r, .int .i64 wt, .bool false, .bool true] 72)) fun e w' => ∃ g c, e = .returned (.slice (some ⟨g, 0, none⟩) 1 c) ∧ w'.ownsRow W.heap.size 72 6 (.slice (some ⟨g, 0, none⟩) 1 c) 1 (ndsCells [⟨id, z, r, wt, false, true⟩]) ∧ Below W.heap.size W w') := insertNd_none id z r wt
  have HFIN : Hid (∀ (W : World) (g c : Nat), Below w1.heap.size w1 W → W.ownsRow N 72 6 (.slice (some ⟨g, 0, none⟩) 1 c) 1 (ndsCells [⟨id, z, r, wt, false, true⟩]) → Live (W.setCell ⟨pm, 4, none⟩ (.slice (some ⟨g, 0, none⟩) 1 c)) pm N { m with nds := [⟨id, z, r, wt, false, true⟩] } { s with aN := some ⟨g, 0, none⟩, lN := 1, cN := c } ∧ Kp w (W.setCell ⟨pm, 4, none⟩ (.slice (some ⟨g, 0, none⟩) 1 c)) ∧ Below N w (W.setCell ⟨pm, 4, none⟩ (.slice (some ⟨g, 0, none⟩) 1 c))) := fun W g c hb ho => by
    have hl := HL1.out.below hb
    have hgr := set_grownBy W pm 4 (.slice (some ⟨g, 0, none⟩) 1 c)
    obtain ⟨cm, hcm⟩ := hl.ty
    refine ⟨⟨hl.box.put4 _, hl.ty.kp (kp_set hl.ty (.inl rfl) _ _), ⟨own_type ho hgr hcm (by decide), rfl, hl.own.aT, hl.own.lT, hl.own.cT, hl.own.tms, hl.own.past, hl.own.trl, own_type hl.own.trs hgr hcm (by decide)⟩, hl.ge⟩, (kp_below hb1).trans ((kp_below hb).trans (kp_set hl.ty (.inl rfl) _ _)), ((below2 hb1 hb).mono hN).setCell (p := ⟨pm, 4, none⟩) hl.ge _⟩
  have hN1 : N ≤ w1.heap.size := Nat.le_trans hN hb1.size
  have HBM : Hid (∀ W, Below w1.heap.size w1 W → Box7 W pm (.int .i64 m.ep) (.int .i64 m.size) (.int .i64 m.mn) (.int .i64 m.gr) (.slice s.aN s.lN s.cN) (.slice s.aT s.lT s.cT) (.slice s.aR s.lR s.cR)) := fun W hb => HL1.out.box.below hb
  have hpl := HL1.out.box.lt
  have hdl := HBD.out.lt
  obtain ⟨⟨c0, c1, c2, c3, c4, c5, c6⟩, -⟩ := HL1.out.box
  obtain ⟨⟨d0, d1, d2, d3, d4, d5, d6⟩, -⟩ := HBD.out
  rw [map_split] at HND
  obtain ⟨ep, sz, mn, gr, nds, tms, trs⟩ := m
  obtain ⟨aN, lN, cN, aT, lT, cT, aR, lR, cR⟩ := s
  obtain ⟨q1, q2, q3⟩ := hs
  simp only at *
  subst q1 q2 q3
  have x0 := cell_grown (w := w1) (a := ⟨pm, 0, none⟩) hpl c0
  have x1 := cell_grown (w := w1) (a := ⟨pm, 1, none⟩) hpl c1
  have x2 := cell_grown (w := w1) (a := ⟨pm, 2, none⟩) hpl c2
  have x3 := cell_grown (w := w1) (a := ⟨pm, 3, none⟩) hpl c3
  have x4 := cell_grown (w := w1) (a := ⟨pm, 4, none⟩) hpl c4
  have x5 := cell_grown (w := w1) (a := ⟨pm, 5, none⟩) hpl c5
  have x6 := cell_grown (w := w1) (a := ⟨pm, 6, none⟩) hpl c6
  have y0 := cell_grown (w := w1) (a := ⟨w.heap.size, 0, none⟩) hdl d0
  have y1 := cell_grown (w := w1) (a := ⟨w.heap.size, 1, none⟩) hdl d1
  have y2 := cell_grown (w := w1) (a := ⟨w.heap.size, 2, none⟩) hdl d2
  have y3 := cell_grown (w := w1) (a := ⟨w.heap.size, 3, none⟩) hdl d3
  have y4 := cell_grown (w := w1) (a := ⟨w.heap.size, 4, none⟩) hdl d4
  have y5 := cell_grown (w := w1) (a := ⟨w.heap.size, 5, none⟩) hdl d5
  have y6 := cell_grown (w := w1) (a := ⟨w.heap.size, 6, none⟩) hdl d6
  have HGB : Hid (∀ n os, Below w1.heap.size w1 (Go.Sort.grow (w1.drewN n) os)) := fun n os => below_grow _ _ _
  clear hL HL1 hn hb1
  go_enter Tryz.func95, Tryz.ntmps95
  go_upto_region 1 with fail
  clear hw1
  refine wp_region_QW mixed5 (by kernel_rfl) ?_
  repeat (refine QW_step (fun K hK => ?_); go_simp; first | (refine hK _ ?_; clear hK K) | (apply Exists.intro; refine ⟨fun _ => ?_, hK _ ?_⟩; (go_at_call 68; refine Calls.grown_of (HND.out _ (HGB.out _ _))); clear hK K))
  refine QW_nil ?_
  intro _ hw9
  obtain ⟨⟨nq, osq⟩, hw8⟩ := hw9
  subst hw8
  have hG5 := HGB.out nq osq
  have hpl5 : pm < (Go.Sort.grow (w1.drewN nq) osq).heap.size := Nat.lt_of_lt_of_le hpl hG5.size
  have hdl5 : w.heap.size < (Go.Sort.grow (w1.drewN nq) osq).heap.size := Nat.lt_of_lt_of_le hdl hG5.size
  have u0 := x0 nq osq
  have u1 := x1 nq osq
  have u2 := x2 nq osq
  have u3 := x3 nq osq
  have u4 := x4 nq osq
  have u5 := x5 nq osq
  have u6 := x6 nq osq
  have v0 := y0 nq osq
  have v1 := y1 nq osq
  have v2 := y2 nq osq
  have v3 := y3 nq osq
  have v4 := y4 nq osq
  have v5 := y5 nq osq
  have v6 := y6 nq osq
  clear x0 x1 x2 x3 x4 x5 x6 y0 y1 y2 y3 y4 y5 y6 c0 c1 c2 c3 c4 c5 c6 d0 d1 d2 d3 d4 d5 d6 HND HGB
  show Exit.then _ _ _ _ (Go.Sort.grow (w1.drewN nq) osq)
  generalize Go.Sort.grow (w1.drewN nq) osq = w5 at *
  go_upto_region 5 with fail
  refine cn_add _ _ _ _ _ _ _ _ _ _ _ _ _ _ _ _ _ _ _ _ _ _ _ _ _ _ _ _ _ _ _ _ _ _ _ _ _ _ _ _ _ _ _ _ _ _ _ _ _ _ _ _ _ _ _ _ pm w.heap.size id z r wt ep sz mn gr (.slice aT lT cT) (.slice aR lR cR) w5 _ (HBM.out _ hG5) (HBD.out.below hG5) (fun u34 u35 u36 u37 u38 u39 u40 u41 u42 u43 u44 u45 g c W hbW hoW => ?_)
  obtain ⟨f1, f2, f3⟩ := HFIN.out W g c (below2 hG5 hbW) (own_base hoW (Nat.le_trans hN1 hG5.size))
  have HF1 : Hid (Live (W.setCell ⟨pm, 4, none⟩ (.slice (some ⟨g, 0, none⟩) 1 c)) pm N ⟨ep, sz, mn, gr, [⟨id, z, r, wt, false, true⟩], tms, trs⟩ ⟨some ⟨g, 0, none⟩, 1, c, aT, lT, cT, aR, lR, cR⟩) := f1
  clear HFIN f1 hoW HBM HBD u0 u1 u2 u3 u4 u5 u6 v0 v1 v2 v3 v4 v5 v6
  generalize W.setCell ⟨pm, 4, none⟩ (.slice (some ⟨g, 0, none⟩) 1 c) = wz at *
  go_wp2_with fail
  go_returns
  exact ⟨rfl, ⟨g, c, HF1.out⟩, f2, f3⟩
end Go.Proofs.YtcncbjknfcjnmaaGreat.Tp
namespace Go.Proofs.YtcncbjknfcjnmaaGreat.Tp
open Go.ChangeShapes Go.WideShapes Go.ChangeAt Go.RowKit
set_option maxHeartbeats 4000000 in
set_option maxRecDepth 60000 in
theorem cn_up (t1 t2 t5 t6 t7 t8 t9 t10 t11 t12 t13 t14 t15 t16 t17 t18 t19 t20 t21 t22 t23 t24 t25 t26 t27 t28 t29 t30 t31 t32 t33 t34 t35 t36 t37 t38 t39 t40 t41 t42 t43 t44 t45 t46 t47 t48 t49 t50 t51 t52 t53 t54 t55 t56 t57 t58 : Value) (pm pd g cN : Nat) (id c2 c3 c4 ep sz mn gr : Int) (c6 : Bool) (vT vR : Value) (w1 : World) (Q : Exit → Act → World → Prop)
    (hA : Box7 w1 pm (.int .i64 ep) (.int .i64 sz) (.int .i64 mn) (.int .i64 gr) (.slice (some ⟨g, 0, none⟩) 1 cN) vT vR) (hD : Box7 w1 pd (.int .i64 3) (.int .i64 id) (.int .i64 0) (.int .i64 0) (.int .i64 0) (.int .i64 0) (.slice none 0 0)) (hSix : Six w1 g (.int .i64 id) (.int .i64 c2) (.int .i64 c3) (.int .i64 c4) (.bool false) (.bool c6)) (hF : w1.frozen? ⟨g, 0, none⟩ = false ∧ w1.frozen? ⟨g, 1, none⟩ = false ∧ w1.frozen? ⟨g, 2, none⟩ = false ∧ w1.frozen? ⟨g, 3, none⟩ = false ∧ w1.frozen? ⟨g, 4, none⟩ = false ∧ w1.frozen? ⟨g, 5, none⟩ = false)
    (hQ : Hid (∀ (u17 u18 u19 u20 u21 u22 u23 u24 u25 u26 u27 u28 u29 u30 u31 : Value) (W : World), Below w1.heap.size w1 W → Q .normal ⟨#[.pointer (some ⟨pm, 0, none⟩), t1, t2, .pointer (some ⟨pd, 0, none⟩), .int .i64 0, t5, t6, t7, t8, t9, t10, t11, t12, t13, t14, t15, t16, u17, u18, u19, u20, u21, u22, u23, u24, u25, u26, u27, u28, u29, u30, u31, t32, t33, t34, t35, t36, t37, t38, t39, t40, t41, t42, t43, t44, t45, t46, t47, t48, t49, t50, t51, t52, t53, t54, t55, t56, t57, t58], []⟩ (set6 W g (.int .i64 id) (.int .i64 c2) (.int .i64 c3) (.int .i64 c4) (.bool true) (.bool c6)))) :
    Code.wp Tryz.prog ((Tryz.f95.body.bind (regionOf 3)).getD .skip) Q ⟨#[.pointer (some ⟨pm, 0, none⟩), t1, t2, .pointer (some ⟨pd, 0, none⟩), .int .i64 0, t5, t6, t7, t8, t9, t10, t11, t12, t13, t14, t15, t16, t17, t18, t19, t20, t21, t22, t23, t24, t25, t26, t27, t28, t29, t30, t31, t32, t33, t34, t35, t36, t37, t38, t39, t40, t41, t42, t43, t44, t45, t46, t47, t48, t49, t50, t51, t52, t53, t54, t55, t56, t57, t58], []⟩ w1 := by
  have hgl : g < w1.heap.size := World.block_lt_of_cell? w1 ⟨g, 0, none⟩ hSix.1
  have HS : Hid (∀ w', Below w1.heap.size w1 w' → (fun w' => Box7 w' pm (.int .i64 ep) (.int .i64 sz) (.int .i64 mn) (.int .i64 gr) (.slice (some ⟨g, 0, none⟩) 1 cN) vT vR ∧ Box7 w' pd (.int .i64 3) (.int .i64 id) (.int .i64 0) (.int .i64 0) (.int .i64 0) (.int .i64 0) (.slice none 0 0) ∧ Six w' g (.int .i64 id) (.int .i64 c2) (.int .i64 c3) (.int .i64 c4) (.bool false) (.bool c6) ∧ (w'.frozen? ⟨g, 0, none⟩ = false ∧ w'.frozen? ⟨g, 1, none⟩ = false ∧ w'.frozen? ⟨g, 2, none⟩ = false ∧ w'.frozen? ⟨g, 3, none⟩ = false ∧ w'.frozen? ⟨g, 4, none⟩ = false ∧ w'.frozen? ⟨g, 5, none⟩ = false) ∧ Below w1.heap.size w1 w') w') := fun w' h => ⟨hA.below h, hD.below h, hSix.below h, ⟨(h.frozen (p := ⟨g, 0, none⟩) hgl).trans hF.1, (h.frozen (p := ⟨g, 1, none⟩) hgl).trans hF.2.1, (h.frozen (p := ⟨g, 2, none⟩) hgl).trans hF.2.2.1, (h.frozen (p := ⟨g, 3, none⟩) hgl).trans hF.2.2.2.1, (h.frozen (p := ⟨g, 4, none⟩) hgl).trans hF.2.2.2.2.1, (h.frozen (p := ⟨g, 5, none⟩) hgl).trans hF.2.2.2.2.2⟩, h⟩
  have HT : Hid (∀ W, Calls Tryz.prog 93 #[.agg #[.int .i64 id, .int .i64 c2, .int .i64 c3, .int .i64 c4, .bool false, .bool c6], .agg #[.int .i64 3, .int .i64 id, .int .i64 0, .int .i64 0, .int .i64 0, .int .i64 0, .slice none 0 0]] W fun e w' => e = .returned (.agg #[.int .i64 id, .int .i64 c2, .int .i64 c3, .int .i64 c4, .bool true, .bool c6]) ∧ Grown W w') := fun W => turned_up id c2 c3 c4 false c6 id W
  have hS := HS.out w1.drew (below_drew w1)
  clear hA hD hSix hF
  conv => arg 2; whnf
  refine wp_region_but (S := (fun w' => Box7 w' pm (.int .i64 ep) (.int .i64 sz) (.int .i64 mn) (.int .i64 gr) (.slice (some ⟨g, 0, none⟩) 1 cN) vT vR ∧ Box7 w' pd (.int .i64 3) (.int .i64 id) (.int .i64 0) (.int .i64 0) (.int .i64 0) (.int .i64 0) (.slice none 0 0) ∧ Six w' g (.int .i64 id) (.int .i64 c2) (.int .i64 c3) (.int .i64 c4) (.bool false) (.bool c6) ∧ (w'.frozen? ⟨g, 0, none⟩ = false ∧ w'.frozen? ⟨g, 1, none⟩ = false ∧ w'.frozen? ⟨g, 2, none⟩ = false ∧ w'.frozen? ⟨g, 3, none⟩ = false ∧ w'.frozen? ⟨g, 4, none⟩ = false ∧ w'.frozen? ⟨g, 5, none⟩ = false) ∧ Below w1.heap.size w1 w')) (n := 15) mixed5 ?_
  refine but_take (i := 0) (v := .pointer (some ⟨pm, 0, none⟩)) rfl (by kernel_rfl) (fun _ _ _ h => h) (.inl ⟨rfl, fun w hS => ?_⟩) hS ?_
  · obtain ⟨⟨⟨s0, s1, s2, s3, s4, s5, s6⟩, -⟩, ⟨⟨d0, d1, d2, d3, d4, d5, d6⟩, -⟩, ⟨n0, n1, n2, n3, n4, n5⟩, ⟨f0, f1, f2, f3, f4, f5⟩, hbS⟩ := hS
    go_simp
  simp only [Act.put, List.setIfInBounds_toArray, List.set_cons_zero, List.set_cons_succ]
  refine but_take (i := 1) (v := .pointer (some ⟨pm, 0, none⟩)) rfl (by kernel_rfl) (fun _ _ _ h => h) (.inl ⟨rfl, fun w hS => ?_⟩) hS ?_
  · obtain ⟨⟨⟨s0, s1, s2, s3, s4, s5, s6⟩, -⟩, ⟨⟨d0, d1, d2, d3, d4, d5, d6⟩, -⟩, ⟨n0, n1, n2, n3, n4, n5⟩, ⟨f0, f1, f2, f3, f4, f5⟩, hbS⟩ := hS
    go_simp
  simp only [Act.put, List.setIfInBounds_toArray, List.set_cons_zero, List.set_cons_succ]
  refine but_take (i := 2) (v := .pointer (some ⟨pm, 4, none⟩)) rfl (by kernel_rfl) (fun _ _ _ h => h) (.inl ⟨rfl, fun w hS => ?_⟩) hS ?_
  · obtain ⟨⟨⟨s0, s1, s2, s3, s4, s5, s6⟩, -⟩, ⟨⟨d0, d1, d2, d3, d4, d5, d6⟩, -⟩, ⟨n0, n1, n2, n3, n4, n5⟩, ⟨f0, f1, f2, f3, f4, f5⟩, hbS⟩ := hS
    go_simp
  simp only [Act.put, List.setIfInBounds_toArray, List.set_cons_zero, List.set_cons_succ]
  refine but_take (i := 3) (v := .slice (some ⟨g, 0, none⟩) 1 cN) rfl (by kernel_rfl) (fun _ _ _ h => h) (.inl ⟨rfl, fun w hS => ?_⟩) hS ?_
  · obtain ⟨⟨⟨s0, s1, s2, s3, s4, s5, s6⟩, -⟩, ⟨⟨d0, d1, d2, d3, d4, d5, d6⟩, -⟩, ⟨n0, n1, n2, n3, n4, n5⟩, ⟨f0, f1, f2, f3, f4, f5⟩, hbS⟩ := hS
    go_simp
  simp only [Act.put, List.setIfInBounds_toArray, List.set_cons_zero, List.set_cons_succ]
  refine but_take (i := 4) (v := .int .i64 0) rfl (by kernel_rfl) (fun _ _ _ h => h) (.inl ⟨rfl, fun w hS => ?_⟩) hS ?_
  · obtain ⟨⟨⟨s0, s1, s2, s3, s4, s5, s6⟩, -⟩, ⟨⟨d0, d1, d2, d3, d4, d5, d6⟩, -⟩, ⟨n0, n1, n2, n3, n4, n5⟩, ⟨f0, f1, f2, f3, f4, f5⟩, hbS⟩ := hS
    go_simp
  simp only [Act.put, List.setIfInBounds_toArray, List.set_cons_zero, List.set_cons_succ]
  refine but_take (i := 5) (v := .pointer (some ⟨pm, 0, none⟩)) rfl (by kernel_rfl) (fun _ _ _ h => h) (.inl ⟨rfl, fun w hS => ?_⟩) hS ?_
  · obtain ⟨⟨⟨s0, s1, s2, s3, s4, s5, s6⟩, -⟩, ⟨⟨d0, d1, d2, d3, d4, d5, d6⟩, -⟩, ⟨n0, n1, n2, n3, n4, n5⟩, ⟨f0, f1, f2, f3, f4, f5⟩, hbS⟩ := hS
    go_simp
  simp only [Act.put, List.setIfInBounds_toArray, List.set_cons_zero, List.set_cons_succ]
  refine but_take (i := 6) (v := .pointer (some ⟨pm, 0, none⟩)) rfl (by kernel_rfl) (fun _ _ _ h => h) (.inl ⟨rfl, fun w hS => ?_⟩) hS ?_
  · obtain ⟨⟨⟨s0, s1, s2, s3, s4, s5, s6⟩, -⟩, ⟨⟨d0, d1, d2, d3, d4, d5, d6⟩, -⟩, ⟨n0, n1, n2, n3, n4, n5⟩, ⟨f0, f1, f2, f3, f4, f5⟩, hbS⟩ := hS
    go_simp
  simp only [Act.put, List.setIfInBounds_toArray, List.set_cons_zero, List.set_cons_succ]
  refine but_take (i := 7) (v := .pointer (some ⟨pm, 4, none⟩)) rfl (by kernel_rfl) (fun _ _ _ h => h) (.inl ⟨rfl, fun w hS => ?_⟩) hS ?_
  · obtain ⟨⟨⟨s0, s1, s2, s3, s4, s5, s6⟩, -⟩, ⟨⟨d0, d1, d2, d3, d4, d5, d6⟩, -⟩, ⟨n0, n1, n2, n3, n4, n5⟩, ⟨f0, f1, f2, f3, f4, f5⟩, hbS⟩ := hS
    go_simp
  simp only [Act.put, List.setIfInBounds_toArray, List.set_cons_zero, List.set_cons_succ]
  refine but_take (i := 8) (v := .slice (some ⟨g, 0, none⟩) 1 cN) rfl (by kernel_rfl) (fun _ _ _ h => h) (.inl ⟨rfl, fun w hS => ?_⟩) hS ?_
  · obtain ⟨⟨⟨s0, s1, s2, s3, s4, s5, s6⟩, -⟩, ⟨⟨d0, d1, d2, d3, d4, d5, d6⟩, -⟩, ⟨n0, n1, n2, n3, n4, n5⟩, ⟨f0, f1, f2, f3, f4, f5⟩, hbS⟩ := hS
    go_simp
  simp only [Act.put, List.setIfInBounds_toArray, List.set_cons_zero, List.set_cons_succ]
  refine but_take (i := 9) (v := .int .i64 0) rfl (by kernel_rfl) (fun _ _ _ h => h) (.inl ⟨rfl, fun w hS => ?_⟩) hS ?_
  · obtain ⟨⟨⟨s0, s1, s2, s3, s4, s5, s6⟩, -⟩, ⟨⟨d0, d1, d2, d3, d4, d5, d6⟩, -⟩, ⟨n0, n1, n2, n3, n4, n5⟩, ⟨f0, f1, f2, f3, f4, f5⟩, hbS⟩ := hS
    go_simp
  simp only [Act.put, List.setIfInBounds_toArray, List.set_cons_zero, List.set_cons_succ]
  refine but_take (i := 10) (v := .pointer (some ⟨g, 0, none⟩)) rfl (by kernel_rfl) (fun _ _ _ h => h) (.inl ⟨rfl, fun w hS => ?_⟩) hS ?_
  · obtain ⟨⟨⟨s0, s1, s2, s3, s4, s5, s6⟩, -⟩, ⟨⟨d0, d1, d2, d3, d4, d5, d6⟩, -⟩, ⟨n0, n1, n2, n3, n4, n5⟩, ⟨f0, f1, f2, f3, f4, f5⟩, hbS⟩ := hS
    go_simp
  simp only [Act.put, List.setIfInBounds_toArray, List.set_cons_zero, List.set_cons_succ]
  refine but_take (i := 11) (v := .agg #[.int .i64 id, .int .i64 c2, .int .i64 c3, .int .i64 c4, .bool false, .bool c6]) rfl (by kernel_rfl) (fun _ _ _ h => h) (.inl ⟨rfl, fun w hS => ?_⟩) hS ?_
  · obtain ⟨⟨⟨s0, s1, s2, s3, s4, s5, s6⟩, -⟩, ⟨⟨d0, d1, d2, d3, d4, d5, d6⟩, -⟩, ⟨n0, n1, n2, n3, n4, n5⟩, ⟨f0, f1, f2, f3, f4, f5⟩, hbS⟩ := hS
    go_simp
  simp only [Act.put, List.setIfInBounds_toArray, List.set_cons_zero, List.set_cons_succ]
  refine but_take (i := 12) (v := .agg #[.int .i64 3, .int .i64 id, .int .i64 0, .int .i64 0, .int .i64 0, .int .i64 0, .slice none 0 0]) rfl (by kernel_rfl) (fun _ _ _ h => h) (.inl ⟨rfl, fun w hS => ?_⟩) hS ?_
  · obtain ⟨⟨⟨s0, s1, s2, s3, s4, s5, s6⟩, -⟩, ⟨⟨d0, d1, d2, d3, d4, d5, d6⟩, -⟩, ⟨n0, n1, n2, n3, n4, n5⟩, ⟨f0, f1, f2, f3, f4, f5⟩, hbS⟩ := hS
    go_simp
  simp only [Act.put, List.setIfInBounds_toArray, List.set_cons_zero, List.set_cons_succ]
  refine but_one (i := 13) (by kernel_rfl) rfl rfl ?_
  intro K hK
  go_simp
  go_at_call 93
  refine (HT.out _).mono ?_
  rintro en w3 ⟨rfl, hg3⟩
  have hb3 : Below w1.heap.size w1 w3 := below2 (below_drew w1) (grown_below hg3)
  clear hg3
  refine hK.out _ _ (fun _ => HS.out w3 hb3) ?_
  clear hK hS
  have hS := HS.out w3 hb3
  try simp only [Act.put, List.setIfInBounds_toArray, List.set_cons_zero, List.set_cons_succ]
  refine but_take (i := 14) (v := .pointer (some ⟨g, 0, none⟩)) rfl (by kernel_rfl) (fun _ _ _ h => h) (.inl ⟨rfl, fun w hS => ?_⟩) hS ?_
  · obtain ⟨⟨⟨s0, s1, s2, s3, s4, s5, s6⟩, -⟩, ⟨⟨d0, d1, d2, d3, d4, d5, d6⟩, -⟩, ⟨n0, n1, n2, n3, n4, n5⟩, ⟨f0, f1, f2, f3, f4, f5⟩, hbS⟩ := hS
    go_simp
  simp only [Act.put, List.setIfInBounds_toArray, List.set_cons_zero, List.set_cons_succ]
  refine but_one (i := 15) (by kernel_rfl) rfl rfl ?_
  intro K hK
  obtain ⟨⟨⟨s0, s1, s2, s3, s4, s5, s6⟩, -⟩, ⟨⟨d0, d1, d2, d3, d4, d5, d6⟩, -⟩, ⟨n0, n1, n2, n3, n4, n5⟩, ⟨f0, f1, f2, f3, f4, f5⟩, hbS⟩ := hS
  go_simp
  refine hK.out _ _ (fun h => absurd rfl h) ?_
  clear hK
  try simp only [Act.put, List.setIfInBounds_toArray, List.set_cons_zero, List.set_cons_succ]
  refine AnyBut.done (by kernel_rfl) ?_ _
  refine NoPanic.normal ?_
  exact hQ.out _ _ _ _ _ _ _ _ _ _ _ _ _ _ _ w3 hb3
theorem set6_grownBy (w : World) (b : Nat) (v0 v1 v2 v3 v4 v5 : Value) : w.grownBy (set6 w b v0 v1 v2 v3 v4 v5) (some b) :=
  grownBy_trans (grownBy_trans (grownBy_trans (grownBy_trans (grownBy_trans (set_grownBy _ _ 0 _) (set_grownBy _ _ 1 _)) (set_grownBy _ _ 2 _)) (set_grownBy _ _ 3 _)) (set_grownBy _ _ 4 _)) (set_grownBy _ _ 5 _)
theorem kp_set6 {w : World} {b : Nat} {T : TypeId} (h : BoxTy w b T) (hT : TurnT T) (v0 v1 v2 v3 v4 v5 : Value) : Kp w (set6 w b v0 v1 v2 v3 v4 v5) := by
  have k0 := kp_set h hT 0 v0
  have k1 := k0.trans (kp_set (h.kp k0) hT 1 v1)
  have k2 := k1.trans (kp_set (h.kp k1) hT 2 v2)
  have k3 := k2.trans (kp_set (h.kp k2) hT 3 v3)
  have k4 := k3.trans (kp_set (h.kp k3) hT 4 v4)
  exact k4.trans (kp_set (h.kp k4) hT 5 v5)
theorem own_set6 {w : World} {B g c : Nat} {x y : Nd} (h : w.ownsRow B 72 6 (.slice (some ⟨g, 0, none⟩) 1 c) 1 (ndsCells [x])) : (set6 w g (.int .i64 y.id) (.int .i64 y.zone) (.int .i64 y.rack) (.int .i64 y.weight) (.bool y.up) (.bool y.inn)).ownsRow B 72 6 (.slice (some ⟨g, 0, none⟩) 1 c) 1 (ndsCells [y]) := by
  have k0 := (h.stored 0 (.int .i64 y.id)).1
  have k1 := (k0.stored 1 (.int .i64 y.zone)).1
  have k2 := (k1.stored 2 (.int .i64 y.rack)).1
  have k3 := (k2.stored 3 (.int .i64 y.weight)).1
  have k4 := (k3.stored 4 (.bool y.up)).1
  exact (k4.stored 5 (.bool y.inn)).1
set_option maxHeartbeats 2000000 in
set_option maxRecDepth 60000 in
theorem changeNode_up {pm N : Nat} {m : Mp} {s : MV} {id c2 c3 c4 : Int} {c6 : Bool} (hx : InN ⟨id, c2, c3, c4, false, c6⟩) (hn : m.nds = [⟨id, c2, c3, c4, false, c6⟩]) (w : World) (hL : Live w pm N m s) (hN : N ≤ w.heap.size) :
    Calls Tryz.prog 95 #[.pointer (some ⟨pm, 0, none⟩), .agg #[.int .i64 3, .int .i64 id, .int .i64 0, .int .i64 0, .int .i64 0, .int .i64 0, .slice none 0 0]] w fun e w' => e = .returned (.tuple #[]) ∧ (∃ s', Live w' pm N { m with nds := [⟨id, c2, c3, c4, true, c6⟩] } s') ∧ Kp w w' ∧ Below N w w' := by
  have hb1 := below_alloc w (.cells #[.int .i64 3, .int .i64 id, .int .i64 0, .int .i64 0, .int .i64 0, .int .i64 0, .slice none 0 0] 37)
  have HL1 : Hid (Live (w.alloc (.cells #[.int .i64 3, .int .i64 id, .int .i64 0, .int .i64 0, .int .i64 0, .int .i64 0, .slice none 0 0] 37)) pm N m s) := hL.below hb1
  have HBD : Hid (Box7 (w.alloc (.cells #[.int .i64 3, .int .i64 id, .int .i64 0, .int .i64 0, .int .i64 0, .int .i64 0, .slice none 0 0] 37)) w.heap.size (.int .i64 3) (.int .i64 id) (.int .i64 0) (.int .i64 0) (.int .i64 0) (.int .i64 0) (.slice none 0 0)) := Box7.new w _ _ _ _ _ _ _ _
  generalize hw1 : w.alloc (.cells #[.int .i64 3, .int .i64 id, .int .i64 0, .int .i64 0, .int .i64 0, .int .i64 0, .slice none 0 0] 37) = w1 at *
  have HND : Hid (∀ W, Below w1.heap.size w1 W → Calls Tryz.prog 68 #[.agg (mapCells m s).toArray, .int .i64 id] W fun e w' => e = .returned (.tuple #[.int .i64 0, .bool true]) ∧ Grown W w') := fun W hb => (node_grown m s id W ((nds_own HL1.out.own.nds HL1.out.own.ndl).1.below hb) (by rw [hn]; exact one_may hx)).mono fun e w' ⟨hg, p, t, he, hI⟩ => by
    rw [hn] at hI
    obtain ⟨rfl, rfl⟩ := srch_one hI
    exact ⟨he, hg⟩
  have hl1 : s.lN = 1 := by have := hL.own.ndl; rw [hn] at this; simpa using this.symm
  obtain ⟨g, cg, hv, hgB, -, -⟩ := own_some hL.own.nds (by omega)
  injection hv with hv1 hv2 hv3
  have HOW : Hid (∀ W, Below w1.heap.size w1 W → W.ownsRow N 72 6 (.slice (some ⟨g, 0, none⟩) 1 s.cN) 1 (ndsCells [⟨id, c2, c3, c4, false, c6⟩])) := fun W hb => by
    have := (HL1.out.below hb).own.nds
    rw [hn, hl1, hv1] at this
    exact this
  have HFIN : Hid (∀ (W : World), Below w1.heap.size w1 W → Live (set6 W g (.int .i64 id) (.int .i64 c2) (.int .i64 c3) (.int .i64 c4) (.bool true) (.bool c6)) pm N { m with nds := [⟨id, c2, c3, c4, true, c6⟩] } s ∧ Kp w (set6 W g (.int .i64 id) (.int .i64 c2) (.int .i64 c3) (.int .i64 c4) (.bool true) (.bool c6)) ∧ Below N w (set6 W g (.int .i64 id) (.int .i64 c2) (.int .i64 c3) (.int .i64 c4) (.bool true) (.bool c6))) := fun W hb => by
    have hl := HL1.out.below hb
    have ho := HOW.out W hb
    obtain ⟨hty, hNg⟩ := row_ty ho
    have hgr := set6_grownBy W g (.int .i64 id) (.int .i64 c2) (.int .i64 c3) (.int .i64 c4) (.bool true) (.bool c6)
    have hkp := kp_set6 hty (.inr (.inl rfl)) (.int .i64 id) (.int .i64 c2) (.int .i64 c3) (.int .i64 c4) (.bool true) (.bool c6)
    have hne : pm ≠ g := by
      rintro rfl
      obtain ⟨k1, h1⟩ := hl.ty
      obtain ⟨k2, h2⟩ := hty
      rw [h1] at h2
      injection h2 with h2
      injection h2 with _ h2
      exact absurd h2 (by decide)
    obtain ⟨cm, hcm⟩ := hty
    refine ⟨⟨hl.box.else hgr hne, hl.ty.kp hkp, ⟨?_, ?_, hl.own.aT, hl.own.lT, hl.own.cT, hl.own.tms, hl.own.past, hl.own.trl, own_type hl.own.trs hgr hcm (by decide)⟩, hl.ge⟩, (kp_below hb1).trans ((kp_below hb).trans hkp), set6_below ((below2 hb1 hb).mono hN) hNg _ _ _ _ _ _⟩
    · rw [hv1, hl1]
      exact own_set6 (y := ⟨id, c2, c3, c4, true, c6⟩) ho
    · rw [hl1]; rfl
  have HBM : Hid (∀ W, Below w1.heap.size w1 W → Box7 W pm (.int .i64 m.ep) (.int .i64 m.size) (.int .i64 m.mn) (.int .i64 m.gr) (.slice (some ⟨g, 0, none⟩) 1 s.cN) (.slice s.aT s.lT s.cT) (.slice s.aR s.lR s.cR)) := fun W hb => by
    have := HL1.out.box.below hb
    rw [hv1, hl1] at this
    exact this
  have hpl := HL1.out.box.lt
  have hdl := HBD.out.lt
  obtain ⟨⟨k0, k1, k2, k3, k4, k5, k6⟩, -⟩ := HL1.out.box
  obtain ⟨⟨d0, d1, d2, d3, d4, d5, d6⟩, -⟩ := HBD.out
  rw [map_split] at HND
  obtain ⟨ep, sz, mn, gr, nds, tms, trs⟩ := m
  obtain ⟨aN, lN, cN, aT, lT, cT, aR, lR, cR⟩ := s
  simp only at *
  subst hv1 hl1
  have x0 := cell_grown (w := w1) (a := ⟨pm, 0, none⟩) hpl k0
  have x1 := cell_grown (w := w1) (a := ⟨pm, 1, none⟩) hpl k1
  have x2 := cell_grown (w := w1) (a := ⟨pm, 2, none⟩) hpl k2
  have x3 := cell_grown (w := w1) (a := ⟨pm, 3, none⟩) hpl k3
  have x4 := cell_grown (w := w1) (a := ⟨pm, 4, none⟩) hpl k4
  have x5 := cell_grown (w := w1) (a := ⟨pm, 5, none⟩) hpl k5
  have x6 := cell_grown (w := w1) (a := ⟨pm, 6, none⟩) hpl k6
  have y0 := cell_grown (w := w1) (a := ⟨w.heap.size, 0, none⟩) hdl d0
  have y1 := cell_grown (w := w1) (a := ⟨w.heap.size, 1, none⟩) hdl d1
  have y2 := cell_grown (w := w1) (a := ⟨w.heap.size, 2, none⟩) hdl d2
  have y3 := cell_grown (w := w1) (a := ⟨w.heap.size, 3, none⟩) hdl d3
  have y4 := cell_grown (w := w1) (a := ⟨w.heap.size, 4, none⟩) hdl d4
  have y5 := cell_grown (w := w1) (a := ⟨w.heap.size, 5, none⟩) hdl d5
  have y6 := cell_grown (w := w1) (a := ⟨w.heap.size, 6, none⟩) hdl d6
  have HGB : Hid (∀ n os, Below w1.heap.size w1 (Go.Sort.grow (w1.drewN n) os)) := fun n os => below_grow _ _ _
  clear hL HL1 hn hb1 hx hv2 hv3
  go_enter Tryz.func95, Tryz.ntmps95
  go_upto_region 1 with fail
  clear hw1
  refine wp_region_QW mixed5 (by kernel_rfl) ?_
  repeat (refine QW_step (fun K hK => ?_); go_simp; first | (refine hK _ ?_; clear hK K) | (apply Exists.intro; refine ⟨fun _ => ?_, hK _ ?_⟩; (go_at_call 68; refine Calls.grown_of (HND.out _ (HGB.out _ _))); clear hK K))
  refine QW_nil ?_
  intro _ hw9
  obtain ⟨⟨nq, osq⟩, hw8⟩ := hw9
  subst hw8
  have hG5 := HGB.out nq osq
  have v0 := y0 nq osq
  have v1 := y1 nq osq
  have v2 := y2 nq osq
  have v3 := y3 nq osq
  have v4 := y4 nq osq
  have v5 := y5 nq osq
  have v6 := y6 nq osq
  clear x0 x1 x2 x3 x4 x5 x6 y0 y1 y2 y3 y4 y5 y6 k0 k1 k2 k3 k4 k5 k6 d0 d1 d2 d3 d4 d5 d6 HND HGB
  show Exit.then _ _ _ _ (Go.Sort.grow (w1.drewN nq) osq)
  generalize Go.Sort.grow (w1.drewN nq) osq = w5 at *
  go_upto_region 3 with fail
  have ho5 := HOW.out w5 hG5
  refine cn_up _ _ _ _ _ _ _ _ _ _ _ _ _ _ _ _ _ _ _ _ _ _ _ _ _ _ _ _ _ _ _ _ _ _ _ _ _ _ _ _ _ _ _ _ _ _ _ _ _ _ _ _ _ _ _ _ pm w.heap.size g cN id c2 c3 c4 ep sz mn gr c6 (.slice aT lT cT) (.slice aR lR cR) w5 _ (HBM.out _ hG5) (HBD.out.below hG5) ⟨ho5.cellAt 0 (by decide), ho5.cellAt 1 (by decide), ho5.cellAt 2 (by decide), ho5.cellAt 3 (by decide), ho5.cellAt 4 (by decide), ho5.cellAt 5 (by decide)⟩ ⟨ho5.frozenAt 0, ho5.frozenAt 1, ho5.frozenAt 2, ho5.frozenAt 3, ho5.frozenAt 4, ho5.frozenAt 5⟩ (fun u17 u18 u19 u20 u21 u22 u23 u24 u25 u26 u27 u28 u29 u30 u31 W hbW => ?_)
  obtain ⟨f1, f2, f3⟩ := HFIN.out W (below2 hG5 hbW)
  have HF1 : Hid (Live (set6 W g (.int .i64 id) (.int .i64 c2) (.int .i64 c3) (.int .i64 c4) (.bool true) (.bool c6)) pm N ⟨ep, sz, mn, gr, [⟨id, c2, c3, c4, true, c6⟩], tms, trs⟩ ⟨some ⟨g, 0, none⟩, 1, cN, aT, lT, cT, aR, lR, cR⟩) := f1
  clear HFIN f1 HBM HBD v0 v1 v2 v3 v4 v5 v6 ho5 HOW
  generalize set6 W g (.int .i64 id) (.int .i64 c2) (.int .i64 c3) (.int .i64 c4) (.bool true) (.bool c6) = wz at *
  go_wp2_with fail
  go_returns
  exact ⟨rfl, ⟨_, HF1.out⟩, f2, f3⟩
set_option maxRecDepth 60000 in
theorem change_add {pm N : Nat} {m : Mp} {s : MV} {id z r wt : Int} (hn : m.nds = []) (hs : s.aN = none ∧ s.lN = 0 ∧ s.cN = 0) (w : World) (hL : Live w pm N m s) (hN : N ≤ w.heap.size) :
    Calls Tryz.prog 71 #[.pointer (some ⟨pm, 0, none⟩), .agg #[.int .i64 1, .int .i64 id, .int .i64 z, .int .i64 r, .int .i64 wt, .int .i64 0, .slice none 0 0]] w fun e w' => e = .returned (.tuple #[]) ∧ (∃ s', Live w' pm N { m with nds := [⟨id, z, r, wt, false, true⟩] } s') ∧ Kp w w' ∧ Below N w w' := by
  have hb1 := below_alloc w (.cells #[.int .i64 1, .int .i64 id, .int .i64 z, .int .i64 r, .int .i64 wt, .int .i64 0, .slice none 0 0] 37)
  have HC : Hid (Calls Tryz.prog 95 #[.pointer (some ⟨pm, 0, none⟩), .agg #[.int .i64 1, .int .i64 id, .int .i64 z, .int .i64 r, .int .i64 wt, .int .i64 0, .slice none 0 0]] (w.alloc (.cells #[.int .i64 1, .int .i64 id, .int .i64 z, .int .i64 r, .int .i64 wt, .int .i64 0, .slice none 0 0] 37)) fun e w' => e = .returned (.tuple #[]) ∧ (∃ s', Live w' pm N { m with nds := [⟨id, z, r, wt, false, true⟩] } s') ∧ Kp (w.alloc (.cells #[.int .i64 1, .int .i64 id, .int .i64 z, .int .i64 r, .int .i64 wt, .int .i64 0, .slice none 0 0] 37)) w' ∧ Below N (w.alloc (.cells #[.int .i64 1, .int .i64 id, .int .i64 z, .int .i64 r, .int .i64 wt, .int .i64 0, .slice none 0 0] 37)) w') := (changeNode_add hn hs _ (hL.below hb1) (Nat.le_trans hN hb1.size)).mono fun e w' ⟨he, ⟨g, c, hl⟩, hk, hb⟩ => ⟨he, ⟨_, hl⟩, hk, hb⟩
  clear hL
  go_enter Tryz.func71, Tryz.ntmps71
  go_wp2_with (go_at_call 95; refine HC.out.mono ?_; rintro e w2 ⟨rfl, ⟨s', hl⟩, hk, hb⟩; have HLV : Hid (Live w2 pm N { m with nds := [⟨id, z, r, wt, false, true⟩] } s') := hl; clear hl)
  go_returns
  exact ⟨rfl, ⟨s', HLV.out⟩, (kp_below hb1).trans hk, (hb1.mono hN).trans hb⟩
set_option maxRecDepth 60000 in
theorem change_up {pm N : Nat} {m : Mp} {s : MV} {id c2 c3 c4 : Int} {c6 : Bool} (hx : InN ⟨id, c2, c3, c4, false, c6⟩) (hn : m.nds = [⟨id, c2, c3, c4, false, c6⟩]) (w : World) (hL : Live w pm N m s) (hN : N ≤ w.heap.size) :
    Calls Tryz.prog 71 #[.pointer (some ⟨pm, 0, none⟩), .agg #[.int .i64 3, .int .i64 id, .int .i64 0, .int .i64 0, .int .i64 0, .int .i64 0, .slice none 0 0]] w fun e w' => e = .returned (.tuple #[]) ∧ (∃ s', Live w' pm N { m with nds := [⟨id, c2, c3, c4, true, c6⟩] } s') ∧ Kp w w' ∧ Below N w w' := by
  have hb1 := below_alloc w (.cells #[.int .i64 3, .int .i64 id, .int .i64 0, .int .i64 0, .int .i64 0, .int .i64 0, .slice none 0 0] 37)
  have HC : Hid (Calls Tryz.prog 95 #[.pointer (some ⟨pm, 0, none⟩), .agg #[.int .i64 3, .int .i64 id, .int .i64 0, .int .i64 0, .int .i64 0, .int .i64 0, .slice none 0 0]] (w.alloc (.cells #[.int .i64 3, .int .i64 id, .int .i64 0, .int .i64 0, .int .i64 0, .int .i64 0, .slice none 0 0] 37)) fun e w' => e = .returned (.tuple #[]) ∧ (∃ s', Live w' pm N { m with nds := [⟨id, c2, c3, c4, true, c6⟩] } s') ∧ Kp (w.alloc (.cells #[.int .i64 3, .int .i64 id, .int .i64 0, .int .i64 0, .int .i64 0, .int .i64 0, .slice none 0 0] 37)) w' ∧ Below N (w.alloc (.cells #[.int .i64 3, .int .i64 id, .int .i64 0, .int .i64 0, .int .i64 0, .int .i64 0, .slice none 0 0] 37)) w') := changeNode_up hx hn _ (hL.below hb1) (Nat.le_trans hN hb1.size)
  clear hL
  go_enter Tryz.func71, Tryz.ntmps71
  go_wp2_with (go_at_call 95; refine HC.out.mono ?_; rintro e w2 ⟨rfl, ⟨s', hl⟩, hk, hb⟩; have HLV : Hid (Live w2 pm N { m with nds := [⟨id, c2, c3, c4, true, c6⟩] } s') := hl; clear hl)
  go_returns
  exact ⟨rfl, ⟨s', HLV.out⟩, (kp_below hb1).trans hk, (hb1.mono hN).trans hb⟩
end Go.Proofs.YtcncbjknfcjnmaaGreat.Tp
namespace Go.Proofs.YtcncbjknfcjnmaaGreat.Tp
open Go.ChangeShapes Go.WideShapes Go.ChangeAt Go.RowKit
theorem Live.else {w w' : World} {pm N b : Nat} {T : TypeId} {m : Mp} {s : MV} (h : Live w pm N m s) (hg : w.grownBy w' (some b)) (ht : BoxTy w b T) (ht' : ∃ cur, w'.heap[b]? = some (Obj.cells cur T (0, 0))) (h1 : T ≠ 26) (h2 : T ≠ 72) (h3 : T ≠ 53) : Live w' pm N m s := by
  obtain ⟨cb, hcb⟩ := ht
  have hne : pm ≠ b := by
    rintro rfl
    obtain ⟨k1, hk1⟩ := h.ty
    rw [hk1] at hcb
    injection hcb with hcb
    injection hcb with _ hcb
    exact h1 hcb.symm
  refine ⟨h.box.else hg hne, ?_, ⟨own_type h.own.nds hg hcb h2, h.own.ndl, h.own.aT, h.own.lT, h.own.cT, h.own.tms, h.own.past, h.own.trl, own_type h.own.trs hg hcb h3⟩, h.ge⟩
  obtain ⟨k1, hk1⟩ := h.ty
  exact ⟨k1, (hg.block pm (lt_of_get hk1) (by simpa using hne)).trans hk1⟩
theorem Live.epoch {w : World} {pm N : Nat} {m : Mp} {s : MV} (h : Live w pm N m s) (z : Int) : Live (w.setCell ⟨pm, 0, none⟩ (.int .i64 z)) pm N { m with ep := z } s ∧ Kp w (w.setCell ⟨pm, 0, none⟩ (.int .i64 z)) := by
  have hkp := kp_set h.ty (.inl rfl) 0 (.int .i64 z)
  have hgr := set_grownBy w pm 0 (.int .i64 z)
  obtain ⟨cm, hcm⟩ := h.ty
  exact ⟨⟨h.box.put0 _, h.ty.kp hkp, ⟨own_type h.own.nds hgr hcm (by decide), h.own.ndl, h.own.aT, h.own.lT, h.own.cT, h.own.tms, h.own.past, h.own.trl, own_type h.own.trs hgr hcm (by decide)⟩, h.ge⟩, hkp⟩
/-- the trails of the first groups behind a turn -/
def turnTrs (m m' : Mp) : Nat → List Tr
  | 0 => m.trs
  | k + 1 => if actP m k = actP m' k then turnTrs m m' k else (turnTrs m m' k).set k ⟨m.ep + 1, []⟩
def turnM (m m' : Mp) (k : Nat) : Mp := { m' with ep := m.ep + 1, trs := turnTrs m m' k }
/-- those who acted, as they lie -/
def ActsAt (w : World) (N : Nat) (m : Mp) (L : List Value) (k : Nat) : Prop := ∀ j, j < k → ∃ a c, L[j]? = some (.slice a (actP m j).length c) ∧ w.ownsRow N 3 1 (.slice a (actP m j).length c) (actP m j).length (intCells (actP m j))
theorem ActsAt.below {w w' : World} {N : Nat} {m : Mp} {L : List Value} {k : Nat} (h : ActsAt w N m L k) (hb : Below w.heap.size w w') : ActsAt w' N m L k := fun j hj => by
  obtain ⟨a, c, h1, h2⟩ := h j hj
  exact ⟨a, c, h1, own_below h2 hb⟩
theorem ActsAt.kp {w w' : World} {N : Nat} {m : Mp} {L : List Value} {k : Nat} (h : ActsAt w N m L k) (hb : Kp w w') : ActsAt w' N m L k := fun j hj => by
  obtain ⟨a, c, h1, h2⟩ := h j hj
  exact ⟨a, c, h1, own_kp h2 hb (by unfold TurnT; decide)⟩
theorem stand_more {m : Mp} (h : StandOk m) (e : Int) (l : List Tr) : StandOk { m with ep := e, trs := l } := ⟨h.size, h.nds, h.rise, h.few, h.ns⟩
theorem infoInts8 : (Tryz.prog.info? 35).map (fun i => (i.zero, i.size, i.bytes)) = some (some (.slice none 0 0), 1, 24) := by kernel_rfl
theorem mapV {w : World} {pm N : Nat} {m : Mp} {s : MV} (h : Live w pm N m s) : NdsAt w s.aN s.lN s.cN m.nds ∧ TmsAt w s.aT s.lT s.cT m.tms := ⟨h.own.bare.nds, h.own.bare.map.tms⟩
theorem turnTrs_len (m m' : Mp) (k : Nat) : (turnTrs m m' k).length = m.trs.length := by
  induction k with
  | zero => rfl
  | succ k ih =>
    unfold turnTrs
    split
    · exact ih
    · rw [List.length_set]; exact ih
theorem turnM_same {m m' : Mp} {k : Nat} (h : actP m k = actP m' k) : turnM m m' (k + 1) = turnM m m' k := by
  show Mp.mk _ _ _ _ _ _ (turnTrs m m' (k + 1)) = Mp.mk _ _ _ _ _ _ (turnTrs m m' k)
  rw [show turnTrs m m' (k + 1) = turnTrs m m' k from if_pos h]
theorem turnM_else {m m' : Mp} {k : Nat} (h : actP m k ≠ actP m' k) : turnM m m' (k + 1) = setTr (turnM m m' k) k (turnM m m' k).ep := by
  show Mp.mk _ _ _ _ _ _ (turnTrs m m' (k + 1)) = Mp.mk _ _ _ _ _ _ ((turnTrs m m' k).set k ⟨m.ep + 1, []⟩)
  rw [show turnTrs m m' (k + 1) = (turnTrs m m' k).set k ⟨m.ep + 1, []⟩ from if_neg h]
  rfl
set_option maxHeartbeats 4000000 in
set_option maxRecDepth 60000 in
theorem turn_bare {pm N n : Nat} {m m' : Mp} {s : MV} (e0 e1 e2 e3 e4 e5 e6 : Value) (hS : StandOk m) (hS' : StandOk m') (hgr : m.gr = (n : Int)) (hn8 : n ≤ 8) (htl : m.trs.length = n) (hep : 0 ≤ m.ep ∧ m.ep < 2147483647) (hmn : m.mn ≤ 3)
    (hm' : m' = { m with nds := m'.nds }) (hfew : ∀ k, k < n → actP m k ≠ actP m' k → ((actP m k).length : Int) < m.mn)
    (hCon : ∀ W (g : Int), Calls Tryz.prog 70 #[.agg #[e0, e1, e2, e3, e4, e5, e6], .int .i64 g] W fun e w' => e = .returned (.bool true) ∧ Below W.heap.size W w')
    (hCh : ∀ W, Live W pm N m s → N ≤ W.heap.size → Calls Tryz.prog 71 #[.pointer (some ⟨pm, 0, none⟩), .agg #[e0, e1, e2, e3, e4, e5, e6]] W fun e w' => e = .returned (.tuple #[]) ∧ (∃ s', Live w' pm N m' s') ∧ Kp W w' ∧ Below N W w')
    (w : World) (hL : Live w pm N m s) (hN : N ≤ w.heap.size) :
    Calls Tryz.prog 38 #[.pointer (some ⟨pm, 0, none⟩), .agg #[e0, e1, e2, e3, e4, e5, e6]] w fun e w' => e = .returned (.tuple #[]) ∧ (∃ s', Live w' pm N (turnM m m' n) s') ∧ Below N w w' := by
  have hb1 := below_alloc w (.cells #[e0, e1, e2, e3, e4, e5, e6] 37)
  have HL1 : Hid (Live (w.alloc (.cells #[e0, e1, e2, e3, e4, e5, e6] 37)) pm N m s) := hL.below hb1
  have HBD : Hid (Box7 (w.alloc (.cells #[e0, e1, e2, e3, e4, e5, e6] 37)) w.heap.size e0 e1 e2 e3 e4 e5 e6) := Box7.new w _ _ _ _ _ _ _ _
  have HTD : Hid (BoxTy (w.alloc (.cells #[e0, e1, e2, e3, e4, e5, e6] 37)) w.heap.size 37) := BoxTy.new _ _ _
  generalize hw1 : w.alloc (.cells #[e0, e1, e2, e3, e4, e5, e6] 37) = w1 at *
  obtain ⟨i0, hi, hz0, hz1, hz2⟩ := info_parts infoInts8
  have hn8' : (n : Int) ≤ 8 := by omega
  obtain ⟨wM, hmk, hownM, hgM⟩ := run_make_full (P := Tryz.prog) w1 w1.heap.size 49 35 i0 (.slice none 0 0) 1 Tryz.underlying49 hi hz0 hz1 .i64 .i64 n (by rw [hz2]; omega) (by unfold maxLen; omega) (Nat.le_refl _)
  have hbM : Below w1.heap.size w1 wM := ⟨hgM.os, hgM.tape, hgM.output, hgM.size, fun k hk => hgM.block k hk (by simp)⟩
  have hxs : (madeCells (Value.slice none 0 0).cells (n * 1)).toList = List.replicate n (Value.slice none 0 0) := by
    rw [Nat.mul_one]
    exact toList_madeCells_one _ _
  rw [hxs] at hownM
  have HOM : Hid (wM.ownsRow N 35 1 (.slice (some ⟨w1.heap.size, 0, none⟩) n n) n (List.replicate n (.slice none 0 0))) := own_base hownM (Nat.le_trans hN hb1.size)
  have HLM : Hid (Live wM pm N m s) := HL1.out.below hbM
  have HDM : Hid (Box7 wM w.heap.size e0 e1 e2 e3 e4 e5 e6) := HBD.out.below hbM
  have HTM : Hid (BoxTy wM w.heap.size 37) := HTD.out.kp (kp_below hbM)
  have hbwM : Below N w wM := (below2 hb1 hbM).mono hN
  have HCon : Hid (∀ W (g : Int), Calls Tryz.prog 70 #[.agg #[e0, e1, e2, e3, e4, e5, e6], .int .i64 g] W fun e w' => e = .returned (.bool true) ∧ Below W.heap.size W w') := hCon
  have HCh : Hid (∀ W, Live W pm N m s → N ≤ W.heap.size → Calls Tryz.prog 71 #[.pointer (some ⟨pm, 0, none⟩), .agg #[e0, e1, e2, e3, e4, e5, e6]] W fun e w' => e = .returned (.tuple #[]) ∧ (∃ s', Live w' pm N m' s') ∧ Kp W w' ∧ Below N W w') := hCh
  have HACT : Hid (∀ W (k : Nat), k < n → Live W pm N m s → Calls Tryz.prog 56 #[.agg (mapCells m s).toArray, .int .i64 (k : Int)] W fun e w' => IntsPost (actP m k) W e w') := fun W k hk hl => acting_any hS (by omega) W (mapV hl).1 (mapV hl).2
  have hac' : ∀ (z : Int) (l : List Tr) (k : Int), actP { m' with ep := z, trs := l } k = actP m' k := fun _ _ _ => rfl
  have HACT' : Hid (∀ W (k j : Nat) s', k < n → Live W pm N (turnM m m' j) s' → Calls Tryz.prog 56 #[.agg (mapCells (turnM m m' j) s').toArray, .int .i64 (k : Int)] W fun e w' => IntsPost (actP m' k) W e w') := fun W k j s' hk hl => by
    have := acting_any (m := turnM m m' j) (s := s') (g := (k : Int)) (stand_more hS' _ _) (by omega) W (mapV hl).1 (mapV hl).2
    rw [show actP (turnM m m' j) (k : Int) = actP m' k from rfl] at this
    exact this
  have HFEW : Hid (∀ k, k < n → actP m k ≠ actP m' k → ((actP m k).length : Int) < m.mn) := hfew
  have HMN : Hid (m'.mn = m.mn ∧ m'.gr = m.gr ∧ m'.trs = m.trs ∧ m'.ep = m.ep) := by unfold Hid; rw [hm']; exact ⟨rfl, rfl, rfl, rfl⟩
  have HTL : Hid (m.trs.length = n) := htl
  have HEP : Hid (0 ≤ m.ep ∧ m.ep < 2147483647) := hep
  have HM3 : Hid (m.mn ≤ 3) := hmn
  have hNw1 : N ≤ w1.heap.size := Nat.le_trans hN hb1.size
  have hpd : w.heap.size < w1.heap.size := HBD.out.lt
  have hgd := HL1.out.box
  rw [hgr] at hgd
  obtain ⟨⟨c0, c1, c2, c3, c4, c5, c6⟩, -⟩ := hgd
  have HGR : Hid (m.gr = (n : Int)) := hgr
  clear hgr hownM hgM hxs hi hz0 hz1 hz2 hL hCon hCh hS hS' hfew hm' hac' htl hep hmn HL1 HBD HTD
  go_enter Tryz.func38, Tryz.ntmps38
  go_upto_region 1 with fail
  clear hw1
  go_wp2_with fail
  clear hmk c0 c1 c2 c3 c4 c5 c6
  go_loopw [5, 15] (fun _ i wr => ∃ (k : Nat) (L : List Value), k ≤ n ∧ i = .int .i64 k ∧ L.length = n ∧ Hid (ActsAt wr N m L k) ∧ Hid (wr.ownsRow N 35 1 (.slice (some ⟨w1.heap.size, 0, none⟩) n n) n L) ∧ Hid (Live wr pm N m s) ∧ Hid (Box7 wr w.heap.size e0 e1 e2 e3 e4 e5 e6) ∧ Hid (BoxTy wr w.heap.size 37) ∧ Below N w wr) (fun _ i _ => n - (intOf i).toNat)
  case atStart => exact ⟨0, _, Nat.zero_le _, rfl, by simp, (fun j hj => absurd hj (Nat.not_lt_zero _)), HOM, HLM, HDM, HTM, hbwM⟩
  case round =>
    obtain ⟨k, L, hk, rfl, hLl, hA, hE, hLv, hD, hTD, hbel⟩ := hrel
    clear HOM HLM HDM HTM hbwM
    by_cases hlt : k < n
    · have hk1 : (k : Int) < (n : Int) := by omega
      have hk0 : (0 : Int) ≤ (k : Int) := by omega
      obtain ⟨⟨d0, d1, d2, d3, d4, d5, d6⟩, -⟩ := hD.out
      have hlw := hE.out.lt w1.heap.size rfl
      go_upto_region 6 with (go_at_call 70; refine (HCon.out _ _).mono ?_; rintro e w2 ⟨rfl, hb2⟩)
      have HLv2 : Hid (Live w2 pm N m s) := hLv.out.below hb2
      obtain ⟨⟨c0, c1, c2, c3, c4, c5, c6⟩, -⟩ := HLv2.out.box
      have HAC : Hid (Calls Tryz.prog 56 #[.agg #[.int .i64 m.ep, .int .i64 m.size, .int .i64 m.mn, .int .i64 m.gr, .slice s.aN s.lN s.cN, .slice s.aT s.lT s.cT, .slice s.aR s.lR s.cR], .int .i64 (k : Int)] w2 fun e w' => IntsPost (actP m k) w2 e w') := HACT.out w2 k hlt HLv2.out
      obtain ⟨xk, hxk⟩ : ∃ xk, L[k]? = some xk := ⟨_, List.getElem?_eq_getElem (by omega)⟩
      have HFA : Hid (∀ w3 a3 cp3, Below w2.heap.size w2 w3 → IntsOwn w2.heap.size w3 a3 cp3 (actP m k) →
          (w3.cell? ⟨w1.heap.size, k, none⟩ = some xk ∧ w3.frozen? ⟨w1.heap.size, k, none⟩ = false) ∧
          ActsAt (w3.setCell ⟨w1.heap.size, k, none⟩ (.slice a3 (actP m k).length cp3)) N m (L.set k (.slice a3 (actP m k).length cp3)) (k + 1) ∧
          (w3.setCell ⟨w1.heap.size, k, none⟩ (.slice a3 (actP m k).length cp3)).ownsRow N 35 1 (.slice (some ⟨w1.heap.size, 0, none⟩) n n) n (L.set k (.slice a3 (actP m k).length cp3)) ∧
          Live (w3.setCell ⟨w1.heap.size, k, none⟩ (.slice a3 (actP m k).length cp3)) pm N m s ∧
          Box7 (w3.setCell ⟨w1.heap.size, k, none⟩ (.slice a3 (actP m k).length cp3)) w.heap.size e0 e1 e2 e3 e4 e5 e6 ∧
          BoxTy (w3.setCell ⟨w1.heap.size, k, none⟩ (.slice a3 (actP m k).length cp3)) w.heap.size 37 ∧
          Below N w (w3.setCell ⟨w1.heap.size, k, none⟩ (.slice a3 (actP m k).length cp3))) := fun w3 a3 cp3 hb3 hO3 => by
        have hb23 := below2 hb2 hb3
        have hE3 := own_below hE.out hb23
        have hgr3 := set_grownBy w3 w1.heap.size k (.slice a3 (actP m k).length cp3)
        obtain ⟨⟨ce, hce⟩, -⟩ := row_ty hE3
        have hce' := heap_setCell_same w3 w1.heap.size k ce 35 (.slice a3 (actP m k).length cp3) hce
        have hN2 : N ≤ w2.heap.size := Nat.le_trans hNw1 (Nat.le_trans (Nat.le_of_lt hlw.2) hb2.size)
        refine ⟨⟨(hE3.cellAt k (by omega)).trans hxk, hE3.frozenAt k⟩, ?_, (hE3.stored k _).1, (hLv.out.below hb23).else hgr3 ⟨ce, hce⟩ ⟨_, hce'⟩ (by decide) (by decide) (by decide), (hD.out.below hb23).else hgr3 (by omega), ?_, (hbel.trans (hb23.mono (Nat.le_trans hNw1 (Nat.le_of_lt hlw.2)))).setCell (p := ⟨w1.heap.size, k, none⟩) hNw1 _⟩
        · intro j hj
          by_cases hjk : j = k
          · subst hjk
            exact ⟨a3, cp3, List.getElem?_set_self (by omega), own_type (own_base hO3.2 hN2) hgr3 hce (by decide)⟩
          · obtain ⟨a, c, q1, q2⟩ := hA.out j (by omega)
            exact ⟨a, c, by rw [List.getElem?_set_ne (by omega)]; exact q1, own_type (own_below q2 hb23) hgr3 hce (by decide)⟩
        · obtain ⟨cd, hcd⟩ := hTD.out.kp (kp_below hb23)
          exact ⟨cd, (hgr3.block w.heap.size (lt_of_get hcd) (by simp; omega)).trans hcd⟩
      clear hA hE hLv hD hTD hbel d0 d1 d2 d3 d4 d5 d6 HLv2
      generalize actP m k = ac at *
      go_wp2_with (go_at_call 56; refine HAC.out.mono ?_; rintro e w3 ⟨hb3, a3, cp3, rfl, hO3⟩; obtain ⟨⟨xi, fi⟩, y1, y2, y3, y4, y5, y6⟩ := HFA.out w3 a3 cp3 hb3 hO3; have Y1 : Hid (ActsAt _ N m _ (k + 1)) := y1; have Y2 := show Hid _ from y2; have Y3 := show Hid _ from y3; have Y4 := show Hid _ from y4; have Y5 := show Hid _ from y5; clear y1 y2 y3 y4 y5 hO3)
      exact ⟨⟨k + 1, _, by omega, by go_num, by simp [hLl], Y1, Y2, Y3, Y4, Y5, y6⟩, by simp [intOf]; omega⟩
    · obtain rfl : k = n := by omega
      obtain ⟨⟨d0, d1, d2, d3, d4, d5, d6⟩, -⟩ := hD.out
      have hlw := hE.out.lt w1.heap.size
      have hNr : N ≤ wr.heap.size := Nat.le_trans hN (Nat.le_trans hbel.size (Nat.le_refl _))
      have HC2 : Hid (Calls Tryz.prog 71 #[.pointer (some ⟨pm, 0, none⟩), .agg #[e0, e1, e2, e3, e4, e5, e6]] wr fun e w' => e = .returned (.tuple #[]) ∧ (∃ s', Live w' pm N m' s') ∧ Kp wr w' ∧ Below N wr w') := HCh.out wr hLv.out hNr
      go_upto_region 9 with (go_at_call 71; refine HC2.out.mono ?_; rintro e w2 ⟨rfl, ⟨s2, hl2⟩, hk2, hb2⟩; have HL2 : Hid (Live w2 pm N m' s2) := hl2; clear hl2)
      have hbw2 : Below N w w2 := hbel.trans hb2
      have HA2 : Hid (ActsAt w2 N m L k) := hA.out.kp hk2
      have HE2 : Hid (w2.ownsRow N 35 1 (.slice (some ⟨w1.heap.size, 0, none⟩) k k) k L) := own_kp hE.out hk2 (by unfold TurnT; decide)
      have HD2 : Hid (Box7 w2 w.heap.size e0 e1 e2 e3 e4 e5 e6) := box_kp hD.out hTD.out hk2 (by unfold TurnT; decide)
      have HT2 : Hid (BoxTy w2 w.heap.size 37) := hTD.out.kp hk2
      clear hA hE hD hTD hLv hbel hk2 hb2 HC2 d0 d1 d2 d3 d4 d5 d6 hlw hNr HCh HACT
      obtain ⟨⟨c0, c1, c2, c3, c4, c5, c6⟩, ⟨f0, -⟩⟩ := HL2.out.box
      rw [HMN.out.2.2.2] at c0
      obtain ⟨hl3, hk3⟩ := HL2.out.epoch (m.ep + 1)
      have hb3 : Below N w (w2.setCell ⟨pm, 0, none⟩ (.int .i64 (m.ep + 1))) := hbw2.setCell (p := ⟨pm, 0, none⟩) HL2.out.ge _
      have HL3 : Hid (Live (w2.setCell ⟨pm, 0, none⟩ (.int .i64 (m.ep + 1))) pm N (turnM m m' 0) s2) := by
        unfold Hid
        have e0 : turnM m m' 0 = { m' with ep := m.ep + 1 } := by
          show Mp.mk _ _ _ _ _ _ m.trs = Mp.mk _ _ _ _ _ _ m'.trs
          rw [HMN.out.2.2.1]
        rw [e0]
        exact hl3
      have HA3 : Hid (ActsAt (w2.setCell ⟨pm, 0, none⟩ (.int .i64 (m.ep + 1))) N m L k) := HA2.out.kp hk3
      have HE3 : Hid ((w2.setCell ⟨pm, 0, none⟩ (.int .i64 (m.ep + 1))).ownsRow N 35 1 (.slice (some ⟨w1.heap.size, 0, none⟩) k k) k L) := own_kp HE2.out hk3 (by unfold TurnT; decide)
      have HD3 : Hid (Box7 (w2.setCell ⟨pm, 0, none⟩ (.int .i64 (m.ep + 1))) w.heap.size e0 e1 e2 e3 e4 e5 e6) := box_kp HD2.out HT2.out hk3 (by unfold TurnT; decide)
      have HT3 : Hid (BoxTy (w2.setCell ⟨pm, 0, none⟩ (.int .i64 (m.ep + 1))) w.heap.size 37) := HT2.out.kp hk3
      clear hl3 hk3 HL2 HA2 HE2 HD2 HT2 hbw2
      obtain ⟨he0, he1⟩ := HEP.out
      generalize hw3 : w2.setCell ⟨pm, 0, none⟩ (.int .i64 (m.ep + 1)) = w3 at *
      go_upto_region 10 with fail
      clear hw3 c0 c1 c2 c3 c4 c5 c6 f0 he0 he1
      go_wp2_with fail
      go_loopw [6, 7, 42] (fun _ _ i wr => ∃ (j : Nat), j ≤ k ∧ i = .int .i64 j ∧ Hid (ActsAt wr N m L k) ∧ Hid (wr.ownsRow N 35 1 (.slice (some ⟨w1.heap.size, 0, none⟩) k k) k L) ∧ Hid (∃ s', Live wr pm N (turnM m m' j) s') ∧ Hid (Box7 wr w.heap.size e0 e1 e2 e3 e4 e5 e6) ∧ Hid (BoxTy wr w.heap.size 37) ∧ Below N w wr) (fun _ _ i _ => k - (intOf i).toNat)
      case atStart => exact ⟨0, Nat.zero_le _, rfl, HA3, HE3, ⟨s2, HL3.out⟩, HD3, HT3, hb3⟩
      case round =>
        obtain ⟨j, hj, rfl, hA, hE, hLv, hD, hTD, hbel⟩ := hrel
        clear HA3 HE3 HL3 HD3 HT3 hb3
        obtain ⟨s3, hl3⟩ := hLv.out
        by_cases hlt : j < k
        · have hj1 : (j : Int) < (k : Int) := by omega
          have hj0 : (0 : Int) ≤ (j : Int) := by omega
          obtain ⟨⟨d0, d1, d2, d3, d4, d5, d6⟩, -⟩ := hD.out
          have hlw := hE.out.lt w1.heap.size rfl
          obtain ⟨aj, cj, hLj, hrow⟩ := hA.out j hlt
          have xj := (hE.out.cellAt j (by omega)).trans hLj
          have HLR : Hid (s3.lR = k) := by unfold Hid; have h1 := hl3.own.trl; have h2 : (turnM m m' j).trs.length = m.trs.length := turnTrs_len m m' j; have := HTL.out; omega
          have HROW : Hid (wr.ownsRow N 3 1 (.slice aj (actP m j).length cj) (actP m j).length (intCells (actP m j))) := hrow
          have HLV : Hid (Live wr pm N (turnM m m' j) s3) := hl3
          have HSAME : Hid (actP m j = actP m' j → turnM m m' (j + 1) = turnM m m' j) := turnM_same
          have HELSE : Hid (actP m j ≠ actP m' j → turnM m m' (j + 1) = setTr (turnM m m' j) j (turnM m m' j).ep) := turnM_else
          have HFW : Hid (actP m j ≠ actP m' j → ((actP m j).length : Int) < (turnM m m' j).mn) := fun h => by
            have := HFEW.out j hlt h
            show _ < m'.mn
            rw [HMN.out.1]
            exact this
          have HM3' : Hid ((turnM m m' j).mn ≤ 3) := by
            show m'.mn ≤ 3
            rw [HMN.out.1]
            exact HM3.out
          have HAC := fun W (hl : Live W pm N (turnM m m' j) s3) => HACT'.out W j j s3 hlt hl
          have HA2 : Hid (∀ W, Live W pm N (turnM m m' j) s3 → Calls Tryz.prog 56 #[.agg #[.int .i64 (turnM m m' j).ep, .int .i64 (turnM m m' j).size, .int .i64 (turnM m m' j).mn, .int .i64 (turnM m m' j).gr, .slice s3.aN s3.lN s3.cN, .slice s3.aT s3.lT s3.cT, .slice s3.aR s3.lR s3.cR], .int .i64 (j : Int)] W fun e w' => IntsPost (actP m' j) W e w') := HAC
          clear hLj hrow hl3 hLv HAC
          generalize turnM m m' j = M at *
          generalize actP m j = ac at *
          generalize actP m' j = ac' at *
          have hNr : N ≤ wr.heap.size := Nat.le_trans hNw1 (Nat.le_of_lt hlw.2)
          by_cases hq : ac = ac'
          · have HM2 : Hid (turnM m m' (j + 1) = M) := HSAME.out hq
            have hdq : decide (ac = ac') = true := by simpa using hq
            have HEQ : Hid (∀ W a3 cp3, RowI W aj ac.length cj ac → RowI W a3 ac'.length cp3 ac' → Calls Tryz.prog 72 #[.slice aj ac.length cj, .slice a3 ac'.length cp3] W fun e w' => e = .returned (.bool true) ∧ Grown W w') := fun W a3 cp3 h1 h2 => by
              have := eqInts aj a3 _ _ _ _ ac ac' W h1 h2
              rw [hdq] at this
              exact this
            clear HSAME HELSE HFW hq hdq
            go_wp2_with (first
              | (go_at_call 70; refine (HCon.out _ _).mono ?_; rintro e w2 ⟨rfl, hb2⟩; have HLV2 := show Hid (Live w2 pm N M s3) from HLV.out.below hb2; obtain ⟨⟨c0, c1, c2, c3, c4, c5, c6⟩, -⟩ := HLV2.out.box)
              | (go_at_call 56; refine (HA2.out _ HLV2.out).mono ?_; rintro e w3 ⟨hb3, a3, cp3, rfl, hO3⟩; have HO3 := show Hid (IntsOwn w2.heap.size w3 a3 cp3 ac') from hO3; clear hO3)
              | (go_at_call 72; refine (HEQ.out _ _ _ (own_rowI (own_below (own_below HROW.out hb2) hb3)) (own_rowI HO3.out.2)).mono ?_; rintro e w4 ⟨rfl, hg4⟩))
            have hb4 := below2 hb2 (below2 hb3 (grown_below hg4))
            exact ⟨⟨j + 1, by omega, by go_num, hA.out.below hb4, own_below hE.out hb4, ⟨s3, by rw [HM2.out]; exact HLV.out.below hb4⟩, hD.out.below hb4, hTD.out.kp (kp_below hb4), hbel.trans (hb4.mono hNr)⟩, by simp [intOf]; omega⟩
          · have HM2 : Hid (turnM m m' (j + 1) = setTr M j M.ep) := HELSE.out hq
            have HFL : Hid ((ac.length : Int) < M.mn) := HFW.out hq
            have hdq : decide (ac = ac') = false := by simpa using hq
            have HEQ : Hid (∀ W a3 cp3, RowI W aj ac.length cj ac → RowI W a3 ac'.length cp3 ac' → Calls Tryz.prog 72 #[.slice aj ac.length cj, .slice a3 ac'.length cp3] W fun e w' => e = .returned (.bool false) ∧ Grown W w') := fun W a3 cp3 h1 h2 => by
              have := eqInts aj a3 _ _ _ _ ac ac' W h1 h2
              rw [hdq] at this
              exact this
            have HLE : Hid (∀ W, Live W pm N M s3 → N ≤ W.heap.size → Calls Tryz.prog 73 #[.pointer (some ⟨pm, 0, none⟩), .int .i64 (j : Int), .slice aj ac.length cj] W fun e w' => e = .returned (.tuple #[]) ∧ Live w' pm N (setTr M j M.ep) s3 ∧ Kp W w' ∧ Below N W w') := fun W hl hNW => leave_short (by have := HLR.out; omega) (by have := HLR.out; omega) aj _ cj HFL.out HM3'.out W hl hNW
            clear HSAME HELSE HFW hq hdq HFL
            go_wp2_with (first
              | (go_at_call 70; refine (HCon.out _ _).mono ?_; rintro e w2 ⟨rfl, hb2⟩; have HLV2 := show Hid (Live w2 pm N M s3) from HLV.out.below hb2; obtain ⟨⟨c0, c1, c2, c3, c4, c5, c6⟩, -⟩ := HLV2.out.box)
              | (go_at_call 56; refine (HA2.out _ HLV2.out).mono ?_; rintro e w3 ⟨hb3, a3, cp3, rfl, hO3⟩; have HO3 := show Hid (IntsOwn w2.heap.size w3 a3 cp3 ac') from hO3; clear hO3)
              | (go_at_call 72; refine (HEQ.out _ _ _ (own_rowI (own_below (own_below HROW.out hb2) hb3)) (own_rowI HO3.out.2)).mono ?_; rintro e w4 ⟨rfl, hg4⟩)
              | (go_at_call 73; refine (HLE.out _ (HLV.out.below (below2 hb2 (below2 hb3 (grown_below hg4)))) (Nat.le_trans hNr (below2 hb2 (below2 hb3 (grown_below hg4))).size)).mono ?_; rintro e w5 ⟨rfl, hl5, hk5, hb5⟩; have HL5 := show Hid (Live w5 pm N (setTr M j M.ep) s3) from hl5; clear hl5))
            have hb4 := below2 hb2 (below2 hb3 (grown_below hg4))
            have hk6 := (kp_below hb4).trans hk5
            exact ⟨⟨j + 1, by omega, by go_num, hA.out.kp hk6, own_kp hE.out hk6 (by unfold TurnT; decide), ⟨s3, by rw [HM2.out]; exact HL5.out⟩, box_kp hD.out hTD.out hk6 (by unfold TurnT; decide), hTD.out.kp hk6, (hbel.trans (hb4.mono hNr)).trans hb5⟩, by simp [intOf]; omega⟩
        · obtain rfl : j = k := by omega
          have HF : Hid (Live wr pm N (turnM m m' j) s3) := hl3
          clear hl3 hLv hA hE hD hTD
          go_wp2_with fail
          go_returns
          exact ⟨rfl, ⟨s3, HF.out⟩, hbel⟩
end Go.Proofs.YtcncbjknfcjnmaaGreat.Tp
namespace Go.Proofs.YtcncbjknfcjnmaaGreat.Tp
open Go.ChangeShapes Go.WideShapes Go.ChangeAt Go.RowKit
theorem OwnBare.else {w w' : World} {B b : Nat} {m : Mp} {s : MV} (h : OwnBare w B m s) (hg : w.grownBy w' (some b)) (hb : b < B) : OwnBare w' B m s := by
  have key : ∀ (E sz : Nat) (v : Value) (n : Nat) (xs : List Value), w.ownsRow B E sz v n xs → w'.ownsRow B E sz v n xs := fun E sz v n xs h => h.kept hg (by
    cases hv : v.ownBlock with
    | none => exact .inl rfl
    | some k => right; have := (h.lt k hv).1; simp; omega)
  exact ⟨key _ _ _ _ _ h.nds, h.ndl, h.aT, h.lT, h.cT, h.tms, h.past, h.trl, key _ _ _ _ _ h.trs⟩
theorem OwnBare.base {w : World} {B B' : Nat} {m : Mp} {s : MV} (h : OwnBare w B m s) (hb : B' ≤ B) : OwnBare w B' m s := ⟨own_base h.nds hb, h.ndl, h.aT, h.lT, h.cT, h.tms, h.past, h.trl, own_base h.trs hb⟩
/-- a bare map told, and no error -/
def BarePost (m : Mp) (w : World) (e : Ending) (w' : World) : Prop := Below w.heap.size w w' ∧ ∃ s, e = .returned (.tuple #[.agg (mapCells m s).toArray, .int .i64 0]) ∧ OwnBare w' w.heap.size m s
theorem BareOk.stand {m : Mp} (h : BareOk m) : StandOk m := ⟨h.cnt.1, h.nds, by rw [h.tms]; intro i j _ hj; simp at hj, by rw [h.tms]; exact Nat.zero_le _, fun t ht => by rw [h.tms] at ht; simp at ht⟩
set_option maxHeartbeats 4000000 in
set_option maxRecDepth 60000 in
theorem apply_bare {m m' : Mp} {s : MV} (n : Nat) (e0 e1 e2 e3 e4 e5 e6 : Value) (hB : BareOk m) (hS' : StandOk m') (hgr : m.gr = (n : Int)) (hep : m.ep < 2147483647)
    (hm' : m' = { m with nds := m'.nds }) (hfew : ∀ k, k < n → actP m k ≠ actP m' k → ((actP m k).length : Int) < m.mn)
    (hRef : ∀ W s', NdsAt W s'.aN s'.lN s'.cN m.nds → Calls Tryz.prog 37 #[.agg (mapCells m s').toArray, .agg #[e0, e1, e2, e3, e4, e5, e6]] W fun e w' => e = .returned (.int .i64 0) ∧ Below W.heap.size W w')
    (hCon : ∀ W (g : Int), Calls Tryz.prog 70 #[.agg #[e0, e1, e2, e3, e4, e5, e6], .int .i64 g] W fun e w' => e = .returned (.bool true) ∧ Below W.heap.size W w')
    (hCh : ∀ pm N s', (m.nds = [] → s'.aN = none ∧ s'.lN = 0 ∧ s'.cN = 0) → ∀ W, Live W pm N m s' → N ≤ W.heap.size → Calls Tryz.prog 71 #[.pointer (some ⟨pm, 0, none⟩), .agg #[e0, e1, e2, e3, e4, e5, e6]] W fun e w' => e = .returned (.tuple #[]) ∧ (∃ s', Live w' pm N m' s') ∧ Kp W w' ∧ Below N W w')
    (w : World) (h : BareAt w m s) :
    Calls Tryz.prog 15 #[.agg (mapCells m s).toArray, .agg #[e0, e1, e2, e3, e4, e5, e6]] w fun e w' => BarePost (turnM m m' n) w e w' := by
  have hc := hB.cnt
  have htn := hB.trn
  have hcount : m.trs.length = n := by omega
  have hn8 : n ≤ 8 := by have := hc.2.2.2; omega
  obtain ⟨w1, hw1⟩ : ∃ w1, w1 = ((w.alloc (.cells (mapCells m s).toArray 26)).alloc (.cells #[e0, e1, e2, e3, e4, e5, e6] 37)).alloc (.cells #[.int .i64 0, .int .i64 0, .int .i64 0, .int .i64 0, .slice none 0 0, .slice none 0 0, .slice none 0 0] 26) := ⟨_, rfl⟩
  have hb1 : Below w.heap.size w w1 := by rw [hw1]; exact below2 (below2 (below_alloc _ _) (below_alloc _ _)) (below_alloc _ _)
  have HBM : Hid (Box7 w1 w.heap.size (.int .i64 m.ep) (.int .i64 m.size) (.int .i64 m.mn) (.int .i64 m.gr) (.slice s.aN s.lN s.cN) (.slice s.aT s.lT s.cT) (.slice s.aR s.lR s.cR)) := by
    rw [hw1]
    exact ((Box7.new w _ _ _ _ _ _ _ _).below (below_alloc _ _)).below (below_alloc _ _)
  have HBD : Hid (Box7 w1 (w.heap.size + 1) e0 e1 e2 e3 e4 e5 e6) := by
    rw [hw1]
    have := (Box7.new (w.alloc (.cells (mapCells m s).toArray 26)) e0 e1 e2 e3 e4 e5 e6 37).below (below_alloc _ (.cells #[.int .i64 0, .int .i64 0, .int .i64 0, .int .i64 0, .slice none 0 0, .slice none 0 0, .slice none 0 0] 26))
    rwa [show (w.alloc (.cells (mapCells m s).toArray 26)).heap.size = w.heap.size + 1 by simp] at this
  have HBR : Hid (Box7 w1 (w.heap.size + 1 + 1) (.int .i64 0) (.int .i64 0) (.int .i64 0) (.int .i64 0) (.slice none 0 0) (.slice none 0 0) (.slice none 0 0)) := by
    rw [hw1]
    have := Box7.new ((w.alloc (.cells (mapCells m s).toArray 26)).alloc (.cells #[e0, e1, e2, e3, e4, e5, e6] 37)) (.int .i64 0) (.int .i64 0) (.int .i64 0) (.int .i64 0) (.slice none 0 0) (.slice none 0 0) (.slice none 0 0) 26
    rwa [show ((w.alloc (.cells (mapCells m s).toArray 26)).alloc (.cells #[e0, e1, e2, e3, e4, e5, e6] 37)).heap.size = w.heap.size + 1 + 1 by simp] at this
  have HCK : Hid (∀ W, Below w.heap.size w W → Calls Tryz.prog 17 #[.agg (mapCells m s).toArray] W fun e w' => e = .returned (.int .i64 0) ∧ Below W.heap.size W w') := fun W hb => check_bare hB W (h.below hb).map
  have HCL : Hid (∀ W, Below w.heap.size w W → Calls Tryz.prog 36 #[.agg (mapCells m s).toArray] W fun e w' => Below W.heap.size W w' ∧ ∃ s3, e = .returned (.agg #[.int .i64 m.ep, .int .i64 m.size, .int .i64 m.mn, .int .i64 m.gr, .slice s3.aN s3.lN s3.cN, .slice s3.aT s3.lT s3.cT, .slice s3.aR s3.lR s3.cR]) ∧ OwnBare w' W.heap.size m s3 ∧ (m.nds = [] → s3.aN = none ∧ s3.lN = 0 ∧ s3.cN = 0)) := fun W hb => clone_bare (by omega) (by have := hB.nds.1; omega) W (h.below hb)
  have HRF : Hid (∀ W s', NdsAt W s'.aN s'.lN s'.cN m.nds → Calls Tryz.prog 37 #[.agg (mapCells m s').toArray, .agg #[e0, e1, e2, e3, e4, e5, e6]] W fun e w' => e = .returned (.int .i64 0) ∧ Below W.heap.size W w') := hRef
  have HTU : Hid (∀ pm N s', (m.nds = [] → s'.aN = none ∧ s'.lN = 0 ∧ s'.cN = 0) → ∀ W, Live W pm N m s' → N ≤ W.heap.size → Calls Tryz.prog 38 #[.pointer (some ⟨pm, 0, none⟩), .agg #[e0, e1, e2, e3, e4, e5, e6]] W fun e w' => e = .returned (.tuple #[]) ∧ (∃ s', Live w' pm N (turnM m m' n) s') ∧ Below N W w') := fun pm N s' hs W hl hN => turn_bare e0 e1 e2 e3 e4 e5 e6 hB.stand hS' hgr hn8 hcount ⟨hB.ep0, hep⟩ (by have := hc.1; have := hc.2.1; omega) hm' hfew hCon (hCh pm N s' hs) W hl hN
  clear hRef hCon hCh hfew hm' hep hgr hS' hB h hc htn hcount hn8
  rw [map_split] at *
  generalize hMT : turnM m m' n = MT at *
  clear hMT
  have hl1 := HBM.out.lt
  have hl2 := HBD.out.lt
  have hl3 := HBR.out.lt
  obtain ⟨⟨c0, c1, c2, c3, c4, c5, c6⟩, -⟩ := HBM.out
  go_enter Tryz.func15, Tryz.ntmps15
  go_upto_region 1 with fail
  rw [show ((w.alloc (.cells #[.int .i64 m.ep, .int .i64 m.size, .int .i64 m.mn, .int .i64 m.gr, .slice s.aN s.lN s.cN, .slice s.aT s.lT s.cT, .slice s.aR s.lR s.cR] 26)).alloc (.cells #[e0, e1, e2, e3, e4, e5, e6] 37)).alloc (.cells #[.int .i64 0, .int .i64 0, .int .i64 0, .int .i64 0, .slice none 0 0, .slice none 0 0, .slice none 0 0] 26) = w1 from hw1.symm]
  clear hw1
  go_upto_region 3 with (go_at_call 17; refine (HCK.out _ hb1).mono ?_; rintro e w2 ⟨rfl, hb2⟩)
  clear c0 c1 c2 c3 c4 c5 c6
  obtain ⟨⟨c0, c1, c2, c3, c4, c5, c6⟩, -⟩ := HBM.out.below hb2
  go_upto_region 4 with (go_at_call 36; refine (HCL.out _ (below2 hb1 hb2)).mono ?_; rintro e w3 ⟨hb3, s3, rfl, hO3, hnil3⟩)
  have hb3w : Below w.heap.size w w3 := below2 hb1 (below2 hb2 hb3)
  have HLV : Hid (Live (w3.alloc (.cells #[.int .i64 m.ep, .int .i64 m.size, .int .i64 m.mn, .int .i64 m.gr, .slice s3.aN s3.lN s3.cN, .slice s3.aT s3.lT s3.cT, .slice s3.aR s3.lR s3.cR] 26)) w3.heap.size w2.heap.size m s3) := ⟨Box7.new w3 _ _ _ _ _ _ _ _, BoxTy.new _ _ _, hO3.below (below_alloc _ _), hb3.size⟩
  have HBD4 : Hid (Box7 (w3.alloc (.cells #[.int .i64 m.ep, .int .i64 m.size, .int .i64 m.mn, .int .i64 m.gr, .slice s3.aN s3.lN s3.cN, .slice s3.aT s3.lT s3.cT, .slice s3.aR s3.lR s3.cR] 26)) (w.heap.size + 1) e0 e1 e2 e3 e4 e5 e6) := ((HBD.out.below hb2).below hb3).below (below_alloc _ _)
  have HBR2 : Hid (Box7 w2 (w.heap.size + 1 + 1) (.int .i64 0) (.int .i64 0) (.int .i64 0) (.int .i64 0) (.slice none 0 0) (.slice none 0 0) (.slice none 0 0)) := HBR.out.below hb2
  have hb24 : Below w2.heap.size w2 (w3.alloc (.cells #[.int .i64 m.ep, .int .i64 m.size, .int .i64 m.mn, .int .i64 m.gr, .slice s3.aN s3.lN s3.cN, .slice s3.aT s3.lT s3.cT, .slice s3.aR s3.lR s3.cR] 26)) := below2 hb3 (below_alloc _ _)
  have hbw2 : Below w.heap.size w w2 := below2 hb1 hb2
  have HRF4 : Hid (Calls Tryz.prog 37 #[.agg #[.int .i64 m.ep, .int .i64 m.size, .int .i64 m.mn, .int .i64 m.gr, .slice s3.aN s3.lN s3.cN, .slice s3.aT s3.lT s3.cT, .slice s3.aR s3.lR s3.cR], .agg #[e0, e1, e2, e3, e4, e5, e6]] (w3.alloc (.cells #[.int .i64 m.ep, .int .i64 m.size, .int .i64 m.mn, .int .i64 m.gr, .slice s3.aN s3.lN s3.cN, .slice s3.aT s3.lT s3.cT, .slice s3.aR s3.lR s3.cR] 26)) fun e w' => e = .returned (.int .i64 0) ∧ Below (w3.alloc (.cells #[.int .i64 m.ep, .int .i64 m.size, .int .i64 m.mn, .int .i64 m.gr, .slice s3.aN s3.lN s3.cN, .slice s3.aT s3.lT s3.cT, .slice s3.aR s3.lR s3.cR] 26)).heap.size (w3.alloc (.cells #[.int .i64 m.ep, .int .i64 m.size, .int .i64 m.mn, .int .i64 m.gr, .slice s3.aN s3.lN s3.cN, .slice s3.aT s3.lT s3.cT, .slice s3.aR s3.lR s3.cR] 26)) w') := HRF.out _ s3 HLV.out.own.bare.nds
  have HTU4 : Hid (∀ W, Live W w3.heap.size w2.heap.size m s3 → w2.heap.size ≤ W.heap.size → Calls Tryz.prog 38 #[.pointer (some ⟨w3.heap.size, 0, none⟩), .agg #[e0, e1, e2, e3, e4, e5, e6]] W fun e w' => e = .returned (.tuple #[]) ∧ (∃ s', Live w' w3.heap.size w2.heap.size MT s') ∧ Below w2.heap.size W w') := HTU.out w3.heap.size w2.heap.size s3 hnil3
  clear HCK HCL HRF HTU hO3 hnil3 c0 c1 c2 c3 c4 c5 c6 HBM HBD HBR hb1 hb2
  have hl4 : w3.heap.size < (w3.alloc (.cells #[.int .i64 m.ep, .int .i64 m.size, .int .i64 m.mn, .int .i64 m.gr, .slice s3.aN s3.lN s3.cN, .slice s3.aT s3.lT s3.cT, .slice s3.aR s3.lR s3.cR] 26)).heap.size := by simp
  generalize hw4 : w3.alloc (.cells #[.int .i64 m.ep, .int .i64 m.size, .int .i64 m.mn, .int .i64 m.gr, .slice s3.aN s3.lN s3.cN, .slice s3.aT s3.lT s3.cT, .slice s3.aR s3.lR s3.cR] 26) = w4 at *
  clear hw4
  obtain ⟨⟨c0, c1, c2, c3, c4, c5, c6⟩, -⟩ := HLV.out.box
  obtain ⟨⟨d0, d1, d2, d3, d4, d5, d6⟩, -⟩ := HBD4.out
  go_upto_region 6 with (go_at_call 37; refine HRF4.out.mono ?_; rintro e w5 ⟨rfl, hb5⟩)
  have HL5 : Hid (Live w5 w3.heap.size w2.heap.size m s3) := HLV.out.below hb5
  have hb25 : Below w2.heap.size w2 w5 := below2 hb24 hb5
  clear c0 c1 c2 c3 c4 c5 c6 d0 d1 d2 d3 d4 d5 d6
  obtain ⟨⟨d0, d1, d2, d3, d4, d5, d6⟩, -⟩ := HBD4.out.below hb5
  have HTU5 : Hid (Calls Tryz.prog 38 #[.pointer (some ⟨w3.heap.size, 0, none⟩), .agg #[e0, e1, e2, e3, e4, e5, e6]] w5 fun e w' => e = .returned (.tuple #[]) ∧ (∃ s', Live w' w3.heap.size w2.heap.size MT s') ∧ Below w2.heap.size w5 w') := HTU4.out w5 HL5.out hb25.size
  clear HTU4 HRF4 HLV HBD4 hb24 hb5 hl4 HL5
  go_upto_region 7 with (go_at_call 38; refine HTU5.out.mono ?_; rintro e w6 ⟨rfl, ⟨s6, hl6⟩, hb6⟩; have HL6 := show Hid (Live w6 w3.heap.size w2.heap.size MT s6) from hl6; clear hl6)
  have hb26 : Below w2.heap.size w2 w6 := hb25.trans hb6
  have HBR6 : Hid (Box7 w6 (w.heap.size + 1 + 1) (.int .i64 0) (.int .i64 0) (.int .i64 0) (.int .i64 0) (.slice none 0 0) (.slice none 0 0) (.slice none 0 0)) := HBR2.out.below hb26
  have hrl : w.heap.size + 1 + 1 < w2.heap.size := HBR2.out.lt
  have hbw6 : Below w.heap.size w w6 := below2 hbw2 hb26
  clear d0 d1 d2 d3 d4 d5 d6 HTU5 hb25 hb6
  obtain ⟨⟨c0, c1, c2, c3, c4, c5, c6⟩, -⟩ := HL6.out.box
  obtain ⟨⟨r0, r1, r2, r3, r4, r5, r6⟩, ⟨f0, f1, f2, f3, f4, f5, f6⟩⟩ := HBR6.out
  have HFO : Hid (OwnBare (set7 w6 (w.heap.size + 1 + 1) (.int .i64 MT.ep) (.int .i64 MT.size) (.int .i64 MT.mn) (.int .i64 MT.gr) (.slice s6.aN s6.lN s6.cN) (.slice s6.aT s6.lT s6.cT) (.slice s6.aR s6.lR s6.cR)) w.heap.size MT s6) := (HL6.out.own.else (set7_grownBy _ _ _ _ _ _ _ _ _) hrl).base hbw2.size
  have HFB : Hid (Below w.heap.size w (set7 w6 (w.heap.size + 1 + 1) (.int .i64 MT.ep) (.int .i64 MT.size) (.int .i64 MT.mn) (.int .i64 MT.gr) (.slice s6.aN s6.lN s6.cN) (.slice s6.aT s6.lT s6.cT) (.slice s6.aR s6.lR s6.cR))) := set7_below hbw6 (by omega) _ _ _ _ _ _ _
  go_wp2_with fail
  refine bodyPost_ret (ret_maperr rfl _ _ (w.heap.size + 1 + 1) MT s6 _ rfl rfl (HBR6.out.set _ _ _ _ _ _ _).1.1 (HBR6.out.set _ _ _ _ _ _ _).1.2.1 (HBR6.out.set _ _ _ _ _ _ _).1.2.2.1 (HBR6.out.set _ _ _ _ _ _ _).1.2.2.2.1 (HBR6.out.set _ _ _ _ _ _ _).1.2.2.2.2.1 (HBR6.out.set _ _ _ _ _ _ _).1.2.2.2.2.2.1 (HBR6.out.set _ _ _ _ _ _ _).1.2.2.2.2.2.2) rfl ?_
  exact ⟨HFB.out, s6, rfl, HFO.out⟩
end Go.Proofs.YtcncbjknfcjnmaaGreat.Tp
