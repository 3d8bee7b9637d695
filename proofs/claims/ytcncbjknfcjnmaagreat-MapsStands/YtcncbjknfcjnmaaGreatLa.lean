/-
  The contracts of slices.Insert into nothing, of changeNode and change, for a node added to none.
  The contracts of changeNode and change, for the one node that goes up.
  The contract of turn, of bare maps where those who act no more were too few.
  The contract of Apply, of bare maps, for whatever delta is taken and turns as turn_bare asks.
  The contracts of hasGroup, Raw and Acting, of maps that Check takes.
  The contract of awake.
  The contracts of the answer's Ints, of rows wherever they lie, and of its Temp.
  Maps that may be, plainly; the contracts of Raw and Acting, of whatever map and group.
  The contract of the law's Light: it tells a bool.
  What a parameter of nodes reads as, opened.
  What a parameter that is a map reads as, opened.
-/
import Derived.Test.YtcncbjknfcjnmaaGreatK6
import Derived.Test.YtcncbjknfcjnmaaGreatTpR
import Derived.Test.YtcncbjknfcjnmaaGreatL0
import Derived.Test.YtcncbjknfcjnmaaGreatK1
import Derived.Test.YtcncbjknfcjnmaaGreatTpB
import Derived.Deep.Slices
import Derived.ChangeSame
import Derived.ChangeSlices
import Derived.ChangeArms
import Derived.Test.YtcncbjknfcjnmaaGreatMa
namespace Go.Proofs.YtcncbjknfcjnmaaGreat.Tp
open Go.ChangeShapes Go.WideShapes Go.ChangeAt Go.RowKit
set_option maxRecDepth 60000 in
theorem added_ex (id z r wt : Int) (w : World) : Calls Tryz.prog 88 #[.agg #[.int .i64 1, .int .i64 id, .int .i64 z, .int .i64 r, .int .i64 wt, .int .i64 0, .slice none 0 0]] w fun e w' => e = .returned (.agg #[.int .i64 id, .int .i64 z, .int .i64 r, .int .i64 wt, .bool false, .bool true]) ∧ w' = (w.alloc (.cells #[.int .i64 1, .int .i64 id, .int .i64 z, .int .i64 r, .int .i64 wt, .int .i64 0, .slice none 0 0] 37)).alloc (.cells #[.int .i64 id, .int .i64 z, .int .i64 r, .int .i64 wt, .bool false, .bool true] 72) := by
  go_enter Tryz.func88, Tryz.ntmps88
  go_wp2_with fail
  refine bodyPost_ret (ret_nd rfl _ _ (w.heap.size + 1) (.int .i64 id) (.int .i64 z) (.int .i64 r) (.int .i64 wt) (.bool false) (.bool true) rfl (by unfold Six; simp)) rfl ?_
  exact ⟨rfl, rfl⟩
set_option maxHeartbeats 1000000 in
set_option maxRecDepth 60000 in
theorem insertNd_none (id z r wt : Int) (W : World) : Calls Tryz.prog 115 #[.slice none 0 0, .int .i64 0, .slice (some ⟨W.heap.size, 0, none⟩) 1 1] (W.alloc (.cells #[.int .i64 id, .int .i64 z, .int .i64 r, .int .i64 wt, .bool false, .bool true] 72)) fun e w' => ∃ g c, e = .returned (.slice (some ⟨g, 0, none⟩) 1 c) ∧ w'.ownsRow W.heap.size 72 6 (.slice (some ⟨g, 0, none⟩) 1 c) 1 (ndsCells [⟨id, z, r, wt, false, true⟩]) ∧ Below W.heap.size W w' := by
  obtain ⟨i0, hi, hz0, hz1, hz2⟩ := info_parts infoNode8
  have H0 := own_nothing (W.alloc (.cells #[.int .i64 id, .int .i64 z, .int .i64 r, .int .i64 wt, .bool false, .bool true] 72)) W.heap.size 72 6
  have hnews := cells_lit W [.int .i64 id, .int .i64 z, .int .i64 r, .int .i64 wt, .bool false, .bool true] 72
  have hb1 := below_alloc W (.cells #[.int .i64 id, .int .i64 z, .int .i64 r, .int .i64 wt, .bool false, .bool true] 72)
  have hsz : W.heap.size ≤ (W.alloc (.cells #[.int .i64 id, .int .i64 z, .int .i64 r, .int .i64 wt, .bool false, .bool true] 72)).heap.size := hb1.size
  generalize hW1 : W.alloc (.cells #[.int .i64 id, .int .i64 z, .int .i64 r, .int .i64 wt, .bool false, .bool true] 72) = W1 at *
  have hnews' : ∀ j u, [.int .i64 id, .int .i64 z, .int .i64 r, .int .i64 wt, .bool false, .bool true][j]? = some u → W1.cell? ((⟨W.heap.size, 0, none⟩ : Addr).add j) = some u := fun j u h => by rw [← hW1]; exact cells_lit W [.int .i64 id, .int .i64 z, .int .i64 r, .int .i64 wt, .bool false, .bool true] 72 j u h
  clear hW1 hnews
  go_enter Tryz.func115, Tryz.ntmps115
  go_wp2_with (at_builtin; refine wpList_append_own _ rfl _ _ 22 rfl W.heap.size 72 i0 (.agg #[.int .i64 0, .int .i64 0, .int .i64 0, .int .i64 0, .bool false, .bool false]) 6 40 Tryz.underlying22 hi hz0 hz1 hz2 rfl (by decide) _ _ _ rfl H0 ⟨W.heap.size, 0, none⟩ 1 1 [.int .i64 id, .int .i64 z, .int .i64 r, .int .i64 wt, .bool false, .bool true] rfl rfl hnews' (by intro u hu; simp at hu; rcases hu with rfl | rfl | rfl | rfl | rfl | rfl <;> rfl) (by unfold maxLen; omega) (by omega) hsz ?_)
  intro v7 w7 hown7 hg7 hiff
  obtain ⟨g, c, rfl, hgB, -, -⟩ := own_some hown7 (by decide)
  have HO : Hid (w7.ownsRow W.heap.size 72 6 (.slice (some ⟨g, 0, none⟩) 1 c) 1 (ndsCells [⟨id, z, r, wt, false, true⟩])) := hown7
  have hb7 : Below W.heap.size W w7 := below2 hb1 ⟨hg7.os, hg7.tape, hg7.output, hg7.size, fun k hk => hg7.block k hk (by simp [Value.ownBlock])⟩
  clear hown7 hg7 hiff H0 hnews'
  go_wp2_with fail
  go_ret
  exact ⟨g, c, rfl, HO.out, hb7⟩
set_option maxHeartbeats 4000000 in
set_option maxRecDepth 60000 in
theorem cn_add (t1 t2 t5 t6 t7 t8 t9 t10 t11 t12 t13 t14 t15 t16 t17 t18 t19 t20 t21 t22 t23 t24 t25 t26 t27 t28 t29 t30 t31 t32 t33 t34 t35 t36 t37 t38 t39 t40 t41 t42 t43 t44 t45 t46 t47 t48 t49 t50 t51 t52 t53 t54 t55 t56 t57 t58 : Value) (pm pd : Nat) (id z r wt ep sz mn gr : Int) (vT vR : Value) (w1 : World) (Q : Exit → Act → World → Prop)
    (hA : Box7 w1 pm (.int .i64 ep) (.int .i64 sz) (.int .i64 mn) (.int .i64 gr) (.slice none 0 0) vT vR) (hD : Box7 w1 pd (.int .i64 1) (.int .i64 id) (.int .i64 z) (.int .i64 r) (.int .i64 wt) (.int .i64 0) (.slice none 0 0))
    (hQ : Hid (∀ (u34 u35 u36 u37 u38 u39 u40 u41 u42 u43 u44 u45 : Value) (g c : Nat) (W : World), Below w1.heap.size w1 W → W.ownsRow w1.heap.size 72 6 (.slice (some ⟨g, 0, none⟩) 1 c) 1 (ndsCells [⟨id, z, r, wt, false, true⟩]) → Q .normal ⟨#[.pointer (some ⟨pm, 0, none⟩), t1, t2, .pointer (some ⟨pd, 0, none⟩), .int .i64 0, t5, t6, t7, t8, t9, t10, t11, t12, t13, t14, t15, t16, t17, t18, t19, t20, t21, t22, t23, t24, t25, t26, t27, t28, t29, t30, t31, t32, t33, u34, u35, u36, u37, u38, u39, u40, u41, u42, u43, u44, u45, t46, t47, t48, t49, t50, t51, t52, t53, t54, t55, t56, t57, t58], []⟩ (W.setCell ⟨pm, 4, none⟩ (.slice (some ⟨g, 0, none⟩) 1 c)))) :
    Code.wp Tryz.prog ((Tryz.f95.body.bind (regionOf 5)).getD .skip) Q ⟨#[.pointer (some ⟨pm, 0, none⟩), t1, t2, .pointer (some ⟨pd, 0, none⟩), .int .i64 0, t5, t6, t7, t8, t9, t10, t11, t12, t13, t14, t15, t16, t17, t18, t19, t20, t21, t22, t23, t24, t25, t26, t27, t28, t29, t30, t31, t32, t33, t34, t35, t36, t37, t38, t39, t40, t41, t42, t43, t44, t45, t46, t47, t48, t49, t50, t51, t52, t53, t54, t55, t56, t57, t58], []⟩ w1 := by
  have HS : Hid (∀ w', Below w1.heap.size w1 w' → (fun w' => Box7 w' pm (.int .i64 ep) (.int .i64 sz) (.int .i64 mn) (.int .i64 gr) (.slice none 0 0) vT vR ∧ Box7 w' pd (.int .i64 1) (.int .i64 id) (.int .i64 z) (.int .i64 r) (.int .i64 wt) (.int .i64 0) (.slice none 0 0) ∧ Below w1.heap.size w1 w') w') := fun w' h => ⟨hA.below h, hD.below h, h⟩
  have HAD : Hid (∀ W, Calls Tryz.prog 88 #[.agg #[.int .i64 1, .int .i64 id, .int .i64 z, .int .i64 r, .int .i64 wt, .int .i64 0, .slice none 0 0]] W fun e w' => e = .returned (.agg #[.int .i64 id, .int .i64 z, .int .i64 r, .int .i64 wt, .bool false, .bool true]) ∧ w' = (W.alloc (.cells #[.int .i64 1, .int .i64 id, .int .i64 z, .int .i64 r, .int .i64 wt, .int .i64 0, .slice none 0 0] 37)).alloc (.cells #[.int .i64 id, .int .i64 z, .int .i64 r, .int .i64 wt, .bool false, .bool true] 72)) := added_ex id z r wt
  have HIN : Hid (∀ W : World, Calls Tryz.prog 115 #[.slice none 0 0, .int .i64 0, .slice (some ⟨W.heap.size, 0, none⟩) 1 1] (W.alloc (.cells #[.int .i64 id, .int .i64 z, .int .i64 r, .int .i64 wt, .bool false, .bool true] 72)) fun e w' => ∃ g c, e = .returned (.slice (some ⟨g, 0, none⟩) 1 c) ∧ w'.ownsRow W.heap.size 72 6 (.slice (some ⟨g, 0, none⟩) 1 c) 1 (ndsCells [⟨id, z, r, wt, false, true⟩]) ∧ Below W.heap.size W w') := insertNd_none id z r wt
  have hS := HS.out w1.drew (below_drew w1)
  clear hA hD
  conv => arg 2; whnf
  refine wp_region_but (S := (fun w' => Box7 w' pm (.int .i64 ep) (.int .i64 sz) (.int .i64 mn) (.int .i64 gr) (.slice none 0 0) vT vR ∧ Box7 w' pd (.int .i64 1) (.int .i64 id) (.int .i64 z) (.int .i64 r) (.int .i64 wt) (.int .i64 0) (.slice none 0 0) ∧ Below w1.heap.size w1 w')) (n := 12) mixed5 ?_
  refine but_take (i := 0) (v := .pointer (some ⟨pm, 0, none⟩)) rfl (by kernel_rfl) (fun _ _ _ h => h) (.inl ⟨rfl, fun w hS => ?_⟩) hS ?_
  · obtain ⟨⟨⟨s0, s1, s2, s3, s4, s5, s6⟩, ⟨f0, f1, f2, f3, f4, f5, f6⟩⟩, ⟨⟨d0, d1, d2, d3, d4, d5, d6⟩, -⟩, hbS⟩ := hS
    go_simp
  simp only [Act.put, List.setIfInBounds_toArray, List.set_cons_zero, List.set_cons_succ]
  refine but_take (i := 1) (v := .pointer (some ⟨pm, 0, none⟩)) rfl (by kernel_rfl) (fun _ _ _ h => h) (.inl ⟨rfl, fun w hS => ?_⟩) hS ?_
  · obtain ⟨⟨⟨s0, s1, s2, s3, s4, s5, s6⟩, ⟨f0, f1, f2, f3, f4, f5, f6⟩⟩, ⟨⟨d0, d1, d2, d3, d4, d5, d6⟩, -⟩, hbS⟩ := hS
    go_simp
  simp only [Act.put, List.setIfInBounds_toArray, List.set_cons_zero, List.set_cons_succ]
  refine but_take (i := 2) (v := .pointer (some ⟨pm, 0, none⟩)) rfl (by kernel_rfl) (fun _ _ _ h => h) (.inl ⟨rfl, fun w hS => ?_⟩) hS ?_
  · obtain ⟨⟨⟨s0, s1, s2, s3, s4, s5, s6⟩, ⟨f0, f1, f2, f3, f4, f5, f6⟩⟩, ⟨⟨d0, d1, d2, d3, d4, d5, d6⟩, -⟩, hbS⟩ := hS
    go_simp
  simp only [Act.put, List.setIfInBounds_toArray, List.set_cons_zero, List.set_cons_succ]
  refine but_take (i := 3) (v := .pointer (some ⟨pm, 4, none⟩)) rfl (by kernel_rfl) (fun _ _ _ h => h) (.inl ⟨rfl, fun w hS => ?_⟩) hS ?_
  · obtain ⟨⟨⟨s0, s1, s2, s3, s4, s5, s6⟩, ⟨f0, f1, f2, f3, f4, f5, f6⟩⟩, ⟨⟨d0, d1, d2, d3, d4, d5, d6⟩, -⟩, hbS⟩ := hS
    go_simp
  simp only [Act.put, List.setIfInBounds_toArray, List.set_cons_zero, List.set_cons_succ]
  refine but_take (i := 4) (v := .slice none 0 0) rfl (by kernel_rfl) (fun _ _ _ h => h) (.inl ⟨rfl, fun w hS => ?_⟩) hS ?_
  · obtain ⟨⟨⟨s0, s1, s2, s3, s4, s5, s6⟩, ⟨f0, f1, f2, f3, f4, f5, f6⟩⟩, ⟨⟨d0, d1, d2, d3, d4, d5, d6⟩, -⟩, hbS⟩ := hS
    go_simp
  simp only [Act.put, List.setIfInBounds_toArray, List.set_cons_zero, List.set_cons_succ]
  refine but_take (i := 5) (v := .int .i64 0) rfl (by kernel_rfl) (fun _ _ _ h => h) (.inl ⟨rfl, fun w hS => ?_⟩) hS ?_
  · obtain ⟨⟨⟨s0, s1, s2, s3, s4, s5, s6⟩, ⟨f0, f1, f2, f3, f4, f5, f6⟩⟩, ⟨⟨d0, d1, d2, d3, d4, d5, d6⟩, -⟩, hbS⟩ := hS
    go_simp
  simp only [Act.put, List.setIfInBounds_toArray, List.set_cons_zero, List.set_cons_succ]
  refine but_take (i := 6) (v := .agg #[.int .i64 1, .int .i64 id, .int .i64 z, .int .i64 r, .int .i64 wt, .int .i64 0, .slice none 0 0]) rfl (by kernel_rfl) (fun _ _ _ h => h) (.inl ⟨rfl, fun w hS => ?_⟩) hS ?_
  · obtain ⟨⟨⟨s0, s1, s2, s3, s4, s5, s6⟩, ⟨f0, f1, f2, f3, f4, f5, f6⟩⟩, ⟨⟨d0, d1, d2, d3, d4, d5, d6⟩, -⟩, hbS⟩ := hS
    go_simp
  simp only [Act.put, List.setIfInBounds_toArray, List.set_cons_zero, List.set_cons_succ]
  refine but_one (i := 7) (by kernel_rfl) rfl rfl ?_
  intro K hK
  go_simp
  go_at_call 88
  refine (HAD.out _).mono ?_
  rintro en w3 ⟨rfl, hw3⟩
  have hb3 : Below w1.heap.size w1 w3 := by rw [hw3]; exact below2 (below_drew w1) (below2 (below_alloc _ _) (below_alloc _ _))
  clear hw3
  refine hK.out _ _ (fun _ => HS.out w3 hb3) ?_
  clear hK hS
  have hS := HS.out w3 hb3
  try simp only [Act.put, List.setIfInBounds_toArray, List.set_cons_zero, List.set_cons_succ]
  refine but_one (i := 8) (by kernel_rfl) rfl rfl ?_
  intro K hK
  go_simp
  have hb4 : Below w1.heap.size w1 (w3.alloc (.cells #[.int .i64 id, .int .i64 z, .int .i64 r, .int .i64 wt, .bool false, .bool true] 72)) := below2 hb3 (below_alloc _ _)
  refine hK.out _ _ (fun _ => HS.out _ hb4) ?_
  clear hK hS
  have hS := HS.out _ hb4
  try simp only [Act.put, List.setIfInBounds_toArray, List.set_cons_zero, List.set_cons_succ]
  refine but_one (i := 9) (by kernel_rfl) rfl rfl ?_
  intro K hK
  go_simp
  go_at_call 115
  refine (HIN.out _).mono ?_
  rintro en w5 ⟨g5, cp5, rfl, ho5, hb5⟩
  have hbz : Below w1.heap.size w1 w5 := below2 hb3 hb5
  have HO5 : Hid (w5.ownsRow w1.heap.size 72 6 (.slice (some ⟨g5, 0, none⟩) 1 cp5) 1 (ndsCells [⟨id, z, r, wt, false, true⟩])) := own_base ho5 hb3.size
  clear ho5
  refine hK.out _ _ (fun _ => HS.out w5 hbz) ?_
  clear hK hS
  have hS := HS.out w5 hbz
  try simp only [Act.put, List.setIfInBounds_toArray, List.set_cons_zero, List.set_cons_succ]
  refine but_take (i := 10) (v := .pointer (some ⟨pm, 0, none⟩)) rfl (by kernel_rfl) (fun _ _ _ h => h) (.inl ⟨rfl, fun w hS => ?_⟩) hS ?_
  · obtain ⟨⟨⟨s0, s1, s2, s3, s4, s5, s6⟩, ⟨f0, f1, f2, f3, f4, f5, f6⟩⟩, ⟨⟨d0, d1, d2, d3, d4, d5, d6⟩, -⟩, hbS⟩ := hS
    go_simp
  simp only [Act.put, List.setIfInBounds_toArray, List.set_cons_zero, List.set_cons_succ]
  refine but_take (i := 11) (v := .pointer (some ⟨pm, 4, none⟩)) rfl (by kernel_rfl) (fun _ _ _ h => h) (.inl ⟨rfl, fun w hS => ?_⟩) hS ?_
  · obtain ⟨⟨⟨s0, s1, s2, s3, s4, s5, s6⟩, ⟨f0, f1, f2, f3, f4, f5, f6⟩⟩, ⟨⟨d0, d1, d2, d3, d4, d5, d6⟩, -⟩, hbS⟩ := hS
    go_simp
  simp only [Act.put, List.setIfInBounds_toArray, List.set_cons_zero, List.set_cons_succ]
  refine but_one (i := 12) (by kernel_rfl) rfl rfl ?_
  intro K hK
  obtain ⟨⟨⟨s0, s1, s2, s3, s4, s5, s6⟩, ⟨f0, f1, f2, f3, f4, f5, f6⟩⟩, ⟨⟨d0, d1, d2, d3, d4, d5, d6⟩, -⟩, hbS⟩ := hS
  go_simp
  refine hK.out _ _ (fun h => absurd rfl h) ?_
  clear hK
  try simp only [Act.put, List.setIfInBounds_toArray, List.set_cons_zero, List.set_cons_succ]
  refine AnyBut.done (by kernel_rfl) ?_ _
  refine NoPanic.normal ?_
  exact hQ.out _ _ _ _ _ _ _ _ _ _ _ _ g5 cp5 w5 hbz HO5.out
set_option maxHeartbeats 2000000 in
set_option maxRecDepth 60000 in
theorem changeNode_add {pm N : Nat} {m : Mp} {s : MV} {id z r wt : Int} (hn : m.nds = []) (hs : s.aN = none ∧ s.lN = 0 ∧ s.cN = 0) (w : World) (hL : Live w pm N m s) (hN : N ≤ w.heap.size) :
    Calls Tryz.prog 95 #[.pointer (some ⟨pm, 0, none⟩), .agg #[.int .i64 1, .int .i64 id, .int .i64 z, .int .i64 r, .int .i64 wt, .int .i64 0, .slice none 0 0]] w fun e w' => e = .returned (.tuple #[]) ∧ (∃ g c, Live w' pm N { m with nds := [⟨id, z, r, wt, false, true⟩] } { s with aN := some ⟨g, 0, none⟩, lN := 1, cN := c }) ∧ Kp w w' ∧ Below N w w' := by
  have hb1 := below_alloc w (.cells #[.int .i64 1, .int .i64 id, .int .i64 z, .int .i64 r, .int .i64 wt, .int .i64 0, .slice none 0 0] 37)
  have HL1 : Hid (Live (w.alloc (.cells #[.int .i64 1, .int .i64 id, .int .i64 z, .int .i64 r, .int .i64 wt, .int .i64 0, .slice none 0 0] 37)) pm N m s) := hL.below hb1
  have HBD : Hid (Box7 (w.alloc (.cells #[.int .i64 1, .int .i64 id, .int .i64 z, .int .i64 r, .int .i64 wt, .int .i64 0, .slice none 0 0] 37)) w.heap.size (.int .i64 1) (.int .i64 id) (.int .i64 z) (.int .i64 r) (.int .i64 wt) (.int .i64 0) (.slice none 0 0)) := Box7.new w _ _ _ _ _ _ _ _
  generalize hw1 : w.alloc (.cells #[.int .i64 1, .int .i64 id, .int .i64 z, .int .i64 r, .int .i64 wt, .int .i64 0, .slice none 0 0] 37) = w1 at *
  have HND : Hid (∀ W, Below w1.heap.size w1 W → Calls Tryz.prog 68 #[.agg (mapCells m s).toArray, .int .i64 id] W fun e w' => e = .returned (.tuple #[.int .i64 0, .bool false]) ∧ Grown W w') := fun W hb => (node_grown m s id W ((nds_own HL1.out.own.nds HL1.out.own.ndl).1.below hb) (by rw [hn]; exact ⟨Nat.zero_le _, fun i hi => by simp at hi⟩)).mono fun e w' ⟨hg, p, t, he, hI⟩ => by
    rw [hn] at hI
    obtain ⟨rfl, rfl⟩ := srch_none hI
    exact ⟨he, hg⟩
  have HAD : Hid (∀ W, Calls Tryz.prog 88 #[.agg #[.int .i64 1, .int .i64 id, .int .i64 z, .int .i64 r, .int .i64 wt, .int .i64 0, .slice none 0 0]] W fun e w' => e = .returned (.agg #[.int .i64 id, .int .i64 z, .int .i64 r, .int .i64 wt, .bool false, .bool true]) ∧ w' = (W.alloc (.cells #[.int .i64 1, .int .i64 id, .int .i64 z, .int .i64 r, .int .i64 wt, .int .i64 0, .slice none 0 0] 37)).alloc (.cells #[.int .i64 id, .int .i64 z, .int .i64 r, .int .i64 wt, .bool false, .bool true] 72)) := added_ex id z r wt
  have HIN : Hid (∀ W : World, Calls Tryz.prog 115 #[.slice none 0 0, .int .i64 0, .slice (some ⟨W.heap.size, 0, none⟩) 1 1] (W.alloc (.cells #[.int .i64 id, .int .i64 z, .int .i64 r, .int .i64 wt, .bool false, .bool true] 72)) fun e w' => ∃ g c, e = .returned (.slice (some ⟨g, 0, none⟩) 1 c) ∧ w'.ownsRow W.heap.size 72 6 (.slice (some ⟨g, 0, none⟩) 1 c) 1 (ndsCells [⟨id, z, r, wt, false, true⟩]) ∧ Below W.heap.size W w') := insertNd_none id z r wt
  have HFIN : Hid (∀ (W : World) (g c : Nat), Below w1.heap.size w1 W → W.ownsRow N 72 6 (.slice (some ⟨g, 0, none⟩) 1 c) 1 (ndsCells [⟨id, z, r, wt, false, true⟩]) → Live (W.setCell ⟨pm, 4, none⟩ (.slice (some ⟨g, 0, none⟩) 1 c)) pm N { m with nds := [⟨id, z, r, wt, false, true⟩] } { s with aN := some ⟨g, 0, none⟩, lN := 1, cN := c } ∧ Kp w (W.setCell ⟨pm, 4, none⟩ (.slice (some ⟨g, 0, none⟩) 1 c)) ∧ Below N w (W.setCell ⟨pm, 4, none⟩ (.slice (some ⟨g, 0, none⟩) 1 c))) := fun W g c hb ho => by
    have hl := HL1.out.below hb
    have hgr := set_grownBy W pm 4 (.slice (some ⟨g, 0, none⟩) 1 c)
    obtain ⟨cm, hcm⟩ := hl.ty
    refine ⟨⟨hl.box.put4 _, hl.ty.kp (kp_set hl.ty (.inl rfl) _ _), ⟨own_type ho hgr hcm (by decide), rfl, hl.own.aT, hl.own.lT, hl.own.cT, hl.own.tms, hl.own.past, hl.own.trl, own_type hl.own.trs hgr hcm (by decide)⟩, hl.ge⟩, (kp_below hb1).trans ((kp_below hb).trans (kp_set hl.ty (.inl rfl) _ _)), ((below2 hb1 hb).mono hN).setCell (p := ⟨pm, 4, none⟩) hl.ge _⟩
  have hN1 : N ≤ w1.heap.size := Nat.le_trans hN hb1.size
  have HBM : Hid (∀ W, Below w1.heap.size w1 W → Box7 W pm (.int .i64 m.ep) (.int .i64 m.size) (.int .i64 m.mn) (.int .i64 m.gr) (.slice s.aN s.lN s.cN) (.slice s.aT s.lT s.cT) (.slice s.aR s.lR s.cR)) := fun W hb => HL1.out.box.below hb
  have hpl := HL1.out.box.lt
  have hdl := HBD.out.lt
  obtain ⟨⟨c0, c1, c2, c3, c4, c5, c6⟩, -⟩ := HL1.out.box
  obtain ⟨⟨d0, d1, d2, d3, d4, d5, d6⟩, -⟩ := HBD.out
  rw [map_split] at HND
  obtain ⟨ep, sz, mn, gr, nds, tms, trs⟩ := m
  obtain ⟨aN, lN, cN, aT, lT, cT, aR, lR, cR⟩ := s
  obtain ⟨q1, q2, q3⟩ := hs
  simp only at *
  subst q1 q2 q3
  have x0 := cell_grown (w := w1) (a := ⟨pm, 0, none⟩) hpl c0
  have x1 := cell_grown (w := w1) (a := ⟨pm, 1, none⟩) hpl c1
  have x2 := cell_grown (w := w1) (a := ⟨pm, 2, none⟩) hpl c2
  have x3 := cell_grown (w := w1) (a := ⟨pm, 3, none⟩) hpl c3
  have x4 := cell_grown (w := w1) (a := ⟨pm, 4, none⟩) hpl c4
  have x5 := cell_grown (w := w1) (a := ⟨pm, 5, none⟩) hpl c5
  have x6 := cell_grown (w := w1) (a := ⟨pm, 6, none⟩) hpl c6
  have y0 := cell_grown (w := w1) (a := ⟨w.heap.size, 0, none⟩) hdl d0
  have y1 := cell_grown (w := w1) (a := ⟨w.heap.size, 1, none⟩) hdl d1
  have y2 := cell_grown (w := w1) (a := ⟨w.heap.size, 2, none⟩) hdl d2
  have y3 := cell_grown (w := w1) (a := ⟨w.heap.size, 3, none⟩) hdl d3
  have y4 := cell_grown (w := w1) (a := ⟨w.heap.size, 4, none⟩) hdl d4
  have y5 := cell_grown (w := w1) (a := ⟨w.heap.size, 5, none⟩) hdl d5
  have y6 := cell_grown (w := w1) (a := ⟨w.heap.size, 6, none⟩) hdl d6
  have HGB : Hid (∀ n os, Below w1.heap.size w1 (Go.Sort.grow (w1.drewN n) os)) := fun n os => below_grow _ _ _
  clear hL HL1 hn hb1
  go_enter Tryz.func95, Tryz.ntmps95
  go_upto_region 1 with fail
  clear hw1
  refine wp_region_QW mixed5 (by kernel_rfl) ?_
  repeat (refine QW_step (fun K hK => ?_); go_simp; first | (refine hK _ ?_; clear hK K) | (apply Exists.intro; refine ⟨fun _ => ?_, hK _ ?_⟩; (go_at_call 68; refine Calls.grown_of (HND.out _ (HGB.out _ _))); clear hK K))
  refine QW_nil ?_
  intro _ hw9
  obtain ⟨⟨nq, osq⟩, hw8⟩ := hw9
  subst hw8
  have hG5 := HGB.out nq osq
  have hpl5 : pm < (Go.Sort.grow (w1.drewN nq) osq).heap.size := Nat.lt_of_lt_of_le hpl hG5.size
  have hdl5 : w.heap.size < (Go.Sort.grow (w1.drewN nq) osq).heap.size := Nat.lt_of_lt_of_le hdl hG5.size
  have u0 := x0 nq osq
  have u1 := x1 nq osq
  have u2 := x2 nq osq
  have u3 := x3 nq osq
  have u4 := x4 nq osq
  have u5 := x5 nq osq
  have u6 := x6 nq osq
  have v0 := y0 nq osq
  have v1 := y1 nq osq
  have v2 := y2 nq osq
  have v3 := y3 nq osq
  have v4 := y4 nq osq
  have v5 := y5 nq osq
  have v6 := y6 nq osq
  clear x0 x1 x2 x3 x4 x5 x6 y0 y1 y2 y3 y4 y5 y6 c0 c1 c2 c3 c4 c5 c6 d0 d1 d2 d3 d4 d5 d6 HND HGB
  show Exit.then _ _ _ _ (Go.Sort.grow (w1.drewN nq) osq)
  generalize Go.Sort.grow (w1.drewN nq) osq = w5 at *
  go_upto_region 5 with fail
  refine cn_add _ _ _ _ _ _ _ _ _ _ _ _ _ _ _ _ _ _ _ _ _ _ _ _ _ _ _ _ _ _ _ _ _ _ _ _ _ _ _ _ _ _ _ _ _ _ _ _ _ _ _ _ _ _ _ _ pm w.heap.size id z r wt ep sz mn gr (.slice aT lT cT) (.slice aR lR cR) w5 _ (HBM.out _ hG5) (HBD.out.below hG5) (fun u34 u35 u36 u37 u38 u39 u40 u41 u42 u43 u44 u45 g c W hbW hoW => ?_)
  obtain ⟨f1, f2, f3⟩ := HFIN.out W g c (below2 hG5 hbW) (own_base hoW (Nat.le_trans hN1 hG5.size))
  have HF1 : Hid (Live (W.setCell ⟨pm, 4, none⟩ (.slice (some ⟨g, 0, none⟩) 1 c)) pm N ⟨ep, sz, mn, gr, [⟨id, z, r, wt, false, true⟩], tms, trs⟩ ⟨some ⟨g, 0, none⟩, 1, c, aT, lT, cT, aR, lR, cR⟩) := f1
  clear HFIN f1 hoW HBM HBD u0 u1 u2 u3 u4 u5 u6 v0 v1 v2 v3 v4 v5 v6
  generalize W.setCell ⟨pm, 4, none⟩ (.slice (some ⟨g, 0, none⟩) 1 c) = wz at *
  go_wp2_with fail
  go_returns
  exact ⟨rfl, ⟨g, c, HF1.out⟩, f2, f3⟩
end Go.Proofs.YtcncbjknfcjnmaaGreat.Tp
namespace Go.Proofs.YtcncbjknfcjnmaaGreat.Tp
open Go.ChangeShapes Go.WideShapes Go.ChangeAt Go.RowKit
set_option maxHeartbeats 4000000 in
set_option maxRecDepth 60000 in
theorem cn_up (t1 t2 t5 t6 t7 t8 t9 t10 t11 t12 t13 t14 t15 t16 t17 t18 t19 t20 t21 t22 t23 t24 t25 t26 t27 t28 t29 t30 t31 t32 t33 t34 t35 t36 t37 t38 t39 t40 t41 t42 t43 t44 t45 t46 t47 t48 t49 t50 t51 t52 t53 t54 t55 t56 t57 t58 : Value) (pm pd g cN : Nat) (id c2 c3 c4 ep sz mn gr : Int) (c6 : Bool) (vT vR : Value) (w1 : World) (Q : Exit → Act → World → Prop)
    (hA : Box7 w1 pm (.int .i64 ep) (.int .i64 sz) (.int .i64 mn) (.int .i64 gr) (.slice (some ⟨g, 0, none⟩) 1 cN) vT vR) (hD : Box7 w1 pd (.int .i64 3) (.int .i64 id) (.int .i64 0) (.int .i64 0) (.int .i64 0) (.int .i64 0) (.slice none 0 0)) (hSix : Six w1 g (.int .i64 id) (.int .i64 c2) (.int .i64 c3) (.int .i64 c4) (.bool false) (.bool c6)) (hF : w1.frozen? ⟨g, 0, none⟩ = false ∧ w1.frozen? ⟨g, 1, none⟩ = false ∧ w1.frozen? ⟨g, 2, none⟩ = false ∧ w1.frozen? ⟨g, 3, none⟩ = false ∧ w1.frozen? ⟨g, 4, none⟩ = false ∧ w1.frozen? ⟨g, 5, none⟩ = false)
    (hQ : Hid (∀ (u17 u18 u19 u20 u21 u22 u23 u24 u25 u26 u27 u28 u29 u30 u31 : Value) (W : World), Below w1.heap.size w1 W → Q .normal ⟨#[.pointer (some ⟨pm, 0, none⟩), t1, t2, .pointer (some ⟨pd, 0, none⟩), .int .i64 0, t5, t6, t7, t8, t9, t10, t11, t12, t13, t14, t15, t16, u17, u18, u19, u20, u21, u22, u23, u24, u25, u26, u27, u28, u29, u30, u31, t32, t33, t34, t35, t36, t37, t38, t39, t40, t41, t42, t43, t44, t45, t46, t47, t48, t49, t50, t51, t52, t53, t54, t55, t56, t57, t58], []⟩ (set6 W g (.int .i64 id) (.int .i64 c2) (.int .i64 c3) (.int .i64 c4) (.bool true) (.bool c6)))) :
    Code.wp Tryz.prog ((Tryz.f95.body.bind (regionOf 3)).getD .skip) Q ⟨#[.pointer (some ⟨pm, 0, none⟩), t1, t2, .pointer (some ⟨pd, 0, none⟩), .int .i64 0, t5, t6, t7, t8, t9, t10, t11, t12, t13, t14, t15, t16, t17, t18, t19, t20, t21, t22, t23, t24, t25, t26, t27, t28, t29, t30, t31, t32, t33, t34, t35, t36, t37, t38, t39, t40, t41, t42, t43, t44, t45, t46, t47, t48, t49, t50, t51, t52, t53, t54, t55, t56, t57, t58], []⟩ w1 := by
  have hgl : g < w1.heap.size := World.block_lt_of_cell? w1 ⟨g, 0, none⟩ hSix.1
  have HS : Hid (∀ w', Below w1.heap.size w1 w' → (fun w' => Box7 w' pm (.int .i64 ep) (.int .i64 sz) (.int .i64 mn) (.int .i64 gr) (.slice (some ⟨g, 0, none⟩) 1 cN) vT vR ∧ Box7 w' pd (.int .i64 3) (.int .i64 id) (.int .i64 0) (.int .i64 0) (.int .i64 0) (.int .i64 0) (.slice none 0 0) ∧ Six w' g (.int .i64 id) (.int .i64 c2) (.int .i64 c3) (.int .i64 c4) (.bool false) (.bool c6) ∧ (w'.frozen? ⟨g, 0, none⟩ = false ∧ w'.frozen? ⟨g, 1, none⟩ = false ∧ w'.frozen? ⟨g, 2, none⟩ = false ∧ w'.frozen? ⟨g, 3, none⟩ = false ∧ w'.frozen? ⟨g, 4, none⟩ = false ∧ w'.frozen? ⟨g, 5, none⟩ = false) ∧ Below w1.heap.size w1 w') w') := fun w' h => ⟨hA.below h, hD.below h, hSix.below h, ⟨(h.frozen (p := ⟨g, 0, none⟩) hgl).trans hF.1, (h.frozen (p := ⟨g, 1, none⟩) hgl).trans hF.2.1, (h.frozen (p := ⟨g, 2, none⟩) hgl).trans hF.2.2.1, (h.frozen (p := ⟨g, 3, none⟩) hgl).trans hF.2.2.2.1, (h.frozen (p := ⟨g, 4, none⟩) hgl).trans hF.2.2.2.2.1, (h.frozen (p := ⟨g, 5, none⟩) hgl).trans hF.2.2.2.2.2⟩, h⟩
  have HT : Hid (∀ W, Calls Tryz.prog 93 #[.agg #[.int .i64 id, .int .i64 c2, .int .i64 c3, .int .i64 c4, .bool false, .bool c6], .agg #[.int .i64 3, .int .i64 id, .int .i64 0, .int .i64 0, .int .i64 0, .int .i64 0, .slice none 0 0]] W fun e w' => e = .returned (.agg #[.int .i64 id, .int .i64 c2, .int .i64 c3, .int .i64 c4, .bool true, .bool c6]) ∧ Grown W w') := fun W => turned_up id c2 c3 c4 false c6 id W
  have hS := HS.out w1.drew (below_drew w1)
  clear hA hD hSix hF
  conv => arg 2; whnf
  refine wp_region_but (S := (fun w' => Box7 w' pm (.int .i64 ep) (.int .i64 sz) (.int .i64 mn) (.int .i64 gr) (.slice (some ⟨g, 0, none⟩) 1 cN) vT vR ∧ Box7 w' pd (.int .i64 3) (.int .i64 id) (.int .i64 0) (.int .i64 0) (.int .i64 0) (.int .i64 0) (.slice none 0 0) ∧ Six w' g (.int .i64 id) (.int .i64 c2) (.int .i64 c3) (.int .i64 c4) (.bool false) (.bool c6) ∧ (w'.frozen? ⟨g, 0, none⟩ = false ∧ w'.frozen? ⟨g, 1, none⟩ = false ∧ w'.frozen? ⟨g, 2, none⟩ = false ∧ w'.frozen? ⟨g, 3, none⟩ = false ∧ w'.frozen? ⟨g, 4, none⟩ = false ∧ w'.frozen? ⟨g, 5, none⟩ = false) ∧ Below w1.heap.size w1 w')) (n := 15) mixed5 ?_
  refine but_take (i := 0) (v := .pointer (some ⟨pm, 0, none⟩)) rfl (by kernel_rfl) (fun _ _ _ h => h) (.inl ⟨rfl, fun w hS => ?_⟩) hS ?_
  · obtain ⟨⟨⟨s0, s1, s2, s3, s4, s5, s6⟩, -⟩, ⟨⟨d0, d1, d2, d3, d4, d5, d6⟩, -⟩, ⟨n0, n1, n2, n3, n4, n5⟩, ⟨f0, f1, f2, f3, f4, f5⟩, hbS⟩ := hS
    go_simp
  simp only [Act.put, List.setIfInBounds_toArray, List.set_cons_zero, List.set_cons_succ]
  refine but_take (i := 1) (v := .pointer (some ⟨pm, 0, none⟩)) rfl (by kernel_rfl) (fun _ _ _ h => h) (.inl ⟨rfl, fun w hS => ?_⟩) hS ?_
  · obtain ⟨⟨⟨s0, s1, s2, s3, s4, s5, s6⟩, -⟩, ⟨⟨d0, d1, d2, d3, d4, d5, d6⟩, -⟩, ⟨n0, n1, n2, n3, n4, n5⟩, ⟨f0, f1, f2, f3, f4, f5⟩, hbS⟩ := hS
    go_simp
  simp only [Act.put, List.setIfInBounds_toArray, List.set_cons_zero, List.set_cons_succ]
  refine but_take (i := 2) (v := .pointer (some ⟨pm, 4, none⟩)) rfl (by kernel_rfl) (fun _ _ _ h => h) (.inl ⟨rfl, fun w hS => ?_⟩) hS ?_
  · obtain ⟨⟨⟨s0, s1, s2, s3, s4, s5, s6⟩, -⟩, ⟨⟨d0, d1, d2, d3, d4, d5, d6⟩, -⟩, ⟨n0, n1, n2, n3, n4, n5⟩, ⟨f0, f1, f2, f3, f4, f5⟩, hbS⟩ := hS
    go_simp
  simp only [Act.put, List.setIfInBounds_toArray, List.set_cons_zero, List.set_cons_succ]
  refine but_take (i := 3) (v := .slice (some ⟨g, 0, none⟩) 1 cN) rfl (by kernel_rfl) (fun _ _ _ h => h) (.inl ⟨rfl, fun w hS => ?_⟩) hS ?_
  · obtain ⟨⟨⟨s0, s1, s2, s3, s4, s5, s6⟩, -⟩, ⟨⟨d0, d1, d2, d3, d4, d5, d6⟩, -⟩, ⟨n0, n1, n2, n3, n4, n5⟩, ⟨f0, f1, f2, f3, f4, f5⟩, hbS⟩ := hS
    go_simp
  simp only [Act.put, List.setIfInBounds_toArray, List.set_cons_zero, List.set_cons_succ]
  refine but_take (i := 4) (v := .int .i64 0) rfl (by kernel_rfl) (fun _ _ _ h => h) (.inl ⟨rfl, fun w hS => ?_⟩) hS ?_
  · obtain ⟨⟨⟨s0, s1, s2, s3, s4, s5, s6⟩, -⟩, ⟨⟨d0, d1, d2, d3, d4, d5, d6⟩, -⟩, ⟨n0, n1, n2, n3, n4, n5⟩, ⟨f0, f1, f2, f3, f4, f5⟩, hbS⟩ := hS
    go_simp
  simp only [Act.put, List.setIfInBounds_toArray, List.set_cons_zero, List.set_cons_succ]
  refine but_take (i := 5) (v := .pointer (some ⟨pm, 0, none⟩)) rfl (by kernel_rfl) (fun _ _ _ h => h) (.inl ⟨rfl, fun w hS => ?_⟩) hS ?_
  · obtain ⟨⟨⟨s0, s1, s2, s3, s4, s5, s6⟩, -⟩, ⟨⟨d0, d1, d2, d3, d4, d5, d6⟩, -⟩, ⟨n0, n1, n2, n3, n4, n5⟩, ⟨f0, f1, f2, f3, f4, f5⟩, hbS⟩ := hS
    go_simp
  simp only [Act.put, List.setIfInBounds_toArray, List.set_cons_zero, List.set_cons_succ]
  refine but_take (i := 6) (v := .pointer (some ⟨pm, 0, none⟩)) rfl (by kernel_rfl) (fun _ _ _ h => h) (.inl ⟨rfl, fun w hS => ?_⟩) hS ?_
  · obtain ⟨⟨⟨s0, s1, s2, s3, s4, s5, s6⟩, -⟩, ⟨⟨d0, d1, d2, d3, d4, d5, d6⟩, -⟩, ⟨n0, n1, n2, n3, n4, n5⟩, ⟨f0, f1, f2, f3, f4, f5⟩, hbS⟩ := hS
    go_simp
  simp only [Act.put, List.setIfInBounds_toArray, List.set_cons_zero, List.set_cons_succ]
  refine but_take (i := 7) (v := .pointer (some ⟨pm, 4, none⟩)) rfl (by kernel_rfl) (fun _ _ _ h => h) (.inl ⟨rfl, fun w hS => ?_⟩) hS ?_
  · obtain ⟨⟨⟨s0, s1, s2, s3, s4, s5, s6⟩, -⟩, ⟨⟨d0, d1, d2, d3, d4, d5, d6⟩, -⟩, ⟨n0, n1, n2, n3, n4, n5⟩, ⟨f0, f1, f2, f3, f4, f5⟩, hbS⟩ := hS
    go_simp
  simp only [Act.put, List.setIfInBounds_toArray, List.set_cons_zero, List.set_cons_succ]
  refine but_take (i := 8) (v := .slice (some ⟨g, 0, none⟩) 1 cN) rfl (by kernel_rfl) (fun _ _ _ h => h) (.inl ⟨rfl, fun w hS => ?_⟩) hS ?_
  · obtain ⟨⟨⟨s0, s1, s2, s3, s4, s5, s6⟩, -⟩, ⟨⟨d0, d1, d2, d3, d4, d5, d6⟩, -⟩, ⟨n0, n1, n2, n3, n4, n5⟩, ⟨f0, f1, f2, f3, f4, f5⟩, hbS⟩ := hS
    go_simp
  simp only [Act.put, List.setIfInBounds_toArray, List.set_cons_zero, List.set_cons_succ]
  refine but_take (i := 9) (v := .int .i64 0) rfl (by kernel_rfl) (fun _ _ _ h => h) (.inl ⟨rfl, fun w hS => ?_⟩) hS ?_
  · obtain ⟨⟨⟨s0, s1, s2, s3, s4, s5, s6⟩, -⟩, ⟨⟨d0, d1, d2, d3, d4, d5, d6⟩, -⟩, ⟨n0, n1, n2, n3, n4, n5⟩, ⟨f0, f1, f2, f3, f4, f5⟩, hbS⟩ := hS
    go_simp
  simp only [Act.put, List.setIfInBounds_toArray, List.set_cons_zero, List.set_cons_succ]
  refine but_take (i := 10) (v := .pointer (some ⟨g, 0, none⟩)) rfl (by kernel_rfl) (fun _ _ _ h => h) (.inl ⟨rfl, fun w hS => ?_⟩) hS ?_
  · obtain ⟨⟨⟨s0, s1, s2, s3, s4, s5, s6⟩, -⟩, ⟨⟨d0, d1, d2, d3, d4, d5, d6⟩, -⟩, ⟨n0, n1, n2, n3, n4, n5⟩, ⟨f0, f1, f2, f3, f4, f5⟩, hbS⟩ := hS
    go_simp
  simp only [Act.put, List.setIfInBounds_toArray, List.set_cons_zero, List.set_cons_succ]
  refine but_take (i := 11) (v := .agg #[.int .i64 id, .int .i64 c2, .int .i64 c3, .int .i64 c4, .bool false, .bool c6]) rfl (by kernel_rfl) (fun _ _ _ h => h) (.inl ⟨rfl, fun w hS => ?_⟩) hS ?_
  · obtain ⟨⟨⟨s0, s1, s2, s3, s4, s5, s6⟩, -⟩, ⟨⟨d0, d1, d2, d3, d4, d5, d6⟩, -⟩, ⟨n0, n1, n2, n3, n4, n5⟩, ⟨f0, f1, f2, f3, f4, f5⟩, hbS⟩ := hS
    go_simp
  simp only [Act.put, List.setIfInBounds_toArray, List.set_cons_zero, List.set_cons_succ]
  refine but_take (i := 12) (v := .agg #[.int .i64 3, .int .i64 id, .int .i64 0, .int .i64 0, .int .i64 0, .int .i64 0, .slice none 0 0]) rfl (by kernel_rfl) (fun _ _ _ h => h) (.inl ⟨rfl, fun w hS => ?_⟩) hS ?_
  · obtain ⟨⟨⟨s0, s1, s2, s3, s4, s5, s6⟩, -⟩, ⟨⟨d0, d1, d2, d3, d4, d5, d6⟩, -⟩, ⟨n0, n1, n2, n3, n4, n5⟩, ⟨f0, f1, f2, f3, f4, f5⟩, hbS⟩ := hS
    go_simp
  simp only [Act.put, List.setIfInBounds_toArray, List.set_cons_zero, List.set_cons_succ]
  refine but_one (i := 13) (by kernel_rfl) rfl rfl ?_
  intro K hK
  go_simp
  go_at_call 93
  refine (HT.out _).mono ?_
  rintro en w3 ⟨rfl, hg3⟩
  have hb3 : Below w1.heap.size w1 w3 := below2 (below_drew w1) (grown_below hg3)
  clear hg3
  refine hK.out _ _ (fun _ => HS.out w3 hb3) ?_
  clear hK hS
  have hS := HS.out w3 hb3
  try simp only [Act.put, List.setIfInBounds_toArray, List.set_cons_zero, List.set_cons_succ]
  refine but_take (i := 14) (v := .pointer (some ⟨g, 0, none⟩)) rfl (by kernel_rfl) (fun _ _ _ h => h) (.inl ⟨rfl, fun w hS => ?_⟩) hS ?_
  · obtain ⟨⟨⟨s0, s1, s2, s3, s4, s5, s6⟩, -⟩, ⟨⟨d0, d1, d2, d3, d4, d5, d6⟩, -⟩, ⟨n0, n1, n2, n3, n4, n5⟩, ⟨f0, f1, f2, f3, f4, f5⟩, hbS⟩ := hS
    go_simp
  simp only [Act.put, List.setIfInBounds_toArray, List.set_cons_zero, List.set_cons_succ]
  refine but_one (i := 15) (by kernel_rfl) rfl rfl ?_
  intro K hK
  obtain ⟨⟨⟨s0, s1, s2, s3, s4, s5, s6⟩, -⟩, ⟨⟨d0, d1, d2, d3, d4, d5, d6⟩, -⟩, ⟨n0, n1, n2, n3, n4, n5⟩, ⟨f0, f1, f2, f3, f4, f5⟩, hbS⟩ := hS
  go_simp
  refine hK.out _ _ (fun h => absurd rfl h) ?_
  clear hK
  try simp only [Act.put, List.setIfInBounds_toArray, List.set_cons_zero, List.set_cons_succ]
  refine AnyBut.done (by kernel_rfl) ?_ _
  refine NoPanic.normal ?_
  exact hQ.out _ _ _ _ _ _ _ _ _ _ _ _ _ _ _ w3 hb3
theorem set6_grownBy (w : World) (b : Nat) (v0 v1 v2 v3 v4 v5 : Value) : w.grownBy (set6 w b v0 v1 v2 v3 v4 v5) (some b) :=
  grownBy_trans (grownBy_trans (grownBy_trans (grownBy_trans (grownBy_trans (set_grownBy _ _ 0 _) (set_grownBy _ _ 1 _)) (set_grownBy _ _ 2 _)) (set_grownBy _ _ 3 _)) (set_grownBy _ _ 4 _)) (set_grownBy _ _ 5 _)
theorem kp_set6 {w : World} {b : Nat} {T : TypeId} (h : BoxTy w b T) (hT : TurnT T) (v0 v1 v2 v3 v4 v5 : Value) : Kp w (set6 w b v0 v1 v2 v3 v4 v5) := by
  have k0 := kp_set h hT 0 v0
  have k1 := k0.trans (kp_set (h.kp k0) hT 1 v1)
  have k2 := k1.trans (kp_set (h.kp k1) hT 2 v2)
  have k3 := k2.trans (kp_set (h.kp k2) hT 3 v3)
  have k4 := k3.trans (kp_set (h.kp k3) hT 4 v4)
  exact k4.trans (kp_set (h.kp k4) hT 5 v5)
theorem own_set6 {w : World} {B g c : Nat} {x y : Nd} (h : w.ownsRow B 72 6 (.slice (some ⟨g, 0, none⟩) 1 c) 1 (ndsCells [x])) : (set6 w g (.int .i64 y.id) (.int .i64 y.zone) (.int .i64 y.rack) (.int .i64 y.weight) (.bool y.up) (.bool y.inn)).ownsRow B 72 6 (.slice (some ⟨g, 0, none⟩) 1 c) 1 (ndsCells [y]) := by
  have k0 := (h.stored 0 (.int .i64 y.id)).1
  have k1 := (k0.stored 1 (.int .i64 y.zone)).1
  have k2 := (k1.stored 2 (.int .i64 y.rack)).1
  have k3 := (k2.stored 3 (.int .i64 y.weight)).1
  have k4 := (k3.stored 4 (.bool y.up)).1
  exact (k4.stored 5 (.bool y.inn)).1
set_option maxHeartbeats 2000000 in
set_option maxRecDepth 60000 in
theorem changeNode_up {pm N : Nat} {m : Mp} {s : MV} {id c2 c3 c4 : Int} {c6 : Bool} (hx : InN ⟨id, c2, c3, c4, false, c6⟩) (hn : m.nds = [⟨id, c2, c3, c4, false, c6⟩]) (w : World) (hL : Live w pm N m s) (hN : N ≤ w.heap.size) :
    Calls Tryz.prog 95 #[.pointer (some ⟨pm, 0, none⟩), .agg #[.int .i64 3, .int .i64 id, .int .i64 0, .int .i64 0, .int .i64 0, .int .i64 0, .slice none 0 0]] w fun e w' => e = .returned (.tuple #[]) ∧ (∃ s', Live w' pm N { m with nds := [⟨id, c2, c3, c4, true, c6⟩] } s') ∧ Kp w w' ∧ Below N w w' := by
  have hb1 := below_alloc w (.cells #[.int .i64 3, .int .i64 id, .int .i64 0, .int .i64 0, .int .i64 0, .int .i64 0, .slice none 0 0] 37)
  have HL1 : Hid (Live (w.alloc (.cells #[.int .i64 3, .int .i64 id, .int .i64 0, .int .i64 0, .int .i64 0, .int .i64 0, .slice none 0 0] 37)) pm N m s) := hL.below hb1
  have HBD : Hid (Box7 (w.alloc (.cells #[.int .i64 3, .int .i64 id, .int .i64 0, .int .i64 0, .int .i64 0, .int .i64 0, .slice none 0 0] 37)) w.heap.size (.int .i64 3) (.int .i64 id) (.int .i64 0) (.int .i64 0) (.int .i64 0) (.int .i64 0) (.slice none 0 0)) := Box7.new w _ _ _ _ _ _ _ _
  generalize hw1 : w.alloc (.cells #[.int .i64 3, .int .i64 id, .int .i64 0, .int .i64 0, .int .i64 0, .int .i64 0, .slice none 0 0] 37) = w1 at *
  have HND : Hid (∀ W, Below w1.heap.size w1 W → Calls Tryz.prog 68 #[.agg (mapCells m s).toArray, .int .i64 id] W fun e w' => e = .returned (.tuple #[.int .i64 0, .bool true]) ∧ Grown W w') := fun W hb => (node_grown m s id W ((nds_own HL1.out.own.nds HL1.out.own.ndl).1.below hb) (by rw [hn]; exact one_may hx)).mono fun e w' ⟨hg, p, t, he, hI⟩ => by
    rw [hn] at hI
    obtain ⟨rfl, rfl⟩ := srch_one hI
    exact ⟨he, hg⟩
  have hl1 : s.lN = 1 := by have := hL.own.ndl; rw [hn] at this; simpa using this.symm
  obtain ⟨g, cg, hv, hgB, -, -⟩ := own_some hL.own.nds (by omega)
  injection hv with hv1 hv2 hv3
  have HOW : Hid (∀ W, Below w1.heap.size w1 W → W.ownsRow N 72 6 (.slice (some ⟨g, 0, none⟩) 1 s.cN) 1 (ndsCells [⟨id, c2, c3, c4, false, c6⟩])) := fun W hb => by
    have := (HL1.out.below hb).own.nds
    rw [hn, hl1, hv1] at this
    exact this
  have HFIN : Hid (∀ (W : World), Below w1.heap.size w1 W → Live (set6 W g (.int .i64 id) (.int .i64 c2) (.int .i64 c3) (.int .i64 c4) (.bool true) (.bool c6)) pm N { m with nds := [⟨id, c2, c3, c4, true, c6⟩] } s ∧ Kp w (set6 W g (.int .i64 id) (.int .i64 c2) (.int .i64 c3) (.int .i64 c4) (.bool true) (.bool c6)) ∧ Below N w (set6 W g (.int .i64 id) (.int .i64 c2) (.int .i64 c3) (.int .i64 c4) (.bool true) (.bool c6))) := fun W hb => by
    have hl := HL1.out.below hb
    have ho := HOW.out W hb
    obtain ⟨hty, hNg⟩ := row_ty ho
    have hgr := set6_grownBy W g (.int .i64 id) (.int .i64 c2) (.int .i64 c3) (.int .i64 c4) (.bool true) (.bool c6)
    have hkp := kp_set6 hty (.inr (.inl rfl)) (.int .i64 id) (.int .i64 c2) (.int .i64 c3) (.int .i64 c4) (.bool true) (.bool c6)
    have hne : pm ≠ g := by
      rintro rfl
      obtain ⟨k1, h1⟩ := hl.ty
      obtain ⟨k2, h2⟩ := hty
      rw [h1] at h2
      injection h2 with h2
      injection h2 with _ h2
      exact absurd h2 (by decide)
    obtain ⟨cm, hcm⟩ := hty
    refine ⟨⟨hl.box.else hgr hne, hl.ty.kp hkp, ⟨?_, ?_, hl.own.aT, hl.own.lT, hl.own.cT, hl.own.tms, hl.own.past, hl.own.trl, own_type hl.own.trs hgr hcm (by decide)⟩, hl.ge⟩, (kp_below hb1).trans ((kp_below hb).trans hkp), set6_below ((below2 hb1 hb).mono hN) hNg _ _ _ _ _ _⟩
    · rw [hv1, hl1]
      exact own_set6 (y := ⟨id, c2, c3, c4, true, c6⟩) ho
    · rw [hl1]; rfl
  have HBM : Hid (∀ W, Below w1.heap.size w1 W → Box7 W pm (.int .i64 m.ep) (.int .i64 m.size) (.int .i64 m.mn) (.int .i64 m.gr) (.slice (some ⟨g, 0, none⟩) 1 s.cN) (.slice s.aT s.lT s.cT) (.slice s.aR s.lR s.cR)) := fun W hb => by
    have := HL1.out.box.below hb
    rw [hv1, hl1] at this
    exact this
  have hpl := HL1.out.box.lt
  have hdl := HBD.out.lt
  obtain ⟨⟨k0, k1, k2, k3, k4, k5, k6⟩, -⟩ := HL1.out.box
  obtain ⟨⟨d0, d1, d2, d3, d4, d5, d6⟩, -⟩ := HBD.out
  rw [map_split] at HND
  obtain ⟨ep, sz, mn, gr, nds, tms, trs⟩ := m
  obtain ⟨aN, lN, cN, aT, lT, cT, aR, lR, cR⟩ := s
  simp only at *
  subst hv1 hl1
  have x0 := cell_grown (w := w1) (a := ⟨pm, 0, none⟩) hpl k0
  have x1 := cell_grown (w := w1) (a := ⟨pm, 1, none⟩) hpl k1
  have x2 := cell_grown (w := w1) (a := ⟨pm, 2, none⟩) hpl k2
  have x3 := cell_grown (w := w1) (a := ⟨pm, 3, none⟩) hpl k3
  have x4 := cell_grown (w := w1) (a := ⟨pm, 4, none⟩) hpl k4
  have x5 := cell_grown (w := w1) (a := ⟨pm, 5, none⟩) hpl k5
  have x6 := cell_grown (w := w1) (a := ⟨pm, 6, none⟩) hpl k6
  have y0 := cell_grown (w := w1) (a := ⟨w.heap.size, 0, none⟩) hdl d0
  have y1 := cell_grown (w := w1) (a := ⟨w.heap.size, 1, none⟩) hdl d1
  have y2 := cell_grown (w := w1) (a := ⟨w.heap.size, 2, none⟩) hdl d2
  have y3 := cell_grown (w := w1) (a := ⟨w.heap.size, 3, none⟩) hdl d3
  have y4 := cell_grown (w := w1) (a := ⟨w.heap.size, 4, none⟩) hdl d4
  have y5 := cell_grown (w := w1) (a := ⟨w.heap.size, 5, none⟩) hdl d5
  have y6 := cell_grown (w := w1) (a := ⟨w.heap.size, 6, none⟩) hdl d6
  have HGB : Hid (∀ n os, Below w1.heap.size w1 (Go.Sort.grow (w1.drewN n) os)) := fun n os => below_grow _ _ _
  clear hL HL1 hn hb1 hx hv2 hv3
  go_enter Tryz.func95, Tryz.ntmps95
  go_upto_region 1 with fail
  clear hw1
  refine wp_region_QW mixed5 (by kernel_rfl) ?_
  repeat (refine QW_step (fun K hK => ?_); go_simp; first | (refine hK _ ?_; clear hK K) | (apply Exists.intro; refine ⟨fun _ => ?_, hK _ ?_⟩; (go_at_call 68; refine Calls.grown_of (HND.out _ (HGB.out _ _))); clear hK K))
  refine QW_nil ?_
  intro _ hw9
  obtain ⟨⟨nq, osq⟩, hw8⟩ := hw9
  subst hw8
  have hG5 := HGB.out nq osq
  have v0 := y0 nq osq
  have v1 := y1 nq osq
  have v2 := y2 nq osq
  have v3 := y3 nq osq
  have v4 := y4 nq osq
  have v5 := y5 nq osq
  have v6 := y6 nq osq
  clear x0 x1 x2 x3 x4 x5 x6 y0 y1 y2 y3 y4 y5 y6 k0 k1 k2 k3 k4 k5 k6 d0 d1 d2 d3 d4 d5 d6 HND HGB
  show Exit.then _ _ _ _ (Go.Sort.grow (w1.drewN nq) osq)
  generalize Go.Sort.grow (w1.drewN nq) osq = w5 at *
  go_upto_region 3 with fail
  have ho5 := HOW.out w5 hG5
  refine cn_up _ _ _ _ _ _ _ _ _ _ _ _ _ _ _ _ _ _ _ _ _ _ _ _ _ _ _ _ _ _ _ _ _ _ _ _ _ _ _ _ _ _ _ _ _ _ _ _ _ _ _ _ _ _ _ _ pm w.heap.size g cN id c2 c3 c4 ep sz mn gr c6 (.slice aT lT cT) (.slice aR lR cR) w5 _ (HBM.out _ hG5) (HBD.out.below hG5) ⟨ho5.cellAt 0 (by decide), ho5.cellAt 1 (by decide), ho5.cellAt 2 (by decide), ho5.cellAt 3 (by decide), ho5.cellAt 4 (by decide), ho5.cellAt 5 (by decide)⟩ ⟨ho5.frozenAt 0, ho5.frozenAt 1, ho5.frozenAt 2, ho5.frozenAt 3, ho5.frozenAt 4, ho5.frozenAt 5⟩ (fun u17 u18 u19 u20 u21 u22 u23 u24 u25 u26 u27 u28 u29 u30 u31 W hbW => ?_)
  obtain ⟨f1, f2, f3⟩ := HFIN.out W (below2 hG5 hbW)
  have HF1 : Hid (Live (set6 W g (.int .i64 id) (.int .i64 c2) (.int .i64 c3) (.int .i64 c4) (.bool true) (.bool c6)) pm N ⟨ep, sz, mn, gr, [⟨id, c2, c3, c4, true, c6⟩], tms, trs⟩ ⟨some ⟨g, 0, none⟩, 1, cN, aT, lT, cT, aR, lR, cR⟩) := f1
  clear HFIN f1 HBM HBD v0 v1 v2 v3 v4 v5 v6 ho5 HOW
  generalize set6 W g (.int .i64 id) (.int .i64 c2) (.int .i64 c3) (.int .i64 c4) (.bool true) (.bool c6) = wz at *
  go_wp2_with fail
  go_returns
  exact ⟨rfl, ⟨_, HF1.out⟩, f2, f3⟩
set_option maxRecDepth 60000 in
theorem change_add {pm N : Nat} {m : Mp} {s : MV} {id z r wt : Int} (hn : m.nds = []) (hs : s.aN = none ∧ s.lN = 0 ∧ s.cN = 0) (w : World) (hL : Live w pm N m s) (hN : N ≤ w.heap.size) :
    Calls Tryz.prog 71 #[.pointer (some ⟨pm, 0, none⟩), .agg #[.int .i64 1, .int .i64 id, .int .i64 z, .int .i64 r, .int .i64 wt, .int .i64 0, .slice none 0 0]] w fun e w' => e = .returned (.tuple #[]) ∧ (∃ s', Live w' pm N { m with nds := [⟨id, z, r, wt, false, true⟩] } s') ∧ Kp w w' ∧ Below N w w' := by
  have hb1 := below_alloc w (.cells #[.int .i64 1, .int .i64 id, .int .i64 z, .int .i64 r, .int .i64 wt, .int .i64 0, .slice none 0 0] 37)
  have HC : Hid (Calls Tryz.prog 95 #[.pointer (some ⟨pm, 0, none⟩), .agg #[.int .i64 1, .int .i64 id, .int .i64 z, .int .i64 r, .int .i64 wt, .int .i64 0, .slice none 0 0]] (w.alloc (.cells #[.int .i64 1, .int .i64 id, .int .i64 z, .int .i64 r, .int .i64 wt, .int .i64 0, .slice none 0 0] 37)) fun e w' => e = .returned (.tuple #[]) ∧ (∃ s', Live w' pm N { m with nds := [⟨id, z, r, wt, false, true⟩] } s') ∧ Kp (w.alloc (.cells #[.int .i64 1, .int .i64 id, .int .i64 z, .int .i64 r, .int .i64 wt, .int .i64 0, .slice none 0 0] 37)) w' ∧ Below N (w.alloc (.cells #[.int .i64 1, .int .i64 id, .int .i64 z, .int .i64 r, .int .i64 wt, .int .i64 0, .slice none 0 0] 37)) w') := (changeNode_add hn hs _ (hL.below hb1) (Nat.le_trans hN hb1.size)).mono fun e w' ⟨he, ⟨g, c, hl⟩, hk, hb⟩ => ⟨he, ⟨_, hl⟩, hk, hb⟩
  clear hL
  go_enter Tryz.func71, Tryz.ntmps71
  go_wp2_with (go_at_call 95; refine HC.out.mono ?_; rintro e w2 ⟨rfl, ⟨s', hl⟩, hk, hb⟩; have HLV : Hid (Live w2 pm N { m with nds := [⟨id, z, r, wt, false, true⟩] } s') := hl; clear hl)
  go_returns
  exact ⟨rfl, ⟨s', HLV.out⟩, (kp_below hb1).trans hk, (hb1.mono hN).trans hb⟩
set_option maxRecDepth 60000 in
theorem change_up {pm N : Nat} {m : Mp} {s : MV} {id c2 c3 c4 : Int} {c6 : Bool} (hx : InN ⟨id, c2, c3, c4, false, c6⟩) (hn : m.nds = [⟨id, c2, c3, c4, false, c6⟩]) (w : World) (hL : Live w pm N m s) (hN : N ≤ w.heap.size) :
    Calls Tryz.prog 71 #[.pointer (some ⟨pm, 0, none⟩), .agg #[.int .i64 3, .int .i64 id, .int .i64 0, .int .i64 0, .int .i64 0, .int .i64 0, .slice none 0 0]] w fun e w' => e = .returned (.tuple #[]) ∧ (∃ s', Live w' pm N { m with nds := [⟨id, c2, c3, c4, true, c6⟩] } s') ∧ Kp w w' ∧ Below N w w' := by
  have hb1 := below_alloc w (.cells #[.int .i64 3, .int .i64 id, .int .i64 0, .int .i64 0, .int .i64 0, .int .i64 0, .slice none 0 0] 37)
  have HC : Hid (Calls Tryz.prog 95 #[.pointer (some ⟨pm, 0, none⟩), .agg #[.int .i64 3, .int .i64 id, .int .i64 0, .int .i64 0, .int .i64 0, .int .i64 0, .slice none 0 0]] (w.alloc (.cells #[.int .i64 3, .int .i64 id, .int .i64 0, .int .i64 0, .int .i64 0, .int .i64 0, .slice none 0 0] 37)) fun e w' => e = .returned (.tuple #[]) ∧ (∃ s', Live w' pm N { m with nds := [⟨id, c2, c3, c4, true, c6⟩] } s') ∧ Kp (w.alloc (.cells #[.int .i64 3, .int .i64 id, .int .i64 0, .int .i64 0, .int .i64 0, .int .i64 0, .slice none 0 0] 37)) w' ∧ Below N (w.alloc (.cells #[.int .i64 3, .int .i64 id, .int .i64 0, .int .i64 0, .int .i64 0, .int .i64 0, .slice none 0 0] 37)) w') := changeNode_up hx hn _ (hL.below hb1) (Nat.le_trans hN hb1.size)
  clear hL
  go_enter Tryz.func71, Tryz.ntmps71
  go_wp2_with (go_at_call 95; refine HC.out.mono ?_; rintro e w2 ⟨rfl, ⟨s', hl⟩, hk, hb⟩; have HLV : Hid (Live w2 pm N { m with nds := [⟨id, c2, c3, c4, true, c6⟩] } s') := hl; clear hl)
  go_returns
  exact ⟨rfl, ⟨s', HLV.out⟩, (kp_below hb1).trans hk, (hb1.mono hN).trans hb⟩
end Go.Proofs.YtcncbjknfcjnmaaGreat.Tp
namespace Go.Proofs.YtcncbjknfcjnmaaGreat.Tp
open Go.ChangeShapes Go.WideShapes Go.ChangeAt Go.RowKit
theorem Live.else {w w' : World} {pm N b : Nat} {T : TypeId} {m : Mp} {s : MV} (h : Live w pm N m s) (hg : w.grownBy w' (some b)) (ht : BoxTy w b T) (ht' : ∃ cur, w'.heap[b]? = some (Obj.cells cur T (0, 0))) (h1 : T ≠ 26) (h2 : T ≠ 72) (h3 : T ≠ 53) : Live w' pm N m s := by
  obtain ⟨cb, hcb⟩ := ht
  have hne : pm ≠ b := by
    rintro rfl
    obtain ⟨k1, hk1⟩ := h.ty
    rw [hk1] at hcb
    injection hcb with hcb
    injection hcb with _ hcb
    exact h1 hcb.symm
  refine ⟨h.box.else hg hne, ?_, ⟨own_type h.own.nds hg hcb h2, h.own.ndl, h.own.aT, h.own.lT, h.own.cT, h.own.tms, h.own.past, h.own.trl, own_type h.own.trs hg hcb h3⟩, h.ge⟩
  obtain ⟨k1, hk1⟩ := h.ty
  exact ⟨k1, (hg.block pm (lt_of_get hk1) (by simpa using hne)).trans hk1⟩
theorem Live.epoch {w : World} {pm N : Nat} {m : Mp} {s : MV} (h : Live w pm N m s) (z : Int) : Live (w.setCell ⟨pm, 0, none⟩ (.int .i64 z)) pm N { m with ep := z } s ∧ Kp w (w.setCell ⟨pm, 0, none⟩ (.int .i64 z)) := by
  have hkp := kp_set h.ty (.inl rfl) 0 (.int .i64 z)
  have hgr := set_grownBy w pm 0 (.int .i64 z)
  obtain ⟨cm, hcm⟩ := h.ty
  exact ⟨⟨h.box.put0 _, h.ty.kp hkp, ⟨own_type h.own.nds hgr hcm (by decide), h.own.ndl, h.own.aT, h.own.lT, h.own.cT, h.own.tms, h.own.past, h.own.trl, own_type h.own.trs hgr hcm (by decide)⟩, h.ge⟩, hkp⟩
/-- the trails of the first groups behind a turn -/
def turnTrs (m m' : Mp) : Nat → List Tr
  | 0 => m.trs
  | k + 1 => if actP m k = actP m' k then turnTrs m m' k else (turnTrs m m' k).set k ⟨m.ep + 1, []⟩
def turnM (m m' : Mp) (k : Nat) : Mp := { m' with ep := m.ep + 1, trs := turnTrs m m' k }
/-- those who acted, as they lie -/
def ActsAt (w : World) (N : Nat) (m : Mp) (L : List Value) (k : Nat) : Prop := ∀ j, j < k → ∃ a c, L[j]? = some (.slice a (actP m j).length c) ∧ w.ownsRow N 3 1 (.slice a (actP m j).length c) (actP m j).length (intCells (actP m j))
theorem ActsAt.below {w w' : World} {N : Nat} {m : Mp} {L : List Value} {k : Nat} (h : ActsAt w N m L k) (hb : Below w.heap.size w w') : ActsAt w' N m L k := fun j hj => by
  obtain ⟨a, c, h1, h2⟩ := h j hj
  exact ⟨a, c, h1, own_below h2 hb⟩
theorem ActsAt.kp {w w' : World} {N : Nat} {m : Mp} {L : List Value} {k : Nat} (h : ActsAt w N m L k) (hb : Kp w w') : ActsAt w' N m L k := fun j hj => by
  obtain ⟨a, c, h1, h2⟩ := h j hj
  exact ⟨a, c, h1, own_kp h2 hb (by unfold TurnT; decide)⟩
theorem stand_more {m : Mp} (h : StandOk m) (e : Int) (l : List Tr) : StandOk { m with ep := e, trs := l } := ⟨h.size, h.nds, h.rise, h.few, h.ns⟩
theorem infoInts8 : (Tryz.prog.info? 35).map (fun i => (i.zero, i.size, i.bytes)) = some (some (.slice none 0 0), 1, 24) := by kernel_rfl
theorem mapV {w : World} {pm N : Nat} {m : Mp} {s : MV} (h : Live w pm N m s) : NdsAt w s.aN s.lN s.cN m.nds ∧ TmsAt w s.aT s.lT s.cT m.tms := ⟨h.own.bare.nds, h.own.bare.map.tms⟩
theorem turnTrs_len (m m' : Mp) (k : Nat) : (turnTrs m m' k).length = m.trs.length := by
  induction k with
  | zero => rfl
  | succ k ih =>
    unfold turnTrs
    split
    · exact ih
    · rw [List.length_set]; exact ih
theorem turnM_same {m m' : Mp} {k : Nat} (h : actP m k = actP m' k) : turnM m m' (k + 1) = turnM m m' k := by
  show Mp.mk _ _ _ _ _ _ (turnTrs m m' (k + 1)) = Mp.mk _ _ _ _ _ _ (turnTrs m m' k)
  rw [show turnTrs m m' (k + 1) = turnTrs m m' k from if_pos h]
theorem turnM_else {m m' : Mp} {k : Nat} (h : actP m k ≠ actP m' k) : turnM m m' (k + 1) = setTr (turnM m m' k) k (turnM m m' k).ep := by
  show Mp.mk _ _ _ _ _ _ (turnTrs m m' (k + 1)) = Mp.mk _ _ _ _ _ _ ((turnTrs m m' k).set k ⟨m.ep + 1, []⟩)
  rw [show turnTrs m m' (k + 1) = (turnTrs m m' k).set k ⟨m.ep + 1, []⟩ from if_neg h]
  rfl
set_option maxHeartbeats 4000000 in
set_option maxRecDepth 60000 in
theorem turn_bare {pm N n : Nat} {m m' : Mp} {s : MV} (e0 e1 e2 e3 e4 e5 e6 : Value) (hS : StandOk m) (hS' : StandOk m') (hgr : m.gr = (n : Int)) (hn8 : n ≤ 8) (htl : m.trs.length = n) (hep : 0 ≤ m.ep ∧ m.ep < 2147483647) (hmn : m.mn ≤ 3)
    (hm' : m' = { m with nds := m'.nds }) (hfew : ∀ k, k < n → actP m k ≠ actP m' k → ((actP m k).length : Int) < m.mn)
    (hCon : ∀ W (g : Int), Calls Tryz.prog 70 #[.agg #[e0, e1, e2, e3, e4, e5, e6], .int .i64 g] W fun e w' => e = .returned (.bool true) ∧ Below W.heap.size W w')
    (hCh : ∀ W, Live W pm N m s → N ≤ W.heap.size → Calls Tryz.prog 71 #[.pointer (some ⟨pm, 0, none⟩), .agg #[e0, e1, e2, e3, e4, e5, e6]] W fun e w' => e = .returned (.tuple #[]) ∧ (∃ s', Live w' pm N m' s') ∧ Kp W w' ∧ Below N W w')
    (w : World) (hL : Live w pm N m s) (hN : N ≤ w.heap.size) :
    Calls Tryz.prog 38 #[.pointer (some ⟨pm, 0, none⟩), .agg #[e0, e1, e2, e3, e4, e5, e6]] w fun e w' => e = .returned (.tuple #[]) ∧ (∃ s', Live w' pm N (turnM m m' n) s') ∧ Below N w w' := by
  have hb1 := below_alloc w (.cells #[e0, e1, e2, e3, e4, e5, e6] 37)
  have HL1 : Hid (Live (w.alloc (.cells #[e0, e1, e2, e3, e4, e5, e6] 37)) pm N m s) := hL.below hb1
  have HBD : Hid (Box7 (w.alloc (.cells #[e0, e1, e2, e3, e4, e5, e6] 37)) w.heap.size e0 e1 e2 e3 e4 e5 e6) := Box7.new w _ _ _ _ _ _ _ _
  have HTD : Hid (BoxTy (w.alloc (.cells #[e0, e1, e2, e3, e4, e5, e6] 37)) w.heap.size 37) := BoxTy.new _ _ _
  generalize hw1 : w.alloc (.cells #[e0, e1, e2, e3, e4, e5, e6] 37) = w1 at *
  obtain ⟨i0, hi, hz0, hz1, hz2⟩ := info_parts infoInts8
  have hn8' : (n : Int) ≤ 8 := by omega
  obtain ⟨wM, hmk, hownM, hgM⟩ := run_make_full (P := Tryz.prog) w1 w1.heap.size 49 35 i0 (.slice none 0 0) 1 Tryz.underlying49 hi hz0 hz1 .i64 .i64 n (by rw [hz2]; omega) (by unfold maxLen; omega) (Nat.le_refl _)
  have hbM : Below w1.heap.size w1 wM := ⟨hgM.os, hgM.tape, hgM.output, hgM.size, fun k hk => hgM.block k hk (by simp)⟩
  have hxs : (madeCells (Value.slice none 0 0).cells (n * 1)).toList = List.replicate n (Value.slice none 0 0) := by
    rw [Nat.mul_one]
    exact toList_madeCells_one _ _
  rw [hxs] at hownM
  have HOM : Hid (wM.ownsRow N 35 1 (.slice (some ⟨w1.heap.size, 0, none⟩) n n) n (List.replicate n (.slice none 0 0))) := own_base hownM (Nat.le_trans hN hb1.size)
  have HLM : Hid (Live wM pm N m s) := HL1.out.below hbM
  have HDM : Hid (Box7 wM w.heap.size e0 e1 e2 e3 e4 e5 e6) := HBD.out.below hbM
  have HTM : Hid (BoxTy wM w.heap.size 37) := HTD.out.kp (kp_below hbM)
  have hbwM : Below N w wM := (below2 hb1 hbM).mono hN
  have HCon : Hid (∀ W (g : Int), Calls Tryz.prog 70 #[.agg #[e0, e1, e2, e3, e4, e5, e6], .int .i64 g] W fun e w' => e = .returned (.bool true) ∧ Below W.heap.size W w') := hCon
  have HCh : Hid (∀ W, Live W pm N m s → N ≤ W.heap.size → Calls Tryz.prog 71 #[.pointer (some ⟨pm, 0, none⟩), .agg #[e0, e1, e2, e3, e4, e5, e6]] W fun e w' => e = .returned (.tuple #[]) ∧ (∃ s', Live w' pm N m' s') ∧ Kp W w' ∧ Below N W w') := hCh
  have HACT : Hid (∀ W (k : Nat), k < n → Live W pm N m s → Calls Tryz.prog 56 #[.agg (mapCells m s).toArray, .int .i64 (k : Int)] W fun e w' => IntsPost (actP m k) W e w') := fun W k hk hl => acting_any hS (by omega) W (mapV hl).1 (mapV hl).2
  have hac' : ∀ (z : Int) (l : List Tr) (k : Int), actP { m' with ep := z, trs := l } k = actP m' k := fun _ _ _ => rfl
  have HACT' : Hid (∀ W (k j : Nat) s', k < n → Live W pm N (turnM m m' j) s' → Calls Tryz.prog 56 #[.agg (mapCells (turnM m m' j) s').toArray, .int .i64 (k : Int)] W fun e w' => IntsPost (actP m' k) W e w') := fun W k j s' hk hl => by
    have := acting_any (m := turnM m m' j) (s := s') (g := (k : Int)) (stand_more hS' _ _) (by omega) W (mapV hl).1 (mapV hl).2
    rw [show actP (turnM m m' j) (k : Int) = actP m' k from rfl] at this
    exact this
  have HFEW : Hid (∀ k, k < n → actP m k ≠ actP m' k → ((actP m k).length : Int) < m.mn) := hfew
  have HMN : Hid (m'.mn = m.mn ∧ m'.gr = m.gr ∧ m'.trs = m.trs ∧ m'.ep = m.ep) := by unfold Hid; rw [hm']; exact ⟨rfl, rfl, rfl, rfl⟩
  have HTL : Hid (m.trs.length = n) := htl
  have HEP : Hid (0 ≤ m.ep ∧ m.ep < 2147483647) := hep
  have HM3 : Hid (m.mn ≤ 3) := hmn
  have hNw1 : N ≤ w1.heap.size := Nat.le_trans hN hb1.size
  have hpd : w.heap.size < w1.heap.size := HBD.out.lt
  have hgd := HL1.out.box
  rw [hgr] at hgd
  obtain ⟨⟨c0, c1, c2, c3, c4, c5, c6⟩, -⟩ := hgd
  have HGR : Hid (m.gr = (n : Int)) := hgr
  clear hgr hownM hgM hxs hi hz0 hz1 hz2 hL hCon hCh hS hS' hfew hm' hac' htl hep hmn HL1 HBD HTD
  go_enter Tryz.func38, Tryz.ntmps38
  go_upto_region 1 with fail
  clear hw1
  go_wp2_with fail
  clear hmk c0 c1 c2 c3 c4 c5 c6
  go_loopw [5, 15] (fun _ i wr => ∃ (k : Nat) (L : List Value), k ≤ n ∧ i = .int .i64 k ∧ L.length = n ∧ Hid (ActsAt wr N m L k) ∧ Hid (wr.ownsRow N 35 1 (.slice (some ⟨w1.heap.size, 0, none⟩) n n) n L) ∧ Hid (Live wr pm N m s) ∧ Hid (Box7 wr w.heap.size e0 e1 e2 e3 e4 e5 e6) ∧ Hid (BoxTy wr w.heap.size 37) ∧ Below N w wr) (fun _ i _ => n - (intOf i).toNat)
  case atStart => exact ⟨0, _, Nat.zero_le _, rfl, by simp, (fun j hj => absurd hj (Nat.not_lt_zero _)), HOM, HLM, HDM, HTM, hbwM⟩
  case round =>
    obtain ⟨k, L, hk, rfl, hLl, hA, hE, hLv, hD, hTD, hbel⟩ := hrel
    clear HOM HLM HDM HTM hbwM
    by_cases hlt : k < n
    · have hk1 : (k : Int) < (n : Int) := by omega
      have hk0 : (0 : Int) ≤ (k : Int) := by omega
      obtain ⟨⟨d0, d1, d2, d3, d4, d5, d6⟩, -⟩ := hD.out
      have hlw := hE.out.lt w1.heap.size rfl
      go_upto_region 6 with (go_at_call 70; refine (HCon.out _ _).mono ?_; rintro e w2 ⟨rfl, hb2⟩)
      have HLv2 : Hid (Live w2 pm N m s) := hLv.out.below hb2
      obtain ⟨⟨c0, c1, c2, c3, c4, c5, c6⟩, -⟩ := HLv2.out.box
      have HAC : Hid (Calls Tryz.prog 56 #[.agg #[.int .i64 m.ep, .int .i64 m.size, .int .i64 m.mn, .int .i64 m.gr, .slice s.aN s.lN s.cN, .slice s.aT s.lT s.cT, .slice s.aR s.lR s.cR], .int .i64 (k : Int)] w2 fun e w' => IntsPost (actP m k) w2 e w') := HACT.out w2 k hlt HLv2.out
      obtain ⟨xk, hxk⟩ : ∃ xk, L[k]? = some xk := ⟨_, List.getElem?_eq_getElem (by omega)⟩
      have HFA : Hid (∀ w3 a3 cp3, Below w2.heap.size w2 w3 → IntsOwn w2.heap.size w3 a3 cp3 (actP m k) →
          (w3.cell? ⟨w1.heap.size, k, none⟩ = some xk ∧ w3.frozen? ⟨w1.heap.size, k, none⟩ = false) ∧
          ActsAt (w3.setCell ⟨w1.heap.size, k, none⟩ (.slice a3 (actP m k).length cp3)) N m (L.set k (.slice a3 (actP m k).length cp3)) (k + 1) ∧
          (w3.setCell ⟨w1.heap.size, k, none⟩ (.slice a3 (actP m k).length cp3)).ownsRow N 35 1 (.slice (some ⟨w1.heap.size, 0, none⟩) n n) n (L.set k (.slice a3 (actP m k).length cp3)) ∧
          Live (w3.setCell ⟨w1.heap.size, k, none⟩ (.slice a3 (actP m k).length cp3)) pm N m s ∧
          Box7 (w3.setCell ⟨w1.heap.size, k, none⟩ (.slice a3 (actP m k).length cp3)) w.heap.size e0 e1 e2 e3 e4 e5 e6 ∧
          BoxTy (w3.setCell ⟨w1.heap.size, k, none⟩ (.slice a3 (actP m k).length cp3)) w.heap.size 37 ∧
          Below N w (w3.setCell ⟨w1.heap.size, k, none⟩ (.slice a3 (actP m k).length cp3))) := fun w3 a3 cp3 hb3 hO3 => by
        have hb23 := below2 hb2 hb3
        have hE3 := own_below hE.out hb23
        have hgr3 := set_grownBy w3 w1.heap.size k (.slice a3 (actP m k).length cp3)
        obtain ⟨⟨ce, hce⟩, -⟩ := row_ty hE3
        have hce' := heap_setCell_same w3 w1.heap.size k ce 35 (.slice a3 (actP m k).length cp3) hce
        have hN2 : N ≤ w2.heap.size := Nat.le_trans hNw1 (Nat.le_trans (Nat.le_of_lt hlw.2) hb2.size)
        refine ⟨⟨(hE3.cellAt k (by omega)).trans hxk, hE3.frozenAt k⟩, ?_, (hE3.stored k _).1, (hLv.out.below hb23).else hgr3 ⟨ce, hce⟩ ⟨_, hce'⟩ (by decide) (by decide) (by decide), (hD.out.below hb23).else hgr3 (by omega), ?_, (hbel.trans (hb23.mono (Nat.le_trans hNw1 (Nat.le_of_lt hlw.2)))).setCell (p := ⟨w1.heap.size, k, none⟩) hNw1 _⟩
        · intro j hj
          by_cases hjk : j = k
          · subst hjk
            exact ⟨a3, cp3, List.getElem?_set_self (by omega), own_type (own_base hO3.2 hN2) hgr3 hce (by decide)⟩
          · obtain ⟨a, c, q1, q2⟩ := hA.out j (by omega)
            exact ⟨a, c, by rw [List.getElem?_set_ne (by omega)]; exact q1, own_type (own_below q2 hb23) hgr3 hce (by decide)⟩
        · obtain ⟨cd, hcd⟩ := hTD.out.kp (kp_below hb23)
          exact ⟨cd, (hgr3.block w.heap.size (lt_of_get hcd) (by simp; omega)).trans hcd⟩
      clear hA hE hLv hD hTD hbel d0 d1 d2 d3 d4 d5 d6 HLv2
      generalize actP m k = ac at *
      go_wp2_with (go_at_call 56; refine HAC.out.mono ?_; rintro e w3 ⟨hb3, a3, cp3, rfl, hO3⟩; obtain ⟨⟨xi, fi⟩, y1, y2, y3, y4, y5, y6⟩ := HFA.out w3 a3 cp3 hb3 hO3; have Y1 : Hid (ActsAt _ N m _ (k + 1)) := y1; have Y2 := show Hid _ from y2; have Y3 := show Hid _ from y3; have Y4 := show Hid _ from y4; have Y5 := show Hid _ from y5; clear y1 y2 y3 y4 y5 hO3)
      exact ⟨⟨k + 1, _, by omega, by go_num, by simp [hLl], Y1, Y2, Y3, Y4, Y5, y6⟩, by simp [intOf]; omega⟩
    · obtain rfl : k = n := by omega
      obtain ⟨⟨d0, d1, d2, d3, d4, d5, d6⟩, -⟩ := hD.out
      have hlw := hE.out.lt w1.heap.size
      have hNr : N ≤ wr.heap.size := Nat.le_trans hN (Nat.le_trans hbel.size (Nat.le_refl _))
      have HC2 : Hid (Calls Tryz.prog 71 #[.pointer (some ⟨pm, 0, none⟩), .agg #[e0, e1, e2, e3, e4, e5, e6]] wr fun e w' => e = .returned (.tuple #[]) ∧ (∃ s', Live w' pm N m' s') ∧ Kp wr w' ∧ Below N wr w') := HCh.out wr hLv.out hNr
      go_upto_region 9 with (go_at_call 71; refine HC2.out.mono ?_; rintro e w2 ⟨rfl, ⟨s2, hl2⟩, hk2, hb2⟩; have HL2 : Hid (Live w2 pm N m' s2) := hl2; clear hl2)
      have hbw2 : Below N w w2 := hbel.trans hb2
      have HA2 : Hid (ActsAt w2 N m L k) := hA.out.kp hk2
      have HE2 : Hid (w2.ownsRow N 35 1 (.slice (some ⟨w1.heap.size, 0, none⟩) k k) k L) := own_kp hE.out hk2 (by unfold TurnT; decide)
      have HD2 : Hid (Box7 w2 w.heap.size e0 e1 e2 e3 e4 e5 e6) := box_kp hD.out hTD.out hk2 (by unfold TurnT; decide)
      have HT2 : Hid (BoxTy w2 w.heap.size 37) := hTD.out.kp hk2
      clear hA hE hD hTD hLv hbel hk2 hb2 HC2 d0 d1 d2 d3 d4 d5 d6 hlw hNr HCh HACT
      obtain ⟨⟨c0, c1, c2, c3, c4, c5, c6⟩, ⟨f0, -⟩⟩ := HL2.out.box
      rw [HMN.out.2.2.2] at c0
      obtain ⟨hl3, hk3⟩ := HL2.out.epoch (m.ep + 1)
      have hb3 : Below N w (w2.setCell ⟨pm, 0, none⟩ (.int .i64 (m.ep + 1))) := hbw2.setCell (p := ⟨pm, 0, none⟩) HL2.out.ge _
      have HL3 : Hid (Live (w2.setCell ⟨pm, 0, none⟩ (.int .i64 (m.ep + 1))) pm N (turnM m m' 0) s2) := by
        unfold Hid
        have e0 : turnM m m' 0 = { m' with ep := m.ep + 1 } := by
          show Mp.mk _ _ _ _ _ _ m.trs = Mp.mk _ _ _ _ _ _ m'.trs
          rw [HMN.out.2.2.1]
        rw [e0]
        exact hl3
      have HA3 : Hid (ActsAt (w2.setCell ⟨pm, 0, none⟩ (.int .i64 (m.ep + 1))) N m L k) := HA2.out.kp hk3
      have HE3 : Hid ((w2.setCell ⟨pm, 0, none⟩ (.int .i64 (m.ep + 1))).ownsRow N 35 1 (.slice (some ⟨w1.heap.size, 0, none⟩) k k) k L) := own_kp HE2.out hk3 (by unfold TurnT; decide)
      have HD3 : Hid (Box7 (w2.setCell ⟨pm, 0, none⟩ (.int .i64 (m.ep + 1))) w.heap.size e0 e1 e2 e3 e4 e5 e6) := box_kp HD2.out HT2.out hk3 (by unfold TurnT; decide)
      have HT3 : Hid (BoxTy (w2.setCell ⟨pm, 0, none⟩ (.int .i64 (m.ep + 1))) w.heap.size 37) := HT2.out.kp hk3
      clear hl3 hk3 HL2 HA2 HE2 HD2 HT2 hbw2
      obtain ⟨he0, he1⟩ := HEP.out
      generalize hw3 : w2.setCell ⟨pm, 0, none⟩ (.int .i64 (m.ep + 1)) = w3 at *
      go_upto_region 10 with fail
      clear hw3 c0 c1 c2 c3 c4 c5 c6 f0 he0 he1
      go_wp2_with fail
      go_loopw [6, 7, 42] (fun _ _ i wr => ∃ (j : Nat), j ≤ k ∧ i = .int .i64 j ∧ Hid (ActsAt wr N m L k) ∧ Hid (wr.ownsRow N 35 1 (.slice (some ⟨w1.heap.size, 0, none⟩) k k) k L) ∧ Hid (∃ s', Live wr pm N (turnM m m' j) s') ∧ Hid (Box7 wr w.heap.size e0 e1 e2 e3 e4 e5 e6) ∧ Hid (BoxTy wr w.heap.size 37) ∧ Below N w wr) (fun _ _ i _ => k - (intOf i).toNat)
      case atStart => exact ⟨0, Nat.zero_le _, rfl, HA3, HE3, ⟨s2, HL3.out⟩, HD3, HT3, hb3⟩
      case round =>
        obtain ⟨j, hj, rfl, hA, hE, hLv, hD, hTD, hbel⟩ := hrel
        clear HA3 HE3 HL3 HD3 HT3 hb3
        obtain ⟨s3, hl3⟩ := hLv.out
        by_cases hlt : j < k
        · have hj1 : (j : Int) < (k : Int) := by omega
          have hj0 : (0 : Int) ≤ (j : Int) := by omega
          obtain ⟨⟨d0, d1, d2, d3, d4, d5, d6⟩, -⟩ := hD.out
          have hlw := hE.out.lt w1.heap.size rfl
          obtain ⟨aj, cj, hLj, hrow⟩ := hA.out j hlt
          have xj := (hE.out.cellAt j (by omega)).trans hLj
          have HLR : Hid (s3.lR = k) := by unfold Hid; have h1 := hl3.own.trl; have h2 : (turnM m m' j).trs.length = m.trs.length := turnTrs_len m m' j; have := HTL.out; omega
          have HROW : Hid (wr.ownsRow N 3 1 (.slice aj (actP m j).length cj) (actP m j).length (intCells (actP m j))) := hrow
          have HLV : Hid (Live wr pm N (turnM m m' j) s3) := hl3
          have HSAME : Hid (actP m j = actP m' j → turnM m m' (j + 1) = turnM m m' j) := turnM_same
          have HELSE : Hid (actP m j ≠ actP m' j → turnM m m' (j + 1) = setTr (turnM m m' j) j (turnM m m' j).ep) := turnM_else
          have HFW : Hid (actP m j ≠ actP m' j → ((actP m j).length : Int) < (turnM m m' j).mn) := fun h => by
            have := HFEW.out j hlt h
            show _ < m'.mn
            rw [HMN.out.1]
            exact this
          have HM3' : Hid ((turnM m m' j).mn ≤ 3) := by
            show m'.mn ≤ 3
            rw [HMN.out.1]
            exact HM3.out
          have HAC := fun W (hl : Live W pm N (turnM m m' j) s3) => HACT'.out W j j s3 hlt hl
          have HA2 : Hid (∀ W, Live W pm N (turnM m m' j) s3 → Calls Tryz.prog 56 #[.agg #[.int .i64 (turnM m m' j).ep, .int .i64 (turnM m m' j).size, .int .i64 (turnM m m' j).mn, .int .i64 (turnM m m' j).gr, .slice s3.aN s3.lN s3.cN, .slice s3.aT s3.lT s3.cT, .slice s3.aR s3.lR s3.cR], .int .i64 (j : Int)] W fun e w' => IntsPost (actP m' j) W e w') := HAC
          clear hLj hrow hl3 hLv HAC
          generalize turnM m m' j = M at *
          generalize actP m j = ac at *
          generalize actP m' j = ac' at *
          have hNr : N ≤ wr.heap.size := Nat.le_trans hNw1 (Nat.le_of_lt hlw.2)
          by_cases hq : ac = ac'
          · have HM2 : Hid (turnM m m' (j + 1) = M) := HSAME.out hq
            have hdq : decide (ac = ac') = true := by simpa using hq
            have HEQ : Hid (∀ W a3 cp3, RowI W aj ac.length cj ac → RowI W a3 ac'.length cp3 ac' → Calls Tryz.prog 72 #[.slice aj ac.length cj, .slice a3 ac'.length cp3] W fun e w' => e = .returned (.bool true) ∧ Grown W w') := fun W a3 cp3 h1 h2 => by
              have := eqInts aj a3 _ _ _ _ ac ac' W h1 h2
              rw [hdq] at this
              exact this
            clear HSAME HELSE HFW hq hdq
            go_wp2_with (first
              | (go_at_call 70; refine (HCon.out _ _).mono ?_; rintro e w2 ⟨rfl, hb2⟩; have HLV2 := show Hid (Live w2 pm N M s3) from HLV.out.below hb2; obtain ⟨⟨c0, c1, c2, c3, c4, c5, c6⟩, -⟩ := HLV2.out.box)
              | (go_at_call 56; refine (HA2.out _ HLV2.out).mono ?_; rintro e w3 ⟨hb3, a3, cp3, rfl, hO3⟩; have HO3 := show Hid (IntsOwn w2.heap.size w3 a3 cp3 ac') from hO3; clear hO3)
              | (go_at_call 72; refine (HEQ.out _ _ _ (own_rowI (own_below (own_below HROW.out hb2) hb3)) (own_rowI HO3.out.2)).mono ?_; rintro e w4 ⟨rfl, hg4⟩))
            have hb4 := below2 hb2 (below2 hb3 (grown_below hg4))
            exact ⟨⟨j + 1, by omega, by go_num, hA.out.below hb4, own_below hE.out hb4, ⟨s3, by rw [HM2.out]; exact HLV.out.below hb4⟩, hD.out.below hb4, hTD.out.kp (kp_below hb4), hbel.trans (hb4.mono hNr)⟩, by simp [intOf]; omega⟩
          · have HM2 : Hid (turnM m m' (j + 1) = setTr M j M.ep) := HELSE.out hq
            have HFL : Hid ((ac.length : Int) < M.mn) := HFW.out hq
            have hdq : decide (ac = ac') = false := by simpa using hq
            have HEQ : Hid (∀ W a3 cp3, RowI W aj ac.length cj ac → RowI W a3 ac'.length cp3 ac' → Calls Tryz.prog 72 #[.slice aj ac.length cj, .slice a3 ac'.length cp3] W fun e w' => e = .returned (.bool false) ∧ Grown W w') := fun W a3 cp3 h1 h2 => by
              have := eqInts aj a3 _ _ _ _ ac ac' W h1 h2
              rw [hdq] at this
              exact this
            have HLE : Hid (∀ W, Live W pm N M s3 → N ≤ W.heap.size → Calls Tryz.prog 73 #[.pointer (some ⟨pm, 0, none⟩), .int .i64 (j : Int), .slice aj ac.length cj] W fun e w' => e = .returned (.tuple #[]) ∧ Live w' pm N (setTr M j M.ep) s3 ∧ Kp W w' ∧ Below N W w') := fun W hl hNW => leave_short (by have := HLR.out; omega) (by have := HLR.out; omega) aj _ cj HFL.out HM3'.out W hl hNW
            clear HSAME HELSE HFW hq hdq HFL
            go_wp2_with (first
              | (go_at_call 70; refine (HCon.out _ _).mono ?_; rintro e w2 ⟨rfl, hb2⟩; have HLV2 := show Hid (Live w2 pm N M s3) from HLV.out.below hb2; obtain ⟨⟨c0, c1, c2, c3, c4, c5, c6⟩, -⟩ := HLV2.out.box)
              | (go_at_call 56; refine (HA2.out _ HLV2.out).mono ?_; rintro e w3 ⟨hb3, a3, cp3, rfl, hO3⟩; have HO3 := show Hid (IntsOwn w2.heap.size w3 a3 cp3 ac') from hO3; clear hO3)
              | (go_at_call 72; refine (HEQ.out _ _ _ (own_rowI (own_below (own_below HROW.out hb2) hb3)) (own_rowI HO3.out.2)).mono ?_; rintro e w4 ⟨rfl, hg4⟩)
              | (go_at_call 73; refine (HLE.out _ (HLV.out.below (below2 hb2 (below2 hb3 (grown_below hg4)))) (Nat.le_trans hNr (below2 hb2 (below2 hb3 (grown_below hg4))).size)).mono ?_; rintro e w5 ⟨rfl, hl5, hk5, hb5⟩; have HL5 := show Hid (Live w5 pm N (setTr M j M.ep) s3) from hl5; clear hl5))
            have hb4 := below2 hb2 (below2 hb3 (grown_below hg4))
            have hk6 := (kp_below hb4).trans hk5
            exact ⟨⟨j + 1, by omega, by go_num, hA.out.kp hk6, own_kp hE.out hk6 (by unfold TurnT; decide), ⟨s3, by rw [HM2.out]; exact HL5.out⟩, box_kp hD.out hTD.out hk6 (by unfold TurnT; decide), hTD.out.kp hk6, (hbel.trans (hb4.mono hNr)).trans hb5⟩, by simp [intOf]; omega⟩
        · obtain rfl : j = k := by omega
          have HF : Hid (Live wr pm N (turnM m m' j) s3) := hl3
          clear hl3 hLv hA hE hD hTD
          go_wp2_with fail
          go_returns
          exact ⟨rfl, ⟨s3, HF.out⟩, hbel⟩
end Go.Proofs.YtcncbjknfcjnmaaGreat.Tp
namespace Go.Proofs.YtcncbjknfcjnmaaGreat.Tp
open Go.ChangeShapes Go.WideShapes Go.ChangeAt Go.RowKit
theorem OwnBare.else {w w' : World} {B b : Nat} {m : Mp} {s : MV} (h : OwnBare w B m s) (hg : w.grownBy w' (some b)) (hb : b < B) : OwnBare w' B m s := by
  have key : ∀ (E sz : Nat) (v : Value) (n : Nat) (xs : List Value), w.ownsRow B E sz v n xs → w'.ownsRow B E sz v n xs := fun E sz v n xs h => h.kept hg (by
    cases hv : v.ownBlock with
    | none => exact .inl rfl
    | some k => right; have := (h.lt k hv).1; simp; omega)
  exact ⟨key _ _ _ _ _ h.nds, h.ndl, h.aT, h.lT, h.cT, h.tms, h.past, h.trl, key _ _ _ _ _ h.trs⟩
theorem OwnBare.base {w : World} {B B' : Nat} {m : Mp} {s : MV} (h : OwnBare w B m s) (hb : B' ≤ B) : OwnBare w B' m s := ⟨own_base h.nds hb, h.ndl, h.aT, h.lT, h.cT, h.tms, h.past, h.trl, own_base h.trs hb⟩
/-- a bare map told, and no error -/
def BarePost (m : Mp) (w : World) (e : Ending) (w' : World) : Prop := Below w.heap.size w w' ∧ ∃ s, e = .returned (.tuple #[.agg (mapCells m s).toArray, .int .i64 0]) ∧ OwnBare w' w.heap.size m s
theorem BareOk.stand {m : Mp} (h : BareOk m) : StandOk m := ⟨h.cnt.1, h.nds, by rw [h.tms]; intro i j _ hj; simp at hj, by rw [h.tms]; exact Nat.zero_le _, fun t ht => by rw [h.tms] at ht; simp at ht⟩
set_option maxHeartbeats 4000000 in
set_option maxRecDepth 60000 in
theorem apply_bare {m m' : Mp} {s : MV} (n : Nat) (e0 e1 e2 e3 e4 e5 e6 : Value) (hB : BareOk m) (hS' : StandOk m') (hgr : m.gr = (n : Int)) (hep : m.ep < 2147483647)
    (hm' : m' = { m with nds := m'.nds }) (hfew : ∀ k, k < n → actP m k ≠ actP m' k → ((actP m k).length : Int) < m.mn)
    (hRef : ∀ W s', NdsAt W s'.aN s'.lN s'.cN m.nds → Calls Tryz.prog 37 #[.agg (mapCells m s').toArray, .agg #[e0, e1, e2, e3, e4, e5, e6]] W fun e w' => e = .returned (.int .i64 0) ∧ Below W.heap.size W w')
    (hCon : ∀ W (g : Int), Calls Tryz.prog 70 #[.agg #[e0, e1, e2, e3, e4, e5, e6], .int .i64 g] W fun e w' => e = .returned (.bool true) ∧ Below W.heap.size W w')
    (hCh : ∀ pm N s', (m.nds = [] → s'.aN = none ∧ s'.lN = 0 ∧ s'.cN = 0) → ∀ W, Live W pm N m s' → N ≤ W.heap.size → Calls Tryz.prog 71 #[.pointer (some ⟨pm, 0, none⟩), .agg #[e0, e1, e2, e3, e4, e5, e6]] W fun e w' => e = .returned (.tuple #[]) ∧ (∃ s', Live w' pm N m' s') ∧ Kp W w' ∧ Below N W w')
    (w : World) (h : BareAt w m s) :
    Calls Tryz.prog 15 #[.agg (mapCells m s).toArray, .agg #[e0, e1, e2, e3, e4, e5, e6]] w fun e w' => BarePost (turnM m m' n) w e w' := by
  have hc := hB.cnt
  have htn := hB.trn
  have hcount : m.trs.length = n := by omega
  have hn8 : n ≤ 8 := by have := hc.2.2.2; omega
  obtain ⟨w1, hw1⟩ : ∃ w1, w1 = ((w.alloc (.cells (mapCells m s).toArray 26)).alloc (.cells #[e0, e1, e2, e3, e4, e5, e6] 37)).alloc (.cells #[.int .i64 0, .int .i64 0, .int .i64 0, .int .i64 0, .slice none 0 0, .slice none 0 0, .slice none 0 0] 26) := ⟨_, rfl⟩
  have hb1 : Below w.heap.size w w1 := by rw [hw1]; exact below2 (below2 (below_alloc _ _) (below_alloc _ _)) (below_alloc _ _)
  have HBM : Hid (Box7 w1 w.heap.size (.int .i64 m.ep) (.int .i64 m.size) (.int .i64 m.mn) (.int .i64 m.gr) (.slice s.aN s.lN s.cN) (.slice s.aT s.lT s.cT) (.slice s.aR s.lR s.cR)) := by
    rw [hw1]
    exact ((Box7.new w _ _ _ _ _ _ _ _).below (below_alloc _ _)).below (below_alloc _ _)
  have HBD : Hid (Box7 w1 (w.heap.size + 1) e0 e1 e2 e3 e4 e5 e6) := by
    rw [hw1]
    have := (Box7.new (w.alloc (.cells (mapCells m s).toArray 26)) e0 e1 e2 e3 e4 e5 e6 37).below (below_alloc _ (.cells #[.int .i64 0, .int .i64 0, .int .i64 0, .int .i64 0, .slice none 0 0, .slice none 0 0, .slice none 0 0] 26))
    rwa [show (w.alloc (.cells (mapCells m s).toArray 26)).heap.size = w.heap.size + 1 by simp] at this
  have HBR : Hid (Box7 w1 (w.heap.size + 1 + 1) (.int .i64 0) (.int .i64 0) (.int .i64 0) (.int .i64 0) (.slice none 0 0) (.slice none 0 0) (.slice none 0 0)) := by
    rw [hw1]
    have := Box7.new ((w.alloc (.cells (mapCells m s).toArray 26)).alloc (.cells #[e0, e1, e2, e3, e4, e5, e6] 37)) (.int .i64 0) (.int .i64 0) (.int .i64 0) (.int .i64 0) (.slice none 0 0) (.slice none 0 0) (.slice none 0 0) 26
    rwa [show ((w.alloc (.cells (mapCells m s).toArray 26)).alloc (.cells #[e0, e1, e2, e3, e4, e5, e6] 37)).heap.size = w.heap.size + 1 + 1 by simp] at this
  have HCK : Hid (∀ W, Below w.heap.size w W → Calls Tryz.prog 17 #[.agg (mapCells m s).toArray] W fun e w' => e = .returned (.int .i64 0) ∧ Below W.heap.size W w') := fun W hb => check_bare hB W (h.below hb).map
  have HCL : Hid (∀ W, Below w.heap.size w W → Calls Tryz.prog 36 #[.agg (mapCells m s).toArray] W fun e w' => Below W.heap.size W w' ∧ ∃ s3, e = .returned (.agg #[.int .i64 m.ep, .int .i64 m.size, .int .i64 m.mn, .int .i64 m.gr, .slice s3.aN s3.lN s3.cN, .slice s3.aT s3.lT s3.cT, .slice s3.aR s3.lR s3.cR]) ∧ OwnBare w' W.heap.size m s3 ∧ (m.nds = [] → s3.aN = none ∧ s3.lN = 0 ∧ s3.cN = 0)) := fun W hb => clone_bare (by omega) (by have := hB.nds.1; omega) W (h.below hb)
  have HRF : Hid (∀ W s', NdsAt W s'.aN s'.lN s'.cN m.nds → Calls Tryz.prog 37 #[.agg (mapCells m s').toArray, .agg #[e0, e1, e2, e3, e4, e5, e6]] W fun e w' => e = .returned (.int .i64 0) ∧ Below W.heap.size W w') := hRef
  have HTU : Hid (∀ pm N s', (m.nds = [] → s'.aN = none ∧ s'.lN = 0 ∧ s'.cN = 0) → ∀ W, Live W pm N m s' → N ≤ W.heap.size → Calls Tryz.prog 38 #[.pointer (some ⟨pm, 0, none⟩), .agg #[e0, e1, e2, e3, e4, e5, e6]] W fun e w' => e = .returned (.tuple #[]) ∧ (∃ s', Live w' pm N (turnM m m' n) s') ∧ Below N W w') := fun pm N s' hs W hl hN => turn_bare e0 e1 e2 e3 e4 e5 e6 hB.stand hS' hgr hn8 hcount ⟨hB.ep0, hep⟩ (by have := hc.1; have := hc.2.1; omega) hm' hfew hCon (hCh pm N s' hs) W hl hN
  clear hRef hCon hCh hfew hm' hep hgr hS' hB h hc htn hcount hn8
  rw [map_split] at *
  generalize hMT : turnM m m' n = MT at *
  clear hMT
  have hl1 := HBM.out.lt
  have hl2 := HBD.out.lt
  have hl3 := HBR.out.lt
  obtain ⟨⟨c0, c1, c2, c3, c4, c5, c6⟩, -⟩ := HBM.out
  go_enter Tryz.func15, Tryz.ntmps15
  go_upto_region 1 with fail
  rw [show ((w.alloc (.cells #[.int .i64 m.ep, .int .i64 m.size, .int .i64 m.mn, .int .i64 m.gr, .slice s.aN s.lN s.cN, .slice s.aT s.lT s.cT, .slice s.aR s.lR s.cR] 26)).alloc (.cells #[e0, e1, e2, e3, e4, e5, e6] 37)).alloc (.cells #[.int .i64 0, .int .i64 0, .int .i64 0, .int .i64 0, .slice none 0 0, .slice none 0 0, .slice none 0 0] 26) = w1 from hw1.symm]
  clear hw1
  go_upto_region 3 with (go_at_call 17; refine (HCK.out _ hb1).mono ?_; rintro e w2 ⟨rfl, hb2⟩)
  clear c0 c1 c2 c3 c4 c5 c6
  obtain ⟨⟨c0, c1, c2, c3, c4, c5, c6⟩, -⟩ := HBM.out.below hb2
  go_upto_region 4 with (go_at_call 36; refine (HCL.out _ (below2 hb1 hb2)).mono ?_; rintro e w3 ⟨hb3, s3, rfl, hO3, hnil3⟩)
  have hb3w : Below w.heap.size w w3 := below2 hb1 (below2 hb2 hb3)
  have HLV : Hid (Live (w3.alloc (.cells #[.int .i64 m.ep, .int .i64 m.size, .int .i64 m.mn, .int .i64 m.gr, .slice s3.aN s3.lN s3.cN, .slice s3.aT s3.lT s3.cT, .slice s3.aR s3.lR s3.cR] 26)) w3.heap.size w2.heap.size m s3) := ⟨Box7.new w3 _ _ _ _ _ _ _ _, BoxTy.new _ _ _, hO3.below (below_alloc _ _), hb3.size⟩
  have HBD4 : Hid (Box7 (w3.alloc (.cells #[.int .i64 m.ep, .int .i64 m.size, .int .i64 m.mn, .int .i64 m.gr, .slice s3.aN s3.lN s3.cN, .slice s3.aT s3.lT s3.cT, .slice s3.aR s3.lR s3.cR] 26)) (w.heap.size + 1) e0 e1 e2 e3 e4 e5 e6) := ((HBD.out.below hb2).below hb3).below (below_alloc _ _)
  have HBR2 : Hid (Box7 w2 (w.heap.size + 1 + 1) (.int .i64 0) (.int .i64 0) (.int .i64 0) (.int .i64 0) (.slice none 0 0) (.slice none 0 0) (.slice none 0 0)) := HBR.out.below hb2
  have hb24 : Below w2.heap.size w2 (w3.alloc (.cells #[.int .i64 m.ep, .int .i64 m.size, .int .i64 m.mn, .int .i64 m.gr, .slice s3.aN s3.lN s3.cN, .slice s3.aT s3.lT s3.cT, .slice s3.aR s3.lR s3.cR] 26)) := below2 hb3 (below_alloc _ _)
  have hbw2 : Below w.heap.size w w2 := below2 hb1 hb2
  have HRF4 : Hid (Calls Tryz.prog 37 #[.agg #[.int .i64 m.ep, .int .i64 m.size, .int .i64 m.mn, .int .i64 m.gr, .slice s3.aN s3.lN s3.cN, .slice s3.aT s3.lT s3.cT, .slice s3.aR s3.lR s3.cR], .agg #[e0, e1, e2, e3, e4, e5, e6]] (w3.alloc (.cells #[.int .i64 m.ep, .int .i64 m.size, .int .i64 m.mn, .int .i64 m.gr, .slice s3.aN s3.lN s3.cN, .slice s3.aT s3.lT s3.cT, .slice s3.aR s3.lR s3.cR] 26)) fun e w' => e = .returned (.int .i64 0) ∧ Below (w3.alloc (.cells #[.int .i64 m.ep, .int .i64 m.size, .int .i64 m.mn, .int .i64 m.gr, .slice s3.aN s3.lN s3.cN, .slice s3.aT s3.lT s3.cT, .slice s3.aR s3.lR s3.cR] 26)).heap.size (w3.alloc (.cells #[.int .i64 m.ep, .int .i64 m.size, .int .i64 m.mn, .int .i64 m.gr, .slice s3.aN s3.lN s3.cN, .slice s3.aT s3.lT s3.cT, .slice s3.aR s3.lR s3.cR] 26)) w') := HRF.out _ s3 HLV.out.own.bare.nds
  have HTU4 : Hid (∀ W, Live W w3.heap.size w2.heap.size m s3 → w2.heap.size ≤ W.heap.size → Calls Tryz.prog 38 #[.pointer (some ⟨w3.heap.size, 0, none⟩), .agg #[e0, e1, e2, e3, e4, e5, e6]] W fun e w' => e = .returned (.tuple #[]) ∧ (∃ s', Live w' w3.heap.size w2.heap.size MT s') ∧ Below w2.heap.size W w') := HTU.out w3.heap.size w2.heap.size s3 hnil3
  clear HCK HCL HRF HTU hO3 hnil3 c0 c1 c2 c3 c4 c5 c6 HBM HBD HBR hb1 hb2
  have hl4 : w3.heap.size < (w3.alloc (.cells #[.int .i64 m.ep, .int .i64 m.size, .int .i64 m.mn, .int .i64 m.gr, .slice s3.aN s3.lN s3.cN, .slice s3.aT s3.lT s3.cT, .slice s3.aR s3.lR s3.cR] 26)).heap.size := by simp
  generalize hw4 : w3.alloc (.cells #[.int .i64 m.ep, .int .i64 m.size, .int .i64 m.mn, .int .i64 m.gr, .slice s3.aN s3.lN s3.cN, .slice s3.aT s3.lT s3.cT, .slice s3.aR s3.lR s3.cR] 26) = w4 at *
  clear hw4
  obtain ⟨⟨c0, c1, c2, c3, c4, c5, c6⟩, -⟩ := HLV.out.box
  obtain ⟨⟨d0, d1, d2, d3, d4, d5, d6⟩, -⟩ := HBD4.out
  go_upto_region 6 with (go_at_call 37; refine HRF4.out.mono ?_; rintro e w5 ⟨rfl, hb5⟩)
  have HL5 : Hid (Live w5 w3.heap.size w2.heap.size m s3) := HLV.out.below hb5
  have hb25 : Below w2.heap.size w2 w5 := below2 hb24 hb5
  clear c0 c1 c2 c3 c4 c5 c6 d0 d1 d2 d3 d4 d5 d6
  obtain ⟨⟨d0, d1, d2, d3, d4, d5, d6⟩, -⟩ := HBD4.out.below hb5
  have HTU5 : Hid (Calls Tryz.prog 38 #[.pointer (some ⟨w3.heap.size, 0, none⟩), .agg #[e0, e1, e2, e3, e4, e5, e6]] w5 fun e w' => e = .returned (.tuple #[]) ∧ (∃ s', Live w' w3.heap.size w2.heap.size MT s') ∧ Below w2.heap.size w5 w') := HTU4.out w5 HL5.out hb25.size
  clear HTU4 HRF4 HLV HBD4 hb24 hb5 hl4 HL5
  go_upto_region 7 with (go_at_call 38; refine HTU5.out.mono ?_; rintro e w6 ⟨rfl, ⟨s6, hl6⟩, hb6⟩; have HL6 := show Hid (Live w6 w3.heap.size w2.heap.size MT s6) from hl6; clear hl6)
  have hb26 : Below w2.heap.size w2 w6 := hb25.trans hb6
  have HBR6 : Hid (Box7 w6 (w.heap.size + 1 + 1) (.int .i64 0) (.int .i64 0) (.int .i64 0) (.int .i64 0) (.slice none 0 0) (.slice none 0 0) (.slice none 0 0)) := HBR2.out.below hb26
  have hrl : w.heap.size + 1 + 1 < w2.heap.size := HBR2.out.lt
  have hbw6 : Below w.heap.size w w6 := below2 hbw2 hb26
  clear d0 d1 d2 d3 d4 d5 d6 HTU5 hb25 hb6
  obtain ⟨⟨c0, c1, c2, c3, c4, c5, c6⟩, -⟩ := HL6.out.box
  obtain ⟨⟨r0, r1, r2, r3, r4, r5, r6⟩, ⟨f0, f1, f2, f3, f4, f5, f6⟩⟩ := HBR6.out
  have HFO : Hid (OwnBare (set7 w6 (w.heap.size + 1 + 1) (.int .i64 MT.ep) (.int .i64 MT.size) (.int .i64 MT.mn) (.int .i64 MT.gr) (.slice s6.aN s6.lN s6.cN) (.slice s6.aT s6.lT s6.cT) (.slice s6.aR s6.lR s6.cR)) w.heap.size MT s6) := (HL6.out.own.else (set7_grownBy _ _ _ _ _ _ _ _ _) hrl).base hbw2.size
  have HFB : Hid (Below w.heap.size w (set7 w6 (w.heap.size + 1 + 1) (.int .i64 MT.ep) (.int .i64 MT.size) (.int .i64 MT.mn) (.int .i64 MT.gr) (.slice s6.aN s6.lN s6.cN) (.slice s6.aT s6.lT s6.cT) (.slice s6.aR s6.lR s6.cR))) := set7_below hbw6 (by omega) _ _ _ _ _ _ _
  go_wp2_with fail
  refine bodyPost_ret (ret_maperr rfl _ _ (w.heap.size + 1 + 1) MT s6 _ rfl rfl (HBR6.out.set _ _ _ _ _ _ _).1.1 (HBR6.out.set _ _ _ _ _ _ _).1.2.1 (HBR6.out.set _ _ _ _ _ _ _).1.2.2.1 (HBR6.out.set _ _ _ _ _ _ _).1.2.2.2.1 (HBR6.out.set _ _ _ _ _ _ _).1.2.2.2.2.1 (HBR6.out.set _ _ _ _ _ _ _).1.2.2.2.2.2.1 (HBR6.out.set _ _ _ _ _ _ _).1.2.2.2.2.2.2) rfl ?_
  exact ⟨HFB.out, s6, rfl, HFO.out⟩
end Go.Proofs.YtcncbjknfcjnmaaGreat.Tp
namespace Go.Proofs.YtcncbjknfcjnmaaGreat.Tp
open Go.ChangeShapes Go.WideShapes Go.ChangeAt Go.RowKit
theorem hasGroup_any (m : Mp) (s : MV) (g : Int) (h : 1 ≤ m.gr ∧ m.gr ≤ 8) (w : World) : Calls Tryz.prog 52 #[.agg (mapCells m s).toArray, .int .i64 g] w fun e w' => e = .returned (.bool (inB g 0 (m.gr - 1))) ∧ Below w.heap.size w w' := by
  have HW : Hid (∀ w : World, Calls Tryz.prog 39 #[.int .i64 g, .int .i64 0, .int .i64 (m.gr - 1)] w fun e w' => e = .returned (.bool (inB g 0 (m.gr - 1))) ∧ w' = w) := mwithin_any g 0 (m.gr - 1)
  rw [map_split]
  obtain ⟨ep, sz, mn, gr, nds, tms, trs⟩ := m
  obtain ⟨aN, lN, cN, aT, lT, cT, aR, lR, cR⟩ := s
  simp only at *
  obtain ⟨h1, h2⟩ := h
  generalize inB g 0 (gr - 1) = q at *
  go_enter Tryz.func52, Tryz.ntmps52
  go_wp2_with (go_at_call 39; refine (HW.out _).mono ?_; rintro e w' ⟨rfl, hw'⟩; obtain rfl := hw'.symm)
  go_ret
  exact ⟨rfl, below_alloc _ _⟩
set_option maxRecDepth 60000 in
theorem rawX_yes {m : Mp} {s : MV} (hS : StandOk m) {g : Int} (hg : 0 ≤ g ∧ g < m.gr) (h8 : m.gr ≤ 8) (w : World) (hck : ∀ W, Below w.heap.size w W → Calls Tryz.prog 17 #[.agg (mapCells m s).toArray] W fun e w' => e = .returned (.int .i64 0) ∧ Below W.heap.size W w') (hN : NdsAt w s.aN s.lN s.cN m.nds) (hT : TmsAt w s.aT s.lT s.cT m.tms) :
    Calls Tryz.prog 23 #[.agg (mapCells m s).toArray, .int .i64 g] w fun e w' => IntsPost (rawP m g) w e w' := by
  have HCK : Hid (∀ W, Below w.heap.size w W → Calls Tryz.prog 17 #[.agg (mapCells m s).toArray] W fun e w' => e = .returned (.int .i64 0) ∧ Below W.heap.size W w') := hck
  have HHG : Hid (∀ W, Calls Tryz.prog 52 #[.agg (mapCells m s).toArray, .int .i64 g] W fun e w' => e = .returned (.bool true) ∧ Below W.heap.size W w') := fun W => (hasGroup_any m s g (by omega) W).mono fun e w' ⟨he, hb⟩ => ⟨by rw [he, (inB_iff g 0 (m.gr - 1)).2 (by omega)], hb⟩
  have HRW : Hid (∀ W, Below w.heap.size w W → Calls Tryz.prog 53 #[.agg (mapCells m s).toArray, .int .i64 g] W fun e w' => IntsPost (rawP m g) W e w') := fun W hb => raw_any hS (by omega) W (hN.below hb) (hT.below hb)
  have hb1 := below_alloc w (.cells (mapCells m s).toArray 26)
  clear hck hN hT hS hg h8
  rw [map_split] at *
  generalize rawP m g = out at *
  obtain ⟨ep, sz, mn, gr, nds, tms, trs⟩ := m
  obtain ⟨aN, lN, cN, aT, lT, cT, aR, lR, cR⟩ := s
  simp only [mapCells] at *
  have HBX : Hid (Box7 (w.alloc (.cells #[.int .i64 ep, .int .i64 sz, .int .i64 mn, .int .i64 gr, .slice aN lN cN, .slice aT lT cT, .slice aR lR cR] 26)) w.heap.size (.int .i64 ep) (.int .i64 sz) (.int .i64 mn) (.int .i64 gr) (.slice aN lN cN) (.slice aT lT cT) (.slice aR lR cR)) := Box7.new w _ _ _ _ _ _ _ _
  go_enter Tryz.func23, Tryz.ntmps23
  go_wp2_with (first
    | (go_at_call 17; refine (HCK.out _ hb1).mono ?_; rintro e w2 ⟨rfl, hb2⟩; obtain ⟨⟨c0, c1, c2, c3, c4, c5, c6⟩, -⟩ := HBX.out.below hb2)
    | (go_at_call 52; refine (HHG.out _).mono ?_; rintro e w3 ⟨rfl, hb3⟩; obtain ⟨⟨d0, d1, d2, d3, d4, d5, d6⟩, -⟩ := (HBX.out.below hb2).below hb3)
    | (go_at_call 53; refine (HRW.out _ (below2 hb1 (below2 hb2 hb3))).mono ?_; rintro e w4 ⟨hb4, a4, cp4, rfl, hO4⟩; have HO4 := show Hid (IntsOwn w3.heap.size w4 a4 cp4 out) from hO4; clear hO4))
  go_ret
  exact ⟨below2 hb1 (below2 hb2 (below2 hb3 hb4)), a4, cp4, rfl, HO4.out.base (below2 hb1 (below2 hb2 hb3)).size⟩
set_option maxRecDepth 60000 in
theorem actX_yes {m : Mp} {s : MV} (hS : StandOk m) {g : Int} (hg : 0 ≤ g ∧ g < m.gr) (h8 : m.gr ≤ 8) (w : World) (hck : ∀ W, Below w.heap.size w W → Calls Tryz.prog 17 #[.agg (mapCells m s).toArray] W fun e w' => e = .returned (.int .i64 0) ∧ Below W.heap.size W w') (hN : NdsAt w s.aN s.lN s.cN m.nds) (hT : TmsAt w s.aT s.lT s.cT m.tms) :
    Calls Tryz.prog 25 #[.agg (mapCells m s).toArray, .int .i64 g] w fun e w' => IntsPost (actP m g) w e w' := by
  have HCK : Hid (∀ W, Below w.heap.size w W → Calls Tryz.prog 17 #[.agg (mapCells m s).toArray] W fun e w' => e = .returned (.int .i64 0) ∧ Below W.heap.size W w') := hck
  have HHG : Hid (∀ W, Calls Tryz.prog 52 #[.agg (mapCells m s).toArray, .int .i64 g] W fun e w' => e = .returned (.bool true) ∧ Below W.heap.size W w') := fun W => (hasGroup_any m s g (by omega) W).mono fun e w' ⟨he, hb⟩ => ⟨by rw [he, (inB_iff g 0 (m.gr - 1)).2 (by omega)], hb⟩
  have HRW : Hid (∀ W, Below w.heap.size w W → Calls Tryz.prog 56 #[.agg (mapCells m s).toArray, .int .i64 g] W fun e w' => IntsPost (actP m g) W e w') := fun W hb => acting_any hS (by omega) W (hN.below hb) (hT.below hb)
  have hb1 := below_alloc w (.cells (mapCells m s).toArray 26)
  clear hck hN hT hS hg h8
  rw [map_split] at *
  generalize actP m g = out at *
  obtain ⟨ep, sz, mn, gr, nds, tms, trs⟩ := m
  obtain ⟨aN, lN, cN, aT, lT, cT, aR, lR, cR⟩ := s
  simp only [mapCells] at *
  have HBX : Hid (Box7 (w.alloc (.cells #[.int .i64 ep, .int .i64 sz, .int .i64 mn, .int .i64 gr, .slice aN lN cN, .slice aT lT cT, .slice aR lR cR] 26)) w.heap.size (.int .i64 ep) (.int .i64 sz) (.int .i64 mn) (.int .i64 gr) (.slice aN lN cN) (.slice aT lT cT) (.slice aR lR cR)) := Box7.new w _ _ _ _ _ _ _ _
  go_enter Tryz.func25, Tryz.ntmps25
  go_wp2_with (first
    | (go_at_call 17; refine (HCK.out _ hb1).mono ?_; rintro e w2 ⟨rfl, hb2⟩; obtain ⟨⟨c0, c1, c2, c3, c4, c5, c6⟩, -⟩ := HBX.out.below hb2)
    | (go_at_call 52; refine (HHG.out _).mono ?_; rintro e w3 ⟨rfl, hb3⟩; obtain ⟨⟨d0, d1, d2, d3, d4, d5, d6⟩, -⟩ := (HBX.out.below hb2).below hb3)
    | (go_at_call 56; refine (HRW.out _ (below2 hb1 (below2 hb2 hb3))).mono ?_; rintro e w4 ⟨hb4, a4, cp4, rfl, hO4⟩; have HO4 := show Hid (IntsOwn w3.heap.size w4 a4 cp4 out) from hO4; clear hO4))
  go_ret
  exact ⟨below2 hb1 (below2 hb2 (below2 hb3 hb4)), a4, cp4, rfl, HO4.out.base (below2 hb1 (below2 hb2 hb3)).size⟩
/-- what awake asks, plainly -/
def n5 : Nd := ⟨5, 1, 1, 3, false, true⟩
def n5u : Nd := ⟨5, 1, 1, 3, true, true⟩
def aw0 : Mp := newM 3 2 4
def aw0' : Mp := { aw0 with nds := [n5] }
def aw1 : Mp := turnM aw0 aw0' 4
def aw1' : Mp := { aw1 with nds := [n5u] }
def aw2 : Mp := turnM aw1 aw1' 4
theorem n5_in : InN n5 := by unfold InN; decide
theorem n5u_in : InN n5u := by unfold InN; decide
theorem of_empty (g : Int) (n : Nat) : ofP [] g n = [] := by
  have hM : MayN [] := ⟨Nat.zero_le _, fun i hi => by simp at hi⟩
  rw [of_eq hM]
  have hp : (ordF (keyOf g 1 0 0) (zonesOf [])).Perm ((Dr.heavy (zonesOf [])).map (·.1)) := ord_perm _ (sumF_may hM)
  have hh : (Dr.heavy (zonesOf [])).map (·.1) = [] := by decide +kernel
  rw [hh] at hp
  unfold zsOf
  rw [List.perm_nil.1 hp]
  simp
theorem of_n5 (g : Int) (n : Nat) : ofP [n5] g (n + 1) = [5] := by
  have hM : MayN [n5] := one_may n5_in
  have hzo : zonesOf [n5] = [(1, 3)] := by decide +kernel
  rw [of_eq hM]
  have hp : (ordF (keyOf g 1 0 0) (zonesOf [n5])).Perm ((Dr.heavy (zonesOf [n5])).map (·.1)) := ord_perm _ (sumF_may hM)
  have hh : (Dr.heavy (zonesOf [n5])).map (·.1) = [1] := by rw [hzo]; decide
  rw [hh] at hp
  have hz : zsOf [n5] g (n + 1) = [1] := by
    unfold zsOf
    rw [List.perm_singleton.1 hp]
    simp
  rw [hz]
  obtain ⟨m, hm, _, _, _, e⟩ := pk_one hM g (z := 1) ⟨(1, 3), by rw [hzo]; simp, by decide, rfl⟩
  rw [List.map_cons, List.map_nil, e]
  simp at hm
  rw [hm]
  rfl
theorem of_n5u (g : Int) (n : Nat) : ofP [n5u] g (n + 1) = [5] := by
  have hM : MayN [n5u] := one_may n5u_in
  have hzo : zonesOf [n5u] = [(1, 3)] := by decide +kernel
  rw [of_eq hM]
  have hp : (ordF (keyOf g 1 0 0) (zonesOf [n5u])).Perm ((Dr.heavy (zonesOf [n5u])).map (·.1)) := ord_perm _ (sumF_may hM)
  have hh : (Dr.heavy (zonesOf [n5u])).map (·.1) = [1] := by rw [hzo]; decide
  rw [hh] at hp
  have hz : zsOf [n5u] g (n + 1) = [1] := by
    unfold zsOf
    rw [List.perm_singleton.1 hp]
    simp
  rw [hz]
  obtain ⟨m, hm, _, _, _, e⟩ := pk_one hM g (z := 1) ⟨(1, 3), by rw [hzo]; simp, by decide, rfl⟩
  rw [List.map_cons, List.map_nil, e]
  simp at hm
  rw [hm]
  rfl
theorem raw_eq {m : Mp} (ht : m.tms = []) (g : Int) : rawP m g = ofP m.nds g m.size.toNat := by unfold rawP; rw [ht]; rfl
theorem act_eq {m : Mp} (ht : m.tms = []) (g : Int) : actP m g = (ofP m.nds g m.size.toNat).filter (upB m.nds) := by unfold actP; rw [raw_eq ht]
theorem act0 (g : Int) : actP aw0 g = [] := by
  rw [act_eq rfl, show aw0.nds = [] from rfl, show aw0.size.toNat = 3 from rfl, of_empty]
  rfl
theorem act0' (g : Int) : actP aw0' g = [] := by
  rw [act_eq rfl, show aw0'.nds = [n5] from rfl, show aw0'.size.toNat = 2 + 1 from rfl, of_n5]
  rfl
theorem act1' (g : Int) : actP aw1' g = [5] := by
  rw [act_eq rfl, show aw1'.nds = [n5u] from rfl, show aw1'.size.toNat = 2 + 1 from rfl, of_n5u]
  rfl
theorem act1 (g : Int) : actP aw1 g = [] := by
  rw [act_eq rfl, show aw1.nds = [n5] from rfl, show aw1.size.toNat = 2 + 1 from rfl, of_n5]
  rfl
theorem act2 (g : Int) : actP aw2 g = [5] := by
  rw [act_eq rfl, show aw2.nds = [n5u] from rfl, show aw2.size.toNat = 2 + 1 from rfl, of_n5u]
  rfl
theorem raw1 (g : Int) : rawP aw1 g = [5] := by
  rw [raw_eq rfl, show aw1.nds = [n5] from rfl, show aw1.size.toNat = 2 + 1 from rfl, of_n5]
theorem turnTrs_mem (m m' : Mp) (k : Nat) : ∀ t ∈ turnTrs m m' k, t ∈ m.trs ∨ t = ⟨m.ep + 1, []⟩ := by
  induction k with
  | zero => exact fun t ht => .inl ht
  | succ k ih =>
    intro t ht
    unfold turnTrs at ht
    split at ht
    · exact ih t ht
    · rcases List.mem_or_eq_of_mem_set ht with h | h
      · exact ih t h
      · exact .inr h
theorem turn_ok {m m' : Mp} (h : BareOk m) (hm' : m' = { m with nds := m'.nds }) (hN : MayN m'.nds) (hep : m.ep < 2147483647) (n : Nat) : BareOk (turnM m m' n) := by
  have e1 : m'.size = m.size := by rw [hm']
  have e2 : m'.mn = m.mn := by rw [hm']
  have e3 : m'.gr = m.gr := by rw [hm']
  have e4 : m'.tms = m.tms := by rw [hm']
  have := h.ep0
  refine ⟨by show 0 ≤ m.ep + 1; omega, by show m.ep + 1 ≤ _; omega, ?_, hN, e4.trans h.tms, ?_, ?_⟩
  · show CountOk m'.size m'.mn m'.gr
    rw [e1, e2, e3]
    exact h.cnt
  · show ((turnTrs m m' n).length : Int) = m'.gr
    rw [turnTrs_len, e3]
    exact h.trn
  · intro t ht
    rcases turnTrs_mem m m' n t ht with h1 | h1
    · obtain ⟨q1, q2, q3⟩ := h.trs t h1
      exact ⟨q1, q2, by show t.since ≤ m.ep + 1; omega⟩
    · rw [h1]
      exact ⟨rfl, by show 0 ≤ m.ep + 1; omega, Int.le_refl _⟩
theorem aw0_ok : BareOk aw0 := new_ok (n := 4) (by unfold CountOk; decide)
theorem aw1_ok : BareOk aw1 := turn_ok aw0_ok rfl (one_may n5_in) (by decide) 4
theorem aw2_ok : BareOk aw2 := turn_ok aw1_ok rfl (one_may n5u_in) (by decide) 4
theorem aw0'_stand : StandOk aw0' := ⟨by decide, one_may n5_in, fun i j _ hj => by simp [aw0', aw0, newM] at hj, Nat.zero_le _, fun t ht => by simp [aw0', aw0, newM] at ht⟩
theorem aw1'_stand : StandOk aw1' := ⟨by decide, one_may n5u_in, fun i j _ hj => by simp [aw1', aw1, turnM, aw0', aw0, newM] at hj, Nat.zero_le _, fun t ht => by simp [aw1', aw1, turnM, aw0', aw0, newM] at ht⟩
theorem apply_one {s : MV} (w : World) (h : BareAt w aw0 s) : Calls Tryz.prog 15 #[.agg (mapCells aw0 s).toArray, .agg #[.int .i64 1, .int .i64 5, .int .i64 1, .int .i64 1, .int .i64 3, .int .i64 0, .slice none 0 0]] w fun e w' => BarePost aw1 w e w' :=
  apply_bare (m' := aw0') 4 _ _ _ _ _ _ _ aw0_ok aw0'_stand rfl (by decide) rfl (fun k _ hne => absurd ((act0 k).trans (act0' k).symm) hne) (fun W s' hN => refusal_add (id := 5) (z := 1) (r := 1) (wt := 3) n5_in rfl (by decide) W hN) (fun W g => concerns_add g 5 1 1 3 W) (fun pm N s' hs W hl hN => change_add (id := 5) (z := 1) (r := 1) (wt := 3) rfl (hs rfl) W hl hN) w h
theorem apply_two {s : MV} (w : World) (h : BareAt w aw1 s) : Calls Tryz.prog 15 #[.agg (mapCells aw1 s).toArray, .agg #[.int .i64 3, .int .i64 5, .int .i64 0, .int .i64 0, .int .i64 0, .int .i64 0, .slice none 0 0]] w fun e w' => BarePost aw2 w e w' :=
  apply_bare (m' := aw1') 4 _ _ _ _ _ _ _ aw1_ok aw1'_stand rfl (by decide) rfl (fun k _ _ => by rw [act1]; decide) (fun W s' hN => refusal_up (id := 5) (c2 := 1) (c3 := 1) (c4 := 3) (c6 := true) n5_in rfl (by decide) W hN) (fun W g => concerns_up g 5 0 0 0 W) (fun pm N s' hs W hl hN => change_up (id := 5) (c2 := 1) (c3 := 1) (c4 := 3) (c6 := true) n5_in rfl W hl hN) w h
end Go.Proofs.YtcncbjknfcjnmaaGreat.Tp
namespace Go.Proofs.YtcncbjknfcjnmaaGreat.Tp
open Go.ChangeShapes Go.WideShapes Go.ChangeAt Go.RowKit
theorem ints_row {w : World} {B : Nat} {a : Option Addr} {c : Nat} {l : List Int} (h : IntsOwn B w a c l) : RowI w a l.length c l := own_rowI h.2
theorem five_row (w : World) : RowI (w.alloc (.cells #[.int .i64 5] 3)) (some ⟨w.heap.size, 0, none⟩) 1 1 [5] :=
  ⟨rfl, Nat.le_refl _, by unfold maxLen; omega, fun h => by simp at h, .inr ⟨w.heap.size, 0, rfl, fun i hi => by
    obtain rfl : i = 0 := by omega
    simp⟩⟩
set_option maxHeartbeats 2000000 in
set_option maxRecDepth 60000 in
theorem awake_any (w : World) : Calls Tryz.prog 11 #[] w fun e w' => TruePost w e w' := by
  have HNEW : Hid (∀ W, Calls Tryz.prog 9 #[.int .i64 3, .int .i64 2, .int .i64 4] W fun e w' => ∃ s0 : MV, e = .returned (.tuple #[.agg #[.int .i64 0, .int .i64 3, .int .i64 2, .int .i64 4, .slice s0.aN s0.lN s0.cN, .slice s0.aT s0.lT s0.cT, .slice s0.aR s0.lR s0.cR], .int .i64 0]) ∧ BareAt w' aw0 s0 ∧ Below W.heap.size W w') := fun W =>
    (new_yes (s := 3) (l := 2) (n := 4) (by unfold CountOk; decide) W).mono fun e w' ⟨hb, p, he, ho⟩ => ⟨_, he, bare_new (n := 4) 3 2 (by decide) ho, hb⟩
  have HAP1 : Hid (∀ W s0, BareAt W aw0 s0 → Calls Tryz.prog 15 #[.agg #[.int .i64 0, .int .i64 3, .int .i64 2, .int .i64 4, .slice s0.aN s0.lN s0.cN, .slice s0.aT s0.lT s0.cT, .slice s0.aR s0.lR s0.cR], .agg #[.int .i64 1, .int .i64 5, .int .i64 1, .int .i64 1, .int .i64 3, .int .i64 0, .slice none 0 0]] W fun e w' => ∃ s1 : MV, e = .returned (.tuple #[.agg #[.int .i64 1, .int .i64 3, .int .i64 2, .int .i64 4, .slice s1.aN s1.lN s1.cN, .slice s1.aT s1.lT s1.cT, .slice s1.aR s1.lR s1.cR], .int .i64 0]) ∧ OwnBare w' W.heap.size aw1 s1 ∧ Below W.heap.size W w') := fun W s0 h => (apply_one W h).mono fun e w' ⟨hb, s, he, ho⟩ => ⟨s, he, ho, hb⟩
  have HAP2 : Hid (∀ W s1, BareAt W aw1 s1 → Calls Tryz.prog 15 #[.agg #[.int .i64 1, .int .i64 3, .int .i64 2, .int .i64 4, .slice s1.aN s1.lN s1.cN, .slice s1.aT s1.lT s1.cT, .slice s1.aR s1.lR s1.cR], .agg #[.int .i64 3, .int .i64 5, .int .i64 0, .int .i64 0, .int .i64 0, .int .i64 0, .slice none 0 0]] W fun e w' => ∃ s2 : MV, e = .returned (.tuple #[.agg #[.int .i64 2, .int .i64 3, .int .i64 2, .int .i64 4, .slice s2.aN s2.lN s2.cN, .slice s2.aT s2.lT s2.cT, .slice s2.aR s2.lR s2.cR], .int .i64 0]) ∧ OwnBare w' W.heap.size aw2 s2 ∧ Below W.heap.size W w') := fun W s1 h => (apply_two W h).mono fun e w' ⟨hb, s, he, ho⟩ => ⟨s, he, ho, hb⟩
  have HRAW : Hid (∀ W s1, BareAt W aw1 s1 → Calls Tryz.prog 23 #[.agg #[.int .i64 1, .int .i64 3, .int .i64 2, .int .i64 4, .slice s1.aN s1.lN s1.cN, .slice s1.aT s1.lT s1.cT, .slice s1.aR s1.lR s1.cR], .int .i64 0] W fun e w' => ∃ a c, e = .returned (.slice a 1 c) ∧ RowI w' a 1 c [5] ∧ Below W.heap.size W w') := fun W s1 h => (rawX_yes aw1_ok.stand (by decide) (by decide) W (fun W' hb => check_bare aw1_ok W' (h.below hb).map) h.nds h.map.tms).mono fun e w' ⟨hb, a, c, he, hO⟩ => by
    rw [raw1] at he hO
    exact ⟨a, c, he, ints_row hO, hb⟩
  have HAC1 : Hid (∀ W s1, BareAt W aw1 s1 → Calls Tryz.prog 25 #[.agg #[.int .i64 1, .int .i64 3, .int .i64 2, .int .i64 4, .slice s1.aN s1.lN s1.cN, .slice s1.aT s1.lT s1.cT, .slice s1.aR s1.lR s1.cR], .int .i64 0] W fun e w' => ∃ a c, e = .returned (.slice a 0 c) ∧ Below W.heap.size W w') := fun W s1 h => (actX_yes aw1_ok.stand (by decide) (by decide) W (fun W' hb => check_bare aw1_ok W' (h.below hb).map) h.nds h.map.tms).mono fun e w' ⟨hb, a, c, he, hO⟩ => by
    rw [act1] at he
    exact ⟨a, c, he, hb⟩
  have HAC2 : Hid (∀ W s2, BareAt W aw2 s2 → Calls Tryz.prog 25 #[.agg #[.int .i64 2, .int .i64 3, .int .i64 2, .int .i64 4, .slice s2.aN s2.lN s2.cN, .slice s2.aT s2.lT s2.cT, .slice s2.aR s2.lR s2.cR], .int .i64 0] W fun e w' => ∃ a c, e = .returned (.slice a 1 c) ∧ RowI w' a 1 c [5] ∧ Below W.heap.size W w') := fun W s2 h => (actX_yes aw2_ok.stand (by decide) (by decide) W (fun W' hb => check_bare aw2_ok W' (h.below hb).map) h.nds h.map.tms).mono fun e w' ⟨hb, a, c, he, hO⟩ => by
    rw [act2] at he hO
    exact ⟨a, c, he, ints_row hO, hb⟩
  have HIN : Hid (∀ (W : World) a c, RowI W a 1 c [5] → Calls Tryz.prog 22 #[.slice a 1 c, .slice (some ⟨W.heap.size, 0, none⟩) 1 1] (W.alloc (.cells #[.int .i64 5] 3)) fun e w' => e = .returned (.bool true) ∧ Below W.heap.size W w') := fun W a c h => (refInts a _ 1 c 1 1 [5] [5] _ (h.below (below_alloc _ _)) (five_row W)).mono fun e w' ⟨he, hg⟩ => ⟨by rw [he]; rfl, below2 (below_alloc _ _) (grown_below hg)⟩
  go_enter Tryz.func11, Tryz.ntmps11
  go_upto_region 2 with (go_at_call 9; refine (HNEW.out _).mono ?_; rintro e w1 ⟨s0, rfl, hB0, hb1⟩; have HB0 := show Hid (BareAt w1 aw0 s0) from hB0; clear hB0)
  have HX1 : Hid (Box7 (w1.alloc (.cells #[.int .i64 0, .int .i64 3, .int .i64 2, .int .i64 4, .slice s0.aN s0.lN s0.cN, .slice s0.aT s0.lT s0.cT, .slice s0.aR s0.lR s0.cR] 26)) w1.heap.size (.int .i64 0) (.int .i64 3) (.int .i64 2) (.int .i64 4) (.slice s0.aN s0.lN s0.cN) (.slice s0.aT s0.lT s0.cT) (.slice s0.aR s0.lR s0.cR)) := Box7.new w1 _ _ _ _ _ _ _ _
  have HB1 : Hid (BareAt (w1.alloc (.cells #[.int .i64 0, .int .i64 3, .int .i64 2, .int .i64 4, .slice s0.aN s0.lN s0.cN, .slice s0.aT s0.lT s0.cT, .slice s0.aR s0.lR s0.cR] 26)) aw0 s0) := HB0.out.below (below_alloc _ _)
  have hbw1 : Below w.heap.size w (w1.alloc (.cells #[.int .i64 0, .int .i64 3, .int .i64 2, .int .i64 4, .slice s0.aN s0.lN s0.cN, .slice s0.aT s0.lT s0.cT, .slice s0.aR s0.lR s0.cR] 26)) := below2 hb1 (below_alloc _ _)
  have hs1 : w.heap.size ≤ w1.heap.size := hb1.size
  clear HB0 HNEW hb1
  have hs1' := HX1.out.lt
  generalize hv1 : w1.alloc (.cells #[.int .i64 0, .int .i64 3, .int .i64 2, .int .i64 4, .slice s0.aN s0.lN s0.cN, .slice s0.aT s0.lT s0.cT, .slice s0.aR s0.lR s0.cR] 26) = v1 at *
  clear hv1
  obtain ⟨⟨c0, c1, c2, c3, c4, c5, c6⟩, -⟩ := HX1.out
  go_upto_region 3 with (go_at_call 15; refine (HAP1.out _ _ HB1.out).mono ?_; rintro e w2 ⟨s1, rfl, hO1, hb2⟩; have HO1 := show Hid (OwnBare w2 v1.heap.size aw1 s1) from hO1; clear hO1; obtain ⟨⟨d0, d1, d2, d3, d4, d5, d6⟩, ⟨f0, f1, f2, f3, f4, f5, f6⟩⟩ := HX1.out.below hb2)
  have HX2 : Hid (Box7 (set7 w2 w1.heap.size (.int .i64 1) (.int .i64 3) (.int .i64 2) (.int .i64 4) (.slice s1.aN s1.lN s1.cN) (.slice s1.aT s1.lT s1.cT) (.slice s1.aR s1.lR s1.cR)) w1.heap.size (.int .i64 1) (.int .i64 3) (.int .i64 2) (.int .i64 4) (.slice s1.aN s1.lN s1.cN) (.slice s1.aT s1.lT s1.cT) (.slice s1.aR s1.lR s1.cR)) := (HX1.out.below hb2).set _ _ _ _ _ _ _
  have HB2 : Hid (BareAt (set7 w2 w1.heap.size (.int .i64 1) (.int .i64 3) (.int .i64 2) (.int .i64 4) (.slice s1.aN s1.lN s1.cN) (.slice s1.aT s1.lT s1.cT) (.slice s1.aR s1.lR s1.cR)) aw1 s1) := (HO1.out.else (set7_grownBy _ _ _ _ _ _ _ _ _) hs1').bare
  have hbw2 : Below w.heap.size w (set7 w2 w1.heap.size (.int .i64 1) (.int .i64 3) (.int .i64 2) (.int .i64 4) (.slice s1.aN s1.lN s1.cN) (.slice s1.aT s1.lT s1.cT) (.slice s1.aR s1.lR s1.cR)) := set7_below (below2 hbw1 hb2) hs1 _ _ _ _ _ _ _
  clear HX1 HB1 HO1 HAP1 hbw1 hb2 hs1' c0 c1 c2 c3 c4 c5 c6 d0 d1 d2 d3 d4 d5 d6 f0 f1 f2 f3 f4 f5 f6
  generalize hv2 : set7 w2 w1.heap.size (.int .i64 1) (.int .i64 3) (.int .i64 2) (.int .i64 4) (.slice s1.aN s1.lN s1.cN) (.slice s1.aT s1.lT s1.cT) (.slice s1.aR s1.lR s1.cR) = v2 at *
  unfold set7 at hv2
  rw [hv2]
  clear hv2
  obtain ⟨⟨c0, c1, c2, c3, c4, c5, c6⟩, -⟩ := HX2.out
  go_upto_region 4 with (go_at_call 15; refine (HAP2.out _ _ HB2.out).mono ?_; rintro e w3 ⟨s2, rfl, hO2, hb3⟩; have HO2 := show Hid (OwnBare w3 v2.heap.size aw2 s2) from hO2; clear hO2)
  have HX3 : Hid (Box7 (w3.alloc (.cells #[.int .i64 2, .int .i64 3, .int .i64 2, .int .i64 4, .slice s2.aN s2.lN s2.cN, .slice s2.aT s2.lT s2.cT, .slice s2.aR s2.lR s2.cR] 26)) w1.heap.size (.int .i64 1) (.int .i64 3) (.int .i64 2) (.int .i64 4) (.slice s1.aN s1.lN s1.cN) (.slice s1.aT s1.lT s1.cT) (.slice s1.aR s1.lR s1.cR)) := (HX2.out.below hb3).below (below_alloc _ _)
  have HY3 : Hid (Box7 (w3.alloc (.cells #[.int .i64 2, .int .i64 3, .int .i64 2, .int .i64 4, .slice s2.aN s2.lN s2.cN, .slice s2.aT s2.lT s2.cT, .slice s2.aR s2.lR s2.cR] 26)) w3.heap.size (.int .i64 2) (.int .i64 3) (.int .i64 2) (.int .i64 4) (.slice s2.aN s2.lN s2.cN) (.slice s2.aT s2.lT s2.cT) (.slice s2.aR s2.lR s2.cR)) := Box7.new w3 _ _ _ _ _ _ _ _
  have HB3 : Hid (BareAt (w3.alloc (.cells #[.int .i64 2, .int .i64 3, .int .i64 2, .int .i64 4, .slice s2.aN s2.lN s2.cN, .slice s2.aT s2.lT s2.cT, .slice s2.aR s2.lR s2.cR] 26)) aw1 s1) := (HB2.out.below hb3).below (below_alloc _ _)
  have HC3 : Hid (BareAt (w3.alloc (.cells #[.int .i64 2, .int .i64 3, .int .i64 2, .int .i64 4, .slice s2.aN s2.lN s2.cN, .slice s2.aT s2.lT s2.cT, .slice s2.aR s2.lR s2.cR] 26)) aw2 s2) := HO2.out.bare.below (below_alloc _ _)
  have hbw3 : Below w.heap.size w (w3.alloc (.cells #[.int .i64 2, .int .i64 3, .int .i64 2, .int .i64 4, .slice s2.aN s2.lN s2.cN, .slice s2.aT s2.lT s2.cT, .slice s2.aR s2.lR s2.cR] 26)) := below2 hbw2 (below2 hb3 (below_alloc _ _))
  clear HX2 HB2 HO2 HAP2 hbw2 hb3 c0 c1 c2 c3 c4 c5 c6
  generalize hv3 : w3.alloc (.cells #[.int .i64 2, .int .i64 3, .int .i64 2, .int .i64 4, .slice s2.aN s2.lN s2.cN, .slice s2.aT s2.lT s2.cT, .slice s2.aR s2.lR s2.cR] 26) = v3 at *
  clear hv3
  obtain ⟨⟨c0, c1, c2, c3, c4, c5, c6⟩, -⟩ := HX3.out
  obtain ⟨⟨d0, d1, d2, d3, d4, d5, d6⟩, -⟩ := HY3.out
  go_wp2_with (first
    | (go_at_call 23; refine (HRAW.out _ _ HB3.out).mono ?_; rintro e w4 ⟨a4, cp4, rfl, hR4, hb4⟩; have HR4 := show Hid (RowI w4 a4 1 cp4 [5]) from hR4; clear hR4)
    | (go_at_call_of 22 a4; refine (HIN.out _ _ _ HR4.out).mono ?_; rintro e w5 ⟨rfl, hb5⟩; have hbv5 := below2 hb4 hb5; have HB5 := show Hid (BareAt w5 aw1 s1) from HB3.out.below hbv5; obtain ⟨⟨p0, p1, p2, p3, p4, p5, p6⟩, -⟩ := HX3.out.below hbv5)
    | (go_at_call_of 25 s1.aN; refine (HAC1.out _ _ HB5.out).mono ?_; rintro e w6 ⟨a6, cp6, rfl, hb6⟩; have hbv6 := below2 hbv5 hb6; have HC6 := show Hid (BareAt w6 aw2 s2) from HC3.out.below hbv6; obtain ⟨⟨q0, q1, q2, q3, q4, q5, q6⟩, -⟩ := HY3.out.below hbv6)
    | (go_at_call_of 25 s2.aN; refine (HAC2.out _ _ HC6.out).mono ?_; rintro e w7 ⟨a7, cp7, rfl, hR7, hb7⟩; have HR7 := show Hid (RowI w7 a7 1 cp7 [5]) from hR7; clear hR7)
    | (go_at_call_of 22 a7; refine (HIN.out _ _ _ HR7.out).mono ?_; rintro e w8 ⟨rfl, hb8⟩))
  go_ret
  exact ⟨rfl, below2 hbw3 (below2 hbv6 (below2 hb7 hb8))⟩
end Go.Proofs.YtcncbjknfcjnmaaGreat.Tp
namespace Go.Proofs.YtcncbjknfcjnmaaGreat.Tp
open Go.ChangeShapes Go.WideShapes Go.ChangeAt Go.RowKit
/-- ints that read as these, whatever the capacity -/
def RowL (w : World) (a : Option Addr) (len : Nat) (l : List Int) : Prop :=
  l.length = len ∧ len ≤ maxLen ∧ (len = 0 ∨ ∃ b off, a = some ⟨b, off, none⟩ ∧ ∀ i, i < len → w.cell? ⟨b, off + i, none⟩ = some (.int .i64 (l.getD i 0)))
theorem RowL.some {w : World} {a : Option Addr} {len : Nat} {l : List Int} (h : RowL w a len l) (h0 : 0 < len) :
    ∃ b off, a = Option.some ⟨b, off, none⟩ ∧ b < w.heap.size ∧ ∀ i, i < len → w.cell? ⟨b, off + i, none⟩ = Option.some (.int .i64 (l.getD i 0)) := by
  rcases h.2.2 with h | ⟨b, off, e, h⟩
  · omega
  · exact ⟨b, off, e, World.block_lt_of_cell? w ⟨b, off + 0, none⟩ (h 0 h0), h⟩
theorem RowL.below {w w' : World} {a : Option Addr} {len : Nat} {l : List Int} (h : RowL w a len l) (hb : Below w.heap.size w w') : RowL w' a len l := by
  refine ⟨h.1, h.2.1, ?_⟩
  rcases h.2.2 with h0 | ⟨b, off, e, hc⟩
  · exact .inl h0
  · refine .inr ⟨b, off, e, fun i hi => ?_⟩
    have hlt : b < w.heap.size := World.block_lt_of_cell? w ⟨b, off + i, none⟩ (hc i hi)
    exact (hb.cell (p := ⟨b, off + i, none⟩) hlt).trans (hc i hi)
theorem RowI.rowL {w : World} {a : Option Addr} {len cap : Nat} {l : List Int} (h : RowI w a len cap l) : RowL w a len l := ⟨h.1, Nat.le_trans h.2.1 h.2.2.1, h.2.2.2.2⟩
theorem IntsAt.rowL {w : World} {a : Option Addr} {l : List Int} (h : IntsAt w a l) (h64 : l.length ≤ 64) : RowL w a l.length l := by
  refine ⟨rfl, by unfold maxLen; omega, ?_⟩
  rcases h with h | ⟨b, e, _, hc⟩
  · exact .inl (by rw [h]; rfl)
  · exact .inr ⟨b, 0, e, fun i hi => by rw [Nat.zero_add]; exact hc i hi⟩
set_option maxHeartbeats 1000000 in
set_option maxRecDepth 60000 in
theorem refIntsL (a b : Option Addr) (la ca lb cb : Nat) (l r : List Int) (w : World) (hl : RowL w a la l) (hr : RowL w b lb r) :
    Calls Tryz.prog 22 #[.slice a la ca, .slice b lb cb] w fun e w' => e = .returned (.bool (decide (l = r))) ∧ Grown w w' := by
  have hla := hl.1
  have hlb := hr.1
  have hma : la ≤ maxLen := hl.2.1
  unfold maxLen at hma
  have HL : Hid (RowL w a la l) := hl
  have HR : Hid (RowL w b lb r) := hr
  clear hl hr
  by_cases hn : la = lb
  · subst hn
    have HE : Hid ((∀ j, j < la → l.getD j 0 = r.getD j 0) → decide (l = r) = true) := fun h => by simpa using eq_of_getD hla hlb h
    have HNE : Hid (∀ j, j < la → l.getD j 0 ≠ r.getD j 0 → decide (l = r) = false) := fun j hj h => by
      rw [decide_eq_false_iff_not]
      intro e
      rw [e] at h
      exact h rfl
    generalize decide (l = r) = q at *
    clear hla hlb
    go_enter Tryz.func22, Tryz.ntmps22
    go_wp2_with fail
    go_loopw [5] (fun i wr => ∃ k : Nat, k ≤ la ∧ i = .int .i64 k ∧ Grown w wr ∧ Hid (∀ j, j < k → l.getD j 0 = r.getD j 0)) (fun i _ => la - (intOf i).toNat)
    case atStart => exact ⟨0, Nat.zero_le _, rfl, grown_refl _, fun j hj => absurd hj (Nat.not_lt_zero _)⟩
    case round =>
      obtain ⟨k, hk, rfl, hgr, hT⟩ := hrel
      by_cases hlt : k < la
      · have hk1 : (k : Int) < (la : Int) := by omega
        have hk0 : (0 : Int) ≤ (k : Int) := by omega
        obtain ⟨p, po, rfl, hp, hcp⟩ := (HL.out.below (grown_below hgr)).some (by omega)
        obtain ⟨q2, qo, rfl, hq, hcq⟩ := (HR.out.below (grown_below hgr)).some (by omega)
        have x0 := cell_grown (a := ⟨p, po + k, none⟩) hp (hcp k hlt)
        have x1 := cell_grown (a := ⟨q2, qo + k, none⟩) hq (hcq k hlt)
        have HG : Hid (∀ n os, Grown w (Go.Sort.grow (wr.drewN n) os)) := fun n os => grown2 hgr ⟨n, os, rfl⟩
        have HNX : Hid (l.getD k 0 = r.getD k 0 → ∀ j, j < k + 1 → l.getD j 0 = r.getD j 0) := fun h j hj => by
          by_cases e : j = k
          · rw [e]; exact h
          · exact hT.out j (by omega)
        have HNK := HNE.out k hlt
        clear hcp hcq hT
        generalize l.getD k 0 = y at *
        generalize r.getD k 0 = z at *
        by_cases hyz : y = z
        · subst hyz
          have HX : Hid (∀ j, j < k + 1 → l.getD j 0 = r.getD j 0) := HNX.out rfl
          clear HNX HNK
          go_wp2_with fail
          refine wp_region_QW mixed5 (by kernel_rfl) ?_
          repeat (refine QW_step (fun K hK => ?_); go_simp; first | (refine hK _ ?_; clear hK K) | (apply Exists.intro; refine ⟨fun _ => ?_, hK _ ?_⟩; fail; clear hK K))
          refine QW_nil ?_
          intro _ hw9
          obtain ⟨⟨nq, osq⟩, hw8⟩ := hw9
          subst hw8
          have hb := HG.out nq osq
          go_wp2_with fail
          exact ⟨⟨k + 1, by omega, by go_num, hb, HX⟩, by simp [intOf]; omega⟩
        · have hq0 : q = false := HNK hyz
          subst hq0
          have hyd : (y == z) = false := by simpa using hyz
          clear HNX HNK HE HNE
          go_wp2_with fail
          refine wp_region_QW mixed5 (by kernel_rfl) ?_
          repeat (refine QW_step (fun K hK => ?_); go_simp; first | (refine hK _ ?_; clear hK K) | (apply Exists.intro; refine ⟨fun _ => ?_, hK _ ?_⟩; fail; clear hK K))
          refine QW_nil ?_
          intro _ hw9
          obtain ⟨⟨nq, osq⟩, hw8⟩ := hw9
          subst hw8
          have hb := HG.out nq osq
          go_wp2_with fail
          go_ret
          exact ⟨rfl, hb⟩
      · obtain rfl : k = la := by omega
        have hq0 : q = true := HE.out hT.out
        subst hq0
        clear HE HNE hT
        go_wp2_with fail
        go_ret
        exact ⟨rfl, hgr⟩
  · have hq0 : decide (l = r) = false := by
      rw [decide_eq_false_iff_not]
      intro e
      rw [e] at hla
      omega
    rw [hq0]
    have hnd : (la == lb) = false := by simpa using hn
    have hnd' : ((la : Int) == (lb : Int)) = false := beq_eq_false_iff_ne.2 (by omega)
    clear hq0 hla hlb
    go_enter Tryz.func22, Tryz.ntmps22
    go_wp2_with fail
    go_ret
    exact ⟨rfl, grown_refl _⟩
/-- a group's Temp -/
def tempP (m : Mp) (g : Int) : List Int := match m.tms.find? (fun t => t.g == g) with | some t => t.ns | none => []
theorem temp_some {m : Mp} {g : Int} {k : Nat} (hk : k < m.tms.length) (h1 : (m.tms.getD k tm0).g = g) (h : ∀ j, j < k → (m.tms.getD j tm0).g ≠ g) : m.tms.find? (fun t => t.g == g) = some (m.tms.getD k tm0) := by
  rw [List.find?_eq_some_iff_getElem]
  rw [show m.tms.getD k tm0 = m.tms[k] by simp [hk]] at *
  refine ⟨by simpa using h1, k, hk, rfl, fun j hj => ?_⟩
  have := h j hj
  rw [show m.tms.getD j tm0 = m.tms[j] by simp [show j < m.tms.length by omega]] at this
  simpa using this
theorem temp_none {m : Mp} {g : Int} (h : ∀ j, j < m.tms.length → (m.tms.getD j tm0).g ≠ g) : m.tms.find? (fun t => t.g == g) = none := by
  rw [List.find?_eq_none]
  intro x hx
  obtain ⟨j, hj, rfl⟩ := List.getElem_of_mem hx
  have := h j hj
  rw [show m.tms.getD j tm0 = m.tms[j] by simp [hj]] at this
  simpa using this
def RowPost (out : List Int) (w : World) (e : Ending) (w' : World) : Prop := Below w.heap.size w w' ∧ ∃ a cap, e = .returned (.slice a out.length cap) ∧ RowL w' a out.length out
set_option maxHeartbeats 1000000 in
set_option maxRecDepth 60000 in
theorem refTemp_any {m : Mp} {s : MV} (g : Int) (w : World) (h : MapAt w m s) : Calls Tryz.prog 54 #[.agg (mapCells m s).toArray, .int .i64 g] w fun e w' => RowPost (tempP m g) w e w' := by
  rw [map_split]
  have HT : Hid (TmsAt w s.aT s.lT s.cT m.tms) := h.tms
  have hl : m.tms.length = s.lT := h.tms.1
  have hmx : s.lT ≤ maxLen := Nat.le_trans h.tms.2.1 h.tms.2.2.1
  unfold maxLen at hmx
  have HYES : Hid (∀ k, k < s.lT → (m.tms.getD k tm0).g = g → (∀ j, j < k → (m.tms.getD j tm0).g ≠ g) → tempP m g = (m.tms.getD k tm0).ns) := fun k hk h1 h2 => by unfold tempP; rw [temp_some (by omega) h1 h2]
  have HNO : Hid ((∀ j, j < s.lT → (m.tms.getD j tm0).g ≠ g) → tempP m g = []) := fun h => by unfold tempP; rw [temp_none (fun j hj => h j (by omega))]
  clear h hl
  obtain ⟨aN, lN, cN, aT, lT, cT, aR, lR, cR⟩ := s
  simp only at *
  have hb1 := below_alloc w (.cells #[.int .i64 m.ep, .int .i64 m.size, .int .i64 m.mn, .int .i64 m.gr, .slice aN lN cN, .slice aT lT cT, .slice aR lR cR] 26)
  have HBX : Hid (Box7 (w.alloc (.cells #[.int .i64 m.ep, .int .i64 m.size, .int .i64 m.mn, .int .i64 m.gr, .slice aN lN cN, .slice aT lT cT, .slice aR lR cR] 26)) w.heap.size (.int .i64 m.ep) (.int .i64 m.size) (.int .i64 m.mn) (.int .i64 m.gr) (.slice aN lN cN) (.slice aT lT cT) (.slice aR lR cR)) := Box7.new w _ _ _ _ _ _ _ _
  go_enter Tryz.func54, Tryz.ntmps54
  go_wp2_with fail
  generalize w.alloc (.cells #[.int .i64 m.ep, .int .i64 m.size, .int .i64 m.mn, .int .i64 m.gr, .slice aN lN cN, .slice aT lT cT, .slice aR lR cR] 26) = w1 at *
  obtain ⟨⟨c0, c1, c2, c3, c4, c5, c6⟩, -⟩ := HBX.out
  go_loopw [5] (fun i wr => ∃ k : Nat, k ≤ lT ∧ i = .int .i64 k ∧ Hid (∀ j, j < k → (m.tms.getD j tm0).g ≠ g) ∧ Hid (wr = w1)) (fun i _ => lT - (intOf i).toNat)
  case atStart => exact ⟨0, Nat.zero_le _, rfl, (fun j hj => absurd hj (Nat.not_lt_zero _)), rfl⟩
  case round =>
    obtain ⟨k, hk, rfl, hT, hwr⟩ := hrel
    obtain rfl := hwr.out
    by_cases hlt : k < lT
    · have hk1 : (k : Int) < (lT : Int) := by omega
      have hk0 : (0 : Int) ≤ (k : Int) := by omega
      obtain ⟨b, off, hae, hbs, hcell⟩ := (HT.out.below hb1).some (by omega)
      subst hae
      obtain ⟨e0, aq, lq, cq, e1, hrow⟩ := hcell k hlt
      have HROW : Hid (RowI wr aq lq cq (m.tms.getD k tm0).ns) := hrow
      have HQL : Hid ((m.tms.getD k tm0).ns.length = lq) := hrow.1
      have HY := HYES.out k hlt
      have HNX : Hid ((m.tms.getD k tm0).g ≠ g → ∀ j, j < k + 1 → (m.tms.getD j tm0).g ≠ g) := fun h j hj => by
        by_cases e : j = k
        · rw [e]; exact h
        · exact hT.out j (by omega)
      have HY2 : Hid ((m.tms.getD k tm0).g = g → tempP m g = (m.tms.getD k tm0).ns) := fun h => HY h hT.out
      clear hcell hrow hT HY
      generalize (m.tms.getD k tm0).ns = ns at *
      generalize (m.tms.getD k tm0).g = y at *
      by_cases hy : y = g
      · have HE : Hid (tempP m g = ns) := HY2.out hy
        subst hy
        clear HY2 HNX hwr
        go_wp2_with fail
        go_ret
        rw [HE.out]
        have := HROW.out.rowL
        rw [← HQL.out] at this
        exact ⟨hb1, aq, cq, by rw [HQL.out]; rfl, this⟩
      · have hyd : (y == g) = false := by simpa using hy
        have HN2 : Hid (∀ j, j < k + 1 → (m.tms.getD j tm0).g ≠ g) := HNX.out hy
        clear HY2 HNX hwr
        go_wp2_with fail
        exact ⟨⟨k + 1, by omega, by go_num, HN2, by unfold Hid; trivial⟩, by simp [intOf]; omega⟩
    · obtain rfl : k = lT := by omega
      have HE : Hid (tempP m g = []) := HNO.out hT.out
      clear hT hwr
      go_wp2_with fail
      go_ret
      rw [HE.out]
      exact ⟨hb1, none, 0, rfl, rfl, Nat.zero_le _, .inl rfl⟩
end Go.Proofs.YtcncbjknfcjnmaaGreat.Tp
namespace Go.Proofs.YtcncbjknfcjnmaaGreat.Tp
open Go.ChangeShapes Go.WideShapes Go.ChangeAt Go.RowKit
theorem temps_rise {m : Mp} {n : Nat} (h : TempsTo m n) : ∀ d i, i + d + 1 < n → (m.tms.getD i tm0).g < (m.tms.getD (i + d + 1) tm0).g := by
  intro d
  induction d with
  | zero => intro i hi; exact (h (i + 1) hi).2.1 (by omega)
  | succ d ih =>
    intro i hi
    exact Int.lt_trans (ih i (by omega)) ((h (i + (d + 1) + 1) hi).2.1 (by omega))
theorem temps_ge {m : Mp} {n : Nat} (h : TempsTo m n) : ∀ i, i < n → (i : Int) ≤ (m.tms.getD i tm0).g := by
  intro i
  induction i with
  | zero => intro hi; have := (h 0 hi).1.1; omega
  | succ i ih =>
    intro hi
    have h1 := ih (by omega)
    have h2 := (h (i + 1) hi).2.1 (by omega)
    rw [show i + 1 - 1 = i by omega] at h2
    omega
theorem MayM.stand {m : Mp} (h : MayM m) : StandOk m := by
  refine ⟨h.cnt.1, h.nds, ?_, ?_, ?_⟩
  · intro i j hij hj
    rw [List.length_map] at hj
    have := temps_rise h.tms (j - i - 1) i (by omega)
    rw [show i + (j - i - 1) + 1 = j by omega] at this
    simpa [List.getD_eq_getElem?_getD, hj, show i < m.tms.length by omega] using this
  · by_cases h0 : m.tms.length = 0
    · omega
    · have h1 := temps_ge h.tms (m.tms.length - 1) (by omega)
      have h2 := (h.tms (m.tms.length - 1) (by omega)).1.2
      have h3 := h.cnt.2.2.2
      omega
  · intro t ht
    obtain ⟨i, hi, rfl⟩ := List.getElem_of_mem ht
    have := (h.tms i hi).2.2.1.2
    rwa [show m.tms.getD i tm0 = m.tms[i] by simp [hi]] at this
theorem rawX_may {m : Mp} {s : MV} (hM : MayM m) {g : Int} (hg : 0 ≤ g ∧ g < m.gr) (w : World) (h : MapAt w m s) : Calls Tryz.prog 23 #[.agg (mapCells m s).toArray, .int .i64 g] w fun e w' => IntsPost (rawP m g) w e w' :=
  rawX_yes hM.stand hg hM.cnt.2.2.2 w (fun W hb => (mcheck_any W (h.below hb)).mono fun e w' ⟨hb, hh⟩ => by
    rcases hh with ⟨he, _⟩ | ⟨_, hn⟩
    · exact ⟨he, hb⟩
    · exact absurd hM hn) h.nds h.tms
set_option maxRecDepth 60000 in
theorem rawX_no {m : Mp} {s : MV} {g : Int} (hno : ¬ (MayM m ∧ 0 ≤ g ∧ g < m.gr)) (w : World) (h : MapAt w m s) : Calls Tryz.prog 23 #[.agg (mapCells m s).toArray, .int .i64 g] w fun e w' => e = .returned (.slice none 0 0) ∧ Below w.heap.size w w' := by
  have hb1 := below_alloc w (.cells (mapCells m s).toArray 26)
  by_cases hM : MayM m
  · have HCK : Hid (∀ W, Below w.heap.size w W → Calls Tryz.prog 17 #[.agg (mapCells m s).toArray] W fun e w' => e = .returned (.int .i64 0) ∧ Below W.heap.size W w') := fun W hb => (mcheck_any W (h.below hb)).mono fun e w' ⟨hb, hh⟩ => by
      rcases hh with ⟨he, _⟩ | ⟨_, hn⟩
      · exact ⟨he, hb⟩
      · exact absurd hM hn
    have HHG : Hid (∀ W, Calls Tryz.prog 52 #[.agg (mapCells m s).toArray, .int .i64 g] W fun e w' => e = .returned (.bool false) ∧ Below W.heap.size W w') := fun W => (hasGroup_any m s g hM.cnt.2.2 W).mono fun e w' ⟨he, hb⟩ => ⟨by
      rw [he]
      cases hq : inB g 0 (m.gr - 1) with
      | false => rfl
      | true => have := (inB_iff g 0 (m.gr - 1)).1 hq; exact absurd ⟨hM, by omega, by omega⟩ hno, hb⟩
    clear hM hno h
    rw [map_split] at *
    obtain ⟨ep, sz, mn, gr, nds, tms, trs⟩ := m
    obtain ⟨aN, lN, cN, aT, lT, cT, aR, lR, cR⟩ := s
    simp only [mapCells] at *
    have HBX : Hid (Box7 (w.alloc (.cells #[.int .i64 ep, .int .i64 sz, .int .i64 mn, .int .i64 gr, .slice aN lN cN, .slice aT lT cT, .slice aR lR cR] 26)) w.heap.size (.int .i64 ep) (.int .i64 sz) (.int .i64 mn) (.int .i64 gr) (.slice aN lN cN) (.slice aT lT cT) (.slice aR lR cR)) := Box7.new w _ _ _ _ _ _ _ _
    go_enter Tryz.func23, Tryz.ntmps23
    go_wp2_with (first
      | (go_at_call 17; refine (HCK.out _ hb1).mono ?_; rintro e w2 ⟨rfl, hb2⟩; obtain ⟨⟨c0, c1, c2, c3, c4, c5, c6⟩, -⟩ := HBX.out.below hb2)
      | (go_at_call 52; refine (HHG.out _).mono ?_; rintro e w3 ⟨rfl, hb3⟩))
    go_ret
    exact ⟨rfl, below2 hb1 (below2 hb2 hb3)⟩
  · have HCK : Hid (∀ W, Below w.heap.size w W → Calls Tryz.prog 17 #[.agg (mapCells m s).toArray] W fun e w' => e = .returned (.int .i64 1) ∧ Below W.heap.size W w') := fun W hb => (mcheck_any W (h.below hb)).mono fun e w' ⟨hb, hh⟩ => by
      rcases hh with ⟨_, hm⟩ | ⟨he, _⟩
      · exact absurd hm hM
      · exact ⟨he, hb⟩
    clear hM hno h
    rw [map_split] at *
    obtain ⟨ep, sz, mn, gr, nds, tms, trs⟩ := m
    obtain ⟨aN, lN, cN, aT, lT, cT, aR, lR, cR⟩ := s
    simp only [mapCells] at *
    go_enter Tryz.func23, Tryz.ntmps23
    go_wp2_with (go_at_call 17; refine (HCK.out _ hb1).mono ?_; rintro e w2 ⟨rfl, hb2⟩)
    go_ret
    exact ⟨rfl, below2 hb1 hb2⟩
theorem actX_may {m : Mp} {s : MV} (hM : MayM m) {g : Int} (hg : 0 ≤ g ∧ g < m.gr) (w : World) (h : MapAt w m s) : Calls Tryz.prog 25 #[.agg (mapCells m s).toArray, .int .i64 g] w fun e w' => IntsPost (actP m g) w e w' :=
  actX_yes hM.stand hg hM.cnt.2.2.2 w (fun W hb => (mcheck_any W (h.below hb)).mono fun e w' ⟨hb, hh⟩ => by
    rcases hh with ⟨he, _⟩ | ⟨_, hn⟩
    · exact ⟨he, hb⟩
    · exact absurd hM hn) h.nds h.tms
set_option maxRecDepth 60000 in
theorem actX_no {m : Mp} {s : MV} {g : Int} (hno : ¬ (MayM m ∧ 0 ≤ g ∧ g < m.gr)) (w : World) (h : MapAt w m s) : Calls Tryz.prog 25 #[.agg (mapCells m s).toArray, .int .i64 g] w fun e w' => e = .returned (.slice none 0 0) ∧ Below w.heap.size w w' := by
  have hb1 := below_alloc w (.cells (mapCells m s).toArray 26)
  by_cases hM : MayM m
  · have HCK : Hid (∀ W, Below w.heap.size w W → Calls Tryz.prog 17 #[.agg (mapCells m s).toArray] W fun e w' => e = .returned (.int .i64 0) ∧ Below W.heap.size W w') := fun W hb => (mcheck_any W (h.below hb)).mono fun e w' ⟨hb, hh⟩ => by
      rcases hh with ⟨he, _⟩ | ⟨_, hn⟩
      · exact ⟨he, hb⟩
      · exact absurd hM hn
    have HHG : Hid (∀ W, Calls Tryz.prog 52 #[.agg (mapCells m s).toArray, .int .i64 g] W fun e w' => e = .returned (.bool false) ∧ Below W.heap.size W w') := fun W => (hasGroup_any m s g hM.cnt.2.2 W).mono fun e w' ⟨he, hb⟩ => ⟨by
      rw [he]
      cases hq : inB g 0 (m.gr - 1) with
      | false => rfl
      | true => have := (inB_iff g 0 (m.gr - 1)).1 hq; exact absurd ⟨hM, by omega, by omega⟩ hno, hb⟩
    clear hM hno h
    rw [map_split] at *
    obtain ⟨ep, sz, mn, gr, nds, tms, trs⟩ := m
    obtain ⟨aN, lN, cN, aT, lT, cT, aR, lR, cR⟩ := s
    simp only [mapCells] at *
    have HBX : Hid (Box7 (w.alloc (.cells #[.int .i64 ep, .int .i64 sz, .int .i64 mn, .int .i64 gr, .slice aN lN cN, .slice aT lT cT, .slice aR lR cR] 26)) w.heap.size (.int .i64 ep) (.int .i64 sz) (.int .i64 mn) (.int .i64 gr) (.slice aN lN cN) (.slice aT lT cT) (.slice aR lR cR)) := Box7.new w _ _ _ _ _ _ _ _
    go_enter Tryz.func25, Tryz.ntmps25
    go_wp2_with (first
      | (go_at_call 17; refine (HCK.out _ hb1).mono ?_; rintro e w2 ⟨rfl, hb2⟩; obtain ⟨⟨c0, c1, c2, c3, c4, c5, c6⟩, -⟩ := HBX.out.below hb2)
      | (go_at_call 52; refine (HHG.out _).mono ?_; rintro e w3 ⟨rfl, hb3⟩))
    go_ret
    exact ⟨rfl, below2 hb1 (below2 hb2 hb3)⟩
  · have HCK : Hid (∀ W, Below w.heap.size w W → Calls Tryz.prog 17 #[.agg (mapCells m s).toArray] W fun e w' => e = .returned (.int .i64 1) ∧ Below W.heap.size W w') := fun W hb => (mcheck_any W (h.below hb)).mono fun e w' ⟨hb, hh⟩ => by
      rcases hh with ⟨_, hm⟩ | ⟨he, _⟩
      · exact absurd hm hM
      · exact ⟨he, hb⟩
    clear hM hno h
    rw [map_split] at *
    obtain ⟨ep, sz, mn, gr, nds, tms, trs⟩ := m
    obtain ⟨aN, lN, cN, aT, lT, cT, aR, lR, cR⟩ := s
    simp only [mapCells] at *
    go_enter Tryz.func25, Tryz.ntmps25
    go_wp2_with (go_at_call 17; refine (HCK.out _ hb1).mono ?_; rintro e w2 ⟨rfl, hb2⟩)
    go_ret
    exact ⟨rfl, below2 hb1 hb2⟩
end Go.Proofs.YtcncbjknfcjnmaaGreat.Tp
namespace Go.Proofs.YtcncbjknfcjnmaaGreat.Tp
open Go.ChangeShapes Go.WideShapes Go.ChangeAt Go.RowKit
/-- a bool, whichever -/
def AnyBool (w : World) (e : Ending) (w' : World) : Prop := ∃ q, e = .returned (.bool q) ∧ Below w.heap.size w w'
set_option maxHeartbeats 4000000 in
set_option maxRecDepth 60000 in
theorem light_any {m : Mp} {s : MV} (w : World) (h : MapAt w m s) : Calls Tryz.prog 14 #[.agg (mapCells m s).toArray] w fun e w' => AnyBool w e w' := by
  rw [map_split]
  have hb1 := below_alloc w (.cells (mapCells m s).toArray 26)
  have HT : Hid (TmsAt (w.alloc (.cells (mapCells m s).toArray 26)) s.aT s.lT s.cT m.tms) := h.tms.below hb1
  have HR : Hid (TrsAt (w.alloc (.cells (mapCells m s).toArray 26)) s.aR s.lR s.cR m.trs) := h.trs.below hb1
  have hmT : s.lT ≤ maxLen := Nat.le_trans h.tms.2.1 h.tms.2.2.1
  have hmR : s.lR ≤ maxLen := Nat.le_trans h.trs.2.1 h.trs.2.2.1
  have hmN : s.lN ≤ maxLen := Nat.le_trans h.nds.2.1 h.nds.2.2.1
  unfold maxLen at hmT hmR hmN
  clear h
  obtain ⟨ep, sz, mn, gr, nds, tms, trs⟩ := m
  obtain ⟨aN, lN, cN, aT, lT, cT, aR, lR, cR⟩ := s
  simp only [mapCells] at *
  have HBX : Hid (Box7 (w.alloc (.cells #[.int .i64 ep, .int .i64 sz, .int .i64 mn, .int .i64 gr, .slice aN lN cN, .slice aT lT cT, .slice aR lR cR] 26)) w.heap.size (.int .i64 ep) (.int .i64 sz) (.int .i64 mn) (.int .i64 gr) (.slice aN lN cN) (.slice aT lT cT) (.slice aR lR cR)) := Box7.new w _ _ _ _ _ _ _ _
  go_enter Tryz.func14, Tryz.ntmps14
  go_wp2_with fail
  generalize w.alloc (.cells #[.int .i64 ep, .int .i64 sz, .int .i64 mn, .int .i64 gr, .slice aN lN cN, .slice aT lT cT, .slice aR lR cR] 26) = w1 at *
  obtain ⟨⟨c0, c1, c2, c3, c4, c5, c6⟩, -⟩ := HBX.out
  clear HBX
  go_loopw [3] (fun i wr => ∃ k : Nat, k ≤ lT ∧ i = .int .i64 k ∧ Hid (wr = w1)) (fun i _ => lT - (intOf i).toNat)
  case atStart => exact ⟨0, Nat.zero_le _, rfl, rfl⟩
  case round =>
    obtain ⟨k0, hk, rfl, hwr⟩ := hrel
    obtain rfl := hwr.out
    clear hwr
    by_cases hlt : k0 < lT
    · have hk1 : (k0 : Int) < (lT : Int) := by omega
      have hk0 : (0 : Int) ≤ (k0 : Int) := by omega
      by_cases h20 : (k0 : Int) < 20
      · obtain ⟨b, off, hae, hbs, hcell⟩ := HT.out.some (by omega)
        subst hae
        obtain ⟨e0, aq, lq, cq, e1, -⟩ := hcell k0 hlt
        clear hcell
        by_cases hl20 : (20 : Int) < (lq : Int)
        · go_wp2_with fail
          go_ret
          exact ⟨_, rfl, hb1⟩
        · have hl20' : decide ((20 : Int) < (lq : Int)) = false := by simpa using hl20
          go_wp2_with fail
          exact ⟨⟨k0 + 1, by omega, by go_num, by unfold Hid; trivial⟩, by simp [intOf]; omega⟩
      · have h20' : decide ((k0 : Int) < 20) = false := by simpa using h20
        clear h20
        generalize hw1 : wr = w1 at *
        clear hw1
        go_wp2_with fail
        go_loopw [4] (fun i wr => ∃ k : Nat, k ≤ lR ∧ i = .int .i64 k ∧ Hid (wr = w1)) (fun i _ => lR - (intOf i).toNat)
        case atStart => exact ⟨0, Nat.zero_le _, rfl, rfl⟩
        case round =>
          obtain ⟨k, hk, rfl, hwr⟩ := hrel
          obtain rfl := hwr.out
          clear hwr
          by_cases hlt : k < lR
          · have hk1 : (k : Int) < (lR : Int) := by omega
            have hk0 : (0 : Int) ≤ (k : Int) := by omega
            by_cases h20 : (k : Int) < 20
            · obtain ⟨b, off, hae, hbs, hcell⟩ := HR.out.some (by omega)
              subst hae
              obtain ⟨e0, ap, lp, cp, e1, hpast⟩ := hcell k hlt
              have HP : Hid (TmsAt wr ap lp cp (trs.getD k tr0).past) := hpast
              have hmp : lp ≤ maxLen := Nat.le_trans hpast.2.1 hpast.2.2.1
              unfold maxLen at hmp
              clear hcell hpast
              by_cases hl20 : (20 : Int) < (lp : Int)
              · go_wp2_with fail
                go_ret
                exact ⟨_, rfl, hb1⟩
              · have hl20' : decide ((20 : Int) < (lp : Int)) = false := by simpa using hl20
                go_wp2_with fail
                go_loopw [5] (fun i wq => ∃ j : Nat, j ≤ lp ∧ i = .int .i64 j ∧ Hid (wq = wr)) (fun i _ => lp - (intOf i).toNat)
                case atStart => exact ⟨0, Nat.zero_le _, rfl, rfl⟩
                case round =>
                  obtain ⟨j, hj, rfl, hwq⟩ := hrel
                  obtain rfl := hwq.out
                  clear hwq
                  by_cases hjl : j < lp
                  · have hj1 : (j : Int) < (lp : Int) := by omega
                    have hj0 : (0 : Int) ≤ (j : Int) := by omega
                    obtain ⟨pb, po, hpe, hps, hpc⟩ := HP.out.some (by omega)
                    subst hpe
                    obtain ⟨p0, ar, lr, cr, p1, -⟩ := hpc j hjl
                    clear hpc
                    by_cases hr20 : (20 : Int) < (lr : Int)
                    · go_wp2_with fail
                      go_ret
                      exact ⟨_, rfl, hb1⟩
                    · have hr20' : decide ((20 : Int) < (lr : Int)) = false := by simpa using hr20
                      go_wp2_with fail
                      exact ⟨⟨j + 1, by omega, by go_num, by unfold Hid; trivial⟩, by simp [intOf]; omega⟩
                  · obtain rfl : j = lp := by omega
                    go_wp2_with fail
                    exact ⟨⟨k + 1, by omega, by go_num, by unfold Hid; trivial⟩, by simp [intOf]; omega⟩
            · have h20' : decide ((k : Int) < 20) = false := by simpa using h20
              by_cases hN : (lN : Int) ≤ 30
              · by_cases hT : (lT : Int) ≤ 20
                · go_wp2_with fail
                  go_ret
                  exact ⟨_, rfl, hb1⟩
                · have hT' : decide ((lT : Int) ≤ 20) = false := by simpa using hT
                  go_wp2_with fail
                  go_ret
                  exact ⟨_, rfl, hb1⟩
              · have hN' : decide ((lN : Int) ≤ 30) = false := by simpa using hN
                go_wp2_with fail
                go_ret
                exact ⟨_, rfl, hb1⟩
          · have hlt' : decide ((k : Int) < (lR : Int)) = false := by simp; omega
            by_cases hN : (lN : Int) ≤ 30
            · by_cases hT : (lT : Int) ≤ 20
              · go_wp2_with fail
                go_ret
                exact ⟨_, rfl, hb1⟩
              · have hT' : decide ((lT : Int) ≤ 20) = false := by simpa using hT
                go_wp2_with fail
                go_ret
                exact ⟨_, rfl, hb1⟩
            · have hN' : decide ((lN : Int) ≤ 30) = false := by simpa using hN
              go_wp2_with fail
              go_ret
              exact ⟨_, rfl, hb1⟩
    · have hlt' : decide ((k0 : Int) < (lT : Int)) = false := by simp; omega
      generalize hw1 : wr = w1 at *
      clear hw1
      go_wp2_with fail
      go_loopw [4] (fun i wr => ∃ k : Nat, k ≤ lR ∧ i = .int .i64 k ∧ Hid (wr = w1)) (fun i _ => lR - (intOf i).toNat)
      case atStart => exact ⟨0, Nat.zero_le _, rfl, rfl⟩
      case round =>
        obtain ⟨k, hk, rfl, hwr⟩ := hrel
        obtain rfl := hwr.out
        clear hwr
        by_cases hlt : k < lR
        · have hk1 : (k : Int) < (lR : Int) := by omega
          have hk0 : (0 : Int) ≤ (k : Int) := by omega
          by_cases h20 : (k : Int) < 20
          · obtain ⟨b, off, hae, hbs, hcell⟩ := HR.out.some (by omega)
            subst hae
            obtain ⟨e0, ap, lp, cp, e1, hpast⟩ := hcell k hlt
            have HP : Hid (TmsAt wr ap lp cp (trs.getD k tr0).past) := hpast
            have hmp : lp ≤ maxLen := Nat.le_trans hpast.2.1 hpast.2.2.1
            unfold maxLen at hmp
            clear hcell hpast
            by_cases hl20 : (20 : Int) < (lp : Int)
            · go_wp2_with fail
              go_ret
              exact ⟨_, rfl, hb1⟩
            · have hl20' : decide ((20 : Int) < (lp : Int)) = false := by simpa using hl20
              go_wp2_with fail
              go_loopw [5] (fun i wq => ∃ j : Nat, j ≤ lp ∧ i = .int .i64 j ∧ Hid (wq = wr)) (fun i _ => lp - (intOf i).toNat)
              case atStart => exact ⟨0, Nat.zero_le _, rfl, rfl⟩
              case round =>
                obtain ⟨j, hj, rfl, hwq⟩ := hrel
                obtain rfl := hwq.out
                clear hwq
                by_cases hjl : j < lp
                · have hj1 : (j : Int) < (lp : Int) := by omega
                  have hj0 : (0 : Int) ≤ (j : Int) := by omega
                  obtain ⟨pb, po, hpe, hps, hpc⟩ := HP.out.some (by omega)
                  subst hpe
                  obtain ⟨p0, ar, lr, cr, p1, -⟩ := hpc j hjl
                  clear hpc
                  by_cases hr20 : (20 : Int) < (lr : Int)
                  · go_wp2_with fail
                    go_ret
                    exact ⟨_, rfl, hb1⟩
                  · have hr20' : decide ((20 : Int) < (lr : Int)) = false := by simpa using hr20
                    go_wp2_with fail
                    exact ⟨⟨j + 1, by omega, by go_num, by unfold Hid; trivial⟩, by simp [intOf]; omega⟩
                · obtain rfl : j = lp := by omega
                  go_wp2_with fail
                  exact ⟨⟨k + 1, by omega, by go_num, by unfold Hid; trivial⟩, by simp [intOf]; omega⟩
          · have h20' : decide ((k : Int) < 20) = false := by simpa using h20
            by_cases hN : (lN : Int) ≤ 30
            · by_cases hT : (lT : Int) ≤ 20
              · go_wp2_with fail
                go_ret
                exact ⟨_, rfl, hb1⟩
              · have hT' : decide ((lT : Int) ≤ 20) = false := by simpa using hT
                go_wp2_with fail
                go_ret
                exact ⟨_, rfl, hb1⟩
            · have hN' : decide ((lN : Int) ≤ 30) = false := by simpa using hN
              go_wp2_with fail
              go_ret
              exact ⟨_, rfl, hb1⟩
        · have hlt' : decide ((k : Int) < (lR : Int)) = false := by simp; omega
          by_cases hN : (lN : Int) ≤ 30
          · by_cases hT : (lT : Int) ≤ 20
            · go_wp2_with fail
              go_ret
              exact ⟨_, rfl, hb1⟩
            · have hT' : decide ((lT : Int) ≤ 20) = false := by simpa using hT
              go_wp2_with fail
              go_ret
              exact ⟨_, rfl, hb1⟩
          · have hN' : decide ((lN : Int) ≤ 30) = false := by simpa using hN
            go_wp2_with fail
            go_ret
            exact ⟨_, rfl, hb1⟩
end Go.Proofs.YtcncbjknfcjnmaaGreat.Tp
namespace Go.Proofs.YtcncbjknfcjnmaaGreat.Tp
open Go.ChangeShapes Go.WideShapes Go.ChangeAt Go.RowKit
theorem cells25 : Tryz.prog.cellsOf 72 = 6 := by kernel_rfl
theorem cells3 : Tryz.prog.cellsOf 3 = 1 := by kernel_rfl
theorem cells4 : Tryz.prog.cellsOf 4 = 1 := by kernel_rfl
theorem trod_struct6 {P : Program} {H : Type} {enc : TypeId × Value → H} {w : World} {base : Nat} {spare : Nat → Bool} {held : Bool} {t : TypeId} {f0 f1 f2 f3 f4 f5 : Field} {fuel : Nat} {cs : List Value} {x : DataW H × List MemPlace} (ht : P.underlying t = some (.struct #[f0, f1, f2, f3, f4, f5])) (h : DataW.trod enc P w base spare held fuel t cs = some x) :
    ∃ y0 y1 y2 y3 y4 y5 n, DataW.trod enc P w base spare held n f0.type ((cs.drop f0.offset).take (P.cellsOf f0.type)) = some y0 ∧ DataW.trod enc P w base spare held n f1.type ((cs.drop f1.offset).take (P.cellsOf f1.type)) = some y1 ∧ DataW.trod enc P w base spare held n f2.type ((cs.drop f2.offset).take (P.cellsOf f2.type)) = some y2 ∧ DataW.trod enc P w base spare held n f3.type ((cs.drop f3.offset).take (P.cellsOf f3.type)) = some y3 ∧ DataW.trod enc P w base spare held n f4.type ((cs.drop f4.offset).take (P.cellsOf f4.type)) = some y4 ∧ DataW.trod enc P w base spare held n f5.type ((cs.drop f5.offset).take (P.cellsOf f5.type)) = some y5 := by
  obtain ⟨xs, n, _, rfl, hl, hlen, hf⟩ := DataW.trod_struct ht h
  match xs, hlen with
  | [y0, y1, y2, y3, y4, y5], _ => exact ⟨y0, y1, y2, y3, y4, y5, n, by simpa using hf 0 f0 rfl, by simpa using hf 1 f1 rfl, by simpa using hf 2 f2 rfl, by simpa using hf 3 f3 rfl, by simpa using hf 4 f4 rfl, by simpa using hf 5 f5 rfl⟩
theorem open_nd {H : Type} {enc : TypeId × Value → H} {w : World} {base : Nat} {spare : Nat → Bool} {held : Bool} {fuel : Nat} {c0 c1 c2 c3 c4 c5 : Value} {x : DataW H × List MemPlace} (h : DataW.trod enc Tryz.prog w base spare held fuel 72 [c0, c1, c2, c3, c4, c5] = some x) :
    ∃ n : Nd, [c0, c1, c2, c3, c4, c5] = ndCells n := by
  obtain ⟨y0, y1, y2, y3, y4, y5, n, h0, h1, h2, h3, h4, h5⟩ := trod_struct6 Tryz.underlying72 h
  simp only [cells3, cells4] at h0 h1 h2 h3 h4 h5
  obtain ⟨s0, e0, _, z0⟩ := DataW.trod_int Tryz.underlying3 h0
  obtain ⟨s1, e1, _, z1⟩ := DataW.trod_int Tryz.underlying3 h1
  obtain ⟨s2, e2, _, z2⟩ := DataW.trod_int Tryz.underlying3 h2
  obtain ⟨s3, e3, _, z3⟩ := DataW.trod_int Tryz.underlying3 h3
  obtain ⟨s4, e4, _⟩ := DataW.trod_bool Tryz.underlying4 h4
  obtain ⟨s5, e5, _⟩ := DataW.trod_bool Tryz.underlying4 h5
  simp at e0 e1 e2 e3 e4 e5
  exact ⟨⟨s0, s1, s2, s3, s4, s5⟩, by rw [e0, e1, e2, e3, e4, e5]; rfl⟩
theorem open_nodes {H : Type} {enc : TypeId × Value → H} {w : World} {base : Nat} {spare : Nat → Bool} {held : Bool} {fuel : Nat} {cs : List Value} {x : DataW H × List MemPlace} (h : DataW.trod enc Tryz.prog w base spare held fuel 22 cs = some x) :
    ∃ a len cap ls, cs = [.slice a len cap] ∧ NdsAt w a len cap ls := by
  rcases Go.Deep.open_slice Tryz.underlying22 h with ⟨hcs, _⟩ | ⟨a, len, cap, m, n, D, Pl, hcs, _, hl, hm, hmm, _, hx⟩
  · exact ⟨none, 0, 0, [], hcs, ⟨rfl, Nat.le_refl _, Nat.zero_le _, .inl rfl⟩⟩
  · have hlm : len ≤ m := by rw [hmm]; split <;> omega
    have each : ∀ i, ∃ l : Nd, i < len → ∀ j, j < 6 → w.cell? ((a.add (i * 6)).add j) = (ndCells l)[j]? := fun i => by
      by_cases hi : i < len
      · obtain ⟨cs', h1, h2⟩ := hx i (by omega)
        rw [cells25] at h1
        obtain ⟨_, hlen, hc⟩ := World.cells?_some h1
        match cs', hlen with
        | [c0, c1, c2, c3, c4, c5], _ =>
          obtain ⟨n, hn⟩ := open_nd h2
          refine ⟨n, fun _ j hj => ?_⟩
          rw [← hn]
          have := hc j (by simpa using hj)
          rw [this]
      · exact ⟨nd0, fun h => absurd h hi⟩
    obtain ⟨f, hf⟩ := Classical.axiomOfChoice each
    refine ⟨some a, len, cap, (List.range len).map f, hcs, ⟨by simp, hl, hm, ?_⟩⟩
    by_cases h0 : len = 0
    · exact .inl h0
    · obtain ⟨b, off, spot⟩ := a
      have h1 := hf 0 (by omega) 0 (by omega)
      have hspot : spot = none := by simpa [Addr.add] using World.cell?_spot h1
      subst hspot
      refine .inr ⟨b, off, rfl, fun i hi => ?_⟩
      have h2 := hf i hi
      have eg : ((List.range len).map f).getD i nd0 = f i := by simp [hi]
      rw [eg]
      have h3 : ∀ j, j < 6 → w.cell? ⟨b, off + i * 6 + j, none⟩ = (ndCells (f i))[j]? := fun j hj => by
        have := h2 j hj
        rw [addr_add, addr_add] at this
        exact this
      exact ⟨h3 0 (by omega), h3 1 (by omega), h3 2 (by omega), h3 3 (by omega), h3 4 (by omega), h3 5 (by omega)⟩
set_option maxRecDepth 60000 in
theorem open_nodesv {H : Type} {enc : TypeId × Value → H} {w : World} {base : Nat} {spare : Nat → Bool} {held : Bool} {r : Reach} {b0 : Nat} {v : Value} {d : DataW H} {p : List MemPlace} (hv : Value.okWide Tryz.prog w r b0 22 v) (h : DataW.Trod enc Tryz.prog w base spare held 22 v d p) :
    ∃ a len cap ls, v = .slice a len cap ∧ NdsAt w a len cap ls := by
  obtain ⟨a, len, cap, rfl⟩ := okWide_slice Tryz.underlying22 hv
  obtain ⟨fuel, hf⟩ := h
  obtain ⟨a', len', cap', ms, e, hm⟩ := open_nodes hf
  simp [Value.cells] at e
  obtain ⟨rfl, rfl, rfl⟩ := e
  exact ⟨_, _, _, ms, rfl, hm⟩
end Go.Proofs.YtcncbjknfcjnmaaGreat.Tp
namespace Go.Proofs.YtcncbjknfcjnmaaGreat.Tp
open Go.ChangeShapes Go.WideShapes Go.ChangeAt Go.RowKit
theorem cellsTm : Tryz.prog.cellsOf 59 = 2 := by kernel_rfl
theorem cellsSp : Tryz.prog.cellsOf 55 = 2 := by kernel_rfl
theorem cellsTr : Tryz.prog.cellsOf 53 = 2 := by kernel_rfl
theorem cellsMp : Tryz.prog.cellsOf 26 = 7 := by kernel_rfl
theorem cellsIs : Tryz.prog.cellsOf 35 = 1 := by kernel_rfl
theorem cellsSs : Tryz.prog.cellsOf 51 = 1 := by kernel_rfl
theorem cellsNs : Tryz.prog.cellsOf 22 = 1 := by kernel_rfl
theorem cellsTs : Tryz.prog.cellsOf 23 = 1 := by kernel_rfl
theorem cellsRs : Tryz.prog.cellsOf 24 = 1 := by kernel_rfl
theorem open_rowI {H : Type} {enc : TypeId × Value → H} {w : World} {base : Nat} {spare : Nat → Bool} {held : Bool} {fuel : Nat} {cs : List Value} {x : DataW H × List MemPlace} (h : DataW.trod enc Tryz.prog w base spare held fuel 35 cs = some x) : ∃ a len cap ls, cs = [.slice a len cap] ∧ RowI w a len cap ls := by
  rcases Go.Deep.open_slice Tryz.underlying35 h with ⟨hcs, _⟩ | ⟨a, len, cap, m, n, D, Pl, hcs, _, hl, hm, hmm, _, hx⟩
  · exact ⟨none, 0, 0, [], hcs, RowI.nil w⟩
  · have hlm : len ≤ m := by rw [hmm]; split <;> omega
    have each : ∀ i, ∃ l : Int, i < len → w.cell? (a.add i) = some (.int .i64 l) := fun i => by
      by_cases hi : i < len
      · obtain ⟨cs', h1, h2⟩ := hx i (by omega)
        rw [cells3] at h1
        obtain ⟨_, hlen, hc⟩ := World.cells?_some h1
        match cs', hlen with
        | [c0], _ =>
          obtain ⟨s0, e0, _, z0⟩ := DataW.trod_int Tryz.underlying3 h2
          simp at e0
          refine ⟨s0, fun _ => ?_⟩
          have := hc 0 (by simp)
          rw [e0] at this
          simpa [Addr.add] using this
      · exact ⟨0, fun h => absurd h hi⟩
    obtain ⟨f, hf⟩ := Classical.axiomOfChoice each
    refine ⟨some a, len, cap, (List.range len).map f, hcs, ⟨by simp, hl, hm, nofun, ?_⟩⟩
    by_cases h0 : len = 0
    · exact .inl h0
    · obtain ⟨b, off, spot⟩ := a
      have h1 := hf 0 (by omega)
      have hspot : spot = none := by simpa [Addr.add] using World.cell?_spot h1
      subst hspot
      refine .inr ⟨b, off, rfl, fun i hi => ?_⟩
      have h2 := hf i hi
      rw [show ((List.range len).map f).getD i 0 = f i by simp [hi]]
      rw [addr_add] at h2
      exact h2
theorem open_tm {H : Type} {enc : TypeId × Value → H} {w : World} {base : Nat} {spare : Nat → Bool} {held : Bool} {fuel : Nat} {c0 c1 : Value} {x : DataW H × List MemPlace} (h : DataW.trod enc Tryz.prog w base spare held fuel 59 [c0, c1] = some x) : ∃ n : Tm, c0 = .int .i64 n.g ∧ ∃ a len cap, c1 = .slice a len cap ∧ RowI w a len cap n.ns := by
  obtain ⟨y0, y1, n, _, _, h0, h1⟩ := trod_struct2 Tryz.underlying59 h
  simp only [cells3, cellsIs] at h0 h1
  obtain ⟨s0, e0, _, z0⟩ := DataW.trod_int Tryz.underlying3 h0
  obtain ⟨a, len, cap, ls, e1, hr⟩ := open_rowI h1
  simp at e0 e1
  exact ⟨⟨s0, ls⟩, e0, a, len, cap, e1, hr⟩
theorem open_sp {H : Type} {enc : TypeId × Value → H} {w : World} {base : Nat} {spare : Nat → Bool} {held : Bool} {fuel : Nat} {c0 c1 : Value} {x : DataW H × List MemPlace} (h : DataW.trod enc Tryz.prog w base spare held fuel 55 [c0, c1] = some x) : ∃ n : Tm, c0 = .int .i64 n.g ∧ ∃ a len cap, c1 = .slice a len cap ∧ RowI w a len cap n.ns := by
  obtain ⟨y0, y1, n, _, _, h0, h1⟩ := trod_struct2 Tryz.underlying55 h
  simp only [cells3, cellsIs] at h0 h1
  obtain ⟨s0, e0, _, z0⟩ := DataW.trod_int Tryz.underlying3 h0
  obtain ⟨a, len, cap, ls, e1, hr⟩ := open_rowI h1
  simp at e0 e1
  exact ⟨⟨s0, ls⟩, e0, a, len, cap, e1, hr⟩
theorem open_tms {H : Type} {enc : TypeId × Value → H} {w : World} {base : Nat} {spare : Nat → Bool} {held : Bool} {fuel : Nat} {cs : List Value} {x : DataW H × List MemPlace} (h : DataW.trod enc Tryz.prog w base spare held fuel 23 cs = some x) : ∃ a len cap ls, cs = [.slice a len cap] ∧ TmsAt w a len cap ls := by
  rcases Go.Deep.open_slice Tryz.underlying23 h with ⟨hcs, _⟩ | ⟨a, len, cap, m, n, D, Pl, hcs, _, hl, hm, hmm, _, hx⟩
  · exact ⟨none, 0, 0, [], hcs, TmsAt.nil w⟩
  · have hlm : len ≤ m := by rw [hmm]; split <;> omega
    have each : ∀ i, ∃ l : Tm, i < len → ∃ c0 c1, w.cell? ((a.add (i * 2)).add 0) = some c0 ∧ w.cell? ((a.add (i * 2)).add 1) = some c1 ∧ c0 = .int .i64 l.g ∧ ∃ a' len' cap', c1 = .slice a' len' cap' ∧ RowI w a' len' cap' l.ns := fun i => by
      by_cases hi : i < len
      · obtain ⟨cs', h1, h2⟩ := hx i (by omega)
        rw [cellsTm] at h1
        obtain ⟨_, hlen, hc⟩ := World.cells?_some h1
        match cs', hlen with
        | [c0, c1], _ =>
          obtain ⟨n, e0, hn⟩ := open_tm h2
          exact ⟨n, fun _ => ⟨c0, c1, hc 0 (by simp), hc 1 (by simp), e0, hn⟩⟩
      · exact ⟨tm0, fun h => absurd h hi⟩
    obtain ⟨f, hf⟩ := Classical.axiomOfChoice each
    refine ⟨some a, len, cap, (List.range len).map f, hcs, ⟨by simp, hl, hm, nofun, ?_⟩⟩
    by_cases h0 : len = 0
    · exact .inl h0
    · obtain ⟨b, off, spot⟩ := a
      obtain ⟨c0, c1, h1, -⟩ := hf 0 (by omega)
      have hspot : spot = none := by simpa [Addr.add] using World.cell?_spot h1
      subst hspot
      refine .inr ⟨b, off, rfl, fun i hi => ?_⟩
      obtain ⟨c0, c1, k0, k1, e0, a', len', cap', e1, hr⟩ := hf i hi
      rw [show ((List.range len).map f).getD i tm0 = f i by simp [hi]]
      rw [addr_add, addr_add] at k0 k1
      rw [e0] at k0
      rw [e1] at k1
      exact ⟨k0, a', len', cap', k1, hr⟩
theorem open_sps {H : Type} {enc : TypeId × Value → H} {w : World} {base : Nat} {spare : Nat → Bool} {held : Bool} {fuel : Nat} {cs : List Value} {x : DataW H × List MemPlace} (h : DataW.trod enc Tryz.prog w base spare held fuel 51 cs = some x) : ∃ a len cap ls, cs = [.slice a len cap] ∧ TmsAt w a len cap ls := by
  rcases Go.Deep.open_slice Tryz.underlying51 h with ⟨hcs, _⟩ | ⟨a, len, cap, m, n, D, Pl, hcs, _, hl, hm, hmm, _, hx⟩
  · exact ⟨none, 0, 0, [], hcs, TmsAt.nil w⟩
  · have hlm : len ≤ m := by rw [hmm]; split <;> omega
    have each : ∀ i, ∃ l : Tm, i < len → ∃ c0 c1, w.cell? ((a.add (i * 2)).add 0) = some c0 ∧ w.cell? ((a.add (i * 2)).add 1) = some c1 ∧ c0 = .int .i64 l.g ∧ ∃ a' len' cap', c1 = .slice a' len' cap' ∧ RowI w a' len' cap' l.ns := fun i => by
      by_cases hi : i < len
      · obtain ⟨cs', h1, h2⟩ := hx i (by omega)
        rw [cellsSp] at h1
        obtain ⟨_, hlen, hc⟩ := World.cells?_some h1
        match cs', hlen with
        | [c0, c1], _ =>
          obtain ⟨n, e0, hn⟩ := open_sp h2
          exact ⟨n, fun _ => ⟨c0, c1, hc 0 (by simp), hc 1 (by simp), e0, hn⟩⟩
      · exact ⟨tm0, fun h => absurd h hi⟩
    obtain ⟨f, hf⟩ := Classical.axiomOfChoice each
    refine ⟨some a, len, cap, (List.range len).map f, hcs, ⟨by simp, hl, hm, nofun, ?_⟩⟩
    by_cases h0 : len = 0
    · exact .inl h0
    · obtain ⟨b, off, spot⟩ := a
      obtain ⟨c0, c1, h1, -⟩ := hf 0 (by omega)
      have hspot : spot = none := by simpa [Addr.add] using World.cell?_spot h1
      subst hspot
      refine .inr ⟨b, off, rfl, fun i hi => ?_⟩
      obtain ⟨c0, c1, k0, k1, e0, a', len', cap', e1, hr⟩ := hf i hi
      rw [show ((List.range len).map f).getD i tm0 = f i by simp [hi]]
      rw [addr_add, addr_add] at k0 k1
      rw [e0] at k0
      rw [e1] at k1
      exact ⟨k0, a', len', cap', k1, hr⟩
theorem open_tr {H : Type} {enc : TypeId × Value → H} {w : World} {base : Nat} {spare : Nat → Bool} {held : Bool} {fuel : Nat} {c0 c1 : Value} {x : DataW H × List MemPlace} (h : DataW.trod enc Tryz.prog w base spare held fuel 53 [c0, c1] = some x) : ∃ n : Tr, c0 = .int .i64 n.since ∧ ∃ a len cap, c1 = .slice a len cap ∧ TmsAt w a len cap n.past := by
  obtain ⟨y0, y1, n, _, _, h0, h1⟩ := trod_struct2 Tryz.underlying53 h
  simp only [cells3, cellsSs] at h0 h1
  obtain ⟨s0, e0, _, z0⟩ := DataW.trod_int Tryz.underlying3 h0
  obtain ⟨a, len, cap, ls, e1, hr⟩ := open_sps h1
  simp at e0 e1
  exact ⟨⟨s0, ls⟩, e0, a, len, cap, e1, hr⟩
theorem open_trs {H : Type} {enc : TypeId × Value → H} {w : World} {base : Nat} {spare : Nat → Bool} {held : Bool} {fuel : Nat} {cs : List Value} {x : DataW H × List MemPlace} (h : DataW.trod enc Tryz.prog w base spare held fuel 24 cs = some x) : ∃ a len cap ls, cs = [.slice a len cap] ∧ TrsAt w a len cap ls := by
  rcases Go.Deep.open_slice Tryz.underlying24 h with ⟨hcs, _⟩ | ⟨a, len, cap, m, n, D, Pl, hcs, _, hl, hm, hmm, _, hx⟩
  · exact ⟨none, 0, 0, [], hcs, TrsAt.nil w⟩
  · have hlm : len ≤ m := by rw [hmm]; split <;> omega
    have each : ∀ i, ∃ l : Tr, i < len → ∃ c0 c1, w.cell? ((a.add (i * 2)).add 0) = some c0 ∧ w.cell? ((a.add (i * 2)).add 1) = some c1 ∧ c0 = .int .i64 l.since ∧ ∃ a' len' cap', c1 = .slice a' len' cap' ∧ TmsAt w a' len' cap' l.past := fun i => by
      by_cases hi : i < len
      · obtain ⟨cs', h1, h2⟩ := hx i (by omega)
        rw [cellsTr] at h1
        obtain ⟨_, hlen, hc⟩ := World.cells?_some h1
        match cs', hlen with
        | [c0, c1], _ =>
          obtain ⟨n, e0, hn⟩ := open_tr h2
          exact ⟨n, fun _ => ⟨c0, c1, hc 0 (by simp), hc 1 (by simp), e0, hn⟩⟩
      · exact ⟨tr0, fun h => absurd h hi⟩
    obtain ⟨f, hf⟩ := Classical.axiomOfChoice each
    refine ⟨some a, len, cap, (List.range len).map f, hcs, ⟨by simp, hl, hm, nofun, ?_⟩⟩
    by_cases h0 : len = 0
    · exact .inl h0
    · obtain ⟨b, off, spot⟩ := a
      obtain ⟨c0, c1, h1, -⟩ := hf 0 (by omega)
      have hspot : spot = none := by simpa [Addr.add] using World.cell?_spot h1
      subst hspot
      refine .inr ⟨b, off, rfl, fun i hi => ?_⟩
      obtain ⟨c0, c1, k0, k1, e0, a', len', cap', e1, hr⟩ := hf i hi
      rw [show ((List.range len).map f).getD i tr0 = f i by simp [hi]]
      rw [addr_add, addr_add] at k0 k1
      rw [e0] at k0
      rw [e1] at k1
      exact ⟨k0, a', len', cap', k1, hr⟩
theorem trod_struct7 {P : Program} {H : Type} {enc : TypeId × Value → H} {w : World} {base : Nat} {spare : Nat → Bool} {held : Bool} {t : TypeId} {f0 f1 f2 f3 f4 f5 f6 : Field} {fuel : Nat} {cs : List Value} {x : DataW H × List MemPlace} (ht : P.underlying t = some (.struct #[f0, f1, f2, f3, f4, f5, f6])) (h : DataW.trod enc P w base spare held fuel t cs = some x) :
    ∃ y0 y1 y2 y3 y4 y5 y6 n, DataW.trod enc P w base spare held n f0.type ((cs.drop f0.offset).take (P.cellsOf f0.type)) = some y0 ∧ DataW.trod enc P w base spare held n f1.type ((cs.drop f1.offset).take (P.cellsOf f1.type)) = some y1 ∧ DataW.trod enc P w base spare held n f2.type ((cs.drop f2.offset).take (P.cellsOf f2.type)) = some y2 ∧ DataW.trod enc P w base spare held n f3.type ((cs.drop f3.offset).take (P.cellsOf f3.type)) = some y3 ∧ DataW.trod enc P w base spare held n f4.type ((cs.drop f4.offset).take (P.cellsOf f4.type)) = some y4 ∧ DataW.trod enc P w base spare held n f5.type ((cs.drop f5.offset).take (P.cellsOf f5.type)) = some y5 ∧ DataW.trod enc P w base spare held n f6.type ((cs.drop f6.offset).take (P.cellsOf f6.type)) = some y6 := by
  obtain ⟨xs, n, _, rfl, hl, hlen, hf⟩ := DataW.trod_struct ht h
  match xs, hlen with
  | [y0, y1, y2, y3, y4, y5, y6], _ => exact ⟨y0, y1, y2, y3, y4, y5, y6, n, by simpa using hf 0 f0 rfl, by simpa using hf 1 f1 rfl, by simpa using hf 2 f2 rfl, by simpa using hf 3 f3 rfl, by simpa using hf 4 f4 rfl, by simpa using hf 5 f5 rfl, by simpa using hf 6 f6 rfl⟩
/-- nodes, with what a nil slice holds -/
theorem open_nodes0 {H : Type} {enc : TypeId × Value → H} {w : World} {base : Nat} {spare : Nat → Bool} {held : Bool} {fuel : Nat} {cs : List Value} {x : DataW H × List MemPlace} (h : DataW.trod enc Tryz.prog w base spare held fuel 22 cs = some x) : ∃ a len cap ls, cs = [.slice a len cap] ∧ NdsAt w a len cap ls ∧ (a = none → cap = 0) := by
  obtain ⟨a, len, cap, ls, e, hn⟩ := open_nodes h
  refine ⟨a, len, cap, ls, e, hn, fun ha => ?_⟩
  rcases Go.Deep.open_slice Tryz.underlying22 h with ⟨hcs, _⟩ | ⟨a', len', cap', m, n, D, Pl, hcs, _⟩
  · rw [e] at hcs
    simp at hcs
    exact hcs.2.2
  · rw [e] at hcs
    simp at hcs
    rw [ha] at hcs
    exact absurd hcs.1 (by simp)
theorem open_map {H : Type} {enc : TypeId × Value → H} {w : World} {base : Nat} {spare : Nat → Bool} {held : Bool} {fuel : Nat} {c0 c1 c2 c3 c4 c5 c6 : Value} {x : DataW H × List MemPlace} (h : DataW.trod enc Tryz.prog w base spare held fuel 26 [c0, c1, c2, c3, c4, c5, c6] = some x) : ∃ m s, [c0, c1, c2, c3, c4, c5, c6] = mapCells m s ∧ MapAt w m s := by
  obtain ⟨y0, y1, y2, y3, y4, y5, y6, n, h0, h1, h2, h3, h4, h5, h6⟩ := trod_struct7 Tryz.underlying26 h
  simp only [cells3, cellsNs, cellsTs, cellsRs] at h0 h1 h2 h3 h4 h5 h6
  obtain ⟨s0, e0, _, z0⟩ := DataW.trod_int Tryz.underlying3 h0
  obtain ⟨s1, e1, _, z1⟩ := DataW.trod_int Tryz.underlying3 h1
  obtain ⟨s2, e2, _, z2⟩ := DataW.trod_int Tryz.underlying3 h2
  obtain ⟨s3, e3, _, z3⟩ := DataW.trod_int Tryz.underlying3 h3
  obtain ⟨aN, lN, cN, nds, e4, hN, hn0⟩ := open_nodes0 h4
  obtain ⟨aT, lT, cT, tms, e5, hT⟩ := open_tms h5
  obtain ⟨aR, lR, cR, trs, e6, hR⟩ := open_trs h6
  simp at e0 e1 e2 e3 e4 e5 e6
  exact ⟨⟨s0, s1, s2, s3, nds, tms, trs⟩, ⟨aN, lN, cN, aT, lT, cT, aR, lR, cR⟩, by rw [e0, e1, e2, e3, e4, e5, e6]; rfl, hN, hn0, hT, hR⟩
set_option maxRecDepth 60000 in
theorem open_mapv {H : Type} {enc : TypeId × Value → H} {w : World} {base : Nat} {spare : Nat → Bool} {held : Bool} {r : Reach} {b0 : Nat} {v : Value} {d : DataW H} {p : List MemPlace} (hv : Value.okWide Tryz.prog w r b0 26 v) (h : DataW.Trod enc Tryz.prog w base spare held 26 v d p) :
    ∃ m s, v = .agg (mapCells m s).toArray ∧ MapAt w m s := by
  obtain ⟨cs, rfl, hs⟩ := okWide_struct Tryz.underlying26 hv
  obtain ⟨fuel, hf⟩ := h
  rw [cellsMp] at hs
  obtain ⟨l⟩ := cs
  match l, hs with
  | [c0, c1, c2, c3, c4, c5, c6], _ =>
    obtain ⟨m, s, e, hm⟩ := open_map (by simpa [Value.cells] using hf)
    exact ⟨m, s, by rw [← e], hm⟩
end Go.Proofs.YtcncbjknfcjnmaaGreat.Tp
