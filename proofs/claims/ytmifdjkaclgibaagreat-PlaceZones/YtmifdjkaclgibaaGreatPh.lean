/-
  The contracts of the answer's Zones, Racks and Leaves.
-/
import Derived.Test.YtmifdjkaclgibaaGreatPg
namespace Go.Proofs.YtmifdjkaclgibaaGreat.Tp
open Go.ChangeShapes Go.WideShapes Go.ChangeAt Go.RowKit
set_option maxHeartbeats 4000000 in
set_option maxRecDepth 60000 in
theorem leaf_put (t1 t2 t3 t4 t5 t6 t9 t10 t11 t12 t13 t14 t15 t16 t17 t18 t19 t20 t21 t22 t23 t24 t25 t26 t27 t28 t29 t30 t31 t32 t33 t34 t35 t36 t37 t38 t39 t40 t41 t42 t43 t44 t45 t46 t47 t48 t49 t50 t51 t52 t53 t54 : Value) (b off len cap k B : Nat) (c1 c2 c3 c4 : Int) (c5 c6 : Bool) (lv : Value) (L : List Ch) (w1 : World) (Q : Exit → Act → World → Prop)
    (x0 : w1.cell? ⟨b, off + k * 6, none⟩ = some (.int .i64 c1)) (x1 : w1.cell? ⟨b, off + k * 6 + 1, none⟩ = some (.int .i64 c2)) (x2 : w1.cell? ⟨b, off + k * 6 + 2, none⟩ = some (.int .i64 c3)) (x3 : w1.cell? ⟨b, off + k * 6 + 3, none⟩ = some (.int .i64 c4)) (x4 : w1.cell? ⟨b, off + k * 6 + 4, none⟩ = some (.bool c5)) (x5 : w1.cell? ⟨b, off + k * 6 + 5, none⟩ = some (.bool c6)) (hX : b < w1.heap.size) (hk0 : (0 : Int) ≤ (k : Int)) (hk1 : (k : Int) < (len : Int)) (hown : w1.ownsRow B 33 2 lv L.length (cellsC L)) (hB : B ≤ w1.heap.size) (hneX : lv.ownBlock ≠ some b) (hlen : L.length ≤ 12)
    (hQ : Hid (∀ (u40 u41 u42 u43 u44 u45 u46 u47 u48 u49 u50 u51 u52 u53 : Value) (v' : Value) (wC : World), wC.ownsRow B 33 2 v' (L ++ [(c1, wtN ⟨c1, c2, c3, c4, c5, c6⟩)]).length (cellsC (L ++ [(c1, wtN ⟨c1, c2, c3, c4, c5, c6⟩)])) → w1.grownBy wC lv.ownBlock → Q .normal ⟨#[.slice (some ⟨b, off, none⟩) len cap, t1, t2, t3, t4, t5, t6, v', .int .i64 (k : Int), t9, t10, t11, t12, t13, t14, t15, t16, t17, t18, t19, t20, t21, t22, t23, t24, t25, t26, t27, t28, t29, t30, t31, t32, t33, t34, t35, t36, t37, t38, t39, u40, u41, u42, u43, u44, u45, u46, u47, u48, u49, u50, u51, u52, u53, t54], []⟩ wC)) :
    Code.wp Tryz.prog ((Tryz.f22.body.bind (regionOf 6)).getD .skip) Q ⟨#[.slice (some ⟨b, off, none⟩) len cap, t1, t2, t3, t4, t5, t6, lv, .int .i64 (k : Int), t9, t10, t11, t12, t13, t14, t15, t16, t17, t18, t19, t20, t21, t22, t23, t24, t25, t26, t27, t28, t29, t30, t31, t32, t33, t34, t35, t36, t37, t38, t39, t40, t41, t42, t43, t44, t45, t46, t47, t48, t49, t50, t51, t52, t53, t54], []⟩ w1 := by
  obtain ⟨i0, hi, hz0, hz1, hz2⟩ := info_parts infoCh
  have HS : Hid (∀ w', Below w1.heap.size w1 w' → (fun w' => w'.cell? ⟨b, off + k * 6, none⟩ = some (.int .i64 c1) ∧ w'.cell? ⟨b, off + k * 6 + 1, none⟩ = some (.int .i64 c2) ∧ w'.cell? ⟨b, off + k * 6 + 2, none⟩ = some (.int .i64 c3) ∧ w'.cell? ⟨b, off + k * 6 + 3, none⟩ = some (.int .i64 c4) ∧ w'.cell? ⟨b, off + k * 6 + 4, none⟩ = some (.bool c5) ∧ w'.cell? ⟨b, off + k * 6 + 5, none⟩ = some (.bool c6)) w') := fun w' h => ⟨(h.cell (p := ⟨b, off + k * 6, none⟩) hX).trans x0, (h.cell (p := ⟨b, off + k * 6 + 1, none⟩) hX).trans x1, (h.cell (p := ⟨b, off + k * 6 + 2, none⟩) hX).trans x2, (h.cell (p := ⟨b, off + k * 6 + 3, none⟩) hX).trans x3, (h.cell (p := ⟨b, off + k * 6 + 4, none⟩) hX).trans x4, (h.cell (p := ⟨b, off + k * 6 + 5, none⟩) hX).trans x5⟩
  have HW : Hid (∀ W : World, Calls Tryz.prog 26 #[.agg #[.int .i64 c1, .int .i64 c2, .int .i64 c3, .int .i64 c4, .bool c5, .bool c6]] W fun e w' => e = .returned (.int .i64 (wtN ⟨c1, c2, c3, c4, c5, c6⟩)) ∧ Grown W w') := fun W => refWeight_any c1 c2 c3 c4 c5 c6 W
  have HOWN : Hid (w1.ownsRow B 33 2 lv L.length (cellsC L)) := hown
  have HL : Hid (L.length ≤ 12) := hlen
  clear hown x0 x1 x2 x3 x4 x5 hlen
  generalize wtN ⟨c1, c2, c3, c4, c5, c6⟩ = d at *
  have hS := HS.out w1.drew (below_drew w1)
  conv => arg 2; whnf
  refine held_start (S := (fun w' => w'.cell? ⟨b, off + k * 6, none⟩ = some (.int .i64 c1) ∧ w'.cell? ⟨b, off + k * 6 + 1, none⟩ = some (.int .i64 c2) ∧ w'.cell? ⟨b, off + k * 6 + 2, none⟩ = some (.int .i64 c3) ∧ w'.cell? ⟨b, off + k * 6 + 3, none⟩ = some (.int .i64 c4) ∧ w'.cell? ⟨b, off + k * 6 + 4, none⟩ = some (.bool c5) ∧ w'.cell? ⟨b, off + k * 6 + 5, none⟩ = some (.bool c6))) mixed5 ?_
  refine held_take (i := 0) (v := lv) rfl (by kernel_rfl) (fun _ _ _ h => h) (.inl ⟨rfl, fun w hS => ?_⟩) hS ?_
  · obtain ⟨s0, s1, s2, s3, s4, s5⟩ := hS
    go_simp
  simp only [Act.put, List.setIfInBounds_toArray, List.set_cons_zero, List.set_cons_succ]
  refine held_take (i := 1) (v := .slice (some ⟨b, off, none⟩) len cap) rfl (by kernel_rfl) (fun _ _ _ h => h) (.inl ⟨rfl, fun w hS => ?_⟩) hS ?_
  · obtain ⟨s0, s1, s2, s3, s4, s5⟩ := hS
    go_simp
  simp only [Act.put, List.setIfInBounds_toArray, List.set_cons_zero, List.set_cons_succ]
  refine held_take (i := 2) (v := .int .i64 (k : Int)) rfl (by kernel_rfl) (fun _ _ _ h => h) (.inl ⟨rfl, fun w hS => ?_⟩) hS ?_
  · obtain ⟨s0, s1, s2, s3, s4, s5⟩ := hS
    go_simp
  simp only [Act.put, List.setIfInBounds_toArray, List.set_cons_zero, List.set_cons_succ]
  refine held_take (i := 3) (v := .pointer (some ⟨b, off + k * 6, none⟩)) rfl (by kernel_rfl) (fun _ _ _ h => h) (.inl ⟨rfl, fun w hS => ?_⟩) hS ?_
  · obtain ⟨s0, s1, s2, s3, s4, s5⟩ := hS
    go_simp
  simp only [Act.put, List.setIfInBounds_toArray, List.set_cons_zero, List.set_cons_succ]
  refine held_take (i := 4) (v := .pointer (some ⟨b, off + k * 6, none⟩)) rfl (by kernel_rfl) (fun _ _ _ h => h) (.inl ⟨rfl, fun w hS => ?_⟩) hS ?_
  · obtain ⟨s0, s1, s2, s3, s4, s5⟩ := hS
    go_simp
  simp only [Act.put, List.setIfInBounds_toArray, List.set_cons_zero, List.set_cons_succ]
  refine held_take (i := 5) (v := .int .i64 c1) rfl (by kernel_rfl) (fun _ _ _ h => h) (.inl ⟨rfl, fun w hS => ?_⟩) hS ?_
  · obtain ⟨s0, s1, s2, s3, s4, s5⟩ := hS
    go_simp
  simp only [Act.put, List.setIfInBounds_toArray, List.set_cons_zero, List.set_cons_succ]
  refine held_take (i := 6) (v := .slice (some ⟨b, off, none⟩) len cap) rfl (by kernel_rfl) (fun _ _ _ h => h) (.inl ⟨rfl, fun w hS => ?_⟩) hS ?_
  · obtain ⟨s0, s1, s2, s3, s4, s5⟩ := hS
    go_simp
  simp only [Act.put, List.setIfInBounds_toArray, List.set_cons_zero, List.set_cons_succ]
  refine held_take (i := 7) (v := .int .i64 (k : Int)) rfl (by kernel_rfl) (fun _ _ _ h => h) (.inl ⟨rfl, fun w hS => ?_⟩) hS ?_
  · obtain ⟨s0, s1, s2, s3, s4, s5⟩ := hS
    go_simp
  simp only [Act.put, List.setIfInBounds_toArray, List.set_cons_zero, List.set_cons_succ]
  refine held_take (i := 8) (v := .pointer (some ⟨b, off + k * 6, none⟩)) rfl (by kernel_rfl) (fun _ _ _ h => h) (.inl ⟨rfl, fun w hS => ?_⟩) hS ?_
  · obtain ⟨s0, s1, s2, s3, s4, s5⟩ := hS
    go_simp
  simp only [Act.put, List.setIfInBounds_toArray, List.set_cons_zero, List.set_cons_succ]
  refine held_take (i := 9) (v := .agg #[.int .i64 c1, .int .i64 c2, .int .i64 c3, .int .i64 c4, .bool c5, .bool c6]) rfl (by kernel_rfl) (fun _ _ _ h => h) (.inl ⟨rfl, fun w hS => ?_⟩) hS ?_
  · obtain ⟨s0, s1, s2, s3, s4, s5⟩ := hS
    go_simp
  simp only [Act.put, List.setIfInBounds_toArray, List.set_cons_zero, List.set_cons_succ]
  refine held_one (i := 10) (by kernel_rfl) rfl rfl ?_
  intro K hK
  go_simp
  go_at_call 26
  refine (HW.out _).mono ?_
  rintro en w3 ⟨rfl, hg3⟩
  have hb3 : Below w1.heap.size w1 w3 := below2 (below_drew w1) (grown_below hg3)
  refine hK.out _ _ (HS.out w3 hb3) ?_
  clear hK hS hg3
  have hS := HS.out w3 hb3
  refine held_take (i := 11) (v := .agg #[.int .i64 c1, .int .i64 d]) rfl (by kernel_rfl) (fun _ _ _ h => h) (.inl ⟨rfl, fun w hS => ?_⟩) hS ?_
  · obtain ⟨s0, s1, s2, s3, s4, s5⟩ := hS
    go_simp
  simp only [Act.put, List.setIfInBounds_toArray, List.set_cons_zero, List.set_cons_succ]
  refine held_one (i := 12) (by kernel_rfl) rfl rfl ?_
  intro K hK
  go_simp
  have hb4 : Below w1.heap.size w1 (w3.alloc (.cells #[.int .i64 c1, .int .i64 d] 33)) := hb3.alloc hb3.size _
  have hnews := cells_lit w3 (chCells (c1, d)) 33
  refine hK.out _ _ (HS.out _ hb4) ?_
  clear hK hS
  have hS := HS.out _ hb4
  have hw4 : w3.alloc (.cells (chCells (c1, d)).toArray 33) = w3.alloc (.cells #[.int .i64 c1, .int .i64 d] 33) := rfl
  rw [hw4] at hnews
  have hs4 : w1.heap.size ≤ (w3.alloc (.cells #[.int .i64 c1, .int .i64 d] 33)).heap.size := hb4.size
  generalize w3.alloc (.cells #[.int .i64 c1, .int .i64 d] 33) = w4 at *
  refine held_one (i := 13) (by kernel_rfl) rfl rfl ?_
  intro K hK
  refine wp_append_own w4 (.tmp 40) (.tmp 52) 30 rfl B 33 i0 (.agg #[.int .i64 0, .int .i64 0]) 2 16 Tryz.underlying30 hi hz0 hz1 hz2 rfl (by decide) lv L.length (cellsC L) rfl (own_below HOWN.out hb4) ⟨w3.heap.size, 0, none⟩ 1 1 (chCells (c1, d)) rfl rfl hnews (by intro u hu; simp [chCells] at hu; rcases hu with rfl | rfl <;> rfl) (by unfold maxLen; have := HL.out; omega) (by have := HL.out; omega) (Nat.le_trans hB hs4) ?_
  intro v5 w5 hown5 hg5 _
  have hXn : some b ≠ lv.ownBlock := fun e => hneX e.symm
  have hS5 : (fun w' => w'.cell? ⟨b, off + k * 6, none⟩ = some (.int .i64 c1) ∧ w'.cell? ⟨b, off + k * 6 + 1, none⟩ = some (.int .i64 c2) ∧ w'.cell? ⟨b, off + k * 6 + 2, none⟩ = some (.int .i64 c3) ∧ w'.cell? ⟨b, off + k * 6 + 3, none⟩ = some (.int .i64 c4) ∧ w'.cell? ⟨b, off + k * 6 + 4, none⟩ = some (.bool c5) ∧ w'.cell? ⟨b, off + k * 6 + 5, none⟩ = some (.bool c6)) w5 := ⟨(grownBy_cell hg5 (p := ⟨b, off + k * 6, none⟩) (Nat.lt_of_lt_of_le hX hs4) hXn).trans hS.1, (grownBy_cell hg5 (p := ⟨b, off + k * 6 + 1, none⟩) (Nat.lt_of_lt_of_le hX hs4) hXn).trans hS.2.1, (grownBy_cell hg5 (p := ⟨b, off + k * 6 + 2, none⟩) (Nat.lt_of_lt_of_le hX hs4) hXn).trans hS.2.2.1, (grownBy_cell hg5 (p := ⟨b, off + k * 6 + 3, none⟩) (Nat.lt_of_lt_of_le hX hs4) hXn).trans hS.2.2.2.1, (grownBy_cell hg5 (p := ⟨b, off + k * 6 + 4, none⟩) (Nat.lt_of_lt_of_le hX hs4) hXn).trans hS.2.2.2.2.1, (grownBy_cell hg5 (p := ⟨b, off + k * 6 + 5, none⟩) (Nat.lt_of_lt_of_le hX hs4) hXn).trans hS.2.2.2.2.2⟩
  refine hK.out _ _ hS5 ?_
  clear hK hS
  have hS := hS5
  simp only [Act.put, List.setIfInBounds_toArray, List.set_cons_zero, List.set_cons_succ]
  refine held_take (i := 14) (v := v5) rfl (by kernel_rfl) (fun _ _ _ h => h) (.inl ⟨rfl, fun w hS => ?_⟩) hS ?_
  · obtain ⟨s0, s1, s2, s3, s4, s5⟩ := hS
    go_simp
  simp only [Act.put, List.setIfInBounds_toArray, List.set_cons_zero, List.set_cons_succ]
  refine wpAnyH_done (by kernel_rfl) ?_ _
  refine NoPanic.normal ?_
  refine hQ.out _ _ _ _ _ _ _ _ _ _ _ _ _ _ v5 w5 ?_ ?_
  · rw [cellsC_snoc, List.length_append]
    exact hown5
  · exact grownBy_trans (below_grownBy hb4 lv.ownBlock) hg5
def leafC (x : Nd) : Ch := (x.id, wtN x)
theorem leaf_take (ls : List Nd) (zone rack : Int) {k : Nat} (h : k < ls.length) : ((ls.take (k + 1)).filter (selN zone rack)).map leafC = ((ls.take k).filter (selN zone rack)).map leafC ++ (if selN zone rack (ls.getD k nd0) = true then [leafC (ls.getD k nd0)] else []) := by
  rw [List.take_succ_eq_append_getElem h, getN_get h, List.filter_append, List.map_append]
  congr 1
  by_cases hs : selN zone rack ls[k] = true
  · rw [if_pos hs, List.filter_cons_of_pos hs]
    rfl
  · rw [if_neg hs, List.filter_cons_of_neg hs]
    rfl
set_option maxHeartbeats 4000000 in
set_option maxRecDepth 60000 in
theorem refLeaves_any (a : Option Addr) (len cap : Nat) (ls : List Nd) (zone rack : Int) (w : World) (h : NdsAt w a len cap ls) (hM : MayN ls) : Calls Tryz.prog 22 #[.slice a len cap, .int .i64 zone, .int .i64 rack] w fun e w' => ChPost (leavesOf ls zone rack) w e w' := by
  have hl : ls.length = len := h.1
  have HL : Hid (NdsAt w a len cap ls) := h
  have h12 : (len : Int) ≤ 12 := by have := hM.1; omega
  have HEQ : Hid (((ls.take len).filter (selN zone rack)).map leafC = leavesOf ls zone rack) := by unfold Hid; rw [List.take_of_length_le (by omega)]; exact leaves_ref zone rack hM
  have HTK : Hid (∀ k, k < len → ((ls.take (k + 1)).filter (selN zone rack)).map leafC = ((ls.take k).filter (selN zone rack)).map leafC ++ (if selN zone rack (ls.getD k nd0) = true then [leafC (ls.getD k nd0)] else [])) := fun k hk => leaf_take ls zone rack (by omega)
  have HLIT : Hid ((w.alloc (.cells #[] 33)).ownsRow w.heap.size 33 2 (.slice (some ⟨w.heap.size, 0, none⟩) 0 0) ([] : List Ch).length (cellsC [])) := World.ownsRow_lit (base := w.heap.size) (size := 2) (e := 33) w #[] 0 (Nat.le_refl _) (Nat.zero_le _) (by simp)
  have hb0 := below_alloc w (.cells #[] 33)
  clear h hM hl
  go_enter Tryz.func22, Tryz.ntmps22
  go_wp2_with fail
  go_loopw [7, 8] (fun o i wr => ∃ (k : Nat) (out : List Ch), k ≤ len ∧ i = .int .i64 k ∧ Hid (out = ((ls.take k).filter (selN zone rack)).map leafC) ∧ out.length ≤ k ∧ Hid (wr.ownsRow w.heap.size 33 2 o out.length (cellsC out)) ∧ Below w.heap.size w wr) (fun _ i _ => len - (intOf i).toNat)
  case atStart => exact ⟨0, [], Nat.zero_le _, rfl, rfl, Nat.le_refl _, HLIT, hb0⟩
  case round =>
    obtain ⟨k, out, hk, rfl, hT, hok, hown, hbel⟩ := hrel
    obtain ⟨ao, co, he, -⟩ := own_slice hown.out
    subst he
    by_cases hlt : k < len
    · obtain ⟨b, off, rfl, hb00, -⟩ := HL.out.some (by omega)
      have hcell := (HL.out.below hbel)
      obtain ⟨b', off', hbe, hbs, hcell⟩ := hcell.some (by omega)
      injection hbe with hbe
      injection hbe with hb1 hb2
      subst hb1
      subst hb2
      obtain ⟨e0, e1, e2, e3, e4, e5⟩ := hcell k hlt
      have hk1 : (k : Int) < (len : Int) := by omega
      have hk0 : (0 : Int) ≤ (k : Int) := by omega
      have HST := HTK.out k hlt
      rw [← hT.out] at HST
      have HO : Hid (wr.ownsRow w.heap.size 33 2 (.slice ao out.length co) out.length (cellsC out)) := hown.out
      have HLT : Hid (∀ j, (Value.slice ao out.length co).ownBlock = some j → w.heap.size ≤ j) := fun j hj => (hown.out.lt j hj).1
      have HNE : Hid ((Value.slice ao out.length co).ownBlock ≠ some b) := fun e => by have := HLT.out b e; omega
      have HLN : Hid (out.length ≤ 12) := by unfold Hid; omega
      clear hcell hT hown HTK
      generalize ls.getD k nd0 = x at *
      obtain ⟨c1, c2, c3, c4, c5, c6⟩ := x
      simp only at e0 e1 e2 e3 e4 e5
      by_cases hz : zone = 0 ∨ c2 = zone
      · by_cases hr : rack = 0 ∨ c3 = rack
        · have HYES : Hid (out ++ [(c1, wtN ⟨c1, c2, c3, c4, c5, c6⟩)] = ((ls.take (k + 1)).filter (selN zone rack)).map leafC) := by
            unfold Hid
            rw [HST, if_pos (by simp only [selN, coversB, Bool.and_eq_true, Bool.or_eq_true, beq_iff_eq]; exact ⟨hz.imp id Eq.symm, hr.imp id Eq.symm⟩)]
            rfl
          clear HST
          by_cases hz1 : zone = 0
          · have d1 : (zone == 0) = true := by simpa using hz1
            by_cases hr1 : rack = 0
            · have d2 : (rack == 0) = true := by simpa using hr1
              clear hz hr hz1 hr1
              go_wp2_with fail
              refine leaf_put _ _ _ _ _ _ _ _ _ _ _ _ _ _ _ _ _ _ _ _ _ _ _ _ _ _ _ _ _ _ _ _ _ _ _ _ _ _ _ _ _ _ _ _ _ _ _ _ _ _ _ _ b off len cap k w.heap.size c1 c2 c3 c4 c5 c6 (.slice ao out.length co) out wr _ e0 e1 e2 e3 e4 e5 hbs hk0 hk1 HO.out (by have := hbel.size; omega) HNE.out HLN.out (fun u40 u41 u42 u43 u44 u45 u46 u47 u48 u49 u50 u51 u52 u53 v' wC hownC hgC => ?_)
              have HO7 : Hid (wC.ownsRow w.heap.size 33 2 v' (out ++ [(c1, wtN ⟨c1, c2, c3, c4, c5, c6⟩)]).length (cellsC (out ++ [(c1, wtN ⟨c1, c2, c3, c4, c5, c6⟩)]))) := hownC
              have hb7 : Below w.heap.size w wC := hbel.grown hgC hbel.size (fun j hj => HLT.out j hj)
              clear hownC hgC HO HNE HLT
              dsimp only
              go_wp2_with fail
              exact ⟨⟨k + 1, out ++ [(c1, wtN ⟨c1, c2, c3, c4, c5, c6⟩)], by omega, by go_num, HYES, by simp; omega, HO7, hb7⟩, by simp [intOf]; omega⟩
            · have d2 : (rack == 0) = false := by simpa using hr1
              have d3 : (c3 == rack) = true := by rcases hr with h | h; exact absurd h hr1; simpa using h
              clear hz hr hz1 hr1
              go_wp2_with fail
              refine leaf_put _ _ _ _ _ _ _ _ _ _ _ _ _ _ _ _ _ _ _ _ _ _ _ _ _ _ _ _ _ _ _ _ _ _ _ _ _ _ _ _ _ _ _ _ _ _ _ _ _ _ _ _ b off len cap k w.heap.size c1 c2 c3 c4 c5 c6 (.slice ao out.length co) out wr _ e0 e1 e2 e3 e4 e5 hbs hk0 hk1 HO.out (by have := hbel.size; omega) HNE.out HLN.out (fun u40 u41 u42 u43 u44 u45 u46 u47 u48 u49 u50 u51 u52 u53 v' wC hownC hgC => ?_)
              have HO7 : Hid (wC.ownsRow w.heap.size 33 2 v' (out ++ [(c1, wtN ⟨c1, c2, c3, c4, c5, c6⟩)]).length (cellsC (out ++ [(c1, wtN ⟨c1, c2, c3, c4, c5, c6⟩)]))) := hownC
              have hb7 : Below w.heap.size w wC := hbel.grown hgC hbel.size (fun j hj => HLT.out j hj)
              clear hownC hgC HO HNE HLT
              dsimp only
              go_wp2_with fail
              exact ⟨⟨k + 1, out ++ [(c1, wtN ⟨c1, c2, c3, c4, c5, c6⟩)], by omega, by go_num, HYES, by simp; omega, HO7, hb7⟩, by simp [intOf]; omega⟩
          · have d1 : (zone == 0) = false := by simpa using hz1
            have d4 : (c2 == zone) = true := by rcases hz with h | h; exact absurd h hz1; simpa using h
            by_cases hr1 : rack = 0
            · have d2 : (rack == 0) = true := by simpa using hr1
              clear hz hr hz1 hr1
              go_wp2_with fail
              refine leaf_put _ _ _ _ _ _ _ _ _ _ _ _ _ _ _ _ _ _ _ _ _ _ _ _ _ _ _ _ _ _ _ _ _ _ _ _ _ _ _ _ _ _ _ _ _ _ _ _ _ _ _ _ b off len cap k w.heap.size c1 c2 c3 c4 c5 c6 (.slice ao out.length co) out wr _ e0 e1 e2 e3 e4 e5 hbs hk0 hk1 HO.out (by have := hbel.size; omega) HNE.out HLN.out (fun u40 u41 u42 u43 u44 u45 u46 u47 u48 u49 u50 u51 u52 u53 v' wC hownC hgC => ?_)
              have HO7 : Hid (wC.ownsRow w.heap.size 33 2 v' (out ++ [(c1, wtN ⟨c1, c2, c3, c4, c5, c6⟩)]).length (cellsC (out ++ [(c1, wtN ⟨c1, c2, c3, c4, c5, c6⟩)]))) := hownC
              have hb7 : Below w.heap.size w wC := hbel.grown hgC hbel.size (fun j hj => HLT.out j hj)
              clear hownC hgC HO HNE HLT
              dsimp only
              go_wp2_with fail
              exact ⟨⟨k + 1, out ++ [(c1, wtN ⟨c1, c2, c3, c4, c5, c6⟩)], by omega, by go_num, HYES, by simp; omega, HO7, hb7⟩, by simp [intOf]; omega⟩
            · have d2 : (rack == 0) = false := by simpa using hr1
              have d3 : (c3 == rack) = true := by rcases hr with h | h; exact absurd h hr1; simpa using h
              clear hz hr hz1 hr1
              go_wp2_with fail
              refine leaf_put _ _ _ _ _ _ _ _ _ _ _ _ _ _ _ _ _ _ _ _ _ _ _ _ _ _ _ _ _ _ _ _ _ _ _ _ _ _ _ _ _ _ _ _ _ _ _ _ _ _ _ _ b off len cap k w.heap.size c1 c2 c3 c4 c5 c6 (.slice ao out.length co) out wr _ e0 e1 e2 e3 e4 e5 hbs hk0 hk1 HO.out (by have := hbel.size; omega) HNE.out HLN.out (fun u40 u41 u42 u43 u44 u45 u46 u47 u48 u49 u50 u51 u52 u53 v' wC hownC hgC => ?_)
              have HO7 : Hid (wC.ownsRow w.heap.size 33 2 v' (out ++ [(c1, wtN ⟨c1, c2, c3, c4, c5, c6⟩)]).length (cellsC (out ++ [(c1, wtN ⟨c1, c2, c3, c4, c5, c6⟩)]))) := hownC
              have hb7 : Below w.heap.size w wC := hbel.grown hgC hbel.size (fun j hj => HLT.out j hj)
              clear hownC hgC HO HNE HLT
              dsimp only
              go_wp2_with fail
              exact ⟨⟨k + 1, out ++ [(c1, wtN ⟨c1, c2, c3, c4, c5, c6⟩)], by omega, by go_num, HYES, by simp; omega, HO7, hb7⟩, by simp [intOf]; omega⟩
        · have HNO : Hid (out = ((ls.take (k + 1)).filter (selN zone rack)).map leafC) := by
            unfold Hid
            rw [HST, if_neg (by simp only [selN, coversB, Bool.and_eq_true, Bool.or_eq_true, beq_iff_eq]; exact fun h => hr (h.2.imp id Eq.symm)), List.append_nil]
          have d2 : (rack == 0) = false := by simpa using fun h => hr (.inl h)
          have d3 : (c3 == rack) = false := by simpa using fun h => hr (.inr h)
          clear HST
          by_cases hz1 : zone = 0
          · have d1 : (zone == 0) = true := by simpa using hz1
            go_wp2_with fail
            exact ⟨⟨k + 1, out, by omega, by go_num, HNO, by omega, HO, hbel⟩, by simp [intOf]; omega⟩
          · have d1 : (zone == 0) = false := by simpa using hz1
            have d4 : (c2 == zone) = true := by rcases hz with h | h; exact absurd h hz1; simpa using h
            go_wp2_with fail
            exact ⟨⟨k + 1, out, by omega, by go_num, HNO, by omega, HO, hbel⟩, by simp [intOf]; omega⟩
      · have HNO : Hid (out = ((ls.take (k + 1)).filter (selN zone rack)).map leafC) := by
          unfold Hid
          rw [HST, if_neg (by simp only [selN, coversB, Bool.and_eq_true, Bool.or_eq_true, beq_iff_eq]; exact fun h => hz (h.1.imp id Eq.symm)), List.append_nil]
        have d1 : (zone == 0) = false := by simpa using fun h => hz (.inl h)
        have d4 : (c2 == zone) = false := by simpa using fun h => hz (.inr h)
        clear HST
        go_wp2_with fail
        exact ⟨⟨k + 1, out, by omega, by go_num, HNO, by omega, HO, hbel⟩, by simp [intOf]; omega⟩
    · obtain rfl : k = len := by omega
      have HE : Hid (out = leavesOf ls zone rack) := by unfold Hid; rw [hT.out, HEQ.out]
      have HI : Hid (ChsAt wr ao out.length co out) := chs_own hown.out rfl
      clear hT hown
      go_wp2_with fail
      go_ret
      rw [← HE.out]
      exact ⟨hbel, ao, co, rfl, HI.out⟩
set_option maxHeartbeats 4000000 in
set_option maxRecDepth 60000 in
theorem refZones_any (a : Option Addr) (len cap : Nat) (ls : List Nd) (w : World) (h : NdsAt w a len cap ls) (hM : MayN ls) : Calls Tryz.prog 9 #[.slice a len cap] w fun e w' => ChPost (zonesOf ls) w e w' := by
  have hl : ls.length = len := h.1
  have HL : Hid (NdsAt w a len cap ls) := h
  have h12 : (len : Int) ≤ 12 := by have := hM.1; omega
  obtain ⟨i0, hi, hz0, hz1, hz2⟩ := info_parts info3
  obtain ⟨wM, hmk, hownM, hgM⟩ := run_make_full (P := Tryz.prog) w w.heap.size 23 3 i0 (.int .i64 0) 1 Tryz.underlying23 hi hz0 hz1 .i64 .i64 len (by rw [hz2]; omega) (by unfold maxLen; omega) (Nat.le_refl _)
  have hbM : Below w.heap.size w wM := ⟨hgM.os, hgM.tape, hgM.output, hgM.size, fun k hk => hgM.block k hk (by simp)⟩
  have hxs : (madeCells (Value.int .i64 0).cells (len * 1)).toList = intCells ((ls.map zoneG).take 0) ++ List.replicate (len - 0) (Value.int .i64 0) := by
    rw [Nat.mul_one]
    exact toList_madeCells_one _ _
  have HOM : Hid (wM.ownsRow w.heap.size 3 1 (.slice (some ⟨w.heap.size, 0, none⟩) len len) len (intCells ((ls.map zoneG).take 0) ++ List.replicate (len - 0) (Value.int .i64 0))) := by rw [← hxs]; exact hownM
  have HSM : Hid (∀ wr, Below w.heap.size w wr → IntsAt wr (some ⟨w.heap.size, 0, none⟩) (ls.map zoneG) → Calls Tryz.prog 16 #[.slice a len cap, .slice (some ⟨w.heap.size, 0, none⟩) len len] wr fun e w' => ChPost (zonesOf ls) wr e w') := fun wr hb hI => sum_any a len cap ls zoneG _ len wr (HL.out.below hb) hI hM
  have HLN : Hid ((ls.map zoneG).length = len) := by unfold Hid; rw [List.length_map, hl]
  have HGT : Hid (∀ k, k < len → (ls.map zoneG).getD k 0 = zoneG (ls.getD k nd0)) := fun k hk => by simp [show k < ls.length by omega]
  clear hownM hgM hxs hi hz0 hz1 hz2 h hM
  go_enter Tryz.func9, Tryz.ntmps9
  go_wp2_with fail
  clear hmk
  go_loopw [4] (fun i wr => ∃ k : Nat, k ≤ len ∧ i = .int .i64 k ∧ Hid (wr.ownsRow w.heap.size 3 1 (.slice (some ⟨w.heap.size, 0, none⟩) len len) len (intCells ((ls.map zoneG).take k) ++ List.replicate (len - k) (Value.int .i64 0))) ∧ Below w.heap.size w wr) (fun i _ => len - (intOf i).toNat)
  case atStart => exact ⟨0, Nat.zero_le _, rfl, HOM, hbM⟩
  case round =>
    obtain ⟨k, hk, rfl, hT, hbel⟩ := hrel
    by_cases hlt : k < len
    · obtain ⟨b, off, rfl, hb00, -⟩ := HL.out.some (by omega)
      have hcell := (HL.out.below hbel)
      obtain ⟨b', off', hbe, hbs, hcell⟩ := hcell.some (by omega)
      injection hbe with hbe
      injection hbe with hb1 hb2
      subst hb1
      subst hb2
      obtain ⟨e0, e1, e2, e3, e4, e5⟩ := hcell k hlt
      have hk1 : (k : Int) < (len : Int) := by omega
      have hk0 : (0 : Int) ≤ (k : Int) := by omega
      have HNX : (intCells ((ls.map zoneG).take k) ++ List.replicate (len - k) (Value.int .i64 0)).set k (Value.int .i64 ((ls.map zoneG).getD k 0)) = intCells ((ls.map zoneG).take (k + 1)) ++ List.replicate (len - (k + 1)) (Value.int .i64 0) := Dr.set_next _ len k HLN.out hlt
      have hcx : (intCells ((ls.map zoneG).take k) ++ List.replicate (len - k) (Value.int .i64 0))[k]? = some (Value.int .i64 0) := Dr.cell_next _ len k HLN.out hlt
      rw [HGT.out k hlt] at HNX
      have c4 := (hT.out.cellAt k (by omega)).trans hcx
      have f4 := hT.out.frozenAt k
      have hwl : w.heap.size < wr.heap.size := (hT.out.lt w.heap.size rfl).2
      clear hcell
      generalize ls.getD k nd0 = x at *
      obtain ⟨c1, c2, c3, c5, c6, c7⟩ := x
      simp only at e0 e1 e2 e3 e4 e5
      rw [show zoneG ⟨c1, c2, c3, c5, c6, c7⟩ = c2 from rfl] at HNX
      have HO5 : Hid _ := (hT.out.stored k (.int .i64 c2)).1
      rw [HNX] at HO5
      have hb5 : Below w.heap.size w (wr.setCell ⟨w.heap.size, k, none⟩ (.int .i64 c2)) := hbel.setCell (p := ⟨w.heap.size, k, none⟩) (Nat.le_refl _) _
      clear HNX hcx hT
      go_wp2_with fail
      exact ⟨⟨k + 1, by omega, by go_num, HO5, hb5⟩, by simp [intOf]; omega⟩
    · obtain rfl : k = len := by omega
      have HI : Hid (IntsAt wr (some ⟨w.heap.size, 0, none⟩) (ls.map zoneG)) := by
        have := hT.out
        rw [Nat.sub_self, List.replicate_zero, List.append_nil, List.take_of_length_le (by rw [HLN.out]; exact Nat.le_refl _)] at this
        exact ints_own this HLN.out.symm
      have HSQ : Hid (Calls Tryz.prog 16 #[.slice a k cap, .slice (some ⟨w.heap.size, 0, none⟩) k k] wr fun e w' => ChPost (zonesOf ls) wr e w') := HSM.out wr hbel HI.out
      clear hT HSM HI
      go_wp2_with fail
      refine HSQ.out.mono ?_
      rintro e w2 ⟨hb2, a2, cap2, rfl, hc2⟩
      have HP : Hid (ChsAt w2 a2 (zonesOf ls).length cap2 (zonesOf ls)) := hc2
      clear hc2 HSQ
      go_wp2_with fail
      go_ret
      exact ⟨below2 hbel hb2, a2, cap2, rfl, HP.out⟩
set_option maxHeartbeats 4000000 in
set_option maxRecDepth 60000 in
theorem refRacks_any (a : Option Addr) (len cap : Nat) (ls : List Nd) (z : Int) (w : World) (h : NdsAt w a len cap ls) (hM : MayN ls) : Calls Tryz.prog 23 #[.slice a len cap, .int .i64 z] w fun e w' => ChPost (racksOf ls z) w e w' := by
  have hl : ls.length = len := h.1
  have HL : Hid (NdsAt w a len cap ls) := h
  have h12 : (len : Int) ≤ 12 := by have := hM.1; omega
  obtain ⟨i0, hi, hz0, hz1, hz2⟩ := info_parts info3
  obtain ⟨wM, hmk, hownM, hgM⟩ := run_make_full (P := Tryz.prog) w w.heap.size 23 3 i0 (.int .i64 0) 1 Tryz.underlying23 hi hz0 hz1 .i64 .i64 len (by rw [hz2]; omega) (by unfold maxLen; omega) (Nat.le_refl _)
  have hbM : Below w.heap.size w wM := ⟨hgM.os, hgM.tape, hgM.output, hgM.size, fun k hk => hgM.block k hk (by simp)⟩
  have hxs : (madeCells (Value.int .i64 0).cells (len * 1)).toList = intCells ((ls.map (rackG z)).take 0) ++ List.replicate (len - 0) (Value.int .i64 0) := by
    rw [Nat.mul_one]
    exact toList_madeCells_one _ _
  have HOM : Hid (wM.ownsRow w.heap.size 3 1 (.slice (some ⟨w.heap.size, 0, none⟩) len len) len (intCells ((ls.map (rackG z)).take 0) ++ List.replicate (len - 0) (Value.int .i64 0))) := by rw [← hxs]; exact hownM
  have HSM : Hid (∀ wr, Below w.heap.size w wr → IntsAt wr (some ⟨w.heap.size, 0, none⟩) (ls.map (rackG z)) → Calls Tryz.prog 16 #[.slice a len cap, .slice (some ⟨w.heap.size, 0, none⟩) len len] wr fun e w' => ChPost (racksOf ls z) wr e w') := fun wr hb hI => sum_any a len cap ls (rackG z) _ len wr (HL.out.below hb) hI hM
  have HLN : Hid ((ls.map (rackG z)).length = len) := by unfold Hid; rw [List.length_map, hl]
  have HGT : Hid (∀ k, k < len → (ls.map (rackG z)).getD k 0 = (rackG z) (ls.getD k nd0)) := fun k hk => by simp [show k < ls.length by omega]
  clear hownM hgM hxs hi hz0 hz1 hz2 h hM
  go_enter Tryz.func23, Tryz.ntmps23
  go_wp2_with fail
  clear hmk
  go_loopw [6] (fun i wr => ∃ k : Nat, k ≤ len ∧ i = .int .i64 k ∧ Hid (wr.ownsRow w.heap.size 3 1 (.slice (some ⟨w.heap.size, 0, none⟩) len len) len (intCells ((ls.map (rackG z)).take k) ++ List.replicate (len - k) (Value.int .i64 0))) ∧ Below w.heap.size w wr) (fun i _ => len - (intOf i).toNat)
  case atStart => exact ⟨0, Nat.zero_le _, rfl, HOM, hbM⟩
  case round =>
    obtain ⟨k, hk, rfl, hT, hbel⟩ := hrel
    by_cases hlt : k < len
    · obtain ⟨b, off, rfl, hb00, -⟩ := HL.out.some (by omega)
      have hcell := (HL.out.below hbel)
      obtain ⟨b', off', hbe, hbs, hcell⟩ := hcell.some (by omega)
      injection hbe with hbe
      injection hbe with hb1 hb2
      subst hb1
      subst hb2
      obtain ⟨e0, e1, e2, e3, e4, e5⟩ := hcell k hlt
      have hk1 : (k : Int) < (len : Int) := by omega
      have hk0 : (0 : Int) ≤ (k : Int) := by omega
      have HNX : (intCells ((ls.map (rackG z)).take k) ++ List.replicate (len - k) (Value.int .i64 0)).set k (Value.int .i64 ((ls.map (rackG z)).getD k 0)) = intCells ((ls.map (rackG z)).take (k + 1)) ++ List.replicate (len - (k + 1)) (Value.int .i64 0) := Dr.set_next _ len k HLN.out hlt
      have hcx : (intCells ((ls.map (rackG z)).take k) ++ List.replicate (len - k) (Value.int .i64 0))[k]? = some (Value.int .i64 0) := Dr.cell_next _ len k HLN.out hlt
      rw [HGT.out k hlt] at HNX
      have c4 := (hT.out.cellAt k (by omega)).trans hcx
      have f4 := hT.out.frozenAt k
      have hwl : w.heap.size < wr.heap.size := (hT.out.lt w.heap.size rfl).2
      clear hcell
      generalize ls.getD k nd0 = x at *
      obtain ⟨c1, c2, c3, c5, c6, c7⟩ := x
      simp only at e0 e1 e2 e3 e4 e5
      by_cases hz : c2 = z
      · rw [show rackG z ⟨c1, c2, c3, c5, c6, c7⟩ = c3 from if_pos hz] at HNX
        have dz : (c2 == z) = true := by simpa using hz
        have HO5 : Hid _ := (hT.out.stored k (.int .i64 c3)).1
        rw [HNX] at HO5
        have hb5 : Below w.heap.size w (wr.setCell ⟨w.heap.size, k, none⟩ (.int .i64 c3)) := hbel.setCell (p := ⟨w.heap.size, k, none⟩) (Nat.le_refl _) _
        clear HNX hcx hT
        go_wp2_with fail
        exact ⟨⟨k + 1, by omega, by go_num, HO5, hb5⟩, by simp [intOf]; omega⟩
      · rw [show rackG z ⟨c1, c2, c3, c5, c6, c7⟩ = 0 from if_neg hz] at HNX
        have dz : (c2 == z) = false := by simpa using hz
        have hsame : (intCells ((ls.map (rackG z)).take k) ++ List.replicate (len - k) (Value.int .i64 0)).set k (Value.int .i64 0) = intCells ((ls.map (rackG z)).take k) ++ List.replicate (len - k) (Value.int .i64 0) := by
          apply List.ext_getElem?
          intro i
          rw [List.getElem?_set]
          by_cases hik : k = i
          · subst hik
            rw [hcx]
            have hkl := (List.getElem?_eq_some_iff.1 hcx).1
            rw [if_pos rfl, if_pos hkl]
          · rw [if_neg hik]
        have HO5 : Hid (wr.ownsRow w.heap.size 3 1 (.slice (some ⟨w.heap.size, 0, none⟩) len len) len (intCells ((ls.map (rackG z)).take (k + 1)) ++ List.replicate (len - (k + 1)) (Value.int .i64 0))) := by
          unfold Hid
          rw [← HNX, hsame]
          exact hT.out
        clear HNX hcx hT hsame
        go_wp2_with fail
        exact ⟨⟨k + 1, by omega, by go_num, HO5, hbel⟩, by simp [intOf]; omega⟩
    · obtain rfl : k = len := by omega
      have HI : Hid (IntsAt wr (some ⟨w.heap.size, 0, none⟩) (ls.map (rackG z))) := by
        have := hT.out
        rw [Nat.sub_self, List.replicate_zero, List.append_nil, List.take_of_length_le (by rw [HLN.out]; exact Nat.le_refl _)] at this
        exact ints_own this HLN.out.symm
      have HSQ : Hid (Calls Tryz.prog 16 #[.slice a k cap, .slice (some ⟨w.heap.size, 0, none⟩) k k] wr fun e w' => ChPost (racksOf ls z) wr e w') := HSM.out wr hbel HI.out
      clear hT HSM HI
      go_wp2_with fail
      refine HSQ.out.mono ?_
      rintro e w2 ⟨hb2, a2, cap2, rfl, hc2⟩
      have HP : Hid (ChsAt w2 a2 (racksOf ls z).length cap2 (racksOf ls z)) := hc2
      clear hc2 HSQ
      go_wp2_with fail
      go_ret
      exact ⟨below2 hbel hb2, a2, cap2, rfl, HP.out⟩
end Go.Proofs.YtmifdjkaclgibaaGreat.Tp
