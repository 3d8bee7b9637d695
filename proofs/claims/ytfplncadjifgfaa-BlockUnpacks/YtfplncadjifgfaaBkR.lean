/-
  The contract of the answer's Unpack.
-/
import Derived.Test.YtfplncadjifgfaaBkN
import Derived.Test.YtfplncadjifgfaaBkF
import Derived.Test.YtfplncadjifgfaaBkJ
namespace Go.Proofs.Ytfplncadjifgfaa.Bk
open Go.ChangeShapes Go.WideShapes Go.ChangeAt Go.RowKit
open Go.Proofs.Ytfplncadjifgfaa.Fr
/-- behind the answer's Unpack -/
def RunPost (M : List Int) (texts : List ByteArray) (w : World) (e : Ending) (w' : World) : Prop :=
  Below w.heap.size w w' ∧ ((∃ ls a len cap, texts = [] ∧ Are M ls ∧ e = .returned (.tuple #[.slice a len cap, .bool true]) ∧ SmsAt w' a len cap ls) ∨ ((texts = [] → ∀ ls, ¬ Are M ls) ∧ e = .returned (.tuple #[.slice none 0 0, .bool false])))
theorem run_no {M : List Int} {texts : List ByteArray} {w w' : World} (hb : Below w.heap.size w w') (h : texts = [] → ∀ ls, ¬ Are M ls) : RunPost M texts w (.returned (.tuple #[.slice none 0 0, .bool false])) w' := ⟨hb, .inr ⟨h, rfl⟩⟩
/-- in the midst of the answer's Unpack -/
def RunIn (M : List Int) (D1 D2 : Value) (w : World) (k : Nat) (v : Value) (wr : World) : Prop :=
  Below w.heap.size w wr ∧ DBox wr w.heap.size D1 D2 ∧ (∃ g cp, v = .slice (some ⟨g, 0, none⟩) k cp) ∧ ∃ L : List Sm, L.length = k ∧ Pre M L ∧ wr.ownsRow w.heap.size 48 2 v k (cellsS L)
theorem own_belowS {w w' : World} {base s n : Nat} {e : TypeId} {v : Value} {xs : List Value} (h : w.ownsRow base e s v n xs) (hb : Below w.heap.size w w') : w'.ownsRow base e s v n xs := own_below h hb
theorem mayS_false {a : Option Addr} {len cap : Nat} {ls : List Sm} {w : World} (h : SmsAt w a len cap ls) (hM : ¬ MayS ls) : Calls Try.prog 9 #[.slice a len cap] w fun e w' => e = .returned (.bool false) ∧ Below w.heap.size w w' :=
  (refMay_any a len cap ls w h).mono fun _ _ ⟨hb, q, he, hq⟩ => ⟨by rw [he]; cases q with | false => rfl | true => exact absurd (hq.1 rfl) hM, hb⟩
theorem mayS_true {a : Option Addr} {len cap : Nat} {ls : List Sm} {w : World} (h : SmsAt w a len cap ls) (hM : MayS ls) : Calls Try.prog 9 #[.slice a len cap] w fun e w' => e = .returned (.bool true) ∧ Below w.heap.size w w' :=
  (refMay_any a len cap ls w h).mono fun _ _ ⟨hb, q, he, hq⟩ => ⟨by rw [he, hq.2 hM], hb⟩
set_option maxHeartbeats 4000000 in
set_option maxRecDepth 60000 in
theorem unp_20 (t0 t2 t3 t5 t6 t7 t8 t9 t10 t11 t12 t13 t14 t15 t16 t17 t18 t19 t20 t21 t22 t23 t24 t25 t26 t27 t28 t29 t30 t31 t32 t33 t34 t35 t36 t37 t38 t39 t40 t41 t42 t43 t44 t45 t46 t47 t48 t49 t50 t51 t52 t53 t54 t55 t56 t57 t58 t59 t60 t61 t62 t63 t64 t65 t66 t67 t68 t69 t70 t71 t72 t73 t74 t75 t76 t77 t78 t79 t80 t81 t82 t83 t84 t85 t86 t87 t88 t89 t90 t91 t92 t93 t94 t95 t96 t97 t98 t99 t100 t101 t102 t103 t104 t105 t106 t107 t108 t109 t110 t111 t112 t113 t114 t115 t116 t117 t118 t119 t120 t121 t122 t123 t124 t125 t126 : Value) (D : Nat) (lv : Value) (a1 : Option Addr) (n1 c1 : Nat) (NL : List Int) (q : Bool) (w1 : World) (Q : Exit → Act → World → Prop)
    (h0 : w1.cell? ⟨D, 0, none⟩ = some (.slice a1 n1 c1)) (hDl : D < w1.heap.size)
    (HN : Hid (∀ w', Below w1.heap.size w1 w' → Calls Try.prog 12 #[lv] w' fun e w'' => (∃ p k c, e = .returned (.slice p k c) ∧ Hid (RowAt w'' p k c (cellsI NL))) ∧ Below w'.heap.size w' w''))
    (HI : Hid (∀ w' p k c, Below w1.heap.size w1 w' → RowAt w' p k c (cellsI NL) → Calls Try.prog 18 #[.slice p k c, .slice a1 n1 c1] w' fun e w'' => e = .returned (.bool q) ∧ Below w'.heap.size w' w''))
    (hQ : Hid (∀ (u120 u121 u122 u123 u124 : Value) (wC : World), Below w1.heap.size w1 wC → Q .normal ⟨#[t0, .pointer (some ⟨D, 0, none⟩), t2, t3, lv, t5, t6, t7, t8, t9, t10, t11, t12, t13, t14, t15, t16, t17, t18, t19, t20, t21, t22, t23, t24, t25, t26, t27, t28, t29, t30, t31, t32, t33, t34, t35, t36, t37, t38, t39, t40, t41, t42, t43, t44, t45, t46, t47, t48, t49, t50, t51, t52, t53, t54, t55, t56, t57, t58, t59, t60, t61, t62, t63, t64, t65, t66, t67, t68, t69, t70, t71, t72, t73, t74, t75, t76, t77, t78, t79, t80, t81, t82, t83, t84, t85, t86, t87, t88, t89, t90, t91, t92, t93, t94, t95, t96, t97, t98, t99, t100, t101, t102, t103, t104, t105, t106, t107, t108, t109, t110, t111, t112, t113, t114, t115, t116, t117, t118, t119, u120, u121, u122, u123, u124, .bool (!q), t126], []⟩ wC)) :
    Code.wp Try.prog ((Try.f16.body.bind (regionOf 20)).getD .skip) Q ⟨#[t0, .pointer (some ⟨D, 0, none⟩), t2, t3, lv, t5, t6, t7, t8, t9, t10, t11, t12, t13, t14, t15, t16, t17, t18, t19, t20, t21, t22, t23, t24, t25, t26, t27, t28, t29, t30, t31, t32, t33, t34, t35, t36, t37, t38, t39, t40, t41, t42, t43, t44, t45, t46, t47, t48, t49, t50, t51, t52, t53, t54, t55, t56, t57, t58, t59, t60, t61, t62, t63, t64, t65, t66, t67, t68, t69, t70, t71, t72, t73, t74, t75, t76, t77, t78, t79, t80, t81, t82, t83, t84, t85, t86, t87, t88, t89, t90, t91, t92, t93, t94, t95, t96, t97, t98, t99, t100, t101, t102, t103, t104, t105, t106, t107, t108, t109, t110, t111, t112, t113, t114, t115, t116, t117, t118, t119, t120, t121, t122, t123, t124, t125, t126], []⟩ w1 := by
  have HS : Hid (∀ w', Below w1.heap.size w1 w' → w'.cell? ⟨D, 0, none⟩ = some (.slice a1 n1 c1) ∧ Below w1.heap.size w1 w') := fun w' hb => ⟨(hb.cell (p := ⟨D, 0, none⟩) hDl).trans h0, hb⟩
  clear h0
  have hS : (fun w' => w'.cell? ⟨D, 0, none⟩ = some (.slice a1 n1 c1) ∧ Below w1.heap.size w1 w') w1.drew := HS.out _ (below_drew w1)
  conv => arg 2; whnf
  refine held_start (S := fun w' => w'.cell? ⟨D, 0, none⟩ = some (.slice a1 n1 c1) ∧ Below w1.heap.size w1 w') mixed5 ?_
  refine held_take (i := 0) (v := lv) rfl (by kernel_rfl) (fun _ _ _ h => h) (.inl ⟨rfl, fun w hS => ?_⟩) hS ?_
  · obtain ⟨s0, -⟩ := hS
    go_simp
  try simp only [Act.put, List.setIfInBounds_toArray, List.set_cons_zero, List.set_cons_succ]
  refine held_take (i := 2) (v := .pointer (some ⟨D, 0, none⟩)) rfl (by kernel_rfl) (fun _ _ _ h => h) (.inl ⟨rfl, fun w hS => ?_⟩) hS ?_
  · obtain ⟨s0, -⟩ := hS
    go_simp
  try simp only [Act.put, List.setIfInBounds_toArray, List.set_cons_zero, List.set_cons_succ]
  refine held_take (i := 3) (v := .slice a1 n1 c1) rfl (by kernel_rfl) (fun _ _ _ h => h) (.inl ⟨rfl, fun w hS => ?_⟩) hS ?_
  · obtain ⟨s0, -⟩ := hS
    go_simp
  try simp only [Act.put, List.setIfInBounds_toArray, List.set_cons_zero, List.set_cons_succ]
  refine held_one (i := 1) (by kernel_rfl) rfl rfl ?_
  intro K hK
  go_simp
  go_at_call 12
  refine (HN.out _ hS.2).mono ?_
  rintro e w3 ⟨⟨p3, k3, c3, rfl, hr3⟩, hb3⟩
  have hb03 : Below w1.heap.size w1 w3 := below2 hS.2 hb3
  refine hK.out _ _ (HS.out _ hb03) ?_
  have hS9 := HS.out _ hb03
  clear hK hS
  have hS := hS9
  clear hS9
  try simp only [Act.put, List.setIfInBounds_toArray, List.set_cons_zero, List.set_cons_succ]
  refine held_one (i := 4) (by kernel_rfl) rfl rfl ?_
  intro K hK
  go_simp
  go_at_call 18
  refine (HI.out _ _ _ _ hS.2 hr3.out).mono ?_
  rintro e w4 ⟨rfl, hb4⟩
  have hb04 : Below w1.heap.size w1 w4 := below2 hb03 hb4
  refine hK.out _ _ (HS.out _ hb04) ?_
  have hS9 := HS.out _ hb04
  clear hK hS
  have hS := hS9
  clear hS9
  try simp only [Act.put, List.setIfInBounds_toArray, List.set_cons_zero, List.set_cons_succ]
  refine held_take (i := 5) (v := .bool (!q)) rfl (by kernel_rfl) (fun _ _ _ h => h) (.inl ⟨rfl, fun w hS => ?_⟩) hS ?_
  · obtain ⟨s0, -⟩ := hS
    go_simp
  try simp only [Act.put, List.setIfInBounds_toArray, List.set_cons_zero, List.set_cons_succ]
  refine wpAnyH_done (by kernel_rfl) ?_ _
  refine NoPanic.normal ?_
  exact hQ.out _ _ _ _ _ _ hS.2
set_option maxHeartbeats 2000000 in
set_option maxRecDepth 60000 in
theorem refUnpack_any (v : Value) (M : List Int) (texts : List ByteArray) (w : World) (h : DataAt w v M texts) :
    Calls Try.prog 16 #[v] w fun e w' => RunPost M texts w e w' := by
  obtain ⟨a1, n1, c1, a2, n2, c2, rfl, h1, h2, h3, -⟩ := h
  have hl1 : M.length = n1 := by simpa [cellsI] using h1.1
  have hl2 : texts.length = n2 := by simpa [cellsT] using h2.1
  have hm1 : n1 ≤ maxLen := Nat.le_trans h1.2.1 h1.2.2.1
  have hm2 : n2 ≤ maxLen := Nat.le_trans h2.2.1 h2.2.2.1
  unfold maxLen at hm1 hm2
  have H1 : Hid (RowAt w a1 n1 c1 (cellsI M)) := h1
  have H64 : Hid (∀ x ∈ M, Is64 x) := h3
  clear h1 h2 h3
  by_cases ht : n2 = 0
  · have HT : Hid (texts = []) := Hid.mk9 (List.length_eq_zero_iff.1 (by omega))
    subst ht
    by_cases hbig : 129 < n1
    · have hb' : (129 : Int) < (n1 : Int) := by omega
      have HN : Hid (∀ ls, ¬ Are M ls) := fun ls hA => by have := ((numsS_iff M ls).1 hA.2).1; have := hA.1.1; omega
      go_enter Try.func16, Try.ntmps16
      go_wp2_with fail
      go_returns
      exact run_no (below_alloc w _) fun _ => HN.out
    by_cases hnone : n1 = 0
    · have HN : Hid (∀ ls, ¬ Are M ls) := fun ls hA => by have := ((numsS_iff M ls).1 hA.2).1; omega
      subst hnone
      go_enter Try.func16, Try.ntmps16
      go_wp2_with fail
      go_returns
      exact run_no (below_alloc w _) fun _ => HN.out
    have q1 : (n1 : Int) ≤ 129 := by omega
    have q2 : (1 : Int) ≤ (n1 : Int) := by omega
    have q3 : decide ((n1 : Int) < 1) = false := by simp; omega
    clear hbig hm1 hm2
    obtain ⟨b, off, rfl, -⟩ := H1.out.some (by omega)
    obtain ⟨i0, hi, hz0, hz1, hz2⟩ := info_parts infoS
    have HI0 : Hid (RunIn M (.slice (some ⟨b, off, none⟩) n1 c1) (.slice a2 0 c2) w 0 (.slice (some ⟨w.heap.size + 1, 0, none⟩) 0 0) ((w.alloc (.cells #[.slice (some ⟨b, off, none⟩) n1 c1, .slice a2 0 c2] 27)).alloc (.cells #[] 48))) := by
      refine ⟨below2 (below_alloc _ _) (below_alloc _ _), (DBox.new w _ _).below (below_alloc _ _), ⟨_, _, rfl⟩, [], rfl, pre_nil (by omega), ?_⟩
      have := World.ownsRow_lit (base := w.heap.size) (e := 48) (size := 2) (w.alloc (.cells #[.slice (some ⟨b, off, none⟩) n1 c1, .slice a2 0 c2] 27)) #[] 0 (by simp) (by unfold maxLen; omega) rfl
      simpa [cellsS] using this
    go_enter Try.func16, Try.ntmps16
    go_wp2_with fail
    go_loopw [4, 5] (fun v i wr => ∃ k : Nat, 2 * k + 1 ≤ n1 ∧ i = .int .i64 ((2 * k + 1 : Nat) : Int) ∧ Hid (RunIn M (.slice (some ⟨b, off, none⟩) n1 c1) (.slice a2 0 c2) w k v wr)) (fun _ i _ => n1 - (intOf i).toNat)
    case atStart => exact ⟨0, by omega, rfl, HI0⟩
    case round =>
      clear HI0
      obtain ⟨k, hk, rfl, hP⟩ := hrel
      obtain ⟨hbel, hD, ⟨g, cp, rfl⟩, L, hL, hPre, hown⟩ := hP.out
      clear hP
      have HP := Hid.mk9 hPre
      have HO := Hid.mk9 hown
      have HB := Hid.mk9 hbel
      have HDx := Hid.mk9 hD
      obtain ⟨i, hi9⟩ : ∃ i : Nat, Hid (2 * k + 1 = i) := ⟨_, Hid.mk9 rfl⟩
      rw [hi9.out]
      have hio : i ≤ n1 := by have := hi9.out; omega
      clear hPre hown hbel hk
      by_cases hlt : i + 1 < n1
      · obtain ⟨i1, hi1⟩ : ∃ i1 : Nat, Hid (i + 1 = i1) := ⟨_, Hid.mk9 rfl⟩
        have P1 : IntKind.i64.wrap ((i : Int) + 1) = (i1 : Int) := iw (by have := hi1.out; omega) (by omega) (by have := hi1.out; omega)
        have P2 : (i : Int) + 1 < (n1 : Int) := by omega
        have P3 : (i1 : Int) < (n1 : Int) := by have := hi1.out; omega
        have P4 : (i : Int) < (n1 : Int) := by omega
        have P5 : (0 : Int) ≤ (i : Int) := by omega
        have P6 : (0 : Int) ≤ (i1 : Int) := by omega
        obtain ⟨e0, e1⟩ : wr.cell? ⟨b, off + i, none⟩ = some (.int .i64 (M.getD (2 * k + 1) 0)) ∧ wr.cell? ⟨b, off + i1, none⟩ = some (.int .i64 (M.getD (2 * k + 2) 0)) := by
          obtain ⟨b', off', e, hcell⟩ := (H1.out.below HB.out).some (by omega)
          simp at e
          obtain ⟨rfl, rfl⟩ := e
          have q0 := hcell i (by omega)
          have q1 := hcell i1 (by have := hi1.out; omega)
          have r0 := hi9.out
          have r1 := hi1.out
          rw [cellsI_get M i (by omega)] at q0
          rw [cellsI_get M i1 (by omega)] at q1
          refine ⟨q0.trans (by rw [r0]), q1.trans (by rw [show 2 * k + 2 = i1 from by omega])⟩
        have hbs : b < wr.heap.size := World.block_lt_of_cell? wr ⟨b, off + i, none⟩ e0
        have hDl := HDx.out.lt
        have d0 := HDx.out.c0
        have hgl := (own_sms HO.out).2.1
        have HLN : Hid (2 * k + 2 < M.length) := Hid.mk9 (by have := hi9.out; omega)
        by_cases hw : (-8796093022208 ≤ M.getD (2 * k + 1) 0 ∧ M.getD (2 * k + 1) 0 ≤ 8796093022208) ∧ -8796093022208 ≤ M.getD (2 * k + 2) 0 ∧ M.getD (2 * k + 2) 0 ≤ 8796093022208
        · obtain ⟨⟨v1, v2⟩, v3, v4⟩ := hw
          have it := fun j => (show -1099511627776 ≤ tS L j ∧ tS L j ≤ 1099511627776 from ⟨(may_in HP.out.1 j).1, (may_in HP.out.1 j).2.1⟩)
          have iv := fun j => (show -1099511627776 ≤ vS L j ∧ vS L j ≤ 1099511627776 from ⟨(may_in HP.out.1 j).2.2.1, (may_in HP.out.1 j).2.2.2⟩)
          have HF : Hid (∀ s1 s2, s1 = next (tS L) k (M.getD (2 * k + 1) 0) → s2 = next (vS L) k (M.getD (2 * k + 2) 0) → MayS (L ++ [(s1, s2)]) → Pre M (L ++ [(s1, s2)])) := fun s1 s2 q1 q2 q3 => pre_snoc HP.out (by rw [hL]; exact HLN.out) (by rw [hL]; exact q1) (by rw [hL]; exact q2) q3
          have HG : Hid (∀ s1 s2, s1 = next (tS L) k (M.getD (2 * k + 1) 0) → s2 = next (vS L) k (M.getD (2 * k + 2) 0) → ¬ MayS (L ++ [(s1, s2)]) → ∀ ls, ¬ Are M ls) := fun s1 s2 q1 q2 q3 => pre_stop HP.out (by rw [hL]; exact HLN.out) (by rw [hL]; exact q1) (by rw [hL]; exact q2) q3
          have HC : Hid (∀ j, j < k → wr.cell? ⟨g, j * 2, none⟩ = some (.int .i64 (tS L j)) ∧ wr.cell? ⟨g, j * 2 + 1, none⟩ = some (.int .i64 (vS L j))) := Hid.mk9 (fun j hj => by
            obtain ⟨b', off', e, _, hcell⟩ := (own_sms HO.out).1.some (by omega)
            simp at e
            obtain ⟨rfl, rfl⟩ := e
            have := hcell j hj
            rw [Nat.zero_add] at this
            exact this)
          have NT := next_eq (tS L) k (M.getD (2 * k + 1) 0)
          have NV := next_eq (vS L) k (M.getD (2 * k + 2) 0)
          have hk64 : (k : Int) ≤ 64 := by have := hi9.out; omega
          generalize M.getD (2 * k + 1) 0 = x at *
          generalize M.getD (2 * k + 2) 0 = y at *
          clear HP HLN
          have hi2 : (i : Int) ≤ 129 := by omega
          by_cases hk9 : k = 0
          · rw [if_pos hk9] at NT NV
            have E1 := Hid.mk9 NT.symm
            have E2 := Hid.mk9 NV.symm
            clear NT NV it iv HC
            have f1 : decide (0 < k) = false := by simp; omega
            have f2 : decide (1 < k) = false := by simp; omega
            have f3 : (k : Int) ≤ 0 := by omega
            have f4 : (k : Int) ≤ 1 := by omega
            clear hk9
            go_wp2_with fail
            have x0 := cell_grown (w := wr) (a := ⟨b, off + i, none⟩) hbs e0
            have x1 := cell_grown (w := wr) (a := ⟨b, off + i1, none⟩) hbs e1
            have x2 := cell_grown (w := wr) (a := ⟨w.heap.size, 0, none⟩) hDl d0
            refine wp_region_QW mixed5 (by kernel_rfl) ?_
            repeat (refine QW_step (fun K hK => ?_); go_simp; first | (refine hK _ ?_; clear hK K) | (apply Exists.intro; refine ⟨fun _ => ?_, hK _ ?_⟩; fail; clear hK K))
            refine QW_nil ?_
            intro _ hw9
            obtain ⟨⟨nq, osq⟩, hw8⟩ := hw9
            subst hw8
            have bG := below_grow wr nq osq
            replace e0 := (bG.cell (p := ⟨b, off + i, none⟩) hbs).trans e0
            replace e1 := (bG.cell (p := ⟨b, off + i1, none⟩) hbs).trans e1
            replace d0 := (bG.cell (p := ⟨w.heap.size, 0, none⟩) hDl).trans d0
            replace hbs : b < (Go.Sort.grow (wr.drewN nq) osq).heap.size := Nat.lt_of_lt_of_le hbs bG.size
            replace hDl : w.heap.size < (Go.Sort.grow (wr.drewN nq) osq).heap.size := Nat.lt_of_lt_of_le hDl bG.size
            replace hgl : g < (Go.Sort.grow (wr.drewN nq) osq).heap.size := Nat.lt_of_lt_of_le hgl bG.size
            replace HO := Hid.mk9 (own_belowS HO.out bG)
            replace HDx := Hid.mk9 (HDx.out.below bG)
            replace HB := Hid.mk9 (HB.out.trans (bG.mono HB.out.size))
            clear bG x0 x1 x2
            generalize Go.Sort.grow (wr.drewN nq) osq = w2 at *
            go_upto_region 17 with fail
            go_wp2_with (at_builtin; refine wpList_append_own _ rfl (.tmp 111) (.tmp 115) 22 rfl w.heap.size 48 i0 (.agg #[.int .i64 0, .int .i64 0]) 2 16 Try.underlying22 hi hz0 hz1 hz2 rfl (by decide) _ _ _ rfl (own_belowS HO.out (below_alloc _ _)) ⟨w2.heap.size, 0, none⟩ 1 1 [.int .i64 (x), .int .i64 (y)] rfl rfl (cells_lit w2 [.int .i64 (x), .int .i64 (y)] 48) (by intro u hu; simp at hu; rcases hu with rfl | rfl <;> rfl) (by unfold maxLen; omega) (by omega) (by have := HB.out.size; simp; omega) ?_)
            intro v5 w5 hown5 hg5 hnil
            have bA := below_alloc w2 (.cells #[.int .i64 (x), .int .i64 (y)] 48)
            have AO := own_belowS HO.out bA
            have HD5 := Hid.mk9 ((HDx.out.below bA).kept (hg5.block _ (HDx.out.below bA).lt fun e => (HDx.out.below bA).apart AO (by decide) e.symm))
            have hB9 := (own_sms HO.out).2.2
            have HB5 : Hid (Below w.heap.size w w5) := Hid.mk9 ((HB.out.alloc HB.out.size _).grown hg5 (by have := HB.out.size; simp; omega) (by intro k hk; simp [Value.ownBlock] at hk; omega))
            have hnil2 : ¬ v5 = .slice none 0 0 := fun e9 => by first | exact hnil e9 | (have := hnil.1 e9; simp at this)
            obtain ⟨g', cp', rfl⟩ := own_formS hown5 hnil2
            have HO5 : Hid (w5.ownsRow w.heap.size 48 2 (.slice (some ⟨g', 0, none⟩) (k + 1) cp') (k + 1) (cellsS (L ++ [(x, y)]))) := Hid.mk9 (by rw [cellsS_snoc]; exact hown5)
            have HS5 := Hid.mk9 (own_sms HO5.out).1
            clear hown5 hg5 bA AO hB9 hnil hnil2 HO HB HDx
            by_cases hMay : MayS (L ++ [(x, y)])
            · have HMay := Hid.mk9 hMay
              clear hMay
              have HPre := Hid.mk9 (HF.out _ _ E1.out E2.out HMay.out)
              go_wp2_with (go_at_call 9; refine (mayS_true HS5.out HMay.out).mono ?_; rintro e w6 ⟨rfl, hb6⟩)
              have HE : Hid (RunIn M (.slice (some ⟨b, off, none⟩) n1 c1) (.slice a2 0 c2) w (k + 1) (.slice (some ⟨g', 0, none⟩) (k + 1) cp') w6) := ⟨below2 HB5.out hb6, HD5.out.below hb6, ⟨_, _, rfl⟩, _, by simp [hL], HPre.out, own_belowS HO5.out hb6⟩
              have hi8 := hi9.out
              exact ⟨⟨k + 1, by omega, int_of (by omega), HE⟩, by simp [intOf]; omega⟩
            · have HMay := Hid.mk9 hMay
              clear hMay
              have HN := Hid.mk9 (HG.out _ _ E1.out E2.out HMay.out)
              go_wp2_with (go_at_call 9; refine (mayS_false HS5.out HMay.out).mono ?_; rintro e w6 ⟨rfl, hb6⟩)
              go_returns
              exact run_no (below2 HB5.out hb6) fun _ => HN.out
          obtain ⟨m, hm⟩ : ∃ m, k = m + 1 := ⟨k - 1, by omega⟩
          have e2 := (HC.out m (by omega)).1
          have e3 := (HC.out m (by omega)).2
          have M1 : (k : Int) - 1 = (m : Int) := by omega
          have M2 : IntKind.i64.wrap ((k : Int) - 1) = (m : Int) := iw M1 (by omega) (by omega)
          have M5 : IntKind.i64.wrap (m : Int) = (m : Int) := iw rfl (by omega) (by omega)
          have M3 : (0 : Int) ≤ (m : Int) := by omega
          have M4 : (m : Int) < (k : Int) := by omega
          have f1 : decide (0 < k) = true := by simp; omega
          have f3 : (0 : Int) < (k : Int) := by omega
          rw [if_neg hk9, show k - 1 = m from by omega] at NT NV
          have i2 := it m
          have i4 := iv m
          by_cases hk8 : k = 1
          · rw [if_pos hk8] at NT NV
            have E1 := Hid.mk9 NT.symm
            have E2 := Hid.mk9 NV.symm
            clear NT NV it iv HC
            generalize tS L m = p1 at *
            generalize vS L m = p2 at *
            have f2 : decide (1 < k) = false := by simp; omega
            have f4 : (k : Int) ≤ 1 := by omega
            clear hk8 hk9 hm
            go_wp2_with fail
            have x0 := cell_grown (w := wr) (a := ⟨b, off + i, none⟩) hbs e0
            have x1 := cell_grown (w := wr) (a := ⟨b, off + i1, none⟩) hbs e1
            have x2 := cell_grown (w := wr) (a := ⟨w.heap.size, 0, none⟩) hDl d0
            refine wp_region_QW mixed5 (by kernel_rfl) ?_
            repeat (refine QW_step (fun K hK => ?_); go_simp; first | (refine hK _ ?_; clear hK K) | (apply Exists.intro; refine ⟨fun _ => ?_, hK _ ?_⟩; fail; clear hK K))
            refine QW_nil ?_
            intro _ hw9
            obtain ⟨⟨nq, osq⟩, hw8⟩ := hw9
            subst hw8
            have bG := below_grow wr nq osq
            replace e0 := (bG.cell (p := ⟨b, off + i, none⟩) hbs).trans e0
            replace e1 := (bG.cell (p := ⟨b, off + i1, none⟩) hbs).trans e1
            replace d0 := (bG.cell (p := ⟨w.heap.size, 0, none⟩) hDl).trans d0
            replace e2 := (bG.cell (p := ⟨g, m * 2, none⟩) hgl).trans e2
            replace e3 := (bG.cell (p := ⟨g, m * 2 + 1, none⟩) hgl).trans e3
            replace hbs : b < (Go.Sort.grow (wr.drewN nq) osq).heap.size := Nat.lt_of_lt_of_le hbs bG.size
            replace hDl : w.heap.size < (Go.Sort.grow (wr.drewN nq) osq).heap.size := Nat.lt_of_lt_of_le hDl bG.size
            replace hgl : g < (Go.Sort.grow (wr.drewN nq) osq).heap.size := Nat.lt_of_lt_of_le hgl bG.size
            replace HO := Hid.mk9 (own_belowS HO.out bG)
            replace HDx := Hid.mk9 (HDx.out.below bG)
            replace HB := Hid.mk9 (HB.out.trans (bG.mono HB.out.size))
            clear bG x0 x1 x2
            generalize Go.Sort.grow (wr.drewN nq) osq = w2 at *
            go_upto_region 17 with fail
            go_wp2_with (at_builtin; refine wpList_append_own _ rfl (.tmp 111) (.tmp 115) 22 rfl w.heap.size 48 i0 (.agg #[.int .i64 0, .int .i64 0]) 2 16 Try.underlying22 hi hz0 hz1 hz2 rfl (by decide) _ _ _ rfl (own_belowS HO.out (below_alloc _ _)) ⟨w2.heap.size, 0, none⟩ 1 1 [.int .i64 (x + p1), .int .i64 (y + p2)] rfl rfl (cells_lit w2 [.int .i64 (x + p1), .int .i64 (y + p2)] 48) (by intro u hu; simp at hu; rcases hu with rfl | rfl <;> rfl) (by unfold maxLen; omega) (by omega) (by have := HB.out.size; simp; omega) ?_)
            intro v5 w5 hown5 hg5 hnil
            have bA := below_alloc w2 (.cells #[.int .i64 (x + p1), .int .i64 (y + p2)] 48)
            have AO := own_belowS HO.out bA
            have HD5 := Hid.mk9 ((HDx.out.below bA).kept (hg5.block _ (HDx.out.below bA).lt fun e => (HDx.out.below bA).apart AO (by decide) e.symm))
            have hB9 := (own_sms HO.out).2.2
            have HB5 : Hid (Below w.heap.size w w5) := Hid.mk9 ((HB.out.alloc HB.out.size _).grown hg5 (by have := HB.out.size; simp; omega) (by intro k hk; simp [Value.ownBlock] at hk; omega))
            have hnil2 : ¬ v5 = .slice none 0 0 := fun e9 => by first | exact hnil e9 | (have := hnil.1 e9; simp at this)
            obtain ⟨g', cp', rfl⟩ := own_formS hown5 hnil2
            have HO5 : Hid (w5.ownsRow w.heap.size 48 2 (.slice (some ⟨g', 0, none⟩) (k + 1) cp') (k + 1) (cellsS (L ++ [(x + p1, y + p2)]))) := Hid.mk9 (by rw [cellsS_snoc]; exact hown5)
            have HS5 := Hid.mk9 (own_sms HO5.out).1
            clear hown5 hg5 bA AO hB9 hnil hnil2 HO HB HDx
            by_cases hMay : MayS (L ++ [(x + p1, y + p2)])
            · have HMay := Hid.mk9 hMay
              clear hMay
              have HPre := Hid.mk9 (HF.out _ _ E1.out E2.out HMay.out)
              go_wp2_with (go_at_call 9; refine (mayS_true HS5.out HMay.out).mono ?_; rintro e w6 ⟨rfl, hb6⟩)
              have HE : Hid (RunIn M (.slice (some ⟨b, off, none⟩) n1 c1) (.slice a2 0 c2) w (k + 1) (.slice (some ⟨g', 0, none⟩) (k + 1) cp') w6) := ⟨below2 HB5.out hb6, HD5.out.below hb6, ⟨_, _, rfl⟩, _, by simp [hL], HPre.out, own_belowS HO5.out hb6⟩
              have hi8 := hi9.out
              exact ⟨⟨k + 1, by omega, int_of (by omega), HE⟩, by simp [intOf]; omega⟩
            · have HMay := Hid.mk9 hMay
              clear hMay
              have HN := Hid.mk9 (HG.out _ _ E1.out E2.out HMay.out)
              go_wp2_with (go_at_call 9; refine (mayS_false HS5.out HMay.out).mono ?_; rintro e w6 ⟨rfl, hb6⟩)
              go_returns
              exact run_no (below2 HB5.out hb6) fun _ => HN.out
          obtain ⟨q, hq⟩ : ∃ q, m = q + 1 := ⟨m - 1, by omega⟩
          have e4 := (HC.out q (by omega)).1
          have e5 := (HC.out q (by omega)).2
          have N1 : (k : Int) - 2 = (q : Int) := by omega
          have N2 : IntKind.i64.wrap ((k : Int) - 2) = (q : Int) := iw N1 (by omega) (by omega)
          have N5 : IntKind.i64.wrap (q : Int) = (q : Int) := iw rfl (by omega) (by omega)
          have N3 : (0 : Int) ≤ (q : Int) := by omega
          have N4 : (q : Int) < (k : Int) := by omega
          rw [if_neg hk8, show k - 2 = q from by omega] at NT NV
          have i6 := it q
          have i7 := iv q
          have E1 := Hid.mk9 NT.symm
          have E2 := Hid.mk9 NV.symm
          clear NT NV it iv HC
          generalize tS L m = p1 at *
          generalize vS L m = p2 at *
          generalize tS L q = r1 at *
          generalize vS L q = r2 at *
          have j1 : IntKind.i64.wrap (x + p1 + p1) = x + p1 + p1 := iw rfl (by omega) (by omega)
          have j2 : IntKind.i64.wrap (x + p1 + p1 - r1) = x + p1 + p1 - r1 := iw rfl (by omega) (by omega)
          have j3 : IntKind.i64.wrap (y + p2 + p2) = y + p2 + p2 := iw rfl (by omega) (by omega)
          have j4 : IntKind.i64.wrap (y + p2 + p2 - r2) = y + p2 + p2 - r2 := iw rfl (by omega) (by omega)
          have f2 : decide (1 < k) = true := by simp; omega
          have f4 : (1 : Int) < (k : Int) := by omega
          clear hk8 hk9 hm hq
          go_wp2_with fail
          have x0 := cell_grown (w := wr) (a := ⟨b, off + i, none⟩) hbs e0
          have x1 := cell_grown (w := wr) (a := ⟨b, off + i1, none⟩) hbs e1
          have x2 := cell_grown (w := wr) (a := ⟨w.heap.size, 0, none⟩) hDl d0
          refine wp_region_QW mixed5 (by kernel_rfl) ?_
          repeat (refine QW_step (fun K hK => ?_); go_simp; first | (refine hK _ ?_; clear hK K) | (apply Exists.intro; refine ⟨fun _ => ?_, hK _ ?_⟩; fail; clear hK K))
          refine QW_nil ?_
          intro _ hw9
          obtain ⟨⟨nq, osq⟩, hw8⟩ := hw9
          subst hw8
          have bG := below_grow wr nq osq
          replace e0 := (bG.cell (p := ⟨b, off + i, none⟩) hbs).trans e0
          replace e1 := (bG.cell (p := ⟨b, off + i1, none⟩) hbs).trans e1
          replace d0 := (bG.cell (p := ⟨w.heap.size, 0, none⟩) hDl).trans d0
          replace e2 := (bG.cell (p := ⟨g, m * 2, none⟩) hgl).trans e2
          replace e3 := (bG.cell (p := ⟨g, m * 2 + 1, none⟩) hgl).trans e3
          replace e4 := (bG.cell (p := ⟨g, q * 2, none⟩) hgl).trans e4
          replace e5 := (bG.cell (p := ⟨g, q * 2 + 1, none⟩) hgl).trans e5
          replace hbs : b < (Go.Sort.grow (wr.drewN nq) osq).heap.size := Nat.lt_of_lt_of_le hbs bG.size
          replace hDl : w.heap.size < (Go.Sort.grow (wr.drewN nq) osq).heap.size := Nat.lt_of_lt_of_le hDl bG.size
          replace hgl : g < (Go.Sort.grow (wr.drewN nq) osq).heap.size := Nat.lt_of_lt_of_le hgl bG.size
          replace HO := Hid.mk9 (own_belowS HO.out bG)
          replace HDx := Hid.mk9 (HDx.out.below bG)
          replace HB := Hid.mk9 (HB.out.trans (bG.mono HB.out.size))
          clear bG x0 x1 x2
          generalize Go.Sort.grow (wr.drewN nq) osq = w2 at *
          go_wp2_with fail
          have x0 := cell_grown (w := w2) (a := ⟨g, m * 2, none⟩) hgl e2
          have x1 := cell_grown (w := w2) (a := ⟨g, q * 2, none⟩) hgl e4
          refine wp_region_QW mixed5 (by kernel_rfl) ?_
          repeat (refine QW_step (fun K hK => ?_); go_simp; first | (refine hK _ ?_; clear hK K) | (apply Exists.intro; refine ⟨fun _ => ?_, hK _ ?_⟩; fail; clear hK K))
          refine QW_nil ?_
          intro _ hw9
          obtain ⟨⟨nq, osq⟩, hw8⟩ := hw9
          subst hw8
          have bG := below_grow w2 nq osq
          replace e0 := (bG.cell (p := ⟨b, off + i, none⟩) hbs).trans e0
          replace e1 := (bG.cell (p := ⟨b, off + i1, none⟩) hbs).trans e1
          replace d0 := (bG.cell (p := ⟨w.heap.size, 0, none⟩) hDl).trans d0
          replace e2 := (bG.cell (p := ⟨g, m * 2, none⟩) hgl).trans e2
          replace e3 := (bG.cell (p := ⟨g, m * 2 + 1, none⟩) hgl).trans e3
          replace e4 := (bG.cell (p := ⟨g, q * 2, none⟩) hgl).trans e4
          replace e5 := (bG.cell (p := ⟨g, q * 2 + 1, none⟩) hgl).trans e5
          replace hbs : b < (Go.Sort.grow (w2.drewN nq) osq).heap.size := Nat.lt_of_lt_of_le hbs bG.size
          replace hDl : w.heap.size < (Go.Sort.grow (w2.drewN nq) osq).heap.size := Nat.lt_of_lt_of_le hDl bG.size
          replace hgl : g < (Go.Sort.grow (w2.drewN nq) osq).heap.size := Nat.lt_of_lt_of_le hgl bG.size
          replace HO := Hid.mk9 (own_belowS HO.out bG)
          replace HDx := Hid.mk9 (HDx.out.below bG)
          replace HB := Hid.mk9 (HB.out.trans (bG.mono HB.out.size))
          clear bG x0 x1
          generalize Go.Sort.grow (w2.drewN nq) osq = w3 at *
          go_wp2_with fail
          have x0 := cell_grown (w := w3) (a := ⟨g, m * 2 + 1, none⟩) hgl e3
          have x1 := cell_grown (w := w3) (a := ⟨g, q * 2 + 1, none⟩) hgl e5
          refine wp_region_QW mixed5 (by kernel_rfl) ?_
          repeat (refine QW_step (fun K hK => ?_); go_simp; first | (refine hK _ ?_; clear hK K) | (apply Exists.intro; refine ⟨fun _ => ?_, hK _ ?_⟩; fail; clear hK K))
          refine QW_nil ?_
          intro _ hw9
          obtain ⟨⟨nq, osq⟩, hw8⟩ := hw9
          subst hw8
          have bG := below_grow w3 nq osq
          replace e0 := (bG.cell (p := ⟨b, off + i, none⟩) hbs).trans e0
          replace e1 := (bG.cell (p := ⟨b, off + i1, none⟩) hbs).trans e1
          replace d0 := (bG.cell (p := ⟨w.heap.size, 0, none⟩) hDl).trans d0
          replace e2 := (bG.cell (p := ⟨g, m * 2, none⟩) hgl).trans e2
          replace e3 := (bG.cell (p := ⟨g, m * 2 + 1, none⟩) hgl).trans e3
          replace e4 := (bG.cell (p := ⟨g, q * 2, none⟩) hgl).trans e4
          replace e5 := (bG.cell (p := ⟨g, q * 2 + 1, none⟩) hgl).trans e5
          replace hbs : b < (Go.Sort.grow (w3.drewN nq) osq).heap.size := Nat.lt_of_lt_of_le hbs bG.size
          replace hDl : w.heap.size < (Go.Sort.grow (w3.drewN nq) osq).heap.size := Nat.lt_of_lt_of_le hDl bG.size
          replace hgl : g < (Go.Sort.grow (w3.drewN nq) osq).heap.size := Nat.lt_of_lt_of_le hgl bG.size
          replace HO := Hid.mk9 (own_belowS HO.out bG)
          replace HDx := Hid.mk9 (HDx.out.below bG)
          replace HB := Hid.mk9 (HB.out.trans (bG.mono HB.out.size))
          clear bG x0 x1
          generalize Go.Sort.grow (w3.drewN nq) osq = w4 at *
          go_upto_region 17 with fail
          go_wp2_with (at_builtin; refine wpList_append_own _ rfl (.tmp 111) (.tmp 115) 22 rfl w.heap.size 48 i0 (.agg #[.int .i64 0, .int .i64 0]) 2 16 Try.underlying22 hi hz0 hz1 hz2 rfl (by decide) _ _ _ rfl (own_belowS HO.out (below_alloc _ _)) ⟨w4.heap.size, 0, none⟩ 1 1 [.int .i64 (x + p1 + p1 - r1), .int .i64 (y + p2 + p2 - r2)] rfl rfl (cells_lit w4 [.int .i64 (x + p1 + p1 - r1), .int .i64 (y + p2 + p2 - r2)] 48) (by intro u hu; simp at hu; rcases hu with rfl | rfl <;> rfl) (by unfold maxLen; omega) (by omega) (by have := HB.out.size; simp; omega) ?_)
          intro v5 w5 hown5 hg5 hnil
          have bA := below_alloc w4 (.cells #[.int .i64 (x + p1 + p1 - r1), .int .i64 (y + p2 + p2 - r2)] 48)
          have AO := own_belowS HO.out bA
          have HD5 := Hid.mk9 ((HDx.out.below bA).kept (hg5.block _ (HDx.out.below bA).lt fun e => (HDx.out.below bA).apart AO (by decide) e.symm))
          have hB9 := (own_sms HO.out).2.2
          have HB5 : Hid (Below w.heap.size w w5) := Hid.mk9 ((HB.out.alloc HB.out.size _).grown hg5 (by have := HB.out.size; simp; omega) (by intro k hk; simp [Value.ownBlock] at hk; omega))
          have hnil2 : ¬ v5 = .slice none 0 0 := fun e9 => by first | exact hnil e9 | (have := hnil.1 e9; simp at this)
          obtain ⟨g', cp', rfl⟩ := own_formS hown5 hnil2
          have HO5 : Hid (w5.ownsRow w.heap.size 48 2 (.slice (some ⟨g', 0, none⟩) (k + 1) cp') (k + 1) (cellsS (L ++ [(x + p1 + p1 - r1, y + p2 + p2 - r2)]))) := Hid.mk9 (by rw [cellsS_snoc]; exact hown5)
          have HS5 := Hid.mk9 (own_sms HO5.out).1
          clear hown5 hg5 bA AO hB9 hnil hnil2 HO HB HDx
          by_cases hMay : MayS (L ++ [(x + p1 + p1 - r1, y + p2 + p2 - r2)])
          · have HMay := Hid.mk9 hMay
            clear hMay
            have HPre := Hid.mk9 (HF.out _ _ E1.out E2.out HMay.out)
            go_wp2_with (go_at_call 9; refine (mayS_true HS5.out HMay.out).mono ?_; rintro e w6 ⟨rfl, hb6⟩)
            have HE : Hid (RunIn M (.slice (some ⟨b, off, none⟩) n1 c1) (.slice a2 0 c2) w (k + 1) (.slice (some ⟨g', 0, none⟩) (k + 1) cp') w6) := ⟨below2 HB5.out hb6, HD5.out.below hb6, ⟨_, _, rfl⟩, _, by simp [hL], HPre.out, own_belowS HO5.out hb6⟩
            have hi8 := hi9.out
            exact ⟨⟨k + 1, by omega, int_of (by omega), HE⟩, by simp [intOf]; omega⟩
          · have HMay := Hid.mk9 hMay
            clear hMay
            have HN := Hid.mk9 (HG.out _ _ E1.out E2.out HMay.out)
            go_wp2_with (go_at_call 9; refine (mayS_false HS5.out HMay.out).mono ?_; rintro e w6 ⟨rfl, hb6⟩)
            go_returns
            exact run_no (below2 HB5.out hb6) fun _ => HN.out

        · have HN : Hid (∀ ls, ¬ Are M ls) := pre_wide HLN.out hw
          generalize M.getD (2 * k + 1) 0 = x at *
          generalize M.getD (2 * k + 2) 0 = y at *
          by_cases g1 : 8796093022208 < x
          · clear hw
            go_wp2_with fail
            have x0 := cell_grown (w := wr) (a := ⟨b, off + i, none⟩) hbs e0
            have x1 := cell_grown (w := wr) (a := ⟨b, off + i1, none⟩) hbs e1
            have x2 := cell_grown (w := wr) (a := ⟨w.heap.size, 0, none⟩) hDl d0
            refine wp_region_QW mixed5 (by kernel_rfl) ?_
            repeat (refine QW_step (fun K hK => ?_); go_simp; first | (refine hK _ ?_; clear hK K) | (apply Exists.intro; refine ⟨fun _ => ?_, hK _ ?_⟩; fail; clear hK K))
            refine QW_nil ?_
            intro _ hw9
            obtain ⟨⟨nq, osq⟩, hw8⟩ := hw9
            subst hw8
            have bG := below_grow wr nq osq
            replace e0 := (bG.cell (p := ⟨b, off + i, none⟩) hbs).trans e0
            replace e1 := (bG.cell (p := ⟨b, off + i1, none⟩) hbs).trans e1
            replace d0 := (bG.cell (p := ⟨w.heap.size, 0, none⟩) hDl).trans d0
            replace hbs : b < (Go.Sort.grow (wr.drewN nq) osq).heap.size := Nat.lt_of_lt_of_le hbs bG.size
            replace hDl : w.heap.size < (Go.Sort.grow (wr.drewN nq) osq).heap.size := Nat.lt_of_lt_of_le hDl bG.size
            replace hgl : g < (Go.Sort.grow (wr.drewN nq) osq).heap.size := Nat.lt_of_lt_of_le hgl bG.size
            replace HO := Hid.mk9 (own_belowS HO.out bG)
            replace HDx := Hid.mk9 (HDx.out.below bG)
            replace HB := Hid.mk9 (HB.out.trans (bG.mono HB.out.size))
            clear bG x0 x1 x2
            generalize Go.Sort.grow (wr.drewN nq) osq = w2 at *
            go_wp2_with fail
            go_returns
            exact run_no HB.out fun _ => HN.out
          by_cases g2 : x < -8796093022208
          · clear hw
            go_wp2_with fail
            have x0 := cell_grown (w := wr) (a := ⟨b, off + i, none⟩) hbs e0
            have x1 := cell_grown (w := wr) (a := ⟨b, off + i1, none⟩) hbs e1
            have x2 := cell_grown (w := wr) (a := ⟨w.heap.size, 0, none⟩) hDl d0
            refine wp_region_QW mixed5 (by kernel_rfl) ?_
            repeat (refine QW_step (fun K hK => ?_); go_simp; first | (refine hK _ ?_; clear hK K) | (apply Exists.intro; refine ⟨fun _ => ?_, hK _ ?_⟩; fail; clear hK K))
            refine QW_nil ?_
            intro _ hw9
            obtain ⟨⟨nq, osq⟩, hw8⟩ := hw9
            subst hw8
            have bG := below_grow wr nq osq
            replace e0 := (bG.cell (p := ⟨b, off + i, none⟩) hbs).trans e0
            replace e1 := (bG.cell (p := ⟨b, off + i1, none⟩) hbs).trans e1
            replace d0 := (bG.cell (p := ⟨w.heap.size, 0, none⟩) hDl).trans d0
            replace hbs : b < (Go.Sort.grow (wr.drewN nq) osq).heap.size := Nat.lt_of_lt_of_le hbs bG.size
            replace hDl : w.heap.size < (Go.Sort.grow (wr.drewN nq) osq).heap.size := Nat.lt_of_lt_of_le hDl bG.size
            replace hgl : g < (Go.Sort.grow (wr.drewN nq) osq).heap.size := Nat.lt_of_lt_of_le hgl bG.size
            replace HO := Hid.mk9 (own_belowS HO.out bG)
            replace HDx := Hid.mk9 (HDx.out.below bG)
            replace HB := Hid.mk9 (HB.out.trans (bG.mono HB.out.size))
            clear bG x0 x1 x2
            generalize Go.Sort.grow (wr.drewN nq) osq = w2 at *
            go_wp2_with fail
            go_returns
            exact run_no HB.out fun _ => HN.out
          by_cases g3 : 8796093022208 < y
          · clear hw
            go_wp2_with fail
            have x0 := cell_grown (w := wr) (a := ⟨b, off + i, none⟩) hbs e0
            have x1 := cell_grown (w := wr) (a := ⟨b, off + i1, none⟩) hbs e1
            have x2 := cell_grown (w := wr) (a := ⟨w.heap.size, 0, none⟩) hDl d0
            refine wp_region_QW mixed5 (by kernel_rfl) ?_
            repeat (refine QW_step (fun K hK => ?_); go_simp; first | (refine hK _ ?_; clear hK K) | (apply Exists.intro; refine ⟨fun _ => ?_, hK _ ?_⟩; fail; clear hK K))
            refine QW_nil ?_
            intro _ hw9
            obtain ⟨⟨nq, osq⟩, hw8⟩ := hw9
            subst hw8
            have bG := below_grow wr nq osq
            replace e0 := (bG.cell (p := ⟨b, off + i, none⟩) hbs).trans e0
            replace e1 := (bG.cell (p := ⟨b, off + i1, none⟩) hbs).trans e1
            replace d0 := (bG.cell (p := ⟨w.heap.size, 0, none⟩) hDl).trans d0
            replace hbs : b < (Go.Sort.grow (wr.drewN nq) osq).heap.size := Nat.lt_of_lt_of_le hbs bG.size
            replace hDl : w.heap.size < (Go.Sort.grow (wr.drewN nq) osq).heap.size := Nat.lt_of_lt_of_le hDl bG.size
            replace hgl : g < (Go.Sort.grow (wr.drewN nq) osq).heap.size := Nat.lt_of_lt_of_le hgl bG.size
            replace HO := Hid.mk9 (own_belowS HO.out bG)
            replace HDx := Hid.mk9 (HDx.out.below bG)
            replace HB := Hid.mk9 (HB.out.trans (bG.mono HB.out.size))
            clear bG x0 x1 x2
            generalize Go.Sort.grow (wr.drewN nq) osq = w2 at *
            go_wp2_with fail
            go_returns
            exact run_no HB.out fun _ => HN.out
          have g4 : y < -8796093022208 := by omega
          clear hw
          go_wp2_with fail
          have x0 := cell_grown (w := wr) (a := ⟨b, off + i, none⟩) hbs e0
          have x1 := cell_grown (w := wr) (a := ⟨b, off + i1, none⟩) hbs e1
          have x2 := cell_grown (w := wr) (a := ⟨w.heap.size, 0, none⟩) hDl d0
          refine wp_region_QW mixed5 (by kernel_rfl) ?_
          repeat (refine QW_step (fun K hK => ?_); go_simp; first | (refine hK _ ?_; clear hK K) | (apply Exists.intro; refine ⟨fun _ => ?_, hK _ ?_⟩; fail; clear hK K))
          refine QW_nil ?_
          intro _ hw9
          obtain ⟨⟨nq, osq⟩, hw8⟩ := hw9
          subst hw8
          have bG := below_grow wr nq osq
          replace e0 := (bG.cell (p := ⟨b, off + i, none⟩) hbs).trans e0
          replace e1 := (bG.cell (p := ⟨b, off + i1, none⟩) hbs).trans e1
          replace d0 := (bG.cell (p := ⟨w.heap.size, 0, none⟩) hDl).trans d0
          replace hbs : b < (Go.Sort.grow (wr.drewN nq) osq).heap.size := Nat.lt_of_lt_of_le hbs bG.size
          replace hDl : w.heap.size < (Go.Sort.grow (wr.drewN nq) osq).heap.size := Nat.lt_of_lt_of_le hDl bG.size
          replace hgl : g < (Go.Sort.grow (wr.drewN nq) osq).heap.size := Nat.lt_of_lt_of_le hgl bG.size
          replace HO := Hid.mk9 (own_belowS HO.out bG)
          replace HDx := Hid.mk9 (HDx.out.below bG)
          replace HB := Hid.mk9 (HB.out.trans (bG.mono HB.out.size))
          clear bG x0 x1 x2
          generalize Go.Sort.grow (wr.drewN nq) osq = w2 at *
          go_wp2_with fail
          go_returns
          exact run_no HB.out fun _ => HN.out
      · have P1 : (n1 : Int) ≤ (i : Int) + 1 := by omega
        have hML : M.length ≤ 2 * L.length + 2 := by have := hi9.out; omega
        have HSx := Hid.mk9 (own_sms HO.out).1
        have d0 := HDx.out.c0
        by_cases hq : numsS L = M
        · have HA : Hid (Are M L) := ⟨HP.out.1, hq.symm⟩
          have HQ : Hid (∀ W p kk c, Below wr.heap.size wr W → RowAt W p kk c (cellsI (numsS L)) → Calls Try.prog 18 #[.slice p kk c, .slice (some ⟨b, off, none⟩) n1 c1] W fun e w' => e = .returned (.bool true) ∧ Below W.heap.size W w') := Hid.mk9 fun W p kk c hW hr => (ints_any _ _ _ _ _ _ _ M W hr ((H1.out.below HB.out).below hW)).mono fun _ _ ⟨hb, q, he, hq2⟩ => ⟨by rw [he, hq2.2 hq], hb⟩
          clear hq hML
          go_upto_region 20 with fail
          refine unp_20 _ _ _ _ _ _ _ _ _ _ _ _ _ _ _ _ _ _ _ _ _ _ _ _ _ _ _ _ _ _ _ _ _ _ _ _ _ _ _ _ _ _ _ _ _ _ _ _ _ _ _ _ _ _ _ _ _ _ _ _ _ _ _ _ _ _ _ _ _ _ _ _ _ _ _ _ _ _ _ _ _ _ _ _ _ _ _ _ _ _ _ _ _ _ _ _ _ _ _ _ _ _ _ _ _ _ _ _ _ _ _ _ _ _ _ _ _ _ _ _ _ _ _ _ _ w.heap.size (.slice (some ⟨g, 0, none⟩) k cp) (some ⟨b, off, none⟩) n1 c1 (numsS L) true wr _ HDx.out.c0 HDx.out.lt (Hid.mk9 fun W hW => (refNums_any _ _ _ L W (HSx.out.below hW) HP.out.1).mono fun _ _ ⟨hb, v, he, ho⟩ => by obtain ⟨p, c, rfl, hr, _⟩ := RowAt.of_own ho; exact ⟨⟨p, _, c, he, Hid.mk9 hr⟩, hb⟩) HQ (Hid.mk9 fun u120 u121 u122 u123 u124 wC hb => ?_)
          have HE := Hid.mk9 (below2 HB.out hb)
          have HS2 := Hid.mk9 (HSx.out.below hb)
          clear hb HQ
          go_wp2_with fail
          go_returns
          exact ⟨HE.out, .inl ⟨L, _, _, _, HT.out, HA.out, rfl, HS2.out⟩⟩
        · have HN : Hid (∀ ls, ¬ Are M ls) := pre_end HP.out hML fun e => hq e.symm
          have HQ : Hid (∀ W p kk c, Below wr.heap.size wr W → RowAt W p kk c (cellsI (numsS L)) → Calls Try.prog 18 #[.slice p kk c, .slice (some ⟨b, off, none⟩) n1 c1] W fun e w' => e = .returned (.bool false) ∧ Below W.heap.size W w') := Hid.mk9 fun W p kk c hW hr => (ints_any _ _ _ _ _ _ _ M W hr ((H1.out.below HB.out).below hW)).mono fun _ _ ⟨hb, q, he, hq2⟩ => ⟨by rw [he]; cases q with | false => rfl | true => exact absurd (hq2.1 rfl) hq, hb⟩
          clear hq hML
          go_upto_region 20 with fail
          refine unp_20 _ _ _ _ _ _ _ _ _ _ _ _ _ _ _ _ _ _ _ _ _ _ _ _ _ _ _ _ _ _ _ _ _ _ _ _ _ _ _ _ _ _ _ _ _ _ _ _ _ _ _ _ _ _ _ _ _ _ _ _ _ _ _ _ _ _ _ _ _ _ _ _ _ _ _ _ _ _ _ _ _ _ _ _ _ _ _ _ _ _ _ _ _ _ _ _ _ _ _ _ _ _ _ _ _ _ _ _ _ _ _ _ _ _ _ _ _ _ _ _ _ _ _ _ _ w.heap.size (.slice (some ⟨g, 0, none⟩) k cp) (some ⟨b, off, none⟩) n1 c1 (numsS L) false wr _ HDx.out.c0 HDx.out.lt (Hid.mk9 fun W hW => (refNums_any _ _ _ L W (HSx.out.below hW) HP.out.1).mono fun _ _ ⟨hb, v, he, ho⟩ => by obtain ⟨p, c, rfl, hr, _⟩ := RowAt.of_own ho; exact ⟨⟨p, _, c, he, Hid.mk9 hr⟩, hb⟩) HQ (Hid.mk9 fun u120 u121 u122 u123 u124 wC hb => ?_)
          have HE := Hid.mk9 (below2 HB.out hb)
          clear hb HQ
          go_wp2_with fail
          go_returns
          exact run_no HE.out fun _ => HN.out
  · have HT : Hid (texts = [] → ∀ ls, ¬ Are M ls) := fun e => absurd (by rw [← hl2, e]; rfl) ht
    have ht' : (0 : Int) < (n2 : Int) := by omega
    go_enter Try.func16, Try.ntmps16
    go_wp2_with fail
    go_returns
    exact run_no (below_alloc w _) HT.out
end Go.Proofs.Ytfplncadjifgfaa.Bk
