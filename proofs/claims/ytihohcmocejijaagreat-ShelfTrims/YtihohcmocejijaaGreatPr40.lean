/-
  The answer's Line; a trimmed shelf's lines, plainly.
  ShelfTrims' drawn region 21: a line of the trimmed shelf held against what was kept.
-/
import Derived.Test.YtihohcmocejijaaGreatPr37
import Derived.Test.YtihohcmocejijaaGreatPr38
import Derived.Test.YtihohcmocejijaaGreatPr39
namespace Go.Proofs.YtihohcmocejijaaGreat.Bk
open Go.ChangeShapes Go.WideShapes Go.ChangeAt Go.RowKit
theorem findL_first {ls : List Ln} {n : ByteArray} {k : Nat} (hk : k < ls.length) (e : (ls.getD k ln0).1 = n) (h : ∀ j, j < k → (ls.getD j ln0).1 ≠ n) : findL ls n = some (ls.getD k ln0).2 := by
  unfold findL
  have : ls.find? (fun l => decide (l.1 = n)) = some (ls.getD k ln0) := by
    rw [List.find?_eq_some_iff_append]
    refine ⟨by simpa using e, ls.take k, ls.drop (k + 1), ?_, fun x hx => ?_⟩
    · rw [getDn hk]; simp
    · obtain ⟨j, hj, rfl⟩ := List.getElem_of_mem hx
      have hj2 : j < k := by simp at hj; omega
      have := h j hj2
      rw [getDn (by omega)] at this
      simpa using this
  rw [this]
  rfl
theorem findL_none {ls : List Ln} {n : ByteArray} (h : ∀ j, j < ls.length → (ls.getD j ln0).1 ≠ n) : findL ls n = none := by
  unfold findL
  have : ls.find? (fun l => decide (l.1 = n)) = none := by
    rw [List.find?_eq_none]
    intro x hx
    obtain ⟨j, hj, rfl⟩ := List.getElem_of_mem hx
    have := h j hj
    rw [getDn hj] at this
    simpa using this
  rw [this]
  rfl
def LinePost (l : List Sm) (w : World) (e : Ending) (w' : World) : Prop := Below w.heap.size w w' ∧ ∃ a n c, e = .returned (.slice a n c) ∧ SmsAt w' a n c l
set_option maxHeartbeats 4000000 in
set_option maxRecDepth 60000 in
theorem refLine_any (v : Value) (s : Shf) (nm : ByteArray) (w : World) (h : ShAt w v s) (hl : s.ls.length ≤ 1000) : Calls Tryz.prog 24 #[v, .string nm] w fun e w' => LinePost (linS s nm) w e w' := by
  obtain ⟨la, ln, lc, da, dn, dc, rfl, hL, hD⟩ := h
  have hlen : s.ls.length = ln := hL.1
  have l9 : (ln : Int) ≤ 1000 := by omega
  have HL := Hid.mk9 hL
  have HB := Hid.mk9 (below_alloc w (.cells #[.slice la ln lc, .slice da dn dc, .int .i64 s.fl] 25))
  have HX := Hid.mk9 (Bx3.new w 25 (.slice la ln lc) (.slice da dn dc) (.int .i64 s.fl))
  clear hL hD
  go_enter Tryz.func24, Tryz.ntmps24
  go_upto_region 1 with fail
  generalize World.alloc _ _ = wA at *
  generalize hq : w.heap.size = q at HX ⊢
  obtain ⟨c0, c1, c2⟩ := HX.out.cells
  clear c1 c2
  go_wp2_with fail
  go_loopw [5] (fun si wr => ∃ k : Nat, si = .int .i64 k ∧ k ≤ ln ∧ Hid (∀ j, j < k → (s.ls.getD j ln0).1 ≠ nm) ∧ wr = wA) (fun si _ => ln - (intOf si).toNat)
  case atStart => exact ⟨0, rfl, Nat.zero_le _, Hid.mk9 (fun j hj => absurd hj (Nat.not_lt_zero _)), rfl⟩
  case round =>
    obtain ⟨k, rfl, hk, HN, rfl⟩ := hrel
    by_cases hlt : k < ln
    · have k1 : (k : Int) < (ln : Int) := by omega
      have k0 : (0 : Int) ≤ (k : Int) := by omega
      obtain ⟨b, off, rfl, hbs, hcell⟩ := (HL.out.below HB.out).some (by omega)
      obtain ⟨d0, a', n', c', d1, hS⟩ := hcell k hlt
      have HS := Hid.mk9 hS
      clear hcell hS
      by_cases hse : (s.ls.getD k ln0).1 = nm
      · have HP : Hid (LinePost (linS s nm) w (.returned (.slice a' n' c')) wr) := Hid.mk9 ⟨HB.out, _, _, _, rfl, by unfold linS; rw [findL_first (by omega) hse HN.out]; exact HS.out⟩
        have hE : ((s.ls.getD k ln0).1.toList == nm.toList) = true := by rw [hse]; simp
        clear HS HN hse
        generalize (s.ls.getD k ln0).1 = sk at *
        go_wp2_with fail
        go_ret
        exact HP.out
      · have hE : ((s.ls.getD k ln0).1.toList == nm.toList) = false := by rw [Lb.eqB]; exact decide_eq_false hse
        have HN2 : Hid (∀ j, j < k + 1 → (s.ls.getD j ln0).1 ≠ nm) := Hid.mk9 (fun j hj => by
          rcases Nat.lt_or_ge j k with e | e
          · exact HN.out j e
          · rw [show j = k by omega]; exact hse)
        clear HS HN hse
        generalize (s.ls.getD k ln0).1 = sk at *
        go_wp2_with fail
        exact ⟨⟨k + 1, by go_num, by omega, HN2, trivial⟩, by simp [intOf]; omega⟩
    · have HP : Hid (LinePost (linS s nm) w (.returned (.slice none 0 0)) wr) := Hid.mk9 ⟨HB.out, none, 0, 0, rfl, by unfold linS; rw [findL_none (fun j hj => HN.out j (by omega))]; exact ⟨rfl, Nat.le_refl _, Nat.zero_le _, .inl rfl⟩⟩
      have k1 : (ln : Int) ≤ (k : Int) := by omega
      clear HN
      go_wp2_with fail
      go_ret
      exact HP.out
theorem mem_findL {ls : List Ln} (hP : ls.Pairwise fun a b => Lb.ltB a.1 b.1 = true) {l : Ln} (h : l ∈ ls) : findL ls l.1 = some l.2 := by
  obtain ⟨k, hk, rfl⟩ := List.getElem_of_mem h
  have := findL_first (n := ls[k].1) hk (by rw [getDn hk]) (fun j hj e => by
    rw [getDn (by omega)] at e
    have h1 := List.pairwise_iff_getElem.1 hP j k (by omega) hk hj
    rw [e, Lb.ltB_irrefl] at h1
    cases h1)
  rwa [getDn hk] at this
theorem line_trim {ls : List Ln} {ds : List Dn} {fl f : Int} (hM : LnsMay ls fl) {i : Nat} (hi : i < ls.length) : linS ⟨trimL ls f, ds, f⟩ (ls.getD i ln0).1 = trimP (ls.getD i ln0).2 f := by
  obtain ⟨_, _, hP⟩ := (lns_iff ls fl).1 hM
  have hP2 : (trimL ls f).Pairwise fun a b => Lb.ltB a.1 b.1 = true := by
    unfold trimL
    refine List.Pairwise.filter _ ?_
    rw [List.pairwise_map]
    exact hP
  have hmem : ls.getD i ln0 ∈ ls := by rw [getDn hi]; exact List.getElem_mem hi
  unfold linS
  by_cases h0 : trimP (ls.getD i ln0).2 f = []
  · rw [h0]
    cases hf : findL (trimL ls f) (ls.getD i ln0).1 with
    | none => rfl
    | some xs =>
      exfalso
      obtain ⟨k, hk, e⟩ := findL_mem hf
      have hm : ((ls.getD i ln0).1, xs) ∈ trimL ls f := by rw [← e, getDn hk]; exact List.getElem_mem hk
      unfold trimL at hm
      obtain ⟨h1, h2⟩ := List.mem_filter.1 hm
      obtain ⟨l, hl, he⟩ := List.mem_map.1 h1
      simp only [Prod.mk.injEq] at he
      have e1 := mem_findL hP hl
      have e2 := mem_findL hP hmem
      rw [he.1, e2] at e1
      injection e1 with e1
      rw [← e1, h0] at he
      rw [← he.2] at h2
      simp at h2
  · have hm : ((ls.getD i ln0).1, trimP (ls.getD i ln0).2 f) ∈ trimL ls f := by
      unfold trimL
      refine List.mem_filter.2 ⟨List.mem_map.2 ⟨_, hmem, rfl⟩, by simpa using h0⟩
    have := mem_findL hP2 hm
    simp only at this ⊢
    rw [this]
    rfl
def cntT (ls : List Ln) (f : Int) (k : Nat) : Nat := ((ls.take k).filter fun l => decide (trimP l.2 f ≠ [])).length
theorem cntT_zero (ls : List Ln) (f : Int) : cntT ls f 0 = 0 := by simp [cntT]
theorem cntT_le (ls : List Ln) (f : Int) (k : Nat) : cntT ls f k ≤ k := by
  unfold cntT
  exact Nat.le_trans (List.length_filter_le _ _) (by simp; omega)
theorem cntT_next {ls : List Ln} {f : Int} {k : Nat} (hk : k < ls.length) : cntT ls f (k + 1) = cntT ls f k + if trimP (ls.getD k ln0).2 f = [] then 0 else 1 := by
  unfold cntT
  rw [List.take_succ_eq_append_getElem hk, List.filter_append, List.length_append, getDn hk]
  by_cases h : trimP ls[k].2 f = []
  · simp [h]
  · simp [h]
theorem cntT_all (ls : List Ln) (f : Int) : cntT ls f ls.length = (trimL ls f).length := by
  unfold cntT trimL
  rw [List.take_length, List.filter_map, List.length_map]
  rfl
end Go.Proofs.YtihohcmocejijaaGreat.Bk
namespace Go.Proofs.YtihohcmocejijaaGreat.Bk
open Go.ChangeShapes Go.WideShapes Go.ChangeAt Go.RowKit
set_option maxHeartbeats 4000000 in
set_option maxRecDepth 60000 in
theorem tr_21 (t0 t1 t2 t3 t4 t7 t8 t9 t12 t13 t14 t15 t16 t17 t18 t19 t20 t21 t22 t23 t24 t25 t26 t27 t28 t29 t30 t31 t32 t33 t34 t35 t36 t37 t38 t39 t40 t41 t42 t43 t44 t45 t46 t47 t48 t49 t50 t51 t52 t53 t54 t55 t56 t57 t58 t59 t60 t61 t62 t63 t64 t65 t66 t67 t68 t69 t70 t71 t72 t73 t74 t75 t76 t77 t78 t79 t80 t81 t82 t83 t84 t85 t86 t87 t88 t89 t90 t91 t92 t93 t94 t95 t96 t97 t98 t99 t100 t101 t102 t103 t104 t105 t106 t107 t108 t109 t110 t111 t112 t113 t114 t115 t116 t117 t118 t119 t120 t121 t122 t123 t124 t125 t126 t127 t128 t129 t130 : Value) (b off ln lc i r5 r6 : Nat) (x0 x1 x2 y1 y2 : Value) (nm : ByteArray) (ka : Option Addr) (kn kc : Nat) (L : List Sm) (w1 : World) (Q : Exit → Act → World → Prop)
    (hx6 : Bx3 w1 r6 25 x0 x1 x2) (hx5 : Bx3 w1 r5 25 (.slice (some ⟨b, off, none⟩) ln lc) y1 y2) (hnm : w1.cell? ⟨b, off + i * 2, none⟩ = some (.string nm)) (hi : (i : Int) < (ln : Int)) (HPl : Hid (∀ W, Below w1.heap.size w1 W → Calls Tryz.prog 24 #[.agg #[x0, x1, x2], .string nm] W fun x w' => LinePost L W x w')) (HPs : Hid (∀ W a n c, Below w1.heap.size w1 W → SmsAt W a n c L → Calls Tryz.prog 23 #[.slice a n c, .slice ka kn kc] W fun x w' => x = .returned (.bool true) ∧ Below W.heap.size W w'))
    (hQ : Hid (∀ (u101 u102 u103 u104 u105 u106 u107 u108 u109 u110 : Value) (wC : World), Below w1.heap.size w1 wC → Q .normal ⟨#[t0, t1, t2, t3, t4, .pointer (some ⟨r5, 0, none⟩), .pointer (some ⟨r6, 0, none⟩), t7, t8, t9, .int .i64 (i : Int), .slice ka kn kc, t12, t13, t14, t15, t16, t17, t18, t19, t20, t21, t22, t23, t24, t25, t26, t27, t28, t29, t30, t31, t32, t33, t34, t35, t36, t37, t38, t39, t40, t41, t42, t43, t44, t45, t46, t47, t48, t49, t50, t51, t52, t53, t54, t55, t56, t57, t58, t59, t60, t61, t62, t63, t64, t65, t66, t67, t68, t69, t70, t71, t72, t73, t74, t75, t76, t77, t78, t79, t80, t81, t82, t83, t84, t85, t86, t87, t88, t89, t90, t91, t92, t93, t94, t95, t96, t97, t98, t99, t100, u101, u102, u103, u104, u105, u106, u107, u108, u109, u110, .bool false, t112, t113, t114, t115, t116, t117, t118, t119, t120, t121, t122, t123, t124, t125, t126, t127, t128, t129, t130], []⟩ wC)) :
    Code.wp Tryz.prog ((Tryz.f6.body.bind (regionOf 21)).getD .skip) Q ⟨#[t0, t1, t2, t3, t4, .pointer (some ⟨r5, 0, none⟩), .pointer (some ⟨r6, 0, none⟩), t7, t8, t9, .int .i64 (i : Int), .slice ka kn kc, t12, t13, t14, t15, t16, t17, t18, t19, t20, t21, t22, t23, t24, t25, t26, t27, t28, t29, t30, t31, t32, t33, t34, t35, t36, t37, t38, t39, t40, t41, t42, t43, t44, t45, t46, t47, t48, t49, t50, t51, t52, t53, t54, t55, t56, t57, t58, t59, t60, t61, t62, t63, t64, t65, t66, t67, t68, t69, t70, t71, t72, t73, t74, t75, t76, t77, t78, t79, t80, t81, t82, t83, t84, t85, t86, t87, t88, t89, t90, t91, t92, t93, t94, t95, t96, t97, t98, t99, t100, t101, t102, t103, t104, t105, t106, t107, t108, t109, t110, t111, t112, t113, t114, t115, t116, t117, t118, t119, t120, t121, t122, t123, t124, t125, t126, t127, t128, t129, t130], []⟩ w1 := by
  have hS : (fun w' => Below w1.heap.size w1 w' ∧ Bx3 w' r6 25 x0 x1 x2 ∧ Bx3 w' r5 25 (.slice (some ⟨b, off, none⟩) ln lc) y1 y2 ∧ w'.cell? ⟨b, off + i * 2, none⟩ = some (.string nm)) w1.drew := ⟨below_drew _, hx6, hx5, hnm⟩
  conv => arg 2; whnf
  refine held_start (S := fun w' => Below w1.heap.size w1 w' ∧ Bx3 w' r6 25 x0 x1 x2 ∧ Bx3 w' r5 25 (.slice (some ⟨b, off, none⟩) ln lc) y1 y2 ∧ w'.cell? ⟨b, off + i * 2, none⟩ = some (.string nm)) mixed9 ?_
  generalize w1.drew = wz at *
  refine held_take (i := 0) (v := .agg #[x0, x1, x2]) rfl (by kernel_rfl) (fun _ _ _ h => h) (.inl ⟨rfl, fun w hS => ?_⟩) hS ?_
  · obtain ⟨-, q, -, -⟩ := hS
    obtain ⟨c0, c1, c2⟩ := q.cells
    go_simp
  try simp only [Act.put, List.setIfInBounds_toArray, List.set_cons_zero, List.set_cons_succ]
  refine held_take (i := 1) (v := .pointer (some ⟨r5, 0, none⟩)) rfl (by kernel_rfl) (fun _ _ _ h => h) (.inl ⟨rfl, fun w hS => ?_⟩) hS ?_
  · go_simp
  try simp only [Act.put, List.setIfInBounds_toArray, List.set_cons_zero, List.set_cons_succ]
  refine held_take (i := 2) (v := .slice (some ⟨b, off, none⟩) ln lc) rfl (by kernel_rfl) (fun _ _ _ h => h) (.inl ⟨rfl, fun w hS => ?_⟩) hS ?_
  · obtain ⟨-, -, q, -⟩ := hS
    obtain ⟨c0, c1, c2⟩ := q.cells
    go_simp
  try simp only [Act.put, List.setIfInBounds_toArray, List.set_cons_zero, List.set_cons_succ]
  refine held_take (i := 3) (v := .int .i64 (i : Int)) rfl (by kernel_rfl) (fun _ _ _ h => h) (.inl ⟨rfl, fun w hS => ?_⟩) hS ?_
  · go_simp
  try simp only [Act.put, List.setIfInBounds_toArray, List.set_cons_zero, List.set_cons_succ]
  refine held_take (i := 4) (v := .pointer (some ⟨b, off + i * 2, none⟩)) rfl (by kernel_rfl) (fun _ _ _ h => h) (.inl ⟨rfl, fun w hS => ?_⟩) hS ?_
  · go_simp
  try simp only [Act.put, List.setIfInBounds_toArray, List.set_cons_zero, List.set_cons_succ]
  refine held_take (i := 5) (v := .pointer (some ⟨b, off + i * 2, none⟩)) rfl (by kernel_rfl) (fun _ _ _ h => h) (.inl ⟨rfl, fun w hS => ?_⟩) hS ?_
  · go_simp
  try simp only [Act.put, List.setIfInBounds_toArray, List.set_cons_zero, List.set_cons_succ]
  refine held_take (i := 6) (v := .string nm) rfl (by kernel_rfl) (fun _ _ _ h => h) (.inl ⟨rfl, fun w hS => ?_⟩) hS ?_
  · obtain ⟨-, -, -, q⟩ := hS
    go_simp
  try simp only [Act.put, List.setIfInBounds_toArray, List.set_cons_zero, List.set_cons_succ]
  refine held_take (i := 8) (v := .slice ka kn kc) rfl (by kernel_rfl) (fun _ _ _ h => h) (.inl ⟨rfl, fun w hS => ?_⟩) hS ?_
  · go_simp
  try simp only [Act.put, List.setIfInBounds_toArray, List.set_cons_zero, List.set_cons_succ]
  refine held_one (i := 7) (by kernel_rfl) rfl rfl ?_
  intro K hK
  go_simp
  go_at_call 24
  refine (HPl.out _ hS.1).mono ?_
  rintro e wL ⟨hb2, a9, n9, c9, rfl, hS9⟩
  refine hK.out _ _ (⟨below2 hS.1 hb2, hS.2.1.below hb2, hS.2.2.1.below hb2, kept3 hS.2.2.2 hb2⟩) ?_
  have hS8 : (fun w' => Below w1.heap.size w1 w' ∧ Bx3 w' r6 25 x0 x1 x2 ∧ Bx3 w' r5 25 (.slice (some ⟨b, off, none⟩) ln lc) y1 y2 ∧ w'.cell? ⟨b, off + i * 2, none⟩ = some (.string nm)) wL := ⟨below2 hS.1 hb2, hS.2.1.below hb2, hS.2.2.1.below hb2, kept3 hS.2.2.2 hb2⟩
  clear hK hS
  have hS := hS8
  clear hS8 hb2
  try simp only [Act.put, List.setIfInBounds_toArray, List.set_cons_zero, List.set_cons_succ]
  refine held_one (i := 9) (by kernel_rfl) rfl rfl ?_
  intro K hK
  go_simp
  go_at_call 23
  refine (HPs.out _ _ _ _ hS.1 hS9).mono ?_
  rintro e wM ⟨rfl, hb2⟩
  refine hK.out _ _ (⟨below2 hS.1 hb2, hS.2.1.below hb2, hS.2.2.1.below hb2, kept3 hS.2.2.2 hb2⟩) ?_
  have hS8 : (fun w' => Below w1.heap.size w1 w' ∧ Bx3 w' r6 25 x0 x1 x2 ∧ Bx3 w' r5 25 (.slice (some ⟨b, off, none⟩) ln lc) y1 y2 ∧ w'.cell? ⟨b, off + i * 2, none⟩ = some (.string nm)) wM := ⟨below2 hS.1 hb2, hS.2.1.below hb2, hS.2.2.1.below hb2, kept3 hS.2.2.2 hb2⟩
  clear hK hS
  have hS := hS8
  clear hS8 hS9 hb2
  try simp only [Act.put, List.setIfInBounds_toArray, List.set_cons_zero, List.set_cons_succ]
  refine held_take (i := 10) (v := .bool false) rfl (by kernel_rfl) (fun _ _ _ h => h) (.inl ⟨rfl, fun w hS => ?_⟩) hS ?_
  · go_simp
  try simp only [Act.put, List.setIfInBounds_toArray, List.set_cons_zero, List.set_cons_succ]
  refine wpAnyH_done (by kernel_rfl) ?_ _
  refine NoPanic.normal ?_
  exact hQ.out _ _ _ _ _ _ _ _ _ _ _ hS.1
end Go.Proofs.YtihohcmocejijaaGreat.Bk
