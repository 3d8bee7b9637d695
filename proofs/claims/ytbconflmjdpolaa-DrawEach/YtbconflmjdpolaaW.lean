/-
  What choices weigh, by their ids, in a map: plainly; and the region that puts one more into it.
-/
import Derived.Test.YtbconflmjdpolaaS
import Derived.Maps.Own
import Derived.Maps.Views
import Derived.WalkArith
namespace Go.Proofs.Ytbconflmjdpolaa
open Go.ChangeShapes Go.WideShapes Go.ChangeAt Go.RowKit
open Go.Maps
/-- what the choices weigh, by their ids -/
def mapTo (l : List Ch) : DataW Unit := l.foldl (fun m c => m.put (.int .i64 c.1) (.lit (.int .i64 c.2))) (.map [])
theorem mapTo_snoc (l : List Ch) (c : Ch) : mapTo (l ++ [c]) = (mapTo l).put (.int .i64 c.1) (.lit (.int .i64 c.2)) := by
  unfold mapTo
  rw [List.foldl_append, List.foldl_cons, List.foldl_nil]
theorem key_ne {a b : Int} (h : a ≠ b) : (Lit.int .i64 a) ≠ .int .i64 b := fun e => by
  injection e with _ e
  exact h e
theorem fold_else (l : List Ch) (k : Int) (z : DataW Unit) : ∀ m : DataW Unit, (∀ d ∈ l, d.1 ≠ k) → (l.foldl (fun m c => m.put (.int .i64 c.1) (.lit (.int .i64 c.2))) m).atKey (.int .i64 k) z = m.atKey (.int .i64 k) z := by
  induction l with
  | nil => intro m _; rfl
  | cons d l ih =>
    intro m h
    rw [List.foldl_cons, ih _ (fun e he => h e (by simp [he]))]
    exact atKey_put_other (key_ne (fun e => h d (by simp) e.symm)) _ _
theorem fold_at (l : List Ch) (z : DataW Unit) : ∀ m : DataW Unit, IsMap m → Rise l → ∀ c ∈ l, (l.foldl (fun m c => m.put (.int .i64 c.1) (.lit (.int .i64 c.2))) m).atKey (.int .i64 c.1) z = .lit (.int .i64 c.2) := by
  induction l with
  | nil => intro m _ _ c hc; simp at hc
  | cons d l ih =>
    intro m hm hr c hc
    unfold Rise at hr
    have hr' := List.pairwise_cons.1 hr
    rw [List.foldl_cons]
    rcases List.mem_cons.1 hc with e | e
    · rw [e, fold_else l d.1 z _ (fun x hx h => by have := hr'.1 x hx; omega)]
      exact atKey_put_same hm (by first | trivial | simp [WideAt.IsKeyLit]) _ _
    · exact ih _ (hm.put _ _) hr'.2 c e
theorem mapTo_at {l : List Ch} (hr : Rise l) {c : Ch} (hc : c ∈ l) (z : DataW Unit) : (mapTo l).atKey (.int .i64 c.1) z = .lit (.int .i64 c.2) := fold_at l z _ isMap_empty hr c hc
theorem wf_in {x : Int} (h : -9223372036854775808 ≤ x ∧ x ≤ 9223372036854775807) : (Lit.int .i64 x).wf = true := WalkArith.wf_i64 h
theorem law3 : Keyed Try.prog 3 := int_keyed Try.underlying3
theorem zero3 (w : World) : (zeroValue 3).run Try.prog w = .ok (.int .i64 0) w := by kernel_rfl
/-- what is looked up -/
theorem looks {w : World} {M n : Nat} {l : List Ch} (h : w.ownsMap Try.prog 3 (plainElem Try.prog 3) M n (mapTo l)) (hr : Rise l) {c : Ch} (hc : c ∈ l) (hw : 0 ≤ c.1 ∧ c.1 ≤ 2147483647) :
    (Instr.lookup 41 (.map (some M)) (.int .i64 c.1) false).run Try.prog w = .ok (.int .i64 c.2) w := by
  obtain ⟨x, hrun, hat, _⟩ := h.lookup_int law3 Try.underlying41 Try.underlying3 (zero3 w) (keyOf_int_mk Try.underlying3 (wf_in (x := c.1) (by omega)))
  rw [mapTo_at hr hc] at hat
  injection hat with hat
  injection hat with _ hat
  rw [hrun, hat]
theorem map_below {a b : World} {M n : Nat} {D : DataW Unit} (h : a.ownsMap Try.prog 3 (plainElem Try.prog 3) M n D) (hb : Below a.heap.size a b) : b.ownsMap Try.prog 3 (plainElem Try.prog 3) M n D := h.kept (below_grownBy hb none) (by simp)
set_option maxHeartbeats 4000000 in
set_option maxRecDepth 60000 in
theorem map_put (t0 t2 t3 t4 t5 t8 t9 t10 t11 t12 t13 t14 t15 t16 t17 t18 t19 t20 t21 t22 t23 t24 t25 t26 t27 t28 t29 t30 t31 t32 t33 t34 t35 t36 t37 t38 t39 t40 t41 t42 t43 t44 t45 t46 t47 t48 t49 t50 t51 t52 t53 t54 t55 t56 t57 t58 t59 t60 t61 t62 t63 t64 t65 t66 t67 t68 t69 t70 t71 t72 t73 t74 t75 t76 t77 t78 t79 t80 t81 t82 t83 t84 t85 t86 t87 t88 t89 t90 t91 t92 t93 t94 t95 t96 t97 : Value) (b off len cap M k n : Nat) (c1 c2 : Int) (D : DataW Unit) (w1 : World) (Q : Exit → Act → World → Prop)
    (hb : b < w1.heap.size) (e0 : w1.cell? ⟨b, off + k * 2, none⟩ = some (.int .i64 c1)) (e1 : w1.cell? ⟨b, off + k * 2 + 1, none⟩ = some (.int .i64 c2)) (hown : w1.ownsMap Try.prog 3 (plainElem Try.prog 3) M n D) (hne : b ≠ M) (hk : k < len) (hn : n ≤ 64) (hc1 : 0 ≤ c1 ∧ c1 ≤ 2147483647) (hc2 : 0 ≤ c2 ∧ c2 ≤ 65536)
    (hQ : Hid (∀ (u32 u33 u34 u35 u36 u37 u38 u39 u40 u41 u42 : Value) (wC : World), wC.ownsMap Try.prog 3 (plainElem Try.prog 3) M (n + 1) (D.put (.int .i64 c1) (.lit (.int .i64 c2))) → w1.grownBy wC (some M) → Q .normal ⟨#[t0, .slice (some ⟨b, off, none⟩) len cap, t2, t3, t4, t5, .map (some M), .int .i64 (k : Int), t8, t9, t10, t11, t12, t13, t14, t15, t16, t17, t18, t19, t20, t21, t22, t23, t24, t25, t26, t27, t28, t29, t30, t31, u32, u33, u34, u35, u36, u37, u38, u39, u40, u41, u42, t43, t44, t45, t46, t47, t48, t49, t50, t51, t52, t53, t54, t55, t56, t57, t58, t59, t60, t61, t62, t63, t64, t65, t66, t67, t68, t69, t70, t71, t72, t73, t74, t75, t76, t77, t78, t79, t80, t81, t82, t83, t84, t85, t86, t87, t88, t89, t90, t91, t92, t93, t94, t95, t96, t97], []⟩ wC)) :
    Code.wp Try.prog ((Try.f6.body.bind (regionOf 8)).getD .skip) Q ⟨#[t0, .slice (some ⟨b, off, none⟩) len cap, t2, t3, t4, t5, .map (some M), .int .i64 (k : Int), t8, t9, t10, t11, t12, t13, t14, t15, t16, t17, t18, t19, t20, t21, t22, t23, t24, t25, t26, t27, t28, t29, t30, t31, t32, t33, t34, t35, t36, t37, t38, t39, t40, t41, t42, t43, t44, t45, t46, t47, t48, t49, t50, t51, t52, t53, t54, t55, t56, t57, t58, t59, t60, t61, t62, t63, t64, t65, t66, t67, t68, t69, t70, t71, t72, t73, t74, t75, t76, t77, t78, t79, t80, t81, t82, t83, t84, t85, t86, t87, t88, t89, t90, t91, t92, t93, t94, t95, t96, t97], []⟩ w1 := by
  have hk0 : (0 : Int) ≤ (k : Int) := by omega
  have hk1 : (k : Int) < (len : Int) := by omega
  have HS : Hid (∀ w', Below w1.heap.size w1 w' → (fun w' => w'.cell? ⟨b, off + k * 2, none⟩ = some (.int .i64 c1) ∧ w'.cell? ⟨b, off + k * 2 + 1, none⟩ = some (.int .i64 c2)) w') := fun w' h => ⟨(h.cell (p := ⟨b, off + k * 2, none⟩) hb).trans e0, (h.cell (p := ⟨b, off + k * 2 + 1, none⟩) hb).trans e1⟩
  have HOWN : Hid (w1.drew.ownsMap Try.prog 3 (plainElem Try.prog 3) M n D) := hown.drew
  have HN : Hid (n ≤ 64) := hn
  clear hown hn hk
  have hS := HS.out w1.drew (below_drew w1)
  conv => arg 2; whnf
  refine held_start (S := (fun w' => w'.cell? ⟨b, off + k * 2, none⟩ = some (.int .i64 c1) ∧ w'.cell? ⟨b, off + k * 2 + 1, none⟩ = some (.int .i64 c2))) mixed5 ?_
  refine held_take (i := 0) (v := .map (some M)) rfl (by kernel_rfl) (fun _ _ _ h => h) (.inl ⟨rfl, fun w hS => ?_⟩) hS ?_
  · obtain ⟨s1, s2⟩ := hS
    go_simp
  simp only [Act.put, List.setIfInBounds_toArray, List.set_cons_zero, List.set_cons_succ]
  refine held_take (i := 1) (v := .slice (some ⟨b, off, none⟩) len cap) rfl (by kernel_rfl) (fun _ _ _ h => h) (.inl ⟨rfl, fun w hS => ?_⟩) hS ?_
  · obtain ⟨s1, s2⟩ := hS
    go_simp
  simp only [Act.put, List.setIfInBounds_toArray, List.set_cons_zero, List.set_cons_succ]
  refine held_take (i := 2) (v := .int .i64 (k : Int)) rfl (by kernel_rfl) (fun _ _ _ h => h) (.inl ⟨rfl, fun w hS => ?_⟩) hS ?_
  · obtain ⟨s1, s2⟩ := hS
    go_simp
  simp only [Act.put, List.setIfInBounds_toArray, List.set_cons_zero, List.set_cons_succ]
  refine held_take (i := 3) (v := .pointer (some ⟨b, off + k * 2, none⟩)) rfl (by kernel_rfl) (fun _ _ _ h => h) (.inl ⟨rfl, fun w hS => ?_⟩) hS ?_
  · obtain ⟨s1, s2⟩ := hS
    go_simp
  simp only [Act.put, List.setIfInBounds_toArray, List.set_cons_zero, List.set_cons_succ]
  refine held_take (i := 4) (v := .pointer (some ⟨b, off + k * 2, none⟩)) rfl (by kernel_rfl) (fun _ _ _ h => h) (.inl ⟨rfl, fun w hS => ?_⟩) hS ?_
  · obtain ⟨s1, s2⟩ := hS
    go_simp
  simp only [Act.put, List.setIfInBounds_toArray, List.set_cons_zero, List.set_cons_succ]
  refine held_take (i := 5) (v := .int .i64 c1) rfl (by kernel_rfl) (fun _ _ _ h => h) (.inl ⟨rfl, fun w hS => ?_⟩) hS ?_
  · obtain ⟨s1, s2⟩ := hS
    go_simp
  simp only [Act.put, List.setIfInBounds_toArray, List.set_cons_zero, List.set_cons_succ]
  refine held_take (i := 6) (v := .slice (some ⟨b, off, none⟩) len cap) rfl (by kernel_rfl) (fun _ _ _ h => h) (.inl ⟨rfl, fun w hS => ?_⟩) hS ?_
  · obtain ⟨s1, s2⟩ := hS
    go_simp
  simp only [Act.put, List.setIfInBounds_toArray, List.set_cons_zero, List.set_cons_succ]
  refine held_take (i := 7) (v := .int .i64 (k : Int)) rfl (by kernel_rfl) (fun _ _ _ h => h) (.inl ⟨rfl, fun w hS => ?_⟩) hS ?_
  · obtain ⟨s1, s2⟩ := hS
    go_simp
  simp only [Act.put, List.setIfInBounds_toArray, List.set_cons_zero, List.set_cons_succ]
  refine held_take (i := 8) (v := .pointer (some ⟨b, off + k * 2, none⟩)) rfl (by kernel_rfl) (fun _ _ _ h => h) (.inl ⟨rfl, fun w hS => ?_⟩) hS ?_
  · obtain ⟨s1, s2⟩ := hS
    go_simp
  simp only [Act.put, List.setIfInBounds_toArray, List.set_cons_zero, List.set_cons_succ]
  refine held_take (i := 9) (v := .pointer (some ⟨b, off + k * 2 + 1, none⟩)) rfl (by kernel_rfl) (fun _ _ _ h => h) (.inl ⟨rfl, fun w hS => ?_⟩) hS ?_
  · obtain ⟨s1, s2⟩ := hS
    go_simp
  simp only [Act.put, List.setIfInBounds_toArray, List.set_cons_zero, List.set_cons_succ]
  refine held_take (i := 10) (v := .int .i64 c2) rfl (by kernel_rfl) (fun _ _ _ h => h) (.inl ⟨rfl, fun w hS => ?_⟩) hS ?_
  · obtain ⟨s1, s2⟩ := hS
    go_simp
  simp only [Act.put, List.setIfInBounds_toArray, List.set_cons_zero, List.set_cons_succ]
  obtain ⟨wC, hrun, hown2, hg2⟩ := HOWN.out.update law3 Try.underlying41 (by unfold maxLen; have := HN.out; omega) (key := .int .i64 c1) (val := .int .i64 c2) (keyOf_int_mk Try.underlying3 (wf_in (x := c1) (by omega))) (plainElem_int Try.underlying3 (wf_in (x := c2) (by omega)))
  have hSC : (fun w' => w'.cell? ⟨b, off + k * 2, none⟩ = some (.int .i64 c1) ∧ w'.cell? ⟨b, off + k * 2 + 1, none⟩ = some (.int .i64 c2)) wC := ⟨(grownBy_cell hg2 (p := ⟨b, off + k * 2, none⟩) hb (fun e => hne (by injection e))).trans hS.1, (grownBy_cell hg2 (p := ⟨b, off + k * 2 + 1, none⟩) hb (fun e => hne (by injection e))).trans hS.2⟩
  have HG2 : Hid (w1.drew.grownBy wC (some M)) := hg2
  have HO2 : Hid _ := hown2
  clear hg2 hown2
  refine held_one (i := 11) (by kernel_rfl) rfl rfl ?_
  intro K hK
  go_simp
  refine hK.out _ _ hSC ?_
  clear hK
  refine wpAnyH_done (by kernel_rfl) ?_ _
  refine NoPanic.normal ?_
  refine hQ.out _ _ _ _ _ _ _ _ _ _ _ wC HO2.out ?_
  exact grownBy_trans (below_grownBy (below_drew w1) _) HG2.out
end Go.Proofs.Ytbconflmjdpolaa
