/-
  The law BlockPacks.
-/
import Derived.Test.YtfplncadjifgfaaBkJ
import Derived.Test.YtfplncadjifgfaaBkK
import Derived.Test.YtfplncadjifgfaaBkL
import Derived.Test.YtfplncadjifgfaaBkC
import Derived.Test.YtfplncadjifgfaaFrG
namespace Go.Proofs.Ytfplncadjifgfaa.Bk
open Go.ChangeShapes Go.WideShapes Go.ChangeAt Go.RowKit
open Go.Proofs.Ytfplncadjifgfaa.Fr
set_option maxHeartbeats 4000000 in
set_option maxRecDepth 60000 in
theorem packs_10 (t1 t2 t8 t9 t10 t11 t12 t13 t14 t15 t16 t17 t18 t19 t20 t21 t22 t23 t24 t25 t26 t27 t28 t29 t30 t31 t32 t33 t34 t35 t36 t37 t38 t39 t40 t41 t42 t43 t44 t45 t46 t47 t48 t49 t50 t51 t52 t53 t54 t55 t56 t57 t58 t59 t60 t61 t62 t63 t64 t65 t66 t67 t68 t69 t70 t71 t72 t73 t74 t75 : Value) (a xa : Option Addr) (len cap xl xc X3 X5 n : Nat) (d1 d2 d3 d4 : Value) (w1 : World) (Q : Exit → Act → World → Prop)
    (h3 : DBox w1 X3 d1 d2) (h5 : DBox w1 X5 d3 d4)
    (H5 : Hid (∀ w', Below w1.heap.size w1 w' → Calls Try.prog 10 #[.agg #[d1, d2], .agg #[d3, d4]] w' fun e w'' => e = .returned (.bool true) ∧ Below w'.heap.size w' w''))
    (H9 : Hid (∀ w', Below w1.heap.size w1 w' → Calls Try.prog 11 #[.slice a len cap] w' fun e w'' => e = .returned (.int .i64 (n : Int)) ∧ Below w'.heap.size w' w''))
    (H11 : Hid (∀ w', Below w1.heap.size w1 w' → Calls Try.prog 14 #[.agg #[d3, d4]] w' fun e w'' => (∃ p c, e = .returned (.slice p n c)) ∧ Below w'.heap.size w' w''))
    (H22 : Hid (∀ w', Below w1.heap.size w1 w' → Calls Try.prog 15 #[.slice xa xl xc, .slice a len cap] w' fun e w'' => e = .returned (.bool true) ∧ Below w'.heap.size w' w''))
    (H25 : Hid (∀ w', Below w1.heap.size w1 w' → Calls Try.prog 6 #[] w' fun e w'' => e = .returned (.bool true) ∧ Below w'.heap.size w' w''))
    (hQ : Hid (∀ (u49 u50 u51 u52 u53 u54 u55 u56 u57 u58 u59 u60 u61 u62 u63 u64 u65 u66 u67 u68 u69 u70 u71 u72 u73 u74 u75 : Value) (wC : World), Below w1.heap.size w1 wC → Q .normal ⟨#[.slice a len cap, t1, .bool true, .pointer (some ⟨X3, 0, none⟩), .int .i64 0, .pointer (some ⟨X5, 0, none⟩), .slice xa xl xc, .int .i64 0, t8, t9, t10, t11, t12, t13, t14, t15, t16, t17, t18, t19, t20, t21, t22, t23, t24, t25, t26, t27, t28, t29, t30, t31, t32, t33, t34, t35, t36, t37, t38, t39, t40, t41, t42, t43, t44, t45, t46, t47, t48, u49, u50, u51, u52, u53, u54, u55, u56, u57, u58, u59, u60, u61, u62, u63, u64, u65, u66, u67, u68, u69, u70, u71, u72, u73, u74, u75], []⟩ wC)) :
    Code.wp Try.prog ((Try.f3.body.bind (regionOf 10)).getD .skip) Q ⟨#[.slice a len cap, t1, t2, .pointer (some ⟨X3, 0, none⟩), .int .i64 0, .pointer (some ⟨X5, 0, none⟩), .slice xa xl xc, .int .i64 0, t8, t9, t10, t11, t12, t13, t14, t15, t16, t17, t18, t19, t20, t21, t22, t23, t24, t25, t26, t27, t28, t29, t30, t31, t32, t33, t34, t35, t36, t37, t38, t39, t40, t41, t42, t43, t44, t45, t46, t47, t48, t49, t50, t51, t52, t53, t54, t55, t56, t57, t58, t59, t60, t61, t62, t63, t64, t65, t66, t67, t68, t69, t70, t71, t72, t73, t74, t75], []⟩ w1 := by
  have HS : Hid (∀ w', Below w1.heap.size w1 w' → (w'.cell? ⟨X3, 0, none⟩ = some d1 ∧ w'.cell? ⟨X3, 1, none⟩ = some d2 ∧ w'.cell? ⟨X5, 0, none⟩ = some d3 ∧ w'.cell? ⟨X5, 1, none⟩ = some d4) ∧ Below w1.heap.size w1 w') := fun w' hb => ⟨⟨(h3.below hb).c0, (h3.below hb).c1, (h5.below hb).c0, (h5.below hb).c1⟩, hb⟩
  clear h3 h5
  have hS : (fun w' => (w'.cell? ⟨X3, 0, none⟩ = some d1 ∧ w'.cell? ⟨X3, 1, none⟩ = some d2 ∧ w'.cell? ⟨X5, 0, none⟩ = some d3 ∧ w'.cell? ⟨X5, 1, none⟩ = some d4) ∧ Below w1.heap.size w1 w') w1.drew := HS.out _ (below_drew w1)
  conv => arg 2; whnf
  refine held_start (S := fun w' => (w'.cell? ⟨X3, 0, none⟩ = some d1 ∧ w'.cell? ⟨X3, 1, none⟩ = some d2 ∧ w'.cell? ⟨X5, 0, none⟩ = some d3 ∧ w'.cell? ⟨X5, 1, none⟩ = some d4) ∧ Below w1.heap.size w1 w') mixed5 ?_
  refine held_take (i := 0) (v := .int .i64 0) rfl (by kernel_rfl) (fun _ _ _ h => h) (.inl ⟨rfl, fun w hS => ?_⟩) hS ?_
  · obtain ⟨⟨s0, s1, s2, s3⟩, -⟩ := hS
    go_simp
  try simp only [Act.put, List.setIfInBounds_toArray, List.set_cons_zero, List.set_cons_succ]
  refine held_take (i := 1) (v := .bool true) rfl (by kernel_rfl) (fun _ _ _ h => h) (.inl ⟨rfl, fun w hS => ?_⟩) hS ?_
  · obtain ⟨⟨s0, s1, s2, s3⟩, -⟩ := hS
    go_simp
  try simp only [Act.put, List.setIfInBounds_toArray, List.set_cons_zero, List.set_cons_succ]
  refine held_take (i := 2) (v := .bool true) rfl (by kernel_rfl) (fun _ _ _ h => h) (.inl ⟨rfl, fun w hS => ?_⟩) hS ?_
  · obtain ⟨⟨s0, s1, s2, s3⟩, -⟩ := hS
    go_simp
  try simp only [Act.put, List.setIfInBounds_toArray, List.set_cons_zero, List.set_cons_succ]
  refine held_take (i := 3) (v := .agg #[d1, d2]) rfl (by kernel_rfl) (fun _ _ _ h => h) (.inl ⟨rfl, fun w hS => ?_⟩) hS ?_
  · obtain ⟨⟨s0, s1, s2, s3⟩, -⟩ := hS
    go_simp
  try simp only [Act.put, List.setIfInBounds_toArray, List.set_cons_zero, List.set_cons_succ]
  refine held_take (i := 4) (v := .agg #[d3, d4]) rfl (by kernel_rfl) (fun _ _ _ h => h) (.inl ⟨rfl, fun w hS => ?_⟩) hS ?_
  · obtain ⟨⟨s0, s1, s2, s3⟩, -⟩ := hS
    go_simp
  try simp only [Act.put, List.setIfInBounds_toArray, List.set_cons_zero, List.set_cons_succ]
  refine held_one (i := 5) (by kernel_rfl) rfl rfl ?_
  intro K hK
  go_simp
  go_at_call 10
  refine (H5.out _ hS.2).mono ?_
  rintro e w3 ⟨rfl, hb3⟩
  have hb03 : Below w1.heap.size w1 w3 := below2 hS.2 hb3
  refine hK.out _ _ (HS.out _ hb03) ?_
  have hS9 := HS.out _ hb03
  clear hK hS
  have hS := hS9
  clear hS9
  try simp only [Act.put, List.setIfInBounds_toArray, List.set_cons_zero, List.set_cons_succ]
  refine held_take (i := 6) (v := .bool true) rfl (by kernel_rfl) (fun _ _ _ h => h) (.inl ⟨rfl, fun w hS => ?_⟩) hS ?_
  · obtain ⟨⟨s0, s1, s2, s3⟩, -⟩ := hS
    go_simp
  try simp only [Act.put, List.setIfInBounds_toArray, List.set_cons_zero, List.set_cons_succ]
  refine held_take (i := 7) (v := .bool true) rfl (by kernel_rfl) (fun _ _ _ h => h) (.inl ⟨rfl, fun w hS => ?_⟩) hS ?_
  · obtain ⟨⟨s0, s1, s2, s3⟩, -⟩ := hS
    go_simp
  try simp only [Act.put, List.setIfInBounds_toArray, List.set_cons_zero, List.set_cons_succ]
  refine held_take (i := 8) (v := .slice a len cap) rfl (by kernel_rfl) (fun _ _ _ h => h) (.inl ⟨rfl, fun w hS => ?_⟩) hS ?_
  · obtain ⟨⟨s0, s1, s2, s3⟩, -⟩ := hS
    go_simp
  try simp only [Act.put, List.setIfInBounds_toArray, List.set_cons_zero, List.set_cons_succ]
  refine held_take (i := 10) (v := .agg #[d3, d4]) rfl (by kernel_rfl) (fun _ _ _ h => h) (.inl ⟨rfl, fun w hS => ?_⟩) hS ?_
  · obtain ⟨⟨s0, s1, s2, s3⟩, -⟩ := hS
    go_simp
  try simp only [Act.put, List.setIfInBounds_toArray, List.set_cons_zero, List.set_cons_succ]
  refine held_one (i := 9) (by kernel_rfl) rfl rfl ?_
  intro K hK
  go_simp
  go_at_call 11
  refine (H9.out _ hS.2).mono ?_
  rintro e w4 ⟨rfl, hb4⟩
  have hb04 : Below w1.heap.size w1 w4 := below2 hb03 hb4
  refine hK.out _ _ (HS.out _ hb04) ?_
  have hS9 := HS.out _ hb04
  clear hK hS
  have hS := hS9
  clear hS9
  try simp only [Act.put, List.setIfInBounds_toArray, List.set_cons_zero, List.set_cons_succ]
  refine held_one (i := 11) (by kernel_rfl) rfl rfl ?_
  intro K hK
  go_simp
  go_at_call 14
  refine (H11.out _ hS.2).mono ?_
  rintro e w5 ⟨⟨p5, c5, rfl⟩, hb5⟩
  have hb05 : Below w1.heap.size w1 w5 := below2 hb04 hb5
  refine hK.out _ _ (HS.out _ hb05) ?_
  have hS9 := HS.out _ hb05
  clear hK hS
  have hS := hS9
  clear hS9
  try simp only [Act.put, List.setIfInBounds_toArray, List.set_cons_zero, List.set_cons_succ]
  refine held_take (i := 12) (v := .int .i64 (n : Int)) rfl (by kernel_rfl) (fun _ _ _ h => h) (.inl ⟨rfl, fun w hS => ?_⟩) hS ?_
  · obtain ⟨⟨s0, s1, s2, s3⟩, -⟩ := hS
    go_simp
  try simp only [Act.put, List.setIfInBounds_toArray, List.set_cons_zero, List.set_cons_succ]
  refine held_take (i := 13) (v := .bool true) rfl (by kernel_rfl) (fun _ _ _ h => h) (.inl ⟨rfl, fun w hS => ?_⟩) hS ?_
  · obtain ⟨⟨s0, s1, s2, s3⟩, -⟩ := hS
    go_simp
  try simp only [Act.put, List.setIfInBounds_toArray, List.set_cons_zero, List.set_cons_succ]
  refine held_take (i := 14) (v := .bool true) rfl (by kernel_rfl) (fun _ _ _ h => h) (.inl ⟨rfl, fun w hS => ?_⟩) hS ?_
  · obtain ⟨⟨s0, s1, s2, s3⟩, -⟩ := hS
    go_simp
  try simp only [Act.put, List.setIfInBounds_toArray, List.set_cons_zero, List.set_cons_succ]
  refine held_take (i := 15) (v := .bool true) rfl (by kernel_rfl) (fun _ _ _ h => h) (.inl ⟨rfl, fun w hS => ?_⟩) hS ?_
  · obtain ⟨⟨s0, s1, s2, s3⟩, -⟩ := hS
    go_simp
  try simp only [Act.put, List.setIfInBounds_toArray, List.set_cons_zero, List.set_cons_succ]
  refine held_take (i := 16) (v := .int .i64 0) rfl (by kernel_rfl) (fun _ _ _ h => h) (.inl ⟨rfl, fun w hS => ?_⟩) hS ?_
  · obtain ⟨⟨s0, s1, s2, s3⟩, -⟩ := hS
    go_simp
  try simp only [Act.put, List.setIfInBounds_toArray, List.set_cons_zero, List.set_cons_succ]
  refine held_take (i := 17) (v := .bool true) rfl (by kernel_rfl) (fun _ _ _ h => h) (.inl ⟨rfl, fun w hS => ?_⟩) hS ?_
  · obtain ⟨⟨s0, s1, s2, s3⟩, -⟩ := hS
    go_simp
  try simp only [Act.put, List.setIfInBounds_toArray, List.set_cons_zero, List.set_cons_succ]
  refine held_take (i := 18) (v := .bool true) rfl (by kernel_rfl) (fun _ _ _ h => h) (.inl ⟨rfl, fun w hS => ?_⟩) hS ?_
  · obtain ⟨⟨s0, s1, s2, s3⟩, -⟩ := hS
    go_simp
  try simp only [Act.put, List.setIfInBounds_toArray, List.set_cons_zero, List.set_cons_succ]
  refine held_take (i := 19) (v := .bool true) rfl (by kernel_rfl) (fun _ _ _ h => h) (.inl ⟨rfl, fun w hS => ?_⟩) hS ?_
  · obtain ⟨⟨s0, s1, s2, s3⟩, -⟩ := hS
    go_simp
  try simp only [Act.put, List.setIfInBounds_toArray, List.set_cons_zero, List.set_cons_succ]
  refine held_take (i := 20) (v := .slice xa xl xc) rfl (by kernel_rfl) (fun _ _ _ h => h) (.inl ⟨rfl, fun w hS => ?_⟩) hS ?_
  · obtain ⟨⟨s0, s1, s2, s3⟩, -⟩ := hS
    go_simp
  try simp only [Act.put, List.setIfInBounds_toArray, List.set_cons_zero, List.set_cons_succ]
  refine held_take (i := 21) (v := .slice a len cap) rfl (by kernel_rfl) (fun _ _ _ h => h) (.inl ⟨rfl, fun w hS => ?_⟩) hS ?_
  · obtain ⟨⟨s0, s1, s2, s3⟩, -⟩ := hS
    go_simp
  try simp only [Act.put, List.setIfInBounds_toArray, List.set_cons_zero, List.set_cons_succ]
  refine held_one (i := 22) (by kernel_rfl) rfl rfl ?_
  intro K hK
  go_simp
  go_at_call 15
  refine (H22.out _ hS.2).mono ?_
  rintro e w6 ⟨rfl, hb6⟩
  have hb06 : Below w1.heap.size w1 w6 := below2 hb05 hb6
  refine hK.out _ _ (HS.out _ hb06) ?_
  have hS9 := HS.out _ hb06
  clear hK hS
  have hS := hS9
  clear hS9
  try simp only [Act.put, List.setIfInBounds_toArray, List.set_cons_zero, List.set_cons_succ]
  refine held_take (i := 23) (v := .bool true) rfl (by kernel_rfl) (fun _ _ _ h => h) (.inl ⟨rfl, fun w hS => ?_⟩) hS ?_
  · obtain ⟨⟨s0, s1, s2, s3⟩, -⟩ := hS
    go_simp
  try simp only [Act.put, List.setIfInBounds_toArray, List.set_cons_zero, List.set_cons_succ]
  refine held_take (i := 24) (v := .bool true) rfl (by kernel_rfl) (fun _ _ _ h => h) (.inl ⟨rfl, fun w hS => ?_⟩) hS ?_
  · obtain ⟨⟨s0, s1, s2, s3⟩, -⟩ := hS
    go_simp
  try simp only [Act.put, List.setIfInBounds_toArray, List.set_cons_zero, List.set_cons_succ]
  refine held_one (i := 25) (by kernel_rfl) rfl rfl ?_
  intro K hK
  go_simp
  go_at_call 6
  refine (H25.out _ hS.2).mono ?_
  rintro e w7 ⟨rfl, hb7⟩
  have hb07 : Below w1.heap.size w1 w7 := below2 hb06 hb7
  refine hK.out _ _ (HS.out _ hb07) ?_
  have hS9 := HS.out _ hb07
  clear hK hS
  have hS := hS9
  clear hS9
  try simp only [Act.put, List.setIfInBounds_toArray, List.set_cons_zero, List.set_cons_succ]
  refine held_take (i := 26) (v := .bool true) rfl (by kernel_rfl) (fun _ _ _ h => h) (.inl ⟨rfl, fun w hS => ?_⟩) hS ?_
  · obtain ⟨⟨s0, s1, s2, s3⟩, -⟩ := hS
    go_simp
  try simp only [Act.put, List.setIfInBounds_toArray, List.set_cons_zero, List.set_cons_succ]
  refine held_take (i := 27) (v := .bool true) rfl (by kernel_rfl) (fun _ _ _ h => h) (.inl ⟨rfl, fun w hS => ?_⟩) hS ?_
  · obtain ⟨⟨s0, s1, s2, s3⟩, -⟩ := hS
    go_simp
  try simp only [Act.put, List.setIfInBounds_toArray, List.set_cons_zero, List.set_cons_succ]
  refine wpAnyH_done (by kernel_rfl) ?_ _
  refine NoPanic.normal ?_
  exact hQ.out _ _ _ _ _ _ _ _ _ _ _ _ _ _ _ _ _ _ _ _ _ _ _ _ _ _ _ _ hS.2
theorem bool_true {P : Prop} {f : Nat} {args : Array Value} {w : World} (h : Calls Try.prog f args w fun e w' => BoolPost P w e w') (hp : P) : Calls Try.prog f args w fun e w' => e = .returned (.bool true) ∧ Below w.heap.size w w' :=
  h.mono fun _ _ ⟨hb, q, he, hq⟩ => ⟨by rw [he, hq.2 hp], hb⟩
theorem bool_false {P : Prop} {f : Nat} {args : Array Value} {w : World} (h : Calls Try.prog f args w fun e w' => BoolPost P w e w') (hp : ¬ P) : Calls Try.prog f args w fun e w' => e = .returned (.bool false) ∧ Below w.heap.size w w' :=
  h.mono fun _ _ ⟨hb, q, he, hq⟩ => ⟨by rw [he]; cases q with | false => rfl | true => exact absurd (hq.1 rfl) hp, hb⟩
theorem awake_t (w : World) : Calls Try.prog 6 #[] w fun e w' => e = .returned (.bool true) ∧ Below w.heap.size w w' := awake_any w
theorem same_t {v v' : Value} {N M : List Int} {w : World} (h : DataAt w v N []) (h' : DataAt w v' M []) (e : N = M) : Calls Try.prog 10 #[v, v'] w fun e w' => e = .returned (.bool true) ∧ Below w.heap.size w w' :=
  (refSame_any v v' N M [] [] w h h').mono fun _ _ ⟨hb, q, he, hq⟩ => ⟨by rw [he, hq.2 ⟨e, rfl⟩], hb⟩
theorem noData_at3 (w : World) : DataAt w (.agg #[.slice none 0 0, .slice none 0 0]) [] [] := ⟨none, 0, 0, none, 0, 0, rfl, rowAt_nil w, rowAt_nil w, by simp, by simp⟩
theorem refBytes_t {v : Value} {N : List Int} {w : World} (h : DataAt w v N []) (n : Nat) (hn : (bytesL N []).length = n) (hl : n ≤ 4096) : Calls Try.prog 14 #[v] w fun e w' => (∃ p c, e = .returned (.slice p n c)) ∧ Below w.heap.size w w' :=
  (refBytes_any v N [] w h _ (Hid.mk9 rfl)).mono fun _ _ ⟨hb, v', L', he, ho, h1, _, _⟩ => by
    obtain ⟨a, cap, rfl, _, _⟩ := RowAt.of_own ho
    have := h1 (by omega)
    exact ⟨⟨a, cap, by rw [he, this, hn]⟩, hb⟩
theorem nums_t {a : Option Addr} {len cap : Nat} {ls : List Sm} {w : World} (h : SmsAt w a len cap ls) (hM : MayS ls) : Calls Try.prog 12 #[.slice a len cap] w fun e w' => (∃ g k c, e = .returned (.slice (some ⟨g, 0, none⟩) k c) ∧ DataAt w' (.agg #[.slice (some ⟨g, 0, none⟩) k c, .slice none 0 0]) (numsS ls) []) ∧ Below w.heap.size w w' :=
  (refNums_any a len cap ls w h hM).mono fun _ _ ⟨hb, v, he, ho⟩ => by
    have hd := packed_data ho hM
    obtain ⟨g, c, rfl, _, _, _⟩ := own_form ho (by omega)
    exact ⟨⟨g, _, c, he, hd⟩, hb⟩
theorem pack_t {a : Option Addr} {len cap : Nat} {ls : List Sm} {w : World} (h : SmsAt w a len cap ls) (hM : MayS ls) : Calls Try.prog 7 #[.slice a len cap] w fun e w' => (∃ g k c, e = .returned (.tuple #[.agg #[.slice (some ⟨g, 0, none⟩) k c, .slice none 0 0], .int .i64 0]) ∧ DataAt w' (.agg #[.slice (some ⟨g, 0, none⟩) k c, .slice none 0 0]) (numsS ls) []) ∧ Below w.heap.size w w' :=
  (pack_yes h hM).mono fun _ _ ⟨v, he, hb, ho⟩ => by
    have hd := packed_data ho hM
    obtain ⟨g, c, rfl, _, _, _⟩ := own_form ho (by omega)
    exact ⟨⟨g, _, c, he, hd⟩, hb⟩
theorem unpack_t {v : Value} {ls : List Sm} {w : World} (h : DataAt w v (numsS ls) []) (hM : MayS ls) : Calls Try.prog 13 #[v] w fun e w' => (∃ a len cap, e = .returned (.tuple #[.slice a len cap, .int .i64 0]) ∧ SmsAt w' a len cap ls) ∧ Below w.heap.size w w' :=
  (unpack_any v (numsS ls) [] w h).mono fun _ _ ⟨hb, hq⟩ => by
    rcases hq with ⟨ms, a, len, cap, _, hA, he, hs⟩ | ⟨hn, _⟩
    · obtain rfl := are_one hA ⟨hM, rfl⟩
      exact ⟨⟨a, len, cap, he, hs⟩, hb⟩
    · exact absurd ⟨hM, rfl⟩ (hn rfl ls)
set_option maxHeartbeats 1000000 in
set_option maxRecDepth 60000 in
theorem blockPacks_any (a : Option Addr) (len cap : Nat) (ls : List Sm) (w : World) (h : SmsAt w a len cap ls) :
    Calls Try.prog 3 #[.slice a len cap] w fun e w' => TruePost w e w' := by
  have HL : Hid (SmsAt w a len cap ls) := h
  have hm : len ≤ maxLen := Nat.le_trans h.2.1 h.2.2.1
  unfold maxLen at hm
  clear h
  by_cases h200 : 200 < len
  · have h2' : (200 : Int) < (len : Int) := by omega
    go_enter Try.func3, Try.ntmps3
    go_wp2_with (go_at_call 6; refine (awake_t _).mono ?_; rintro e w1 ⟨rfl, hb1⟩)
    go_ret
    exact ⟨rfl, hb1⟩
  have h2' : (len : Int) ≤ 200 := by omega
  clear h200
  by_cases hM : MayS ls
  · have HM : Hid (MayS ls) := hM
    obtain ⟨n, hn⟩ : ∃ n, (bytesL (numsS ls) []).length = n := ⟨_, rfl⟩
    have HQ : Hid (bytesOf ls = n) := (bytesOf_may hM).trans hn
    have HF : Hid (n ≤ 4096) := Hid.mk9 (by have := bytes_few hM; omega)
    have HN := Hid.mk9 hn
    clear hM hn
    go_enter Try.func3, Try.ntmps3
    go_upto_region 10 with (first
      | (go_at_call 7; refine (pack_t HL.out HM.out).mono ?_; rintro e w1 ⟨⟨g, k1, cp, rfl, hd⟩, hb1⟩; have bA := below_alloc w1 (.cells #[.slice (some ⟨g, 0, none⟩) k1 cp, .slice none 0 0] 27); have HBc := Hid.mk9 (below2 hb1 bA); have HX3 := Hid.mk9 (DBox.new w1 (.slice (some ⟨g, 0, none⟩) k1 cp) (.slice none 0 0)); have HDc := Hid.mk9 (hd.below bA); clear hd hb1 bA)
      | (go_at_call 8; refine (check_yes (HL.out.below HBc.out) HM.out).mono ?_; rintro e w2 ⟨rfl, hb2⟩; replace HBc := Hid.mk9 (below2 HBc.out hb2); replace HX3 := Hid.mk9 (HX3.out.below hb2); replace HDc := Hid.mk9 (HDc.out.below hb2); clear hb2)
      | (go_at_call 9; refine (bool_true (refMay_any _ _ _ ls _ (HL.out.below HBc.out)) HM.out).mono ?_; rintro e w2 ⟨rfl, hb2⟩; replace HBc := Hid.mk9 (below2 HBc.out hb2); replace HX3 := Hid.mk9 (HX3.out.below hb2); replace HDc := Hid.mk9 (HDc.out.below hb2); clear hb2)
      | (go_at_call 12; refine (nums_t (HL.out.below HBc.out) HM.out).mono ?_; rintro e w4 ⟨⟨g', k', cp', rfl, hd⟩, hb2⟩; have bA := below_alloc w4 (.cells #[.slice (some ⟨g', 0, none⟩) k' cp', .slice none 0 0] 27); replace HBc := Hid.mk9 (below2 (below2 HBc.out hb2) bA); replace HX3 := Hid.mk9 ((HX3.out.below hb2).below bA); replace HDc := Hid.mk9 ((HDc.out.below hb2).below bA); have HX5 := Hid.mk9 (DBox.new w4 (.slice (some ⟨g', 0, none⟩) k' cp') (.slice none 0 0)); have HD5 := Hid.mk9 (hd.below bA); clear hd hb2 bA; have q0 := HX3.out.c0; have q1 := HX3.out.c1)
      | (go_at_call 13; refine (unpack_t HDc.out HM.out).mono ?_; rintro e w5 ⟨⟨xa, xl, xc, rfl, hs⟩, hb2⟩; replace HBc := Hid.mk9 (below2 HBc.out hb2); replace HX3 := Hid.mk9 (HX3.out.below hb2); replace HDc := Hid.mk9 (HDc.out.below hb2); replace HX5 := Hid.mk9 (HX5.out.below hb2); replace HD5 := Hid.mk9 (HD5.out.below hb2); have HSx := Hid.mk9 hs; clear hb2 hs q0 q1))
    refine packs_10 _ _ _ _ _ _ _ _ _ _ _ _ _ _ _ _ _ _ _ _ _ _ _ _ _ _ _ _ _ _ _ _ _ _ _ _ _ _ _ _ _ _ _ _ _ _ _ _ _ _ _ _ _ _ _ _ _ _ _ _ _ _ _ _ _ _ _ _ _ _ a xa len cap xl xc _ _ n _ _ _ _ w5 _ HX3.out HX5.out (Hid.mk9 fun W hW => same_t (HDc.out.below hW) (HD5.out.below hW) rfl) (Hid.mk9 fun W hW => (bytes_any _ _ _ ls W ((HL.out.below HBc.out).below hW)).mono fun _ _ ⟨hb, he⟩ => ⟨by rw [he, HQ.out], hb⟩) (Hid.mk9 fun W hW => refBytes_t (HD5.out.below hW) n HN.out HF.out) (Hid.mk9 fun W hW => bool_true (refSameS_any _ _ _ _ _ _ ls ls W (HSx.out.below hW) ((HL.out.below HBc.out).below hW)) rfl) (Hid.mk9 fun W hW => awake_t W) (Hid.mk9 fun u49 u50 u51 u52 u53 u54 u55 u56 u57 u58 u59 u60 u61 u62 u63 u64 u65 u66 u67 u68 u69 u70 u71 u72 u73 u74 u75 wC hb => ?_)
    have HE := Hid.mk9 (below2 HBc.out hb)
    clear hb HX3 HX5 HDc HD5 HSx HBc
    go_wp2_with fail
    go_ret
    exact ⟨rfl, HE.out⟩
  · have HM : Hid (¬ MayS ls) := hM
    have HQ : Hid (bytesOf ls = 0) := bytesOf_not hM
    clear hM
    go_enter Try.func3, Try.ntmps3
    go_wp2_with (first
      | (go_at_call 7; refine (pack_no HL.out HM.out).mono ?_; rintro e w1 ⟨rfl, hb1⟩; have bA := below_alloc w1 (.cells #[.slice none 0 0, .slice none 0 0] 27); have HBc := Hid.mk9 (below2 hb1 bA); have HX3 := Hid.mk9 (DBox.new w1 (.slice none 0 0) (.slice none 0 0)); clear hb1 bA)
      | (go_at_call 8; refine (check_no (HL.out.below HBc.out) HM.out).mono ?_; rintro e w2 ⟨rfl, hb2⟩; replace HBc := Hid.mk9 (below2 HBc.out hb2); replace HX3 := Hid.mk9 (HX3.out.below hb2); clear hb2)
      | (go_at_call 9; refine (bool_false (refMay_any _ _ _ ls _ (HL.out.below HBc.out)) HM.out).mono ?_; rintro e w2 ⟨rfl, hb2⟩; replace HBc := Hid.mk9 (below2 HBc.out hb2); replace HX3 := Hid.mk9 (HX3.out.below hb2); clear hb2; have q0 := HX3.out.c0; have q1 := HX3.out.c1)
      | (go_at_call 10; refine (same_t (noData_at3 _) (noData_at3 _) rfl).mono ?_; rintro e w2 ⟨rfl, hb2⟩; replace HBc := Hid.mk9 (below2 HBc.out hb2); clear hb2)
      | (go_at_call 11; refine (bytes_any _ _ _ ls _ (HL.out.below HBc.out)).mono ?_; rintro e w2 ⟨hb2, he⟩; rw [HQ.out] at he; subst he; replace HBc := Hid.mk9 (below2 HBc.out hb2); clear hb2)
      | (go_at_call 6; refine (awake_t _).mono ?_; rintro e w2 ⟨rfl, hb2⟩; replace HBc := Hid.mk9 (below2 HBc.out hb2); clear hb2))
    go_ret
    exact ⟨rfl, HBc.out⟩
end Go.Proofs.Ytfplncadjifgfaa.Bk
