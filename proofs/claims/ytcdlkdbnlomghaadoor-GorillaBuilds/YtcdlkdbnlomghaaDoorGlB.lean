/-
  The regions of tell that write.
-/
import Derived.Test.YtcdlkdbnlomghaaDoorGlA
namespace Go.Proofs.YtcdlkdbnlomghaaDoor.Gl
open Go.ChangeShapes Go.WideShapes Go.ChangeAt Go.RowKit
open Go.Proofs.YtcdlkdbnlomghaaDoor.Bi
open Go.Proofs.YtcdlkdbnlomghaaDoor.Fr (RowAt cellsI cellsI_get)
open Go.Proofs.YtcdlkdbnlomghaaDoor.Bk (rT rV)
/-- what the program tells more of bits -/
def MoreP (l : List Bool) (w : World) (e : Ending) (w' : World) : Prop := Below w.heap.size w w' ∧ ∃ (a : Option Addr) (len cap k : Nat), e = .returned (.tuple #[.agg #[.slice a len cap, .int .i64 (k : Int)], .int .i64 0]) ∧ k = l.length ∧ ByAt w' a len cap (pack l len) ∧ len = need k ∧ ∀ p, a = some p → w.heap.size ≤ p.block
theorem more_of {l : List Bool} {w w' : World} {e : Ending} (h : BitsPost l 0 w e w') : MoreP l w e w' := by
  obtain ⟨h1, a, len, cap, h2, h3, h4, h5⟩ := h
  exact ⟨h1, a, len, cap, l.length, h2, rfl, h3, h4, h5⟩
theorem B2.only {w : World} {b T : Nat} {v0 v1 v : Value} (h : B2 w b T v0 v1) {i : Nat} (hc : w.cell? ⟨b, i, none⟩ = some v) : v = v0 ∨ v = v1 := by
  obtain ⟨c0, c1⟩ := h.cells
  match i with
  | 0 => rw [c0] at hc; exact .inl (Option.some.inj hc).symm
  | 1 => rw [c1] at hc; exact .inr (Option.some.inj hc).symm
  | i + 2 =>
    unfold World.cell? at hc
    rw [show w.heap[(⟨b, i + 2, none⟩ : Addr).block]? = _ from h] at hc
    simp at hc
/-- bytes do not lie in a box of other values -/
theorem byAt_box {w : World} {X T len cap : Nat} {v0 v1 : Value} {a : Option Addr} {l : List Nat} (h : ByAt w a len cap l) (hx : B2 w X T v0 v1) (h0 : ∀ x, Value.int .u8 x ≠ v0) (h1 : ∀ x, Value.int .u8 x ≠ v1) (u0 u1 : Value) : ByAt (set2 w X u0 u1) a len cap l := by
  by_cases hl : len = 0
  · exact ⟨h.1, h.2.1, h.2.2.1, h.2.2.2.1, h.2.2.2.2.1, .inl hl⟩
  · obtain ⟨b, off, rfl, hb, hc⟩ := h.some (by omega)
    have hne : b ≠ X := by
      rintro rfl
      rcases B2.only hx (hc 0 (by omega)) with e | e
      · exact h0 _ e
      · exact h1 _ e
    exact byAt_keep h (((KeepR.refl X w).set 0 u0).set 1 u1) (fun p hp => by cases hp; exact hne)
theorem sz_le (n : Int) : szT (clsU (foldN n)) ≤ 68 := by
  have h := clsU_lt (foldN n)
  have h1 := hdT_small h
  have h2 := wdT_small h
  unfold szT
  omega
set_option maxHeartbeats 4000000 in
set_option maxRecDepth 60000 in
theorem tell_4 (t1 t2 t5 t6 t7 t8 t9 t10 t11 t12 t13 t14 t15 t16 t17 t18 t19 t20 t21 t22 t23 t24 t25 t26 t27 t28 t29 t30 t31 t32 t33 t34 t35 t36 t37 t38 t39 t40 t41 t42 t43 t44 t45 t46 t47 t48 t49 : Value) (X S2 len cap k : Nat) (b off rl rc i p : Nat) (t : Int) (a : Option Addr) (l : List Bool) (w0 : World) (w1 : World) (Q : Exit → Act → World → Prop)
    (HX : Hid (B2 w1 X 26 (.slice a len cap) (.int .i64 (k : Int)))) (HS2 : Hid (B2 w1 S2 26 (.slice none 0 0) (.int .i64 0))) (hne : Hid (S2 ≠ X)) (hX : Hid (w0.heap.size ≤ X)) (hB : Hid (Below w0.heap.size w0 w1))
    (HC : Hid (w0.cell? ⟨b, off + p, none⟩ = some (.int .i64 t))) (P1 : IntKind.i64.wrap (2 * (i : Int)) = (p : Int)) (P3 : (p : Int) < (rl : Int))
    (HN : Hid (∀ W, Below w1.heap.size w1 W → Calls Tryd.prog 51 #[.agg #[.slice a len cap, .int .i64 (k : Int)], .int .i64 t] W fun e w' => MoreP (l ++ coded t) W e w'))
    (hQ : Hid (∀ (u11 u12 u13 u14 u15 u16 u17 u18 u19 u20 : Value) (a2 : Option Addr) (len2 cap2 k2 : Nat) (wC : World), Below w0.heap.size w0 wC → B2 wC X 26 (.slice a2 len2 cap2) (.int .i64 (k2 : Int)) → B2 wC S2 26 (.slice none 0 0) (.int .i64 0) → ByAt wC a2 len2 cap2 (pack (l ++ coded t) len2) → len2 = need k2 → k2 = (l ++ coded t).length → Q .normal ⟨#[.slice (some ⟨b, off, none⟩) rl rc, t1, t2, .pointer (some ⟨X, 0, none⟩), .int .i64 (i : Int), t5, t6, t7, t8, t9, t10, u11, u12, u13, u14, u15, u16, u17, u18, u19, u20, t21, t22, t23, t24, t25, t26, t27, t28, t29, t30, t31, t32, t33, t34, t35, t36, t37, t38, t39, t40, t41, t42, t43, t44, t45, t46, t47, t48, t49], []⟩ wC)) :
    Code.wp Tryd.prog ((Tryd.f32.body.bind (regionOf 4)).getD .skip) Q ⟨#[.slice (some ⟨b, off, none⟩) rl rc, t1, t2, .pointer (some ⟨X, 0, none⟩), .int .i64 (i : Int), t5, t6, t7, t8, t9, t10, t11, t12, t13, t14, t15, t16, t17, t18, t19, t20, t21, t22, t23, t24, t25, t26, t27, t28, t29, t30, t31, t32, t33, t34, t35, t36, t37, t38, t39, t40, t41, t42, t43, t44, t45, t46, t47, t48, t49], []⟩ w1 := by
  have hS : (fun w' => Below w0.heap.size w0 w') w1.drew := below2 hB.out (below_drew w1)
  conv => arg 2; whnf
  refine held_start (S := fun w' => Below w0.heap.size w0 w') mixed9 ?_
  refine held_take (i := 1) (v := .slice (some ⟨b, off, none⟩) rl rc) rfl (by kernel_rfl) (fun _ _ _ h => h) (.inl ⟨rfl, fun w hS => ?_⟩) hS ?_
  · clear hS
    go_simp
  try simp only [Act.put, List.setIfInBounds_toArray, List.set_cons_zero, List.set_cons_succ]
  refine held_take (i := 2) (v := .int .i64 (i : Int)) rfl (by kernel_rfl) (fun _ _ _ h => h) (.inl ⟨rfl, fun w hS => ?_⟩) hS ?_
  · clear hS
    go_simp
  try simp only [Act.put, List.setIfInBounds_toArray, List.set_cons_zero, List.set_cons_succ]
  refine held_take (i := 3) (v := .int .i64 (p : Int)) rfl (by kernel_rfl) (fun _ _ _ h => h) (.inl ⟨rfl, fun w hS => ?_⟩) hS ?_
  · clear hS
    go_simp
  try simp only [Act.put, List.setIfInBounds_toArray, List.set_cons_zero, List.set_cons_succ]
  refine held_take (i := 4) (v := .pointer (some ⟨b, off + p, none⟩)) rfl (by kernel_rfl) (fun _ _ _ h => h) (.inl ⟨rfl, fun w hS => ?_⟩) hS ?_
  · clear hS
    go_simp
  try simp only [Act.put, List.setIfInBounds_toArray, List.set_cons_zero, List.set_cons_succ]
  refine held_take (i := 5) (v := .int .i64 t) rfl (by kernel_rfl) (fun _ _ _ h => h) (.inl ⟨rfl, fun w hS => ?_⟩) hS ?_
  · have qc := (hS.cell (p := ⟨b, off + p, none⟩) (World.block_lt_of_cell? w0 ⟨b, off + p, none⟩ HC.out)).trans HC.out
    clear hS
    go_simp
  try simp only [Act.put, List.setIfInBounds_toArray, List.set_cons_zero, List.set_cons_succ]
  obtain ⟨w2, hw2⟩ : ∃ w2, w2 = w1.drew := ⟨_, rfl⟩
  have hb12 : Below w1.heap.size w1 w2 := by rw [hw2]; exact below_drew w1
  rw [← hw2] at hS ⊢
  have HX2 := HX.out.below hb12
  have HS22 := HS2.out.below hb12
  clear hw2
  obtain ⟨q0, q1⟩ := HX2.cells
  refine held_one (i := 0) (by kernel_rfl) rfl rfl ?_
  intro K hK
  go_simp
  refine hK.out _ _ hS ?_
  clear hK
  try simp only [Act.put, List.setIfInBounds_toArray, List.set_cons_zero, List.set_cons_succ]
  refine held_one (i := 6) (by kernel_rfl) rfl rfl ?_
  intro K hK
  go_simp
  go_at_call 51
  refine (HN.out _ hb12).mono ?_
  rintro en w3 ⟨hb3, a2, len2, cap2, k2, rfl, hk2, hby, hl2, hp2⟩
  have HX3 := HX2.below hb3
  have HS3 := HS22.below hb3
  have hN := below2 hS hb3
  clear q0 q1
  have HK2 := Hid.mk9 hk2
  have HL2 := Hid.mk9 hl2
  clear hk2 hl2
  refine hK.out _ _ hN ?_
  clear hK hS
  have hS := hN
  clear hN
  try simp only [Act.put, List.setIfInBounds_toArray, List.set_cons_zero, List.set_cons_succ]
  refine held_take (i := 7) (v := .tuple #[.agg #[.slice a2 len2 cap2, .int .i64 (k2 : Int)], .int .i64 0]) rfl (by kernel_rfl) (fun _ _ _ h => h) (.inl ⟨rfl, fun w hS => ?_⟩) hS ?_
  · clear hS
    go_simp
  try simp only [Act.put, List.setIfInBounds_toArray, List.set_cons_zero, List.set_cons_succ]
  refine held_take (i := 8) (v := .agg #[.slice a2 len2 cap2, .int .i64 (k2 : Int)]) rfl (by kernel_rfl) (fun _ _ _ h => h) (.inl ⟨rfl, fun w hS => ?_⟩) hS ?_
  · clear hS
    go_simp
  try simp only [Act.put, List.setIfInBounds_toArray, List.set_cons_zero, List.set_cons_succ]
  refine held_take (i := 9) (v := .int .i64 0) rfl (by kernel_rfl) (fun _ _ _ h => h) (.inl ⟨rfl, fun w hS => ?_⟩) hS ?_
  · clear hS
    go_simp
  try simp only [Act.put, List.setIfInBounds_toArray, List.set_cons_zero, List.set_cons_succ]
  obtain ⟨z0, z1⟩ := HX3.cells
  obtain ⟨y0, y1⟩ := HX3.frz
  refine held_one (i := 10) (by kernel_rfl) rfl rfl ?_
  intro K hK
  go_simp
  have hN : Below w0.heap.size w0 (set2 w3 X (.slice a2 len2 cap2) (.int .i64 (k2 : Int))) := set2_below hS hX.out _ _
  have hB9 := HX3.set (.slice a2 len2 cap2) (.int .i64 (k2 : Int))
  have hS9 : B2 (set2 w3 X (.slice a2 len2 cap2) (.int .i64 (k2 : Int))) S2 26 (.slice none 0 0) (.int .i64 0) := HS3.kept (set2_else _ _ hne.out)
  have hR9 : ByAt (set2 w3 X (.slice a2 len2 cap2) (.int .i64 (k2 : Int))) a2 len2 cap2 (pack (l ++ coded t) len2) := byAt_keep hby (((KeepR.refl X w3).set 0 (.slice a2 len2 cap2)).set 1 (.int .i64 (k2 : Int))) (fun p hp => by have := hp2 p hp; have := HX2.lt; omega)
  refine hK.out _ (set2 w3 X (.slice a2 len2 cap2) (.int .i64 (k2 : Int))) hN ?_
  clear hK hS z0 z1 y0 y1
  have hS := hN
  try simp only [Act.put, List.setIfInBounds_toArray, List.set_cons_zero, List.set_cons_succ]
  refine wpAnyH_done (by kernel_rfl) ?_ _
  refine NoPanic.normal ?_
  exact hQ.out _ _ _ _ _ _ _ _ _ _ a2 len2 cap2 k2 _ hS hB9 hS9 hR9 HL2.out HK2.out
set_option maxHeartbeats 4000000 in
set_option maxRecDepth 60000 in
theorem tell_5 (t1 t2 t5 t6 t7 t8 t9 t10 t11 t12 t13 t14 t15 t16 t17 t18 t19 t20 t21 t22 t23 t24 t25 t26 t27 t28 t29 t30 t31 t32 t33 t34 t35 t36 t37 t38 t39 t40 t41 t42 t43 t44 t45 t46 t47 t48 t49 : Value) (X S2 len cap k : Nat) (b off rl rc i p q : Nat) (t : Int) (a : Option Addr) (l : List Bool) (w0 : World) (w1 : World) (Q : Exit → Act → World → Prop)
    (HX : Hid (B2 w1 X 26 (.slice a len cap) (.int .i64 (k : Int)))) (HS2 : Hid (B2 w1 S2 26 (.slice none 0 0) (.int .i64 0))) (hne : Hid (S2 ≠ X)) (hX : Hid (w0.heap.size ≤ X)) (hB : Hid (Below w0.heap.size w0 w1))
    (HC : Hid (w0.cell? ⟨b, off + q, none⟩ = some (.int .i64 t))) (P1 : IntKind.i64.wrap (2 * (i : Int)) = (p : Int)) (P2 : IntKind.i64.wrap ((p : Int) + 1) = (q : Int)) (P4 : (q : Int) < (rl : Int))
    (HN : Hid (∀ W, Below w1.heap.size w1 W → Calls Tryd.prog 51 #[.agg #[.slice a len cap, .int .i64 (k : Int)], .int .i64 t] W fun e w' => MoreP (l ++ coded t) W e w'))
    (hQ : Hid (∀ (u21 u22 u23 u24 u25 u26 u27 u28 u29 u30 u31 : Value) (a2 : Option Addr) (len2 cap2 k2 : Nat) (wC : World), Below w0.heap.size w0 wC → B2 wC X 26 (.slice a2 len2 cap2) (.int .i64 (k2 : Int)) → B2 wC S2 26 (.slice none 0 0) (.int .i64 0) → ByAt wC a2 len2 cap2 (pack (l ++ coded t) len2) → len2 = need k2 → k2 = (l ++ coded t).length → Q .normal ⟨#[.slice (some ⟨b, off, none⟩) rl rc, t1, t2, .pointer (some ⟨X, 0, none⟩), .int .i64 (i : Int), t5, t6, t7, t8, t9, t10, t11, t12, t13, t14, t15, t16, t17, t18, t19, t20, u21, u22, u23, u24, u25, u26, u27, u28, u29, u30, u31, t32, t33, t34, t35, t36, t37, t38, t39, t40, t41, t42, t43, t44, t45, t46, t47, t48, t49], []⟩ wC)) :
    Code.wp Tryd.prog ((Tryd.f32.body.bind (regionOf 5)).getD .skip) Q ⟨#[.slice (some ⟨b, off, none⟩) rl rc, t1, t2, .pointer (some ⟨X, 0, none⟩), .int .i64 (i : Int), t5, t6, t7, t8, t9, t10, t11, t12, t13, t14, t15, t16, t17, t18, t19, t20, t21, t22, t23, t24, t25, t26, t27, t28, t29, t30, t31, t32, t33, t34, t35, t36, t37, t38, t39, t40, t41, t42, t43, t44, t45, t46, t47, t48, t49], []⟩ w1 := by
  have hS : (fun w' => Below w0.heap.size w0 w') w1.drew := below2 hB.out (below_drew w1)
  conv => arg 2; whnf
  refine held_start (S := fun w' => Below w0.heap.size w0 w') mixed9 ?_
  refine held_take (i := 1) (v := .slice (some ⟨b, off, none⟩) rl rc) rfl (by kernel_rfl) (fun _ _ _ h => h) (.inl ⟨rfl, fun w hS => ?_⟩) hS ?_
  · clear hS
    go_simp
  try simp only [Act.put, List.setIfInBounds_toArray, List.set_cons_zero, List.set_cons_succ]
  refine held_take (i := 2) (v := .int .i64 (i : Int)) rfl (by kernel_rfl) (fun _ _ _ h => h) (.inl ⟨rfl, fun w hS => ?_⟩) hS ?_
  · clear hS
    go_simp
  try simp only [Act.put, List.setIfInBounds_toArray, List.set_cons_zero, List.set_cons_succ]
  refine held_take (i := 3) (v := .int .i64 (p : Int)) rfl (by kernel_rfl) (fun _ _ _ h => h) (.inl ⟨rfl, fun w hS => ?_⟩) hS ?_
  · clear hS
    go_simp
  try simp only [Act.put, List.setIfInBounds_toArray, List.set_cons_zero, List.set_cons_succ]
  refine held_take (i := 4) (v := .int .i64 (q : Int)) rfl (by kernel_rfl) (fun _ _ _ h => h) (.inl ⟨rfl, fun w hS => ?_⟩) hS ?_
  · clear hS
    go_simp
  try simp only [Act.put, List.setIfInBounds_toArray, List.set_cons_zero, List.set_cons_succ]
  refine held_take (i := 5) (v := .pointer (some ⟨b, off + q, none⟩)) rfl (by kernel_rfl) (fun _ _ _ h => h) (.inl ⟨rfl, fun w hS => ?_⟩) hS ?_
  · clear hS
    go_simp
  try simp only [Act.put, List.setIfInBounds_toArray, List.set_cons_zero, List.set_cons_succ]
  refine held_take (i := 6) (v := .int .i64 t) rfl (by kernel_rfl) (fun _ _ _ h => h) (.inl ⟨rfl, fun w hS => ?_⟩) hS ?_
  · have qc := (hS.cell (p := ⟨b, off + q, none⟩) (World.block_lt_of_cell? w0 ⟨b, off + q, none⟩ HC.out)).trans HC.out
    clear hS
    go_simp
  try simp only [Act.put, List.setIfInBounds_toArray, List.set_cons_zero, List.set_cons_succ]
  obtain ⟨w2, hw2⟩ : ∃ w2, w2 = w1.drew := ⟨_, rfl⟩
  have hb12 : Below w1.heap.size w1 w2 := by rw [hw2]; exact below_drew w1
  rw [← hw2] at hS ⊢
  have HX2 := HX.out.below hb12
  have HS22 := HS2.out.below hb12
  clear hw2
  obtain ⟨q0, q1⟩ := HX2.cells
  refine held_one (i := 0) (by kernel_rfl) rfl rfl ?_
  intro K hK
  go_simp
  refine hK.out _ _ hS ?_
  clear hK
  try simp only [Act.put, List.setIfInBounds_toArray, List.set_cons_zero, List.set_cons_succ]
  refine held_one (i := 7) (by kernel_rfl) rfl rfl ?_
  intro K hK
  go_simp
  go_at_call 51
  refine (HN.out _ hb12).mono ?_
  rintro en w3 ⟨hb3, a2, len2, cap2, k2, rfl, hk2, hby, hl2, hp2⟩
  have HX3 := HX2.below hb3
  have HS3 := HS22.below hb3
  have hN := below2 hS hb3
  clear q0 q1
  have HK2 := Hid.mk9 hk2
  have HL2 := Hid.mk9 hl2
  clear hk2 hl2
  refine hK.out _ _ hN ?_
  clear hK hS
  have hS := hN
  clear hN
  try simp only [Act.put, List.setIfInBounds_toArray, List.set_cons_zero, List.set_cons_succ]
  refine held_take (i := 8) (v := .tuple #[.agg #[.slice a2 len2 cap2, .int .i64 (k2 : Int)], .int .i64 0]) rfl (by kernel_rfl) (fun _ _ _ h => h) (.inl ⟨rfl, fun w hS => ?_⟩) hS ?_
  · clear hS
    go_simp
  try simp only [Act.put, List.setIfInBounds_toArray, List.set_cons_zero, List.set_cons_succ]
  refine held_take (i := 9) (v := .agg #[.slice a2 len2 cap2, .int .i64 (k2 : Int)]) rfl (by kernel_rfl) (fun _ _ _ h => h) (.inl ⟨rfl, fun w hS => ?_⟩) hS ?_
  · clear hS
    go_simp
  try simp only [Act.put, List.setIfInBounds_toArray, List.set_cons_zero, List.set_cons_succ]
  refine held_take (i := 10) (v := .int .i64 0) rfl (by kernel_rfl) (fun _ _ _ h => h) (.inl ⟨rfl, fun w hS => ?_⟩) hS ?_
  · clear hS
    go_simp
  try simp only [Act.put, List.setIfInBounds_toArray, List.set_cons_zero, List.set_cons_succ]
  obtain ⟨z0, z1⟩ := HX3.cells
  obtain ⟨y0, y1⟩ := HX3.frz
  refine held_one (i := 11) (by kernel_rfl) rfl rfl ?_
  intro K hK
  go_simp
  have hN : Below w0.heap.size w0 (set2 w3 X (.slice a2 len2 cap2) (.int .i64 (k2 : Int))) := set2_below hS hX.out _ _
  have hB9 := HX3.set (.slice a2 len2 cap2) (.int .i64 (k2 : Int))
  have hS9 : B2 (set2 w3 X (.slice a2 len2 cap2) (.int .i64 (k2 : Int))) S2 26 (.slice none 0 0) (.int .i64 0) := HS3.kept (set2_else _ _ hne.out)
  have hR9 : ByAt (set2 w3 X (.slice a2 len2 cap2) (.int .i64 (k2 : Int))) a2 len2 cap2 (pack (l ++ coded t) len2) := byAt_keep hby (((KeepR.refl X w3).set 0 (.slice a2 len2 cap2)).set 1 (.int .i64 (k2 : Int))) (fun p hp => by have := hp2 p hp; have := HX2.lt; omega)
  refine hK.out _ (set2 w3 X (.slice a2 len2 cap2) (.int .i64 (k2 : Int))) hN ?_
  clear hK hS z0 z1 y0 y1
  have hS := hN
  try simp only [Act.put, List.setIfInBounds_toArray, List.set_cons_zero, List.set_cons_succ]
  refine wpAnyH_done (by kernel_rfl) ?_ _
  refine NoPanic.normal ?_
  exact hQ.out _ _ _ _ _ _ _ _ _ _ _ a2 len2 cap2 k2 _ hS hB9 hS9 hR9 HL2.out HK2.out
/-- in the midst of telling: so many samples are told -/
def TellIn (T V : Nat → Int) (w : World) (n S i : Nat) (wr : World) : Prop := Below w.heap.size w wr ∧ B2 wr S 26 (.slice none 0 0) (.int .i64 0) ∧ ∃ (a2 : Option Addr) (len2 cap2 k : Nat) (b : Bool) (l : List Bool), B2 wr (S + 1) 26 (.slice a2 len2 cap2) (.int .i64 (k : Int)) ∧ ByAt wr a2 len2 cap2 (pack l len2) ∧ len2 = need k ∧ k = l.length ∧ (k : Int) ≤ 140 * (i : Int) ∧ Bd T V n i b l ∧ (b = true → ¬ Still T V n i)
def TellPost (T V : Nat → Int) (n : Nat) (w : World) (e : Ending) (w' : World) : Prop := Below w.heap.size w w' ∧ ∃ (a : Option Addr) (len cap k : Nat) (l : List Bool), e = .returned (.agg #[.slice a len cap, .int .i64 (k : Int)]) ∧ Told T V n l ∧ ByAt w' a len cap (pack l len) ∧ len = need k ∧ k = l.length ∧ (k : Int) ≤ 9000
set_option maxHeartbeats 1000000 in
set_option maxRecDepth 60000 in
theorem tell_any (a : Option Addr) (len cap n : Nat) (R : List Int) (w : World) (h : RowAt w a len cap (cellsI R)) (hl : len = 2 * n) (hn : n ≤ 64) (hT : Tab w) (hI : In2 (rT R) (rV R) n) :
    Calls Tryd.prog 32 #[.slice a len cap] w fun e w' => TellPost (rT R) (rV R) n w e w' := by
  have HR := Hid.mk9 h
  have HT := Hid.mk9 hT
  have HI := Hid.mk9 hI
  have HL := Hid.mk9 hl
  have hd : (len : Int) / 2 = (n : Int) := by omega
  have hd2 : Int.tdiv (len : Int) 2 = (n : Int) := by rw [Int.tdiv_eq_ediv_of_nonneg (by omega)]; omega
  have hlen : (len : Int) ≤ 128 := by omega
  have hn9 : (n : Int) ≤ 64 := by omega
  have HS0 : Hid (TellIn (rT R) (rV R) w n w.heap.size 0 ((w.alloc (.cells #[.slice none 0 0, .int .i64 0] 26)).alloc (.cells #[.slice none 0 0, .int .i64 0] 26))) := by
    have q1 := below_alloc (w.alloc (.cells #[.slice none 0 0, .int .i64 0] 26)) (.cells #[.slice none 0 0, .int .i64 0] 26)
    have s1 := B2.new (w.alloc (.cells #[.slice none 0 0, .int .i64 0] 26)) 26 (.slice none 0 0) (.int .i64 0)
    rw [show (w.alloc (.cells #[.slice none 0 0, .int .i64 0] 26)).heap.size = w.heap.size + 1 from by simp] at s1
    exact ⟨below2 (below_alloc w _) q1, (B2.new w 26 _ _).below q1, none, 0, 0, 0, false, [], s1, ByAt.nil _, rfl, rfl, by omega, .zero, fun h => by cases h⟩
  clear h hl hn hT hI
  go_enter Tryd.func32, Tryd.ntmps32
  go_upto_region 3 with fail
  generalize ((w.alloc (.cells #[.slice none 0 0, .int .i64 0] 26)).alloc (.cells #[.slice none 0 0, .int .i64 0] 26)) = w1 at *
  obtain ⟨S, hS⟩ : ∃ S, w.heap.size = S := ⟨_, rfl⟩
  have HSw := Hid.mk9 hS
  rw [hS] at HS0 ⊢
  clear hS
  go_loopw [4] (fun x wr => ∃ i : Nat, (i : Int) ≤ (n : Int) ∧ x = .int .i64 i ∧ Hid (TellIn (rT R) (rV R) w n S i wr)) (fun x _ => n - (intOf x).toNat)
  case atStart => exact ⟨0, by omega, rfl, HS0⟩
  case round =>
    obtain ⟨i, hi, rfl, hP⟩ := hrel
    clear HS0
    by_cases hlt : (i : Int) < (n : Int)
    · obtain ⟨hbel, hbS, a2, len2, cap2, k, bb, l, hbX, hby, hl2, hk2, hk9, hBd, hst⟩ := hP.out
      clear hP
      obtain ⟨b, off, p, q, rfl, hp, hq, hp1, hq1, c0, c1⟩ := row_pair HR.out HL.out (show i < n by omega)
      have P1 : IntKind.i64.wrap (2 * (i : Int)) = (p : Int) := by simp [IntKind.wrap, IntKind.bits, IntKind.signed]; omega
      have P2 : IntKind.i64.wrap ((p : Int) + 1) = (q : Int) := by simp [IntKind.wrap, IntKind.bits, IntKind.signed]; omega
      have P3 : (p : Int) < (len : Int) := by omega
      have P4 : (q : Int) < (len : Int) := by omega
      have HC0 := Hid.mk9 c0
      have HC1 := Hid.mk9 c1
      have HX := Hid.mk9 hbX
      have HSb := Hid.mk9 hbS
      have HB := Hid.mk9 hbel
      have HBd := Hid.mk9 hBd
      have HSt := Hid.mk9 hst
      have HK : Hid (k = l.length ∧ (k : Int) ≤ 140 * (i : Int)) := ⟨hk2, hk9⟩
      have hSX : Hid (S ≠ S + 1) := by unfold Hid; omega
      have hSX2 : Hid (w.heap.size ≤ S + 1) := by rw [HSw.out]; exact Nat.le_succ _
      have hIi := HI.out i (by omega)
      have z1 := sz_le (rT R i)
      have z2 := sz_le (rV R i)
      have l1 : (l ++ coded (rT R i)).length ≤ k + 68 := by rw [List.length_append, coded_len, hk2]; omega
      have HN4 : Hid (∀ W, Below wr.heap.size wr W → Calls Tryd.prog 51 #[.agg #[.slice a2 len2 cap2, .int .i64 (k : Int)], .int .i64 (rT R i)] W fun e w' => MoreP (l ++ coded (rT R i)) W e w') := fun W hW => (number_yes a2 len2 cap2 k (rT R i) l W (hby.below hW) hk2.symm hl2 hIi.1 (HT.out.below (below2 hbel hW)) (by omega)).mono fun e w' h => more_of h
      have HN5 : Hid (∀ W a3 len3 cap3 k3, Below w.heap.size w W → ByAt W a3 len3 cap3 (pack (l ++ coded (rT R i)) len3) → len3 = need k3 → k3 = (l ++ coded (rT R i)).length → Calls Tryd.prog 51 #[.agg #[.slice a3 len3 cap3, .int .i64 (k3 : Int)], .int .i64 (rV R i)] W fun e w' => MoreP (l ++ coded (rT R i) ++ coded (rV R i)) W e w') := fun W a3 len3 cap3 k3 hW h1 h2 h3 => (number_yes a3 len3 cap3 k3 (rV R i) (l ++ coded (rT R i)) W h1 h3.symm h2 hIi.2 (HT.out.below hW) (by omega)).mono fun e w' h => more_of h
      have l2 : Hid ((l ++ coded (rT R i) ++ coded (rV R i)).length ≤ k + 136) := by unfold Hid; rw [List.length_append, coded_len]; omega
      have HRn : Hid (∀ W, Below w.heap.size w W → Calls Tryd.prog 52 #[.slice (some ⟨b, off, none⟩) len cap, .int .i64 (i : Int)] W fun e w' => e = .returned (.int .i64 ((runAt (rT R) (rV R) n i : Nat) : Int)) ∧ w' = W) := fun W hW => runAt_any _ len cap n i R W (HR.out.below hW) HL.out (by omega) (by omega)
      clear hbS hbX hby hl2 hk2 hk9 hBd hst hbel hp hq hp1 hq1 c0 c1 hIi z1 z2 l1
      go_upto_region 4 with fail
      refine tell_4 _ _ _ _ _ _ _ _ _ _ _ _ _ _ _ _ _ _ _ _ _ _ _ _ _ _ _ _ _ _ _ _ _ _ _ _ _ _ _ _ _ _ _ _ _ _ _ (S + 1) S len2 cap2 k b off len cap i p (rT R i) a2 l w wr _ HX HSb hSX hSX2 HB HC0 P1 P3 HN4 (fun _ _ _ _ _ _ _ _ _ _ a3 len3 cap3 k3 w3 hB3 hX3 hS3 hby3 hl3 hk3 => ?_)
      have HX3 := Hid.mk9 hX3
      have HS3 := Hid.mk9 hS3
      have HB3 := Hid.mk9 hB3
      have HN6 : Hid (∀ W, Below w3.heap.size w3 W → Calls Tryd.prog 51 #[.agg #[.slice a3 len3 cap3, .int .i64 (k3 : Int)], .int .i64 (rV R i)] W fun e w' => MoreP (l ++ coded (rT R i) ++ coded (rV R i)) W e w') := fun W hW => HN5.out W a3 len3 cap3 k3 (below2 hB3 hW) (hby3.below hW) hl3 hk3
      clear HN4 HN5 HX HSb HB hB3 hX3 hS3 hby3 hl3 hk3
      go_upto_region 5 with fail
      refine tell_5 _ _ _ _ _ _ _ _ _ _ _ _ _ _ _ _ _ _ _ _ _ _ _ _ _ _ _ _ _ _ _ _ _ _ _ _ _ _ _ _ _ _ _ _ _ _ _ (S + 1) S len3 cap3 k3 b off len cap i p q (rV R i) a3 (l ++ coded (rT R i)) w w3 _ HX3 HS3 hSX hSX2 HB3 HC1 P1 P2 P4 HN6 (fun _ _ _ _ _ _ _ _ _ _ _ a5 len5 cap5 k5 w5 hB5 hX5 hS5 hby5 hl5 hk5 => ?_)
      have HX5 := Hid.mk9 hX5
      have HS5 := Hid.mk9 hS5
      have HB5 := Hid.mk9 hB5
      have HY5 : Hid (ByAt w5 a5 len5 cap5 (pack (l ++ (coded (rT R i) ++ coded (rV R i))) len5) ∧ len5 = need k5 ∧ k5 = (l ++ (coded (rT R i) ++ coded (rV R i))).length ∧ (k5 : Int) ≤ 140 * (i : Int) + 136) := by
        rw [List.append_assoc] at hby5 hk5
        have := l2.out
        rw [List.append_assoc] at this
        exact ⟨hby5, hl5, hk5, by have := HK.out.2; omega⟩
      have HRw := Hid.mk9 (HRn.out w5 hB5)
      clear HN6 HX3 HS3 HB3 hB5 hX5 hS5 hby5 hl5 hk5 HRn l2 HC0 HC1 P1 P2 P3 P4
      have r16 : runAt (rT R) (rV R) n i ≤ 16 := runN_le _ _ _ _ _
      have HRI : Hid (∀ j, j < runAt (rT R) (rV R) n i → Still (rT R) (rV R) n (i + j)) := fun j hj => runN_in _ _ _ _ _ j hj
      have HRO : Hid (runAt (rT R) (rV R) n i < 16 → ¬ Still (rT R) (rV R) n (i + runAt (rT R) (rV R) n i)) := fun h => runN_out _ _ _ _ _ h
      generalize runAt (rT R) (rV R) n i = r at *
      obtain ⟨x0, x1⟩ := HX5.out.cells
      obtain ⟨y0, y1⟩ := HX5.out.frz
      by_cases h0 : r = 0
      · subst h0
        have hns : Hid (¬ Still (rT R) (rV R) n i) := by have := HRO.out (by omega); rwa [Nat.add_zero] at this
        clear r16
        go_wp2_with (go_at_call 52; refine HRw.out.mono ?_; rintro e w9 ⟨rfl, hw9⟩; obtain rfl := hw9.symm)
        refine ⟨⟨i + 1, by omega, by simp <;> decide, ⟨HB5.out, HS5.out, a5, len5, cap5, k5, false, _, HX5.out, HY5.out.1, HY5.out.2.1, HY5.out.2.2.1, by have := HY5.out.2.2.2; omega, .one HBd.out (by omega) hns.out, fun h => by cases h⟩⟩, ?_⟩
        simp [intOf]; omega
      · obtain ⟨m, hr⟩ : ∃ m, r = m + 1 := ⟨r - 1, by omega⟩
        have g1 : (1 : Int) ≤ (r : Int) := by omega
        have g2 : (0 : Int) < (r : Int) := by omega
        have g3 : (r : Int) - 1 = (m : Int) := by omega
        have g4 : (r : Int) ≤ 16 := by omega
        have g5 : (m : Int) < 16 := by omega
        have HPu : Hid (Calls Tryd.prog 53 #[.agg #[.slice a5 len5 cap5, .int .i64 (k5 : Int)], .int .u64 (m : Int), .int .i64 4] w5 fun e w' => MoreP (l ++ (coded (rT R i) ++ coded (rV R i)) ++ low m 4) w5 e w') := (put_yes a5 len5 cap5 k5 4 m _ w5 HY5.out.1 HY5.out.2.2.1.symm HY5.out.2.1 (by omega) (by omega) (by have := HY5.out.2.2.2; omega)).mono fun e w' h => more_of h
        have HM : Hid (m = r - 1) := by unfold Hid; omega
        clear hr h0 r16
        go_wp2_with (first | (go_at_call 52; refine HRw.out.mono ?_; rintro e w9 ⟨rfl, hw9⟩; obtain rfl := hw9.symm) | (go_at_call 53; refine HPu.out.mono ?_; rintro en w8 ⟨hb8, a8, len8, cap8, k8, rfl, hk8, hby8, hl8, hp8⟩; have HX8 := Hid.mk9 (HX5.out.below hb8); have HS8 := Hid.mk9 (HS5.out.below hb8); have HB8 := Hid.mk9 (below2 HB5.out hb8); have HY8 := Hid.mk9 hby8; have HK8 : Hid (k8 = (l ++ (coded (rT R i) ++ coded (rV R i)) ++ low m 4).length ∧ len8 = need k8 ∧ ∀ p, a8 = some p → w5.heap.size ≤ p.block) := ⟨hk8, hl8, hp8⟩; clear hb8 hk8 hby8 hl8 hp8 x0 x1 y0 y1; obtain ⟨x0, x1⟩ := HX8.out.cells; obtain ⟨y0, y1⟩ := HX8.out.frz))
        have HX9 := Hid.mk9 (HX8.out.set (.slice a8 len8 cap8) (.int .i64 (k8 : Int)))
        have HS9 := Hid.mk9 (HS8.out.kept (set2_else (.slice a8 len8 cap8) (.int .i64 (k8 : Int)) hSX.out))
        have HY9 : Hid (ByAt (set2 w8 (S + 1) (.slice a8 len8 cap8) (.int .i64 (k8 : Int))) a8 len8 cap8 (pack (l ++ (coded (rT R i) ++ coded (rV R i)) ++ low m 4) len8)) := byAt_keep HY8.out (((KeepR.refl (S + 1) w8).set 0 (.slice a8 len8 cap8)).set 1 (.int .i64 (k8 : Int))) (fun p hp => by have := HK8.out.2.2 p hp; have := HX5.out.lt; omega)
        have HB9 := Hid.mk9 (set2_below HB8.out hSX2.out (.slice a8 len8 cap8) (.int .i64 (k8 : Int)))
        have hi16 := still_lt (show 1 ≤ r by omega) HRI.out
        have eb : bb = false := by
          cases bb with
          | false => rfl
          | true => exact absurd hi16.2.2 (HSt.out rfl)
        have hbd : Bd (rT R) (rV R) n (i + r) (decide (r < 16)) (l ++ (coded (rT R i) ++ coded (rV R i)) ++ low m 4) := by
          have := HBd.out
          rw [eb] at this
          rw [List.append_assoc, HM.out]
          exact .run this (by omega) (by omega) HRI.out
        have hk9 : (k8 : Int) ≤ 140 * ((i + r : Nat) : Int) := by
          have h1 := HK8.out.1
          rw [List.length_append, low_len, ← HY5.out.2.2.1] at h1
          have h2 := HY5.out.2.2.2
          omega
        have hmx : max (r : Int) 1 = (r : Int) := Int.max_eq_left g1
        have HI9 : TellIn (rT R) (rV R) w n S (i + r) (set2 w8 (S + 1) (.slice a8 len8 cap8) (.int .i64 (k8 : Int))) := ⟨HB9.out, HS9.out, a8, len8, cap8, k8, decide (r < 16), _, HX9.out, HY9.out, HK8.out.2.1, HK8.out.1, hk9, hbd, fun h => HRO.out (of_decide_eq_true h)⟩
        refine ⟨⟨i + r, by omega, by simp <;> omega, HI9⟩, ?_⟩
        simp [intOf]; omega
    · obtain ⟨hbel, hbS, a2, len2, cap2, k, bb, l, hbX, hby, hl2, hk2, hk9, hBd, hst⟩ := hP.out
      clear hP
      have e : i = n := by omega
      subst e
      have HP9 : TellPost (rT R) (rV R) i w (.returned (.agg #[.slice a2 len2 cap2, .int .i64 (k : Int)])) (set2 wr S (.slice a2 len2 cap2) (.int .i64 (k : Int))) := by
        refine ⟨set2_below hbel (by rw [HSw.out]; exact Nat.le_refl _) _ _, a2, len2, cap2, k, l, rfl, bd_told hBd HI.out, ?_, hl2, hk2, by omega⟩
        exact byAt_box hby hbS (fun _ h => by cases h) (fun _ h => by cases h) _ _
      have HX := Hid.mk9 hbX
      have HSb := Hid.mk9 hbS
      obtain ⟨x0, x1⟩ := hbX.cells
      obtain ⟨y0, y1⟩ := hbS.frz
      obtain ⟨x2, x3⟩ := hbS.cells
      clear hbX hbS hbel hby hl2 hk2 hk9 hBd hst
      go_wp2_with fail
      refine bodyPost_ret (ret_2 rfl _ _ S (.slice a2 len2 cap2) (.int .i64 (k : Int)) rfl (HSb.out.set (.slice a2 len2 cap2) (.int .i64 (k : Int)))) rfl ?_
      exact HP9
end Go.Proofs.YtcdlkdbnlomghaaDoor.Gl
