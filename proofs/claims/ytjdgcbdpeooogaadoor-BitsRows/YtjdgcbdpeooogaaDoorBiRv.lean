/-
  The law BitsRows: its drawn region.
-/
import Derived.Test.YtjdgcbdpeooogaaDoorBiX
namespace Go.Proofs.YtjdgcbdpeooogaaDoor.Bi
open Go.ChangeShapes Go.WideShapes Go.ChangeAt Go.RowKit
set_option maxHeartbeats 4000000 in
set_option maxRecDepth 60000 in
theorem rows_6 (t1 t2 t4 t6 t7 t8 t9 t10 t11 t12 t13 t14 t15 t16 t17 t18 t19 t20 t21 t22 t23 t24 t25 t26 t27 t28 t29 t30 t31 t32 t33 t34 t35 t36 t37 t38 t39 t40 t41 t42 t43 t44 t45 t46 t47 t48 t49 t50 t51 t52 t53 t54 t55 t56 t57 t58 t59 t60 t61 t62 t63 t64 t65 t66 t67 t68 t69 t70 t71 t72 t73 t74 t75 t76 t77 t78 t79 t80 t81 t82 t83 t84 t85 t86 t87 t88 t89 t90 t91 t92 t93 : Value) (X b off len0 cap0 i len cap k K1 : Nat) (a : Option Addr) (x : Int) (bs1 : List Nat) (w1 : World) (Q : Exit → Act → World → Prop)
    (hi : (i : Int) < (len0 : Int)) (HX : Hid (B2 w1 X 24 (.slice a len cap) (.int .i64 (k : Int)))) (HL : Hid (w1.cell? ⟨b, off + i, none⟩ = some (.int .i64 x)))
    (HC : Hid (∀ W, Below w1.heap.size w1 W → Calls Tryd.prog 11 #[.agg #[.slice a len cap, .int .i64 (k : Int)], .int .i64 x] W fun e w' => Below W.heap.size W w' ∧ ∃ (a1 : Option Addr) (len1 cap1 : Nat), e = .returned (.tuple #[.agg #[.slice a1 len1 cap1, .int .i64 (K1 : Int)], .int .i64 0]) ∧ ByAt w' a1 len1 cap1 bs1 ∧ ∀ p, a1 = some p → W.heap.size ≤ p.block))
    (hQ : Hid (∀ (u25 u26 u27 u28 u29 u30 u31 u32 u33 : Value) (Y : Nat) (a1 : Option Addr) (len1 cap1 : Nat) (wC : World), Below w1.heap.size w1 wC → B2 wC Y 24 (.slice a1 len1 cap1) (.int .i64 (K1 : Int)) → ByAt wC a1 len1 cap1 bs1 → (∀ p, a1 = some p → w1.heap.size ≤ p.block) → w1.heap.size ≤ Y → Q .normal ⟨#[.slice (some ⟨b, off, none⟩) len0 cap0, t1, t2, .pointer (some ⟨X, 0, none⟩), t4, .int .i64 (i : Int), .pointer (some ⟨Y, 0, none⟩), .int .i64 0, t8, t9, t10, t11, t12, t13, t14, t15, t16, t17, t18, t19, t20, t21, t22, t23, t24, u25, u26, u27, u28, u29, u30, u31, u32, u33, t34, t35, t36, t37, t38, t39, t40, t41, t42, t43, t44, t45, t46, t47, t48, t49, t50, t51, t52, t53, t54, t55, t56, t57, t58, t59, t60, t61, t62, t63, t64, t65, t66, t67, t68, t69, t70, t71, t72, t73, t74, t75, t76, t77, t78, t79, t80, t81, t82, t83, t84, t85, t86, t87, t88, t89, t90, t91, t92, t93], []⟩ wC)) :
    Code.wp Tryd.prog ((Tryd.f5.body.bind (regionOf 6)).getD .skip) Q ⟨#[.slice (some ⟨b, off, none⟩) len0 cap0, t1, t2, .pointer (some ⟨X, 0, none⟩), t4, .int .i64 (i : Int), t6, t7, t8, t9, t10, t11, t12, t13, t14, t15, t16, t17, t18, t19, t20, t21, t22, t23, t24, t25, t26, t27, t28, t29, t30, t31, t32, t33, t34, t35, t36, t37, t38, t39, t40, t41, t42, t43, t44, t45, t46, t47, t48, t49, t50, t51, t52, t53, t54, t55, t56, t57, t58, t59, t60, t61, t62, t63, t64, t65, t66, t67, t68, t69, t70, t71, t72, t73, t74, t75, t76, t77, t78, t79, t80, t81, t82, t83, t84, t85, t86, t87, t88, t89, t90, t91, t92, t93], []⟩ w1 := by
  have hS : (fun w' => Below w1.heap.size w1 w') w1.drew := below_drew w1
  conv => arg 2; whnf
  refine held_start (S := fun w' => Below w1.heap.size w1 w') mixed9 ?_
  refine held_take (i := 0) (v := .agg #[.slice a len cap, .int .i64 (k : Int)]) rfl (by kernel_rfl) (fun _ _ _ h => h) (.inl ⟨rfl, fun w hS => ?_⟩) hS ?_
  · obtain ⟨q0, q1⟩ := (HX.out.below hS).cells
    go_simp
  try simp only [Act.put, List.setIfInBounds_toArray, List.set_cons_zero, List.set_cons_succ]
  refine held_take (i := 1) (v := .slice (some ⟨b, off, none⟩) len0 cap0) rfl (by kernel_rfl) (fun _ _ _ h => h) (.inl ⟨rfl, fun w hS => ?_⟩) hS ?_
  · clear hS
    go_simp
  try simp only [Act.put, List.setIfInBounds_toArray, List.set_cons_zero, List.set_cons_succ]
  refine held_take (i := 2) (v := .int .i64 (i : Int)) rfl (by kernel_rfl) (fun _ _ _ h => h) (.inl ⟨rfl, fun w hS => ?_⟩) hS ?_
  · clear hS
    go_simp
  try simp only [Act.put, List.setIfInBounds_toArray, List.set_cons_zero, List.set_cons_succ]
  refine held_take (i := 3) (v := .pointer (some ⟨b, off + i, none⟩)) rfl (by kernel_rfl) (fun _ _ _ h => h) (.inl ⟨rfl, fun w hS => ?_⟩) hS ?_
  · clear hS
    go_simp
  try simp only [Act.put, List.setIfInBounds_toArray, List.set_cons_zero, List.set_cons_succ]
  refine held_take (i := 4) (v := .int .i64 x) rfl (by kernel_rfl) (fun _ _ _ h => h) (.inl ⟨rfl, fun w hS => ?_⟩) hS ?_
  · have q8 := (hS.cell (p := ⟨b, off + i, none⟩) (World.block_lt_of_cell? w1 ⟨b, off + i, none⟩ HL.out)).trans HL.out
    go_simp
  try simp only [Act.put, List.setIfInBounds_toArray, List.set_cons_zero, List.set_cons_succ]
  refine held_two (i := 5) (j := 9) (by kernel_rfl) rfl rfl rfl rfl ?_ ?_
  · intro K hK
    have hS0 := hS
    go_simp
    go_at_call 11
    refine (HC.out _ hS).mono ?_
    rintro en w3 ⟨hb3, a1, len1, cap1, rfl, hr3, hn3⟩
    have hN := below2 hS hb3
    refine hK.out _ _ hN ?_
    clear hK
    have hS4 := hN
    clear hS
    have hS := hN
    clear hN
    try simp only [Act.put, List.setIfInBounds_toArray, List.set_cons_zero, List.set_cons_succ]
    refine held_take (i := 6) (v := .tuple #[.agg #[.slice a1 len1 cap1, .int .i64 (K1 : Int)], .int .i64 0]) rfl (by kernel_rfl) (fun _ _ _ h => h) (.inl ⟨rfl, fun w hS => ?_⟩) hS ?_
    · clear hS
      go_simp
    try simp only [Act.put, List.setIfInBounds_toArray, List.set_cons_zero, List.set_cons_succ]
    refine held_take (i := 7) (v := .agg #[.slice a1 len1 cap1, .int .i64 (K1 : Int)]) rfl (by kernel_rfl) (fun _ _ _ h => h) (.inl ⟨rfl, fun w hS => ?_⟩) hS ?_
    · clear hS
      go_simp
    try simp only [Act.put, List.setIfInBounds_toArray, List.set_cons_zero, List.set_cons_succ]
    refine held_take (i := 8) (v := .int .i64 0) rfl (by kernel_rfl) (fun _ _ _ h => h) (.inl ⟨rfl, fun w hS => ?_⟩) hS ?_
    · clear hS
      go_simp
    try simp only [Act.put, List.setIfInBounds_toArray, List.set_cons_zero, List.set_cons_succ]
    refine held_one (i := 9) (by kernel_rfl) rfl rfl ?_
    intro K hK
    go_simp
    have hN := below2 hS (below_alloc _ (.cells #[.slice none 0 0, .int .i64 0] 24))
    refine hK.out _ _ hN ?_
    clear hK hS
    have hS := hN
    clear hN
    try simp only [Act.put, List.setIfInBounds_toArray, List.set_cons_zero, List.set_cons_succ]
    refine held_one (i := 10) (by kernel_rfl) rfl rfl ?_
    intro K hK
    go_simp
    have hba := below_alloc w3 (.cells #[.slice a1 len1 cap1, .int .i64 (K1 : Int)] 24)
    have hN := below2 hS4 hba
    refine hK.out _ _ hN ?_
    clear hK hS
    have hS := hN
    clear hN
    try simp only [Act.put, List.setIfInBounds_toArray, List.set_cons_zero, List.set_cons_succ]
    refine held_take (i := 11) (v := .int .i64 0) rfl (by kernel_rfl) (fun _ _ _ h => h) (.inl ⟨rfl, fun w hS => ?_⟩) hS ?_
    · clear hS
      go_simp
    try simp only [Act.put, List.setIfInBounds_toArray, List.set_cons_zero, List.set_cons_succ]
    refine wpAnyH_done (by kernel_rfl) ?_ _
    refine NoPanic.normal ?_
    exact hQ.out _ _ _ _ _ _ _ _ _ w3.heap.size a1 len1 cap1 _ hS (B2.new _ _ _ _) (hr3.below hba) (fun p hp => Nat.le_trans hS0.size (hn3 p hp)) hS4.size
  · intro K hK
    go_simp
    have hB2 : B2 (w1.alloc (.cells #[.slice none 0 0, .int .i64 0] 24)).drew w1.heap.size 24 (.slice none 0 0) (.int .i64 0) := B2.new w1 24 (.slice none 0 0) (.int .i64 0)
    have hN : Below w1.heap.size w1 (w1.alloc (.cells #[.slice none 0 0, .int .i64 0] 24)).drew := below2 (below_alloc w1 _) (below_drew _)
    refine hK.out _ _ hN ?_
    clear hK hS
    have hS := hN
    clear hN
    try simp only [Act.put, List.setIfInBounds_toArray, List.set_cons_zero, List.set_cons_succ]
    obtain ⟨w9, hw9⟩ : ∃ w9, w9 = (w1.alloc (.cells #[.slice none 0 0, .int .i64 0] 24)).drew := ⟨_, rfl⟩
    rw [← hw9] at hB2 hS ⊢
    clear hw9
    obtain ⟨ZZ, hZ9⟩ : ∃ ZZ, ZZ = w1.heap.size := ⟨_, rfl⟩
    have hZZ : Hid (w1.heap.size ≤ ZZ) := by rw [hZ9]; exact Nat.le_refl _
    rw [← hZ9] at hB2
    rw [show (.pointer (some ⟨w1.heap.size, 0, none⟩) : Value) = .pointer (some ⟨ZZ, 0, none⟩) by rw [hZ9]]
    clear hZ9
    have hS0 := hS
    refine held_one (i := 5) (by kernel_rfl) rfl rfl ?_
    intro K hK
    go_simp
    go_at_call 11
    refine (HC.out _ hS).mono ?_
    rintro en w3 ⟨hb3, a1, len1, cap1, rfl, hr3, hn3⟩
    have hN := below2 hS hb3
    have hB3 := hB2.below hb3
    refine hK.out _ _ hN ?_
    clear hK hS
    have hS := hN
    clear hN
    try simp only [Act.put, List.setIfInBounds_toArray, List.set_cons_zero, List.set_cons_succ]
    refine held_take (i := 6) (v := .tuple #[.agg #[.slice a1 len1 cap1, .int .i64 (K1 : Int)], .int .i64 0]) rfl (by kernel_rfl) (fun _ _ _ h => h) (.inl ⟨rfl, fun w hS => ?_⟩) hS ?_
    · clear hS
      go_simp
    try simp only [Act.put, List.setIfInBounds_toArray, List.set_cons_zero, List.set_cons_succ]
    refine held_take (i := 7) (v := .agg #[.slice a1 len1 cap1, .int .i64 (K1 : Int)]) rfl (by kernel_rfl) (fun _ _ _ h => h) (.inl ⟨rfl, fun w hS => ?_⟩) hS ?_
    · clear hS
      go_simp
    try simp only [Act.put, List.setIfInBounds_toArray, List.set_cons_zero, List.set_cons_succ]
    refine held_take (i := 8) (v := .int .i64 0) rfl (by kernel_rfl) (fun _ _ _ h => h) (.inl ⟨rfl, fun w hS => ?_⟩) hS ?_
    · clear hS
      go_simp
    try simp only [Act.put, List.setIfInBounds_toArray, List.set_cons_zero, List.set_cons_succ]
    obtain ⟨z0, z1⟩ := hB3.cells
    obtain ⟨y0, y1⟩ := hB3.frz
    refine held_one (i := 10) (by kernel_rfl) rfl rfl ?_
    intro K hK
    go_simp
    have hN : Below w1.heap.size w1 (set2 w3 ZZ (.slice a1 len1 cap1) (.int .i64 (K1 : Int))) := set2_below hS hZZ.out _ _
    have hB9 := hB3.set (.slice a1 len1 cap1) (.int .i64 (K1 : Int))
    have hR9 : ByAt (set2 w3 ZZ (.slice a1 len1 cap1) (.int .i64 (K1 : Int))) a1 len1 cap1 bs1 := byAt_keep hr3 (((KeepR.refl ZZ w3).set 0 (.slice a1 len1 cap1)).set 1 (.int .i64 (K1 : Int))) (fun p hp => by have := hn3 p hp; have := hB2.lt; omega)
    refine hK.out _ (set2 w3 ZZ (.slice a1 len1 cap1) (.int .i64 (K1 : Int))) hN ?_
    clear hK hS z0 z1 y0 y1
    have hS := hN
    try simp only [Act.put, List.setIfInBounds_toArray, List.set_cons_zero, List.set_cons_succ]
    refine held_take (i := 11) (v := .int .i64 0) rfl (by kernel_rfl) (fun _ _ _ h => h) (.inl ⟨rfl, fun w hS => ?_⟩) hS ?_
    · clear hS
      go_simp
    try simp only [Act.put, List.setIfInBounds_toArray, List.set_cons_zero, List.set_cons_succ]
    refine wpAnyH_done (by kernel_rfl) ?_ _
    refine NoPanic.normal ?_
    exact hQ.out _ _ _ _ _ _ _ _ _ ZZ a1 len1 cap1 _ hS hB9 hR9 (fun p hp => Nat.le_trans hS0.size (hn3 p hp)) hZZ.out
end Go.Proofs.YtjdgcbdpeooogaaDoor.Bi
