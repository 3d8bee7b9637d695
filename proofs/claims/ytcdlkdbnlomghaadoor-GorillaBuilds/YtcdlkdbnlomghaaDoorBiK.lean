/-
  The contract of Size; the region of Number that makes memory.
-/
import Derived.Test.YtcdlkdbnlomghaaDoorBiJ
namespace Go.Proofs.YtcdlkdbnlomghaaDoor.Bi
open Go.ChangeShapes Go.WideShapes Go.ChangeAt Go.RowKit
def szT (c : Nat) : Nat := hdT c + wdT c
theorem hdT_small {c : Nat} (h : c < 5) : hdT c ≤ 4 := by
  rcases c with _ | _ | _ | _ | _ | c <;> first | decide | omega
theorem class_g (n : Int) (h : inI n) (w W : World) (hT : Tab w) (hb : Below w.heap.size w W) : Calls Tryd.prog 68 #[.int .i64 n] W fun e w' => e = .returned (.int .i64 ((clsU (foldN n) : Nat) : Int)) ∧ w' = W := class_any n h W (hT.below hb)
set_option maxHeartbeats 4000000 in
set_option maxRecDepth 60000 in
theorem number_6 (t0 t1 t3 t4 t5 t7 t8 t9 t10 t11 t12 t13 t14 t15 t16 t17 t18 t19 t20 t21 t22 t23 t24 t25 t26 t27 t28 t29 t30 t31 t32 t33 t34 t35 t36 t37 t38 t39 t40 t41 t42 t43 t44 t45 t46 t47 t48 : Value) (X Qb len cap k KK MM : Nat) (hv hd wd : Int) (sz : Int) (l : List Bool) (a : Option Addr) (w1 : World) (Q : Exit → Act → World → Prop)
    (HX : Hid (B2 w1 X 26 (.slice a len cap) (.int .i64 (k : Int)))) (HQx : Hid (B3 w1 Qb 120 (.int .u64 hv) (.int .i64 hd) (.int .i64 wd)))
    (HZ : Hid (∀ W, Calls Tryd.prog 70 #[.agg #[.int .u64 hv, .int .i64 hd, .int .i64 wd]] W fun e w' => e = .returned (.int .i64 sz) ∧ Grown W w'))
    (HLo : Hid (∀ W, Below w1.heap.size w1 W → Calls Tryd.prog 71 #[.agg #[.slice a len cap, .int .i64 (k : Int)], .int .i64 sz] W fun e w' => Below W.heap.size W w' ∧ ∃ g, W.heap.size ≤ g ∧ e = .returned (.agg #[.slice (some ⟨g, 0, none⟩) MM MM, .int .i64 (KK : Int)]) ∧ Ro w' g 5 (bytV (pack l MM))))
    (hQ : Hid (∀ (u23 u24 u25 u26 : Value) (Z g : Nat) (wC : World), Below w1.heap.size w1 wC → B2 wC Z 26 (.slice (some ⟨g, 0, none⟩) MM MM) (.int .i64 (KK : Int)) → Ro wC g 5 (bytV (pack l MM)) → w1.heap.size ≤ Z → w1.heap.size ≤ g → g ≠ Z → Q .normal ⟨#[t0, t1, .pointer (some ⟨X, 0, none⟩), t3, t4, t5, .pointer (some ⟨Qb, 0, none⟩), .pointer (some ⟨Z, 0, none⟩), t8, t9, t10, t11, t12, t13, t14, t15, t16, t17, t18, t19, t20, t21, t22, u23, u24, u25, u26, t27, t28, t29, t30, t31, t32, t33, t34, t35, t36, t37, t38, t39, t40, t41, t42, t43, t44, t45, t46, t47, t48], []⟩ wC)) :
    Code.wp Tryd.prog ((Tryd.f51.body.bind (regionOf 6)).getD .skip) Q ⟨#[t0, t1, .pointer (some ⟨X, 0, none⟩), t3, t4, t5, .pointer (some ⟨Qb, 0, none⟩), t7, t8, t9, t10, t11, t12, t13, t14, t15, t16, t17, t18, t19, t20, t21, t22, t23, t24, t25, t26, t27, t28, t29, t30, t31, t32, t33, t34, t35, t36, t37, t38, t39, t40, t41, t42, t43, t44, t45, t46, t47, t48], []⟩ w1 := by
  have hS : (fun w' => Below w1.heap.size w1 w') w1.drew := below_drew w1
  conv => arg 2; whnf
  refine held_start (S := fun w' => Below w1.heap.size w1 w') mixed9 ?_
  refine held_take (i := 0) (v := .agg #[.slice a len cap, .int .i64 (k : Int)]) rfl (by kernel_rfl) (fun _ _ _ h => h) (.inl ⟨rfl, fun w hS => ?_⟩) hS ?_
  · obtain ⟨q0, q1⟩ := (HX.out.below hS).cells
    go_simp
  try simp only [Act.put, List.setIfInBounds_toArray, List.set_cons_zero, List.set_cons_succ]
  refine held_take (i := 1) (v := .agg #[.int .u64 hv, .int .i64 hd, .int .i64 wd]) rfl (by kernel_rfl) (fun _ _ _ h => h) (.inl ⟨rfl, fun w hS => ?_⟩) hS ?_
  · obtain ⟨q0, q1, q2⟩ := (HQx.out.below hS).cells
    go_simp
  try simp only [Act.put, List.setIfInBounds_toArray, List.set_cons_zero, List.set_cons_succ]
  refine held_two (i := 2) (j := 4) (by kernel_rfl) rfl rfl rfl rfl ?_ ?_
  · intro K hK
    go_simp
    go_at_call 70
    refine (HZ.out _).mono ?_
    rintro en w3 ⟨rfl, hg3⟩
    have hN := below2 hS (grown_below hg3)
    refine hK.out _ _ hN ?_
    clear hK hS hg3
    have hS := hN
    clear hN
    try simp only [Act.put, List.setIfInBounds_toArray, List.set_cons_zero, List.set_cons_succ]
    have hG3 : Hid (w1.heap.size ≤ w3.heap.size) := hS.size
    refine held_two (i := 3) (j := 4) (by kernel_rfl) rfl rfl rfl rfl ?_ ?_
    · intro K hK
      go_simp
      go_at_call 71
      refine (HLo.out _ hS).mono ?_
      rintro en w4 ⟨hb4, g, hg4, rfl, hr4⟩
      have hN := below2 hS hb4
      have hZ4 := hr4.lt
      refine hK.out _ _ hN ?_
      clear hK
      have hS4 := hN
      clear hS
      have hS := hN
      clear hN
      try simp only [Act.put, List.setIfInBounds_toArray, List.set_cons_zero, List.set_cons_succ]
      refine held_one (i := 4) (by kernel_rfl) rfl rfl ?_
      intro K hK
      go_simp
      have hN := below2 hS (below_alloc _ (.cells #[.slice none 0 0, .int .i64 0] 26))
      refine hK.out _ _ hN ?_
      clear hK hS
      have hS := hN
      clear hN
      try simp only [Act.put, List.setIfInBounds_toArray, List.set_cons_zero, List.set_cons_succ]
      refine held_one (i := 5) (by kernel_rfl) rfl rfl ?_
      intro K hK
      go_simp
      have hba := below_alloc w4 (.cells #[.slice (some ⟨g, 0, none⟩) MM MM, .int .i64 (KK : Int)] 26)
      have hN := below2 hS4 hba
      refine hK.out _ _ hN ?_
      clear hK hS
      have hS := hN
      clear hN
      try simp only [Act.put, List.setIfInBounds_toArray, List.set_cons_zero, List.set_cons_succ]
      refine wpAnyH_done (by kernel_rfl) ?_ _
      refine NoPanic.normal ?_
      exact hQ.out _ _ _ _ w4.heap.size g _ hS (B2.new _ _ _ _) (hr4.below hba) (Nat.le_trans hS4.size (Nat.le_refl _)) (Nat.le_trans hG3.out hg4) (by omega)
    · intro K hK
      go_simp
      have hB3 := B2.new w3 26 (.slice none 0 0) (.int .i64 0)
      have hN := below2 hS (below_alloc _ (.cells #[.slice none 0 0, .int .i64 0] 26))
      have hZZ : Hid (w1.heap.size ≤ w3.heap.size) := hS.size
      refine hK.out _ _ hN ?_
      clear hK hS
      have hS := hN
      clear hN
      try simp only [Act.put, List.setIfInBounds_toArray, List.set_cons_zero, List.set_cons_succ]
      obtain ⟨w9, hw9⟩ : ∃ w9, w9 = w3.alloc (.cells #[.slice none 0 0, .int .i64 0] 26) := ⟨_, rfl⟩
      rw [← hw9] at hB3 hS ⊢
      clear hw9
      generalize w3.heap.size = ZZ at *
      refine held_one (i := 3) (by kernel_rfl) rfl rfl ?_
      intro K hK
      go_simp
      go_at_call 71
      refine (HLo.out _ hS).mono ?_
      rintro en w4 ⟨hb4, g, hg4, rfl, hr4⟩
      have hN := below2 hS hb4
      have hB4 := hB3.below hb4
      refine hK.out _ _ hN ?_
      clear hK hS
      have hS := hN
      clear hN
      try simp only [Act.put, List.setIfInBounds_toArray, List.set_cons_zero, List.set_cons_succ]
      obtain ⟨z0, z1⟩ := hB4.cells
      obtain ⟨y0, y1⟩ := hB4.frz
      refine held_one (i := 5) (by kernel_rfl) rfl rfl ?_
      intro K hK
      go_simp
      have hN : Below w1.heap.size w1 (set2 w4 ZZ (.slice (some ⟨g, 0, none⟩) MM MM) (.int .i64 (KK : Int))) := set2_below hS hZZ.out _ _
      have hB9 := hB4.set (.slice (some ⟨g, 0, none⟩) MM MM) (.int .i64 (KK : Int))
      have hne : g ≠ ZZ := by have := hB3.lt; omega
      have hR9 := hr4.set2 (Y := ZZ) (.slice (some ⟨g, 0, none⟩) MM MM) (.int .i64 (KK : Int)) hne
      refine hK.out _ (set2 w4 ZZ (.slice (some ⟨g, 0, none⟩) MM MM) (.int .i64 (KK : Int))) hN ?_
      clear hK hS z0 z1 y0 y1
      have hS := hN
      try simp only [Act.put, List.setIfInBounds_toArray, List.set_cons_zero, List.set_cons_succ]
      refine wpAnyH_done (by kernel_rfl) ?_ _
      refine NoPanic.normal ?_
      exact hQ.out _ _ _ _ ZZ g _ hS hB9 hR9 hZZ.out (Nat.le_trans (Nat.le_trans hZZ.out (Nat.le_of_lt hB3.lt)) hg4) hne
  · intro K hK
    go_simp
    have hB2 : B2 (w1.alloc (.cells #[.slice none 0 0, .int .i64 0] 26)).drew w1.heap.size 26 (.slice none 0 0) (.int .i64 0) := B2.new w1 26 (.slice none 0 0) (.int .i64 0)
    have hN : Below w1.heap.size w1 (w1.alloc (.cells #[.slice none 0 0, .int .i64 0] 26)).drew := below2 (below_alloc w1 _) (below_drew _)
    have hZZ : Hid (w1.heap.size ≤ w1.heap.size) := Nat.le_refl _
    refine hK.out _ _ hN ?_
    clear hK hS
    have hS := hN
    clear hN
    try simp only [Act.put, List.setIfInBounds_toArray, List.set_cons_zero, List.set_cons_succ]
    obtain ⟨w9, hw9⟩ : ∃ w9, w9 = (w1.alloc (.cells #[.slice none 0 0, .int .i64 0] 26)).drew := ⟨_, rfl⟩
    rw [← hw9] at hB2 hS ⊢
    clear hw9
    obtain ⟨ZZ, hZ9⟩ : ∃ ZZ, ZZ = w1.heap.size := ⟨_, rfl⟩
    have hZ8 : Hid (w1.heap.size ≤ ZZ) := by rw [hZ9]; exact Nat.le_refl _
    rw [← hZ9] at hB2
    have HZ7 := Hid.mk9 hZ9
    clear hZZ
    have hZZ := hZ8
    clear hZ8
    rw [show (.pointer (some ⟨w1.heap.size, 0, none⟩) : Value) = .pointer (some ⟨ZZ, 0, none⟩) by rw [hZ9]]
    clear hZ9
    refine held_one (i := 2) (by kernel_rfl) rfl rfl ?_
    intro K hK
    go_simp
    go_at_call 70
    refine (HZ.out _).mono ?_
    rintro en w3 ⟨rfl, hg3⟩
    have hN := below2 hS (grown_below hg3)
    have hB3 := hB2.below (grown_below hg3)
    refine hK.out _ _ hN ?_
    clear hK hS hg3
    have hS := hN
    clear hN
    try simp only [Act.put, List.setIfInBounds_toArray, List.set_cons_zero, List.set_cons_succ]
    refine held_one (i := 3) (by kernel_rfl) rfl rfl ?_
    intro K hK
    go_simp
    go_at_call 71
    refine (HLo.out _ hS).mono ?_
    rintro en w4 ⟨hb4, g, hg4, rfl, hr4⟩
    have hN := below2 hS hb4
    have hB4 := hB3.below hb4
    refine hK.out _ _ hN ?_
    clear hK hS
    have hS := hN
    clear hN
    try simp only [Act.put, List.setIfInBounds_toArray, List.set_cons_zero, List.set_cons_succ]
    obtain ⟨z0, z1⟩ := hB4.cells
    obtain ⟨y0, y1⟩ := hB4.frz
    refine held_one (i := 5) (by kernel_rfl) rfl rfl ?_
    intro K hK
    go_simp
    have hN : Below w1.heap.size w1 (set2 w4 ZZ (.slice (some ⟨g, 0, none⟩) MM MM) (.int .i64 (KK : Int))) := set2_below hS hZZ.out _ _
    have hB9 := hB4.set (.slice (some ⟨g, 0, none⟩) MM MM) (.int .i64 (KK : Int))
    have hne : g ≠ ZZ := by have := hB3.lt; omega
    have hR9 := hr4.set2 (Y := ZZ) (.slice (some ⟨g, 0, none⟩) MM MM) (.int .i64 (KK : Int)) hne
    refine hK.out _ (set2 w4 ZZ (.slice (some ⟨g, 0, none⟩) MM MM) (.int .i64 (KK : Int))) hN ?_
    clear hK hS z0 z1 y0 y1
    have hS := hN
    try simp only [Act.put, List.setIfInBounds_toArray, List.set_cons_zero, List.set_cons_succ]
    refine wpAnyH_done (by kernel_rfl) ?_ _
    refine NoPanic.normal ?_
    exact hQ.out _ _ _ _ ZZ g _ hS hB9 hR9 hZZ.out (Nat.le_trans (Nat.le_trans hZZ.out (Nat.le_of_lt hB3.lt)) hg4) hne
end Go.Proofs.YtcdlkdbnlomghaaDoor.Bi
