/-
  The law GorillaBuilds.
-/
import Derived.Test.YtcdlkdbnlomghaaDoorGlS
import Derived.Test.YtcdlkdbnlomghaaDoorBkC
namespace Go.Proofs.YtcdlkdbnlomghaaDoor.Gl
open Go.ChangeShapes Go.WideShapes Go.ChangeAt Go.RowKit
open Go.Proofs.YtcdlkdbnlomghaaDoor.Bi
open Go.Proofs.YtcdlkdbnlomghaaDoor.Fr (RowAt cellsI cellsI_get)
open Go.Proofs.YtcdlkdbnlomghaaDoor.Bk (rT rV)
theorem same_two {n f l : Int} {a a2 : Option Addr} {len len2 cap cap2 k : Nat} {L : List Bool} {w : World} (h : ByAt w a len cap (pack L len)) (hl : len = need k) (h2 : ByAt w a2 len2 cap2 (pack L len2)) (hl2 : len2 = need k) : Calls Tryd.prog 12 #[.agg #[.int .i64 n, .int .i64 f, .int .i64 l, .slice a len cap, .int .i64 (k : Int)], .agg #[.int .i64 n, .int .i64 f, .int .i64 l, .slice a2 len2 cap2, .int .i64 (k : Int)]] w fun e w' => e = .returned (.bool true) ∧ Below w.heap.size w w' := by
  have := refSameC_any n f l k a len cap (pack L len) n f l k a2 len2 cap2 (pack L len2) w h h2
  rw [eqC_yes, hl, hl2, sameP_yes] at this
  rw [hl, hl2]
  exact this
theorem same_zero (w : World) : Calls Tryd.prog 12 #[.agg #[.int .i64 0, .int .i64 0, .int .i64 0, .slice none 0 0, .int .i64 0], .agg #[.int .i64 0, .int .i64 0, .int .i64 0, .slice none 0 0, .int .i64 0]] w fun e w' => e = .returned (.bool true) ∧ Below w.heap.size w w' := by
  have := refSameC_any 0 0 0 0 none 0 0 [] 0 0 0 0 none 0 0 [] w (ByAt.nil w) (ByAt.nil w)
  rw [eqC_yes, sameP_yes] at this
  exact this
set_option maxHeartbeats 4000000 in
set_option maxRecDepth 60000 in
theorem builds_7 (t1 t2 t7 t8 t9 t10 t11 t12 t13 t14 t15 t16 t17 t18 t19 t20 t21 t22 t23 t24 t25 t26 t27 t28 t29 t30 t31 t32 t33 t34 t35 t36 t37 t38 t39 t40 t41 t42 t43 t44 t45 t46 t47 t48 t49 t50 t51 t52 t53 t54 t55 t56 t57 t58 t59 t60 t61 t62 t63 : Value) (X len cap len1 cap1 len6 cap6 k : Nat) (n f l : Int) (a a1 a6 : Option Addr) (L : List Bool) (ls : List Bk.Sm) (w1 : World) (Q : Exit → Act → World → Prop)
    (HX : Hid (B5 w1 X 28 (.int .i64 n) (.int .i64 f) (.int .i64 l) (.slice a1 len1 cap1) (.int .i64 (k : Int)))) (HLs : Hid (Bk.SmsAt w1 a len cap ls)) (H6 : Hid (Bk.SmsAt w1 a6 len6 cap6 ls)) (HT : Hid (Tab w1))
    (HY : Hid (ByAt w1 a1 len1 cap1 (pack L len1))) (HL1 : Hid (len1 = need k)) (HCh : Hid (ChIs ls n f l (pack L len1) (k : Int)))
    (HRb : Hid (∀ W, Below w1.heap.size w1 W → Calls Tryd.prog 14 #[.slice a len cap] W fun e w' => Below W.heap.size W w' ∧ ∃ (a2 : Option Addr) (len2 cap2 : Nat), e = .returned (.agg #[.int .i64 n, .int .i64 f, .int .i64 l, .slice a2 len2 cap2, .int .i64 (k : Int)]) ∧ ByAt w' a2 len2 cap2 (pack L len2) ∧ len2 = need k))
    (hQ : Hid (∀ (u39 u40 u41 u42 u43 u44 u45 u46 u47 u48 u49 u50 u51 u52 u53 u54 u55 u56 u57 u58 u59 u60 u61 u62 u63 : Value) (wC : World), Below w1.heap.size w1 wC → Q .normal ⟨#[.slice a len cap, t1, .bool true, .pointer (some ⟨X, 0, none⟩), .int .i64 0, .slice a6 len6 cap6, .int .i64 0, t7, t8, t9, t10, t11, t12, t13, t14, t15, t16, t17, t18, t19, t20, t21, t22, t23, t24, t25, t26, t27, t28, t29, t30, t31, t32, t33, t34, t35, t36, t37, t38, u39, u40, u41, u42, u43, u44, u45, u46, u47, u48, u49, u50, u51, u52, u53, u54, u55, u56, u57, u58, u59, u60, u61, u62, u63], []⟩ wC)) :
    Code.wp Tryd.prog ((Tryd.f3.body.bind (regionOf 7)).getD .skip) Q ⟨#[.slice a len cap, t1, t2, .pointer (some ⟨X, 0, none⟩), .int .i64 0, .slice a6 len6 cap6, .int .i64 0, t7, t8, t9, t10, t11, t12, t13, t14, t15, t16, t17, t18, t19, t20, t21, t22, t23, t24, t25, t26, t27, t28, t29, t30, t31, t32, t33, t34, t35, t36, t37, t38, t39, t40, t41, t42, t43, t44, t45, t46, t47, t48, t49, t50, t51, t52, t53, t54, t55, t56, t57, t58, t59, t60, t61, t62, t63], []⟩ w1 := by
  have hS : (fun w' => Below w1.heap.size w1 w') w1.drew := below_drew w1
  conv => arg 2; whnf
  refine held_start (S := fun w' => Below w1.heap.size w1 w') mixed9 ?_
  refine held_take (i := 0) (v := .int .i64 0) rfl (by kernel_rfl) (fun _ _ _ h => h) (.inl ⟨rfl, fun w hS => ?_⟩) hS ?_
  · clear hS
    go_simp
  try simp only [Act.put, List.setIfInBounds_toArray, List.set_cons_zero, List.set_cons_succ]
  refine held_take (i := 1) (v := .bool true) rfl (by kernel_rfl) (fun _ _ _ h => h) (.inl ⟨rfl, fun w hS => ?_⟩) hS ?_
  · clear hS
    go_simp
  try simp only [Act.put, List.setIfInBounds_toArray, List.set_cons_zero, List.set_cons_succ]
  refine held_take (i := 2) (v := .bool true) rfl (by kernel_rfl) (fun _ _ _ h => h) (.inl ⟨rfl, fun w hS => ?_⟩) hS ?_
  · clear hS
    go_simp
  try simp only [Act.put, List.setIfInBounds_toArray, List.set_cons_zero, List.set_cons_succ]
  refine held_take (i := 3) (v := .agg #[.int .i64 n, .int .i64 f, .int .i64 l, .slice a1 len1 cap1, .int .i64 (k : Int)]) rfl (by kernel_rfl) (fun _ _ _ h => h) (.inl ⟨rfl, fun w hS => ?_⟩) hS ?_
  · obtain ⟨q0, q1, q2, q3, q4⟩ := (HX.out.below hS).cells
    clear hS
    go_simp
  try simp only [Act.put, List.setIfInBounds_toArray, List.set_cons_zero, List.set_cons_succ]
  refine held_take (i := 4) (v := .slice a len cap) rfl (by kernel_rfl) (fun _ _ _ h => h) (.inl ⟨rfl, fun w hS => ?_⟩) hS ?_
  · clear hS
    go_simp
  try simp only [Act.put, List.setIfInBounds_toArray, List.set_cons_zero, List.set_cons_succ]
  refine held_one (i := 5) (by kernel_rfl) rfl rfl ?_
  intro K hK
  go_simp
  go_at_call 14
  refine (HRb.out _ hS).mono ?_
  rintro en wt ⟨hbt, a2, len2, cap2, rfl, hy2, hl2⟩
  have hN := below2 hS hbt
  have HY2 := Hid.mk9 hy2
  have HL2 := Hid.mk9 hl2
  have hS5 := hN
  clear hbt hy2 hl2
  refine hK.out _ _ hN ?_
  clear hK hS
  have hS := hN
  clear hN
  try simp only [Act.put, List.setIfInBounds_toArray, List.set_cons_zero, List.set_cons_succ]
  refine held_one (i := 6) (by kernel_rfl) rfl rfl ?_
  intro K hK
  go_simp
  go_at_call 12
  refine (same_two (HY.out.below hS) HL1.out HY2.out HL2.out).mono ?_
  rintro en wt ⟨rfl, hbt⟩
  have hN := below2 hS hbt
  clear hbt
  refine hK.out _ _ hN ?_
  clear hK hS
  have hS := hN
  clear hN
  try simp only [Act.put, List.setIfInBounds_toArray, List.set_cons_zero, List.set_cons_succ]
  refine held_take (i := 7) (v := .bool true) rfl (by kernel_rfl) (fun _ _ _ h => h) (.inl ⟨rfl, fun w hS => ?_⟩) hS ?_
  · clear hS
    go_simp
  try simp only [Act.put, List.setIfInBounds_toArray, List.set_cons_zero, List.set_cons_succ]
  refine held_take (i := 8) (v := .bool true) rfl (by kernel_rfl) (fun _ _ _ h => h) (.inl ⟨rfl, fun w hS => ?_⟩) hS ?_
  · clear hS
    go_simp
  try simp only [Act.put, List.setIfInBounds_toArray, List.set_cons_zero, List.set_cons_succ]
  refine held_take (i := 9) (v := .int .i64 0) rfl (by kernel_rfl) (fun _ _ _ h => h) (.inl ⟨rfl, fun w hS => ?_⟩) hS ?_
  · clear hS
    go_simp
  try simp only [Act.put, List.setIfInBounds_toArray, List.set_cons_zero, List.set_cons_succ]
  refine held_take (i := 10) (v := .bool true) rfl (by kernel_rfl) (fun _ _ _ h => h) (.inl ⟨rfl, fun w hS => ?_⟩) hS ?_
  · clear hS
    go_simp
  try simp only [Act.put, List.setIfInBounds_toArray, List.set_cons_zero, List.set_cons_succ]
  refine held_take (i := 11) (v := .bool true) rfl (by kernel_rfl) (fun _ _ _ h => h) (.inl ⟨rfl, fun w hS => ?_⟩) hS ?_
  · clear hS
    go_simp
  try simp only [Act.put, List.setIfInBounds_toArray, List.set_cons_zero, List.set_cons_succ]
  refine held_take (i := 12) (v := .bool true) rfl (by kernel_rfl) (fun _ _ _ h => h) (.inl ⟨rfl, fun w hS => ?_⟩) hS ?_
  · clear hS
    go_simp
  try simp only [Act.put, List.setIfInBounds_toArray, List.set_cons_zero, List.set_cons_succ]
  refine held_take (i := 13) (v := .slice a6 len6 cap6) rfl (by kernel_rfl) (fun _ _ _ h => h) (.inl ⟨rfl, fun w hS => ?_⟩) hS ?_
  · clear hS
    go_simp
  try simp only [Act.put, List.setIfInBounds_toArray, List.set_cons_zero, List.set_cons_succ]
  refine held_take (i := 14) (v := .slice a len cap) rfl (by kernel_rfl) (fun _ _ _ h => h) (.inl ⟨rfl, fun w hS => ?_⟩) hS ?_
  · clear hS
    go_simp
  try simp only [Act.put, List.setIfInBounds_toArray, List.set_cons_zero, List.set_cons_succ]
  refine held_one (i := 15) (by kernel_rfl) rfl rfl ?_
  intro K hK
  go_simp
  go_at_call 15
  refine (same_yes (H6.out.below hS) (HLs.out.below hS)).mono ?_
  rintro en wt ⟨rfl, hbt⟩
  have hN := below2 hS hbt
  clear hbt
  refine hK.out _ _ hN ?_
  clear hK hS
  have hS := hN
  clear hN
  try simp only [Act.put, List.setIfInBounds_toArray, List.set_cons_zero, List.set_cons_succ]
  refine held_take (i := 16) (v := .bool true) rfl (by kernel_rfl) (fun _ _ _ h => h) (.inl ⟨rfl, fun w hS => ?_⟩) hS ?_
  · clear hS
    go_simp
  try simp only [Act.put, List.setIfInBounds_toArray, List.set_cons_zero, List.set_cons_succ]
  refine held_take (i := 17) (v := .bool true) rfl (by kernel_rfl) (fun _ _ _ h => h) (.inl ⟨rfl, fun w hS => ?_⟩) hS ?_
  · clear hS
    go_simp
  try simp only [Act.put, List.setIfInBounds_toArray, List.set_cons_zero, List.set_cons_succ]
  refine held_take (i := 18) (v := .agg #[.int .i64 n, .int .i64 f, .int .i64 l, .slice a1 len1 cap1, .int .i64 (k : Int)]) rfl (by kernel_rfl) (fun _ _ _ h => h) (.inl ⟨rfl, fun w hS => ?_⟩) hS ?_
  · obtain ⟨q0, q1, q2, q3, q4⟩ := (HX.out.below hS).cells
    clear hS
    go_simp
  try simp only [Act.put, List.setIfInBounds_toArray, List.set_cons_zero, List.set_cons_succ]
  refine held_one (i := 19) (by kernel_rfl) rfl rfl ?_
  intro K hK
  go_simp
  go_at_call 16
  refine (check_yesC (HY.out.below hS) (HT.out.below hS) HCh.out).mono ?_
  rintro en wt ⟨rfl, hbt⟩
  have hN := below2 hS hbt
  clear hbt
  refine hK.out _ _ hN ?_
  clear hK hS
  have hS := hN
  clear hN
  try simp only [Act.put, List.setIfInBounds_toArray, List.set_cons_zero, List.set_cons_succ]
  refine held_take (i := 20) (v := .bool true) rfl (by kernel_rfl) (fun _ _ _ h => h) (.inl ⟨rfl, fun w hS => ?_⟩) hS ?_
  · clear hS
    go_simp
  try simp only [Act.put, List.setIfInBounds_toArray, List.set_cons_zero, List.set_cons_succ]
  refine held_take (i := 21) (v := .bool true) rfl (by kernel_rfl) (fun _ _ _ h => h) (.inl ⟨rfl, fun w hS => ?_⟩) hS ?_
  · clear hS
    go_simp
  try simp only [Act.put, List.setIfInBounds_toArray, List.set_cons_zero, List.set_cons_succ]
  refine held_take (i := 22) (v := .bool true) rfl (by kernel_rfl) (fun _ _ _ h => h) (.inl ⟨rfl, fun w hS => ?_⟩) hS ?_
  · clear hS
    go_simp
  try simp only [Act.put, List.setIfInBounds_toArray, List.set_cons_zero, List.set_cons_succ]
  refine held_one (i := 23) (by kernel_rfl) rfl rfl ?_
  intro K hK
  go_simp
  go_at_call 9
  refine (awake_any _ (HT.out.below hS)).mono ?_
  rintro en wt ⟨rfl, hbt⟩
  have hN := below2 hS hbt
  clear hbt
  refine hK.out _ _ hN ?_
  clear hK hS
  have hS := hN
  clear hN
  try simp only [Act.put, List.setIfInBounds_toArray, List.set_cons_zero, List.set_cons_succ]
  refine held_take (i := 24) (v := .bool true) rfl (by kernel_rfl) (fun _ _ _ h => h) (.inl ⟨rfl, fun w hS => ?_⟩) hS ?_
  · clear hS
    go_simp
  try simp only [Act.put, List.setIfInBounds_toArray, List.set_cons_zero, List.set_cons_succ]
  refine held_take (i := 25) (v := .bool true) rfl (by kernel_rfl) (fun _ _ _ h => h) (.inl ⟨rfl, fun w hS => ?_⟩) hS ?_
  · clear hS
    go_simp
  try simp only [Act.put, List.setIfInBounds_toArray, List.set_cons_zero, List.set_cons_succ]
  refine wpAnyH_done (by kernel_rfl) ?_ _
  refine NoPanic.normal ?_
  exact hQ.out _ _ _ _ _ _ _ _ _ _ _ _ _ _ _ _ _ _ _ _ _ _ _ _ _ _ hS
set_option maxHeartbeats 2000000 in
set_option maxRecDepth 60000 in
theorem builds_any (a : Option Addr) (len cap : Nat) (ls : List Bk.Sm) (w : World) (h : Bk.SmsAt w a len cap ls) (hT : Tab w) : Calls Tryd.prog 3 #[.slice a len cap] w fun e w' => e = .returned (.bool true) ∧ Below w.heap.size w w' := by
  have HL := Hid.mk9 h
  have HT := Hid.mk9 hT
  have hl : ls.length = len := h.1
  have HLl := Hid.mk9 hl
  have hlenI : (len : Int) ≤ 9223372036854775807 := by have := h.2.1; have := h.2.2.1; unfold maxLen at this; omega
  have HA := Hid.mk9 (awake_any w hT)
  clear hT
  by_cases hbig : (len : Int) > 100
  · clear h hl
    go_enter Tryd.func3, Tryd.ntmps3
    go_wp2_with (go_at_call 9; refine HA.out.mono ?_; rintro e w9 ⟨rfl, hb9⟩; have HB9 := Hid.mk9 hb9; clear hb9)
    go_ret
    exact ⟨rfl, HB9.out⟩
  · have hbig2 : (len : Int) ≤ 100 := by omega
    by_cases hOk : Bk.MayS ls ∧ 0 < ls.length
    · have HM := Hid.mk9 hOk.1
      have H0 := Hid.mk9 hOk.2
      have hl0 : ¬ len = 0 := by omega
      have hl0b : ((len : Int) == 0) = false := by rw [beq_eq_false_iff_ne]; omega
      have HBu := Hid.mk9 (build_yes h (HT.out) hOk.1 hOk.2)
      clear hOk h hl
      go_enter Tryd.func3, Tryd.ntmps3
      go_upto_region 4 with (go_at_call 10; refine HBu.out.mono ?_; rintro e w5 ⟨hb5, L5, a5, len5, cap5, k5, hC5, rfl, hby5, hl5, hk5, h95⟩; have HC5 : Hid (IsCh ls L5 ∧ len5 = need k5 ∧ k5 = L5.length ∧ (k5 : Int) ≤ 9000) := ⟨hC5, hl5, hk5, h95⟩; have HB5 := Hid.mk9 hb5; have HY5 := Hid.mk9 hby5; clear hb5 hC5 hl5 hk5 h95 hby5 HBu HA)
      have HB6 := Hid.mk9 (below2 HB5.out (below_alloc w5 (.cells #[.int .i64 ((ls).length : Int), .int .i64 (firstT ls), .int .i64 (lastT ls), .slice a5 len5 cap5, .int .i64 (k5 : Int)] 28)))
      have HX6 := Hid.mk9 (B5.new w5 28 (.int .i64 ((ls).length : Int)) (.int .i64 (firstT ls)) (.int .i64 (lastT ls)) (.slice a5 len5 cap5) (.int .i64 (k5 : Int)))
      have HY6 := Hid.mk9 (HY5.out.below (below_alloc w5 (.cells #[.int .i64 ((ls).length : Int), .int .i64 (firstT ls), .int .i64 (lastT ls), .slice a5 len5 cap5, .int .i64 (k5 : Int)] 28)))
      clear HB5 HY5
      generalize w5.alloc (.cells #[.int .i64 ((ls).length : Int), .int .i64 (firstT ls), .int .i64 (lastT ls), .slice a5 len5 cap5, .int .i64 (k5 : Int)] 28) = w6 at *
      generalize w5.heap.size = Y at *
      have HCh := Hid.mk9 (isCh_chIs HC5.out.1 HC5.out.2.1 HC5.out.2.2.1 HC5.out.2.2.2)
      have HMa : Hid (∀ W, Below w6.heap.size w6 W → Calls Tryd.prog 11 #[.slice a len cap] W fun e w' => e = .returned (.bool true) ∧ Below W.heap.size W w') := fun W hW => (Bk.refMay_any a len cap ls W (HL.out.below (below2 HB6.out hW))).mono (by
        rintro e w' ⟨hb, q, he, hq⟩
        obtain rfl : q = true := hq.2 HM.out
        exact ⟨he, hb⟩)
      have HMb := Hid.mk9 (HMa.out w6 (Below.refl _ _))
      clear HMa
      go_upto_region 6 with (go_at_call 11; refine HMb.out.mono ?_; rintro e w7 ⟨rfl, hb7⟩; have HB7 := Hid.mk9 (below2 HB6.out hb7); have HX7 := Hid.mk9 (HX6.out.below hb7); have HY7 := Hid.mk9 (HY6.out.below hb7); clear hb7 HB6 HX6 HY6 HMb)
      have HSa := Hid.mk9 (samples_yes HY7.out (HT.out.below HB7.out) HCh.out)
      obtain ⟨x0, x1, x2, x3, x4⟩ := HX7.out.cells
      go_upto_region 7 with (go_at_call 13; refine HSa.out.mono ?_; rintro e w8 ⟨hb8, a8, len8, cap8, rfl, hs8⟩; have HB8 := Hid.mk9 (below2 HB7.out hb8); have HX8 := Hid.mk9 (HX7.out.below hb8); have HY8 := Hid.mk9 (HY7.out.below hb8); have HS8 := Hid.mk9 hs8; clear hb8 hs8 HB7 HX7 HY7 HSa x0 x1 x2 x3 x4)
      have HRb : Hid (∀ W, Below w8.heap.size w8 W → Calls Tryd.prog 14 #[.slice a len cap] W fun e w' => Below W.heap.size W w' ∧ ∃ (a2 : Option Addr) (len2 cap2 : Nat), e = .returned (.agg #[.int .i64 ((ls).length : Int), .int .i64 (firstT ls), .int .i64 (lastT ls), .slice a2 len2 cap2, .int .i64 (k5 : Int)]) ∧ ByAt w' a2 len2 cap2 (pack L5 len2) ∧ len2 = need k5) := fun W hW => (refBuild_any a len cap ls L5 W (HL.out.below (below2 HB8.out hW)) HC5.out.1 (by have := HC5.out.2.2; omega)).mono (by
        rintro e w' ⟨hb, a2, len2, cap2, k2, he, hy, hl2, hk2⟩
        obtain rfl : k2 = k5 := by rw [hk2, HC5.out.2.2.1]
        exact ⟨hb, a2, len2, cap2, he, hy, hl2⟩)
      have HLs := Hid.mk9 (HL.out.below HB8.out)
      have HT8 := Hid.mk9 (HT.out.below HB8.out)
      have HLe : Hid (len5 = need k5) := HC5.out.2.1
      refine builds_7 _ _ _ _ _ _ _ _ _ _ _ _ _ _ _ _ _ _ _ _ _ _ _ _ _ _ _ _ _ _ _ _ _ _ _ _ _ _ _ _ _ _ _ _ _ _ _ _ _ _ _ _ _ _ _ _ _ _ _ Y len cap len5 cap5 len8 cap8 k5 _ _ _ a a5 a8 L5 ls w8 _ HX8 HLs HS8 HT8 HY8 HLe HCh HRb (fun _ _ _ _ _ _ _ _ _ _ _ _ _ _ _ _ _ _ _ _ _ _ _ _ _ wC hbC => ?_)
      have HBC := Hid.mk9 (below2 HB8.out hbC)
      clear hbC
      go_wp2_with fail
      go_ret
      exact ⟨rfl, HBC.out⟩
    · have HBu : Hid (Calls Tryd.prog 10 #[.slice a len cap] w fun e w' => e = .returned (.tuple #[.agg #[.int .i64 0, .int .i64 0, .int .i64 0, .slice none 0 0, .int .i64 0], .int .i64 1]) ∧ Below w.heap.size w w') := (build_any a len cap ls w h HT.out).mono (by
        rintro e w' ⟨hb, h⟩
        exact h.elim (fun q => ⟨q.2, hb⟩) (fun ⟨_, _, _, _, _, hc, _⟩ => absurd ⟨hc.1, hc.2.1⟩ hOk))
      by_cases hM : Bk.MayS ls
      · have HMa : Hid (∀ W, Below w.heap.size w W → Calls Tryd.prog 11 #[.slice a len cap] W fun e w' => e = .returned (.bool true) ∧ Below W.heap.size W w') := fun W hW => (Bk.refMay_any a len cap ls W (HL.out.below hW)).mono (by
          rintro e w' ⟨hb, q, he, hq⟩
          obtain rfl : q = true := hq.2 hM
          exact ⟨he, hb⟩)
        have hl0 : len = 0 := by
          rcases Nat.eq_zero_or_pos len with h | h
          · exact h
          · exact absurd ⟨hM, by omega⟩ hOk
        have hl0b : ((len : Int) == 0) = true := by rw [beq_iff_eq]; omega
        clear hOk h hl hM hl0
        go_enter Tryd.func3, Tryd.ntmps3
        go_upto_region 4 with (go_at_call 10; refine HBu.out.mono ?_; rintro e w5 ⟨rfl, hb5⟩; have HB5 := Hid.mk9 hb5; clear hb5 HBu HA)
        have HB6 := Hid.mk9 (below2 HB5.out (below_alloc w5 (.cells #[.int .i64 0, .int .i64 0, .int .i64 0, .slice none 0 0, .int .i64 0] 28)))
        have HX6 := Hid.mk9 (B5.new w5 28 (.int .i64 0) (.int .i64 0) (.int .i64 0) (.slice none 0 0) (.int .i64 0))
        clear HB5
        generalize w5.alloc (.cells #[.int .i64 0, .int .i64 0, .int .i64 0, .slice none 0 0, .int .i64 0] 28) = w6 at *
        generalize w5.heap.size = Y at *
        have HMb := Hid.mk9 (HMa.out w6 HB6.out)
        go_upto_region 5 with (go_at_call 11; refine HMb.out.mono ?_; rintro e w7 ⟨rfl, hb7⟩; have HB7 := Hid.mk9 (below2 HB6.out hb7); have HX7 := Hid.mk9 (HX6.out.below hb7); clear hb7 HB6 HX6 HMb HMa)
        have HSm := Hid.mk9 (same_zero w7)
        obtain ⟨x0, x1, x2, x3, x4⟩ := HX7.out.cells
        go_wp2_with (first | (go_at_call 12; refine HSm.out.mono ?_; rintro e w8 ⟨rfl, hb8⟩; have HB8 := Hid.mk9 (below2 HB7.out hb8); have HA8 := Hid.mk9 (awake_any w8 (HT.out.below HB8.out)); clear hb8 HSm x0 x1 x2 x3 x4) | (go_at_call 9; refine HA8.out.mono ?_; rintro e w9 ⟨rfl, hb9⟩; have HB9 := Hid.mk9 (below2 HB8.out hb9); clear hb9))
        go_ret
        exact ⟨rfl, HB9.out⟩
      · have HMa : Hid (∀ W, Below w.heap.size w W → Calls Tryd.prog 11 #[.slice a len cap] W fun e w' => e = .returned (.bool false) ∧ Below W.heap.size W w') := fun W hW => (Bk.refMay_any a len cap ls W (HL.out.below hW)).mono (by
          rintro e w' ⟨hb, q, he, hq⟩
          cases q with
          | false => exact ⟨he, hb⟩
          | true => exact absurd (hq.1 rfl) hM)
        clear hOk h hl hM
        go_enter Tryd.func3, Tryd.ntmps3
        go_upto_region 4 with (go_at_call 10; refine HBu.out.mono ?_; rintro e w5 ⟨rfl, hb5⟩; have HB5 := Hid.mk9 hb5; clear hb5 HBu HA)
        have HB6 := Hid.mk9 (below2 HB5.out (below_alloc w5 (.cells #[.int .i64 0, .int .i64 0, .int .i64 0, .slice none 0 0, .int .i64 0] 28)))
        have HX6 := Hid.mk9 (B5.new w5 28 (.int .i64 0) (.int .i64 0) (.int .i64 0) (.slice none 0 0) (.int .i64 0))
        clear HB5
        generalize w5.alloc (.cells #[.int .i64 0, .int .i64 0, .int .i64 0, .slice none 0 0, .int .i64 0] 28) = w6 at *
        generalize w5.heap.size = Y at *
        have HMb := Hid.mk9 (HMa.out w6 HB6.out)
        go_upto_region 5 with (go_at_call 11; refine HMb.out.mono ?_; rintro e w7 ⟨rfl, hb7⟩; have HB7 := Hid.mk9 (below2 HB6.out hb7); have HX7 := Hid.mk9 (HX6.out.below hb7); clear hb7 HB6 HX6 HMb HMa)
        have HSm := Hid.mk9 (same_zero w7)
        obtain ⟨x0, x1, x2, x3, x4⟩ := HX7.out.cells
        go_wp2_with (first | (go_at_call 12; refine HSm.out.mono ?_; rintro e w8 ⟨rfl, hb8⟩; have HB8 := Hid.mk9 (below2 HB7.out hb8); have HA8 := Hid.mk9 (awake_any w8 (HT.out.below HB8.out)); clear hb8 HSm x0 x1 x2 x3 x4) | (go_at_call 9; refine HA8.out.mono ?_; rintro e w9 ⟨rfl, hb9⟩; have HB9 := Hid.mk9 (below2 HB8.out hb9); clear hb9))
        go_ret
        exact ⟨rfl, HB9.out⟩
end Go.Proofs.YtcdlkdbnlomghaaDoor.Gl
