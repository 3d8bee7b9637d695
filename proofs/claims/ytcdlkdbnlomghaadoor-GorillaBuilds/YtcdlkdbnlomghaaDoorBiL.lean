/-
  The contract of Number.
-/
import Derived.Test.YtcdlkdbnlomghaaDoorBiK
namespace Go.Proofs.YtcdlkdbnlomghaaDoor.Bi
open Go.ChangeShapes Go.WideShapes Go.ChangeAt Go.RowKit
theorem KeepR.drew (g : Nat) (w : World) : KeepR g w w.drew := ⟨rfl, fun _ _ => rfl, fun _ _ h _ => ⟨h.os, h.tape, h.output, h.size, h.block⟩⟩
set_option maxHeartbeats 4000000 in
set_option maxRecDepth 60000 in
theorem number_8 (t0 t3 t4 t5 t8 t9 t10 t11 t12 t13 t14 t15 t16 t17 t18 t19 t20 t21 t22 t23 t24 t25 t26 t27 t28 t29 t30 t31 t32 t33 t34 t35 t36 t37 t38 t39 t40 t41 t42 t43 t44 t45 t46 t47 t48 : Value) (n : Int) (X Qb Z g k KK MM hd wd p : Nat) (hv : Int) (u : Nat) (L : List Bool) (v0 : Value) (w1 : World) (Q : Exit → Act → World → Prop)
    (HX : Hid (B2 w1 X 26 v0 (.int .i64 (k : Int)))) (HZx : Hid (B2 w1 Z 26 (.slice (some ⟨g, 0, none⟩) MM MM) (.int .i64 (KK : Int)))) (HQx : Hid (B3 w1 Qb 120 (.int .u64 hv) (.int .i64 (hd : Int)) (.int .i64 (wd : Int)))) (HNE : Hid (X ≠ g ∧ Z ≠ g ∧ Qb ≠ g))
    (hp : (k : Int) + (hd : Int) = (p : Int)) (hp9 : IntKind.i64.wrap (p : Int) = (p : Int))
    (HSp : Hid (∀ W, Calls Tryd.prog 73 #[.int .i64 n] W fun e w' => e = .returned (.int .u64 (u : Int)) ∧ w' = W))
    (HLay : Hid (Calls Tryd.prog 72 #[.slice (some ⟨g, 0, none⟩) MM MM, .int .i64 (p : Int), .int .u64 (u : Int), .int .i64 (wd : Int)] w1.drew fun e w' => LayPost g MM L w1.drew e w'))
    (hQ : Hid (∀ (u36 u37 u38 u39 u40 u41 u42 u43 u44 u45 u46 u47 : Value) (wC : World), Ro wC g 5 (bytV (pack L MM)) → KeepR g w1 wC → Q .normal ⟨#[t0, .int .i64 n, .pointer (some ⟨X, 0, none⟩), t3, t4, t5, .pointer (some ⟨Qb, 0, none⟩), .pointer (some ⟨Z, 0, none⟩), t8, t9, t10, t11, t12, t13, t14, t15, t16, t17, t18, t19, t20, t21, t22, t23, t24, t25, t26, t27, t28, t29, t30, t31, t32, t33, t34, t35, u36, u37, u38, u39, u40, u41, u42, u43, u44, u45, u46, u47, t48], []⟩ wC)) :
    Code.wp Tryd.prog ((Tryd.f51.body.bind (regionOf 8)).getD .skip) Q ⟨#[t0, .int .i64 n, .pointer (some ⟨X, 0, none⟩), t3, t4, t5, .pointer (some ⟨Qb, 0, none⟩), .pointer (some ⟨Z, 0, none⟩), t8, t9, t10, t11, t12, t13, t14, t15, t16, t17, t18, t19, t20, t21, t22, t23, t24, t25, t26, t27, t28, t29, t30, t31, t32, t33, t34, t35, t36, t37, t38, t39, t40, t41, t42, t43, t44, t45, t46, t47, t48], []⟩ w1 := by
  have hS : (fun w' => B2 w' X 26 v0 (.int .i64 (k : Int)) ∧ B2 w' Z 26 (.slice (some ⟨g, 0, none⟩) MM MM) (.int .i64 (KK : Int)) ∧ B3 w' Qb 120 (.int .u64 hv) (.int .i64 (hd : Int)) (.int .i64 (wd : Int))) w1.drew := ⟨HX.out, HZx.out, HQx.out⟩
  conv => arg 2; whnf
  refine held_start (S := fun w' => B2 w' X 26 v0 (.int .i64 (k : Int)) ∧ B2 w' Z 26 (.slice (some ⟨g, 0, none⟩) MM MM) (.int .i64 (KK : Int)) ∧ B3 w' Qb 120 (.int .u64 hv) (.int .i64 (hd : Int)) (.int .i64 (wd : Int))) mixed9 ?_
  refine held_take (i := 0) (v := .pointer (some ⟨Z, 0, none⟩)) rfl (by kernel_rfl) (fun _ _ _ h => h) (.inl ⟨rfl, fun w hS => ?_⟩) hS ?_
  · clear hS
    go_simp
  try simp only [Act.put, List.setIfInBounds_toArray, List.set_cons_zero, List.set_cons_succ]
  refine held_take (i := 1) (v := .slice (some ⟨g, 0, none⟩) MM MM) rfl (by kernel_rfl) (fun _ _ _ h => h) (.inl ⟨rfl, fun w hS => ?_⟩) hS ?_
  · obtain ⟨q0, q1⟩ := hS.2.1.cells
    go_simp
  try simp only [Act.put, List.setIfInBounds_toArray, List.set_cons_zero, List.set_cons_succ]
  refine held_take (i := 2) (v := .pointer (some ⟨X, 1, none⟩)) rfl (by kernel_rfl) (fun _ _ _ h => h) (.inl ⟨rfl, fun w hS => ?_⟩) hS ?_
  · clear hS
    go_simp
  try simp only [Act.put, List.setIfInBounds_toArray, List.set_cons_zero, List.set_cons_succ]
  refine held_take (i := 3) (v := .int .i64 (k : Int)) rfl (by kernel_rfl) (fun _ _ _ h => h) (.inl ⟨rfl, fun w hS => ?_⟩) hS ?_
  · obtain ⟨q0, q1⟩ := hS.1.cells
    go_simp
  try simp only [Act.put, List.setIfInBounds_toArray, List.set_cons_zero, List.set_cons_succ]
  refine held_take (i := 4) (v := .pointer (some ⟨Qb, 1, none⟩)) rfl (by kernel_rfl) (fun _ _ _ h => h) (.inl ⟨rfl, fun w hS => ?_⟩) hS ?_
  · clear hS
    go_simp
  try simp only [Act.put, List.setIfInBounds_toArray, List.set_cons_zero, List.set_cons_succ]
  refine held_take (i := 5) (v := .int .i64 (hd : Int)) rfl (by kernel_rfl) (fun _ _ _ h => h) (.inl ⟨rfl, fun w hS => ?_⟩) hS ?_
  · obtain ⟨q0, q1, q2⟩ := hS.2.2.cells
    go_simp
  try simp only [Act.put, List.setIfInBounds_toArray, List.set_cons_zero, List.set_cons_succ]
  refine held_take (i := 6) (v := .int .i64 (p : Int)) rfl (by kernel_rfl) (fun _ _ _ h => h) (.inl ⟨rfl, fun w hS => ?_⟩) hS ?_
  · clear hS
    go_simp
  try simp only [Act.put, List.setIfInBounds_toArray, List.set_cons_zero, List.set_cons_succ]
  refine held_take (i := 7) (v := .int .i64 n) rfl (by kernel_rfl) (fun _ _ _ h => h) (.inl ⟨rfl, fun w hS => ?_⟩) hS ?_
  · clear hS
    go_simp
  try simp only [Act.put, List.setIfInBounds_toArray, List.set_cons_zero, List.set_cons_succ]
  refine held_take (i := 9) (v := .pointer (some ⟨Qb, 2, none⟩)) rfl (by kernel_rfl) (fun _ _ _ h => h) (.inl ⟨rfl, fun w hS => ?_⟩) hS ?_
  · clear hS
    go_simp
  try simp only [Act.put, List.setIfInBounds_toArray, List.set_cons_zero, List.set_cons_succ]
  refine held_take (i := 10) (v := .int .i64 (wd : Int)) rfl (by kernel_rfl) (fun _ _ _ h => h) (.inl ⟨rfl, fun w hS => ?_⟩) hS ?_
  · obtain ⟨q0, q1, q2⟩ := hS.2.2.cells
    go_simp
  try simp only [Act.put, List.setIfInBounds_toArray, List.set_cons_zero, List.set_cons_succ]
  refine held_one (i := 8) (by kernel_rfl) rfl rfl ?_
  intro K hK
  go_simp
  go_at_call 73
  refine (HSp.out _).mono ?_
  rintro e w9 ⟨rfl, hw9⟩
  obtain rfl := hw9
  refine hK.out _ _ hS ?_
  clear hK
  try simp only [Act.put, List.setIfInBounds_toArray, List.set_cons_zero, List.set_cons_succ]
  refine held_one (i := 11) (by kernel_rfl) rfl rfl ?_
  intro K hK
  go_simp
  go_at_call 72
  refine HLay.out.mono ?_
  rintro e w6 ⟨rfl, hr6, hk6⟩
  have hN : B2 w6 X 26 v0 (.int .i64 (k : Int)) ∧ B2 w6 Z 26 (.slice (some ⟨g, 0, none⟩) MM MM) (.int .i64 (KK : Int)) ∧ B3 w6 Qb 120 (.int .u64 hv) (.int .i64 (hd : Int)) (.int .i64 (wd : Int)) :=
    ⟨hS.1.kept (hk6.else_ X HNE.out.1), hS.2.1.kept (hk6.else_ Z HNE.out.2.1), hS.2.2.kept (hk6.else_ Qb HNE.out.2.2)⟩
  refine hK.out _ _ hN ?_
  clear hK hS
  have hS := hN
  try simp only [Act.put, List.setIfInBounds_toArray, List.set_cons_zero, List.set_cons_succ]
  refine wpAnyH_done (by kernel_rfl) ?_ _
  refine NoPanic.normal ?_
  exact hQ.out _ _ _ _ _ _ _ _ _ _ _ _ _ hr6 ((KeepR.drew g w1).trans hk6)
/-- a number's bits by its class -/
def coded (n : Int) : List Bool := low (hvT (clsU (foldN n))) (hdT (clsU (foldN n))) ++ low (foldN n) (wdT (clsU (foldN n)))
theorem coded_len (n : Int) : (coded n).length = szT (clsU (foldN n)) := by
  unfold coded szT
  rw [List.length_append, low_len, low_len]
theorem Own.put2 {w w' : World} {X Y Z g K M : Nat} {v0 v1 r0 r1 : Value} {l : List Bool} (h : Own w w' X Y Z g K M v0 v1 r0 r1 l) : X ≠ g ∧ Z ≠ g := by
  have h1 := h.ne
  have h2 := h.st.ge
  exact ⟨by omega, by omega⟩
set_option maxHeartbeats 1000000 in
set_option maxRecDepth 60000 in
theorem number_no (a : Option Addr) (len cap : Nat) (N n : Int) (bs : List Nat) (w : World) (h : ByAt w a len cap bs) (hM : ¬ MayB bs N) : Calls Tryd.prog 51 #[.agg #[.slice a len cap, .int .i64 N], .int .i64 n] w fun e w' => BitsPost [] 1 w e w' := by
  have HL := Hid.mk9 h
  have HM := Hid.mk9 hM
  clear h hM
  have HS := Hid.mk9 (St.new w (.slice a len cap) (.int .i64 N))
  go_enter Tryd.func51, Tryd.ntmps51
  go_upto_region 1 with fail
  generalize ((w.alloc (.cells #[.slice a len cap, .int .i64 N] 26)).alloc (.cells #[.slice none 0 0, .int .i64 0] 26)) = w1 at *
  obtain ⟨X, hX⟩ : ∃ X, w.heap.size = X := ⟨_, rfl⟩
  have HXw : Hid (w.heap.size = X) := Hid.mk9 hX
  rw [hX] at HS ⊢
  clear hX
  obtain ⟨p0, p1⟩ := HS.out.bx.cells
  go_wp2_with (go_at_call 67; refine (check_noB HL.out HM.out HS.out.bel).mono ?_; rintro e w2 ⟨rfl, hb2⟩; have HS2 := Hid.mk9 (HS.out.below hb2); clear hb2 HS p0 p1; obtain ⟨p0, p1⟩ := HS2.out.bx.cells; obtain ⟨q0, q1⟩ := HS2.out.bY.cells; obtain ⟨f0, f1⟩ := HS2.out.bY.frz)
  have HS3 := Hid.mk9 (HS2.out.put (.slice none 0 0) (.int .i64 0))
  clear HS2
  refine bodyPost_ret (ret_2b rfl _ _ (X + 1) (.slice none 0 0) (.int .i64 0) (.int .i64 1) rfl rfl HS3.out.bY) rfl ?_
  exact BitsPost.zero HS3.out 1
set_option maxHeartbeats 1000000 in
set_option maxRecDepth 60000 in
theorem number_back (a : Option Addr) (len cap k : Nat) (n : Int) (l : List Bool) (w : World) (h : ByAt w a len cap (pack l len)) (hk : l.length = k) (hl : len = need k) (hN : k ≤ 131072) (hn : inI n) (hT : Tab w) (hf : ¬ k + szT (clsU (foldN n)) ≤ 131072) :
    Calls Tryd.prog 51 #[.agg #[.slice a len cap, .int .i64 (k : Int)], .int .i64 n] w fun e w' => BitsPost l 6 w e w' := by
  have HL := Hid.mk9 h
  have HM : Hid (MayB (pack l len) (k : Int)) := by
    unfold Hid
    rw [hl, ← hk]
    exact pack_may (by omega)
  obtain ⟨c, hc⟩ : ∃ c, c = clsU (foldN n) := ⟨_, rfl⟩
  have hlt : c < 5 := by rw [hc]; exact clsU_lt _
  have HLT := Hid.mk9 hlt
  have e1 : (c : Int) < 5 := by omega
  obtain ⟨hv, hhv⟩ : ∃ hv, hvT c = hv := ⟨_, rfl⟩
  obtain ⟨hd, hhd⟩ : ∃ hd, hdT c = hd := ⟨_, rfl⟩
  obtain ⟨wd, hwd⟩ : ∃ wd, wdT c = wd := ⟨_, rfl⟩
  obtain ⟨sz, hsz⟩ : ∃ sz, sz = hd + wd := ⟨_, rfl⟩
  have hd9 : (hd : Int) ≤ 4 := by have := hdT_small hlt; omega
  have wd9 : (wd : Int) ≤ 64 := by have := wdT_small hlt; omega
  have HHV : Hid (hvT c = hv ∧ hdT c = hd ∧ wdT c = wd) := ⟨hhv, hhd, hwd⟩
  have HT := Hid.mk9 hT
  have HSZ : Hid (szT (clsU (foldN n)) = sz) := by unfold Hid szT; rw [← hc, hhd, hwd, hsz]
  have hsz9 : k + sz ≤ 131072 ↔ k + szT (clsU (foldN n)) ≤ 131072 := by rw [HSZ.out]
  have hf2 := fun h => hf (hsz9.1 h)
  have HC : Hid (∀ W, Below w.heap.size w W → Calls Tryd.prog 68 #[.int .i64 n] W fun e w' => e = .returned (.int .i64 (c : Int)) ∧ w' = W) := fun W hb => by
    have := class_g n hn w W hT hb
    rwa [← hc] at this
  have HZ : Hid (∀ W, Calls Tryd.prog 70 #[.agg #[.int .u64 (hv : Int), .int .i64 (hd : Int), .int .i64 (wd : Int)]] W fun e w' => e = .returned (.int .i64 (sz : Int)) ∧ Grown W w') := fun W => by
    have := size_any (hv : Int) hd wd (by omega) (by omega) W
    rwa [← hsz] at this
  have hk9 : (k : Int) ≤ 131072 := by omega
  have HF : Hid (∀ W, Calls Tryd.prog 69 #[.agg #[.slice a len cap, .int .i64 (k : Int)], .int .i64 (sz : Int)] W fun e w' => e = .returned (.bool false) ∧ Grown W w') := fun W => (fits_any a len cap k sz (by omega) hk9 W).mono fun e w' h => ⟨by rw [h.1, decide_eq_false (by omega)], h.2⟩
  have Hk := Hid.mk9 hk
  have HLo : Hid (∀ W, Below w.heap.size w W → Calls Tryd.prog 71 #[.agg #[.slice a len cap, .int .i64 (k : Int)], .int .i64 0] W fun e w' => LongPost l k W e w') := fun W hb => by
    have := longer_any a len cap 0 l W (h.below hb) (by rw [hk]; exact hl) (by omega) (by decide)
    rwa [hk, Nat.add_zero] at this
  have HN := Hid.mk9 hN
  clear h hk hl hN hn hT hf hf2 hsz9 hc hlt hhv hhd hwd hsz
  have HS := Hid.mk9 (St.new w (.slice a len cap) (.int .i64 (k : Int)))
  go_enter Tryd.func51, Tryd.ntmps51
  go_upto_region 1 with fail
  generalize ((w.alloc (.cells #[.slice a len cap, .int .i64 (k : Int)] 26)).alloc (.cells #[.slice none 0 0, .int .i64 0] 26)) = w1 at *
  obtain ⟨X, hX⟩ : ∃ X, w.heap.size = X := ⟨_, rfl⟩
  have HXw : Hid (w.heap.size = X) := Hid.mk9 hX
  rw [hX] at HS ⊢
  clear hX
  obtain ⟨p0, p1⟩ := HS.out.bx.cells
  go_upto_region 4 with (first | (go_at_call 67; refine (check_yesB HL.out HM.out HS.out.bel).mono ?_; rintro e w2 ⟨rfl, hb2⟩; have HS2 := Hid.mk9 (HS.out.below hb2); clear hb2 HS p0 p1; obtain ⟨p0, p1⟩ := HS2.out.bx.cells; obtain ⟨q0, q1⟩ := HS2.out.bY.cells; obtain ⟨f0, f1⟩ := HS2.out.bY.frz) | (go_at_call 68; refine (HC.out _ HS2.out.bel).mono ?_; rintro e w9 ⟨rfl, hw9⟩; obtain rfl := hw9.symm; obtain ⟨t1, t2, t3⟩ := (HT.out.below HS2.out.bel) c HLT.out; rw [HHV.out.1] at t1; rw [HHV.out.2.1] at t2; rw [HHV.out.2.2] at t3))
  have HS5 := Hid.mk9 (HS2.out.below (below_alloc w2 (.cells #[.int .u64 (hv : Int), .int .i64 (hd : Int), .int .i64 (wd : Int)] 120)))
  have HQ5 := Hid.mk9 (B3.new w2 120 (.int .u64 (hv : Int)) (.int .i64 (hd : Int)) (.int .i64 (wd : Int)))
  have HY2 : Hid (X + 1 < w2.heap.size) := HS2.out.bY.lt
  clear HS2 p0 p1 q0 q1 f0 f1 t1 t2 t3
  generalize w2.alloc (.cells #[.int .u64 (hv : Int), .int .i64 (hd : Int), .int .i64 (wd : Int)] 120) = w5 at *
  generalize w2.heap.size = Qb at *
  obtain ⟨y0, y1⟩ := HS5.out.bx.cells
  obtain ⟨y2, y3, y4⟩ := HQ5.out.cells
  have x0 := cell_grown (a := ⟨X, 0, none⟩) HS5.out.bx.lt y0
  have x1 := cell_grown (a := ⟨X, 1, none⟩) HS5.out.bx.lt y1
  have x2 := cell_grown (a := ⟨Qb, 0, none⟩) HQ5.out.lt y2
  have x3 := cell_grown (a := ⟨Qb, 1, none⟩) HQ5.out.lt y3
  have x4 := cell_grown (a := ⟨Qb, 2, none⟩) HQ5.out.lt y4
  clear y0 y1 y2 y3 y4
  refine wp_region_QW mixed5 (by kernel_rfl) ?_
  repeat (refine QW_step (fun K hK => ?_); go_simp; first | (refine hK _ ?_; clear hK K) | (apply Exists.intro; refine ⟨fun _ => ?_, hK _ ?_⟩; (first | (go_at_call 70; refine Calls.grown_of (HZ.out _)) | (go_at_call 69; refine Calls.grown_of (HF.out _))); clear hK K))
  refine QW_nil ?_
  intro _ hw9
  obtain ⟨⟨nq, osq⟩, hw8⟩ := hw9
  subst hw8
  have HS6 := Hid.mk9 (HS5.out.below (below_grow w5 nq osq))
  have HQ6 := Hid.mk9 (HQ5.out.below (below_grow w5 nq osq))
  clear x0 x1 x2 x3 x4 HS5 HQ5
  generalize Go.Sort.grow (w5.drewN nq) osq = w6 at *
  obtain ⟨p0, p1⟩ := HS6.out.bx.cells
  obtain ⟨q0, q1⟩ := HS6.out.bY.cells
  obtain ⟨f0, f1⟩ := HS6.out.bY.frz
  have HS2 := Hid.mk9 HS6.out
  clear HS6
  go_wp2_with (go_at_call 71; refine (HLo.out _ HS2.out.bel).mono ?_; rintro e w4 ⟨hb4, g, hg4, rfl, hr4⟩; have HS4 := Hid.mk9 (HS2.out.below hb4); have HG4 : Hid (w6.heap.size ≤ g ∧ Ro w4 g 5 (bytV (pack l (need k)))) := ⟨hg4, hr4⟩; clear hb4 hg4 hr4 p0 p1 q0 q1 f0 f1; obtain ⟨p0, p1⟩ := HS4.out.bx.cells; obtain ⟨q0, q1⟩ := HS4.out.bY.cells; obtain ⟨f0, f1⟩ := HS4.out.bY.frz)
  have HS5 := Hid.mk9 (HS4.out.put (.slice (some ⟨g, 0, none⟩) (need k) (need k)) (.int .i64 (k : Int)))
  have HR5 := Hid.mk9 (HG4.out.2.set2 (Y := X + 1) (.slice (some ⟨g, 0, none⟩) (need k) (need k)) (.int .i64 (k : Int)) (by have := HG4.out.1; have := HS2.out.bY.lt; omega))
  have HGE : Hid (w.heap.size ≤ g) := Nat.le_trans HS2.out.bel.size HG4.out.1
  clear HS4 HG4 HS2
  refine bodyPost_ret (ret_2b rfl _ _ (X + 1) (.slice (some ⟨g, 0, none⟩) (need k) (need k)) (.int .i64 (k : Int)) (.int .i64 6) rfl rfl HS5.out.bY) rfl ?_
  have HP := BitsPost.of_long HS5.out.bel HGE.out HR5.out (by rw [Hk.out]) (by rw [Hk.out]; have := HN.out; omega) 6
  rw [Hk.out] at HP
  exact HP
set_option maxHeartbeats 1000000 in
set_option maxRecDepth 60000 in
theorem number_yes (a : Option Addr) (len cap k : Nat) (n : Int) (l : List Bool) (w : World) (h : ByAt w a len cap (pack l len)) (hk : l.length = k) (hl : len = need k) (hn : inI n) (hT : Tab w) (hf : k + szT (clsU (foldN n)) ≤ 131072) :
    Calls Tryd.prog 51 #[.agg #[.slice a len cap, .int .i64 (k : Int)], .int .i64 n] w fun e w' => BitsPost (l ++ coded n) 0 w e w' := by
  have HL := Hid.mk9 h
  have HM : Hid (MayB (pack l len) (k : Int)) := by
    unfold Hid
    rw [hl, ← hk]
    exact pack_may (by omega)
  obtain ⟨c, hc⟩ : ∃ c, c = clsU (foldN n) := ⟨_, rfl⟩
  have hlt : c < 5 := by rw [hc]; exact clsU_lt _
  have HLT := Hid.mk9 hlt
  have e1 : (c : Int) < 5 := by omega
  obtain ⟨hv, hhv⟩ : ∃ hv, hvT c = hv := ⟨_, rfl⟩
  obtain ⟨hd, hhd⟩ : ∃ hd, hdT c = hd := ⟨_, rfl⟩
  obtain ⟨wd, hwd⟩ : ∃ wd, wdT c = wd := ⟨_, rfl⟩
  obtain ⟨sz, hsz⟩ : ∃ sz, sz = hd + wd := ⟨_, rfl⟩
  have hd9 : (hd : Int) ≤ 4 := by have := hdT_small hlt; omega
  have wd9 : (wd : Int) ≤ 64 := by have := wdT_small hlt; omega
  have HHV : Hid (hvT c = hv ∧ hdT c = hd ∧ wdT c = wd) := ⟨hhv, hhd, hwd⟩
  have HT := Hid.mk9 hT
  have HSZ : Hid (szT (clsU (foldN n)) = sz) := by unfold Hid szT; rw [← hc, hhd, hwd, hsz]
  have hsz9 : k + sz ≤ 131072 ↔ k + szT (clsU (foldN n)) ≤ 131072 := by rw [HSZ.out]
  have hf2 := hsz9.2 hf
  have HC : Hid (∀ W, Below w.heap.size w W → Calls Tryd.prog 68 #[.int .i64 n] W fun e w' => e = .returned (.int .i64 (c : Int)) ∧ w' = W) := fun W hb => by
    have := class_g n hn w W hT hb
    rwa [← hc] at this
  have HZ : Hid (∀ W, Calls Tryd.prog 70 #[.agg #[.int .u64 (hv : Int), .int .i64 (hd : Int), .int .i64 (wd : Int)]] W fun e w' => e = .returned (.int .i64 (sz : Int)) ∧ Grown W w') := fun W => by
    have := size_any (hv : Int) hd wd (by omega) (by omega) W
    rwa [← hsz] at this
  have hk9 : (k : Int) ≤ 131072 := by omega
  have HF : Hid (∀ W, Calls Tryd.prog 69 #[.agg #[.slice a len cap, .int .i64 (k : Int)], .int .i64 (sz : Int)] W fun e w' => e = .returned (.bool true) ∧ Grown W w') := fun W => (fits_any a len cap k sz (by omega) hk9 W).mono fun e w' h => ⟨by rw [h.1, decide_eq_true (by omega)], h.2⟩
  have Hk := Hid.mk9 hk
  obtain ⟨KK, hKK⟩ : ∃ KK, KK = k + sz := ⟨_, rfl⟩
  obtain ⟨MM, hMM⟩ : ∃ MM, MM = need KK := ⟨_, rfl⟩
  have HLo : Hid (∀ W, Below w.heap.size w W → Calls Tryd.prog 71 #[.agg #[.slice a len cap, .int .i64 (k : Int)], .int .i64 (sz : Int)] W fun e w' => Below W.heap.size W w' ∧ ∃ g, W.heap.size ≤ g ∧ e = .returned (.agg #[.slice (some ⟨g, 0, none⟩) MM MM, .int .i64 (KK : Int)]) ∧ Ro w' g 5 (bytV (pack l MM))) := fun W hb => by
    have := longer_any a len cap sz l W (h.below hb) (by rw [hk]; exact hl) (by omega) (by omega)
    unfold LongPost at this
    rwa [hk, ← hKK, ← hMM] at this
  have HKK : Hid (KK = k + sz ∧ MM = need KK ∧ k + sz ≤ 131072 ∧ sz = hd + wd) := ⟨hKK, hMM, hf2, hsz⟩
  have HSp := Hid.mk9 (fun W => spread_any n hn W)
  have HCO : Hid (coded n = low hv hd ++ low (foldN n) wd) := by unfold Hid coded; rw [← hc, hhv, hhd, hwd]
  generalize foldN n = u at *
  obtain ⟨CO, hCO⟩ : ∃ CO, coded n = CO := ⟨_, rfl⟩
  rw [hCO] at HCO ⊢
  clear hCO
  clear h hk hl hn hT hf hf2 hsz9 hc hlt hhv hhd hwd hsz hKK hMM
  have HS := Hid.mk9 (St.new w (.slice a len cap) (.int .i64 (k : Int)))
  go_enter Tryd.func51, Tryd.ntmps51
  go_upto_region 1 with fail
  generalize ((w.alloc (.cells #[.slice a len cap, .int .i64 (k : Int)] 26)).alloc (.cells #[.slice none 0 0, .int .i64 0] 26)) = w1 at *
  obtain ⟨X, hX⟩ : ∃ X, w.heap.size = X := ⟨_, rfl⟩
  have HXw : Hid (w.heap.size = X) := Hid.mk9 hX
  rw [hX] at HS ⊢
  clear hX
  obtain ⟨p0, p1⟩ := HS.out.bx.cells
  go_upto_region 4 with (first | (go_at_call 67; refine (check_yesB HL.out HM.out HS.out.bel).mono ?_; rintro e w2 ⟨rfl, hb2⟩; have HS2 := Hid.mk9 (HS.out.below hb2); clear hb2 HS p0 p1; obtain ⟨p0, p1⟩ := HS2.out.bx.cells; obtain ⟨q0, q1⟩ := HS2.out.bY.cells; obtain ⟨f0, f1⟩ := HS2.out.bY.frz) | (go_at_call 68; refine (HC.out _ HS2.out.bel).mono ?_; rintro e w9 ⟨rfl, hw9⟩; obtain rfl := hw9.symm; obtain ⟨t1, t2, t3⟩ := (HT.out.below HS2.out.bel) c HLT.out; rw [HHV.out.1] at t1; rw [HHV.out.2.1] at t2; rw [HHV.out.2.2] at t3))
  have HS5 := Hid.mk9 (HS2.out.below (below_alloc w2 (.cells #[.int .u64 (hv : Int), .int .i64 (hd : Int), .int .i64 (wd : Int)] 120)))
  have HQ5 := Hid.mk9 (B3.new w2 120 (.int .u64 (hv : Int)) (.int .i64 (hd : Int)) (.int .i64 (wd : Int)))
  have HY2 : Hid (X + 1 < w2.heap.size) := HS2.out.bY.lt
  clear HS2 p0 p1 q0 q1 f0 f1 t1 t2 t3
  generalize w2.alloc (.cells #[.int .u64 (hv : Int), .int .i64 (hd : Int), .int .i64 (wd : Int)] 120) = w5 at *
  generalize w2.heap.size = Qb at *
  obtain ⟨y0, y1⟩ := HS5.out.bx.cells
  obtain ⟨y2, y3, y4⟩ := HQ5.out.cells
  have x0 := cell_grown (a := ⟨X, 0, none⟩) HS5.out.bx.lt y0
  have x1 := cell_grown (a := ⟨X, 1, none⟩) HS5.out.bx.lt y1
  have x2 := cell_grown (a := ⟨Qb, 0, none⟩) HQ5.out.lt y2
  have x3 := cell_grown (a := ⟨Qb, 1, none⟩) HQ5.out.lt y3
  have x4 := cell_grown (a := ⟨Qb, 2, none⟩) HQ5.out.lt y4
  clear y0 y1 y2 y3 y4
  refine wp_region_QW mixed5 (by kernel_rfl) ?_
  repeat (refine QW_step (fun K hK => ?_); go_simp; first | (refine hK _ ?_; clear hK K) | (apply Exists.intro; refine ⟨fun _ => ?_, hK _ ?_⟩; (first | (go_at_call 70; refine Calls.grown_of (HZ.out _)) | (go_at_call 69; refine Calls.grown_of (HF.out _))); clear hK K))
  refine QW_nil ?_
  intro _ hw9
  obtain ⟨⟨nq, osq⟩, hw8⟩ := hw9
  subst hw8
  have HS6 := Hid.mk9 (HS5.out.below (below_grow w5 nq osq))
  have HQ6 := Hid.mk9 (HQ5.out.below (below_grow w5 nq osq))
  clear x0 x1 x2 x3 x4 HS5 HQ5
  generalize Go.Sort.grow (w5.drewN nq) osq = w6 at *
  have HB6 := Hid.mk9 HS6.out.bel
  go_wp2_with fail
  refine number_6 _ _ _ _ _ _ _ _ _ _ _ _ _ _ _ _ _ _ _ _ _ _ _ _ _ _ _ _ _ _ _ _ _ _ _ _ _ _ _ _ _ _ _ _ _ _ _ X Qb len cap k KK MM (hv : Int) (hd : Int) (wd : Int) (sz : Int) l a w6 _ HS6.out.bx HQ6.out HZ.out (fun W hb => HLo.out W (below2 HB6.out hb)) (fun u23 u24 u25 u26 Z g wC hbC hzC hrC hZ9 hg9 hgz => ?_)
  have HO := Hid.mk9 (Own.mk (HS6.out.below hbC) hzC hrC ⟨by have := HS6.out.bY.lt; omega, by have := HS6.out.bY.lt; omega, hgz⟩)
  have HQ7 := Hid.mk9 (HQ6.out.below hbC)
  have HQg : Hid (Qb ≠ g) := by have := HQ6.out.lt; unfold Hid; omega
  clear HS6 HQ6 hbC hzC hrC hZ9 hg9 hgz HB6
  obtain ⟨p0, p1⟩ := HO.out.st.bx.cells
  obtain ⟨z0, z1⟩ := HO.out.bz.cells
  obtain ⟨y2, y3, y4⟩ := HQ7.out.cells
  have HY9 := Hid.mk9 (lay_any g MM hd hv k l _ HO.out.ro Hk.out (by have := HKK.out; unfold need at this; omega) (by have := HKK.out; unfold need at this; omega) (by omega))
  go_wp2_with (go_at_call 72; refine HY9.out.mono ?_; rintro e w7 ⟨rfl, hr7, hk7⟩; have HO7 := Hid.mk9 (HO.out.lay hr7 hk7); have HQ8 := Hid.mk9 (HQ7.out.kept (hk7.else_ Qb HQg.out)); clear hr7 hk7 HO HQ7 HY9 p0 p1 z0 z1 y2 y3 y4)
  refine number_8 _ _ _ _ _ _ _ _ _ _ _ _ _ _ _ _ _ _ _ _ _ _ _ _ _ _ _ _ _ _ _ _ _ _ _ _ _ _ _ _ _ _ _ _ _ n X Qb Z g k KK MM hd wd (k + hd) (hv : Int) u (l ++ CO) (.slice a len cap) w7 _ HO7.out.st.bx HO7.out.bz HQ8.out ⟨HO7.out.put2.1, HO7.out.put2.2, HQg.out⟩ (by omega) (by simp [IntKind.wrap, IntKind.bits, IntKind.signed]; omega) HSp.out (by
    have := lay_any g MM wd u (k + hd) (l ++ low hv hd) w7.drew HO7.out.ro (by rw [List.length_append, low_len, Hk.out]) (by have := HKK.out; unfold need at this; omega) (by have := HKK.out; unfold need at this; omega) (by omega)
    rwa [List.append_assoc, ← HCO.out] at this) (fun u36 u37 u38 u39 u40 u41 u42 u43 u44 u45 u46 u47 w8 hr8 hk8 => ?_)
  have HO8 := Hid.mk9 (HO7.out.lay hr8 hk8)
  clear HO7 HQ8 hr8 hk8
  obtain ⟨p0, p1⟩ := HO8.out.st.bx.cells
  obtain ⟨q0, q1⟩ := HO8.out.st.bY.cells
  obtain ⟨f0, f1⟩ := HO8.out.st.bY.frz
  obtain ⟨z0, z1⟩ := HO8.out.bz.cells
  obtain ⟨hz1, hz2⟩ := HO8.out.fin (by rw [List.length_append, HCO.out, List.length_append, low_len, low_len, Hk.out]; have := HKK.out; omega) HKK.out.2.1 (by have := HKK.out; omega) 0
  have HZ9 := Hid.mk9 hz1
  have HP := Hid.mk9 hz2
  clear hz1 hz2 HO8
  go_wp2_with fail
  refine bodyPost_ret (ret_2b rfl _ _ (X + 1) (.slice (some ⟨g, 0, none⟩) MM MM) (.int .i64 (KK : Int)) (.int .i64 0) rfl rfl HZ9.out) rfl ?_
  have HP2 := HP.out
  exact HP2
end Go.Proofs.YtcdlkdbnlomghaaDoor.Bi
