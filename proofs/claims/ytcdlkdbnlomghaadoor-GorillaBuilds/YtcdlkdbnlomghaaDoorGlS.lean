/-
  The answer's Build and Same; the program's Check.
-/
import Derived.Test.YtcdlkdbnlomghaaDoorGlR
import Derived.Test.YtcdlkdbnlomghaaDoorGlF
import Derived.Test.YtcdlkdbnlomghaaDoorBiSa
namespace Go.Proofs.YtcdlkdbnlomghaaDoor.Gl
open Go.ChangeShapes Go.WideShapes Go.ChangeAt Go.RowKit
open Go.Proofs.YtcdlkdbnlomghaaDoor.Bi
open Go.Proofs.YtcdlkdbnlomghaaDoor.Fr (RowAt cellsI cellsI_get)
open Go.Proofs.YtcdlkdbnlomghaaDoor.Bk (rT rV)
set_option maxHeartbeats 4000000 in
set_option maxRecDepth 60000 in
theorem refBuild_1 (t1 t3 t4 t5 t6 t7 t8 t9 t10 t11 t12 t13 t14 t15 t16 t17 t18 t19 : Value) (X b off n cap m k : Nat) (f0 fm : Int) (L : List Bool) (w0 : World) (w1 : World) (Q : Exit → Act → World → Prop)
    (hn2 : ¬ n = 0) (hm : (m : Int) < (n : Int)) (P1 : IntKind.i64.wrap ((n : Int) - 1) = (m : Int)) (hk9 : (k : Int) ≤ 9000) (HK : Hid (k = L.length))
    (HX : Hid (B5 w1 X 28 (.int .i64 0) (.int .i64 0) (.int .i64 0) (.slice none 0 0) (.int .i64 0))) (hX : Hid (w0.heap.size ≤ X)) (hB : Hid (Below w0.heap.size w0 w1))
    (H0 : Hid (w0.cell? ⟨b, off, none⟩ = some (.int .i64 f0))) (Hm : Hid (w0.cell? ⟨b, off + m * 2, none⟩ = some (.int .i64 fm)))
    (HN : Hid (∀ W, Below w1.heap.size w1 W → Calls Tryd.prog 37 #[.slice (some ⟨b, off, none⟩) n cap] W fun e w' => BoPost L W e w'))
    (hQ : Hid (∀ (u3 u4 u5 u6 u7 u8 u9 u10 u11 u12 u13 u14 u15 u16 u17 u18 u19 : Value) (g : Nat) (wC : World), Below w0.heap.size w0 wC → B5 wC X 28 (.int .i64 (n : Int)) (.int .i64 f0) (.int .i64 fm) (.slice (some ⟨g, 0, none⟩) (need k) (need k)) (.int .i64 (k : Int)) → Ro wC g 5 (bytV (pack L (need k))) → Q .normal ⟨#[.slice (some ⟨b, off, none⟩) n cap, t1, .pointer (some ⟨X, 0, none⟩), u3, u4, u5, u6, u7, u8, u9, u10, u11, u12, u13, u14, u15, u16, u17, u18, u19], []⟩ wC)) :
    Code.wp Tryd.prog ((Tryd.f14.body.bind (regionOf 1)).getD .skip) Q ⟨#[.slice (some ⟨b, off, none⟩) n cap, t1, .pointer (some ⟨X, 0, none⟩), t3, t4, t5, t6, t7, t8, t9, t10, t11, t12, t13, t14, t15, t16, t17, t18, t19], []⟩ w1 := by
  have hS : (fun w' => Below w0.heap.size w0 w') w1.drew := below2 hB.out (below_drew w1)
  conv => arg 2; whnf
  refine held_start (S := fun w' => Below w0.heap.size w0 w') mixed9 ?_
  refine held_take (i := 0) (v := .slice (some ⟨b, off, none⟩) n cap) rfl (by kernel_rfl) (fun _ _ _ h => h) (.inl ⟨rfl, fun w hS => ?_⟩) hS ?_
  · clear hS
    go_simp
  try simp only [Act.put, List.setIfInBounds_toArray, List.set_cons_zero, List.set_cons_succ]
  refine held_take (i := 1) (v := .int .i64 (n : Int)) rfl (by kernel_rfl) (fun _ _ _ h => h) (.inl ⟨rfl, fun w hS => ?_⟩) hS ?_
  · clear hS
    go_simp
  try simp only [Act.put, List.setIfInBounds_toArray, List.set_cons_zero, List.set_cons_succ]
  refine held_take (i := 2) (v := .slice (some ⟨b, off, none⟩) n cap) rfl (by kernel_rfl) (fun _ _ _ h => h) (.inl ⟨rfl, fun w hS => ?_⟩) hS ?_
  · clear hS
    go_simp
  try simp only [Act.put, List.setIfInBounds_toArray, List.set_cons_zero, List.set_cons_succ]
  refine held_take (i := 3) (v := .pointer (some ⟨b, off, none⟩)) rfl (by kernel_rfl) (fun _ _ _ h => h) (.inl ⟨rfl, fun w hS => ?_⟩) hS ?_
  · clear hS
    go_simp
  try simp only [Act.put, List.setIfInBounds_toArray, List.set_cons_zero, List.set_cons_succ]
  refine held_take (i := 4) (v := .pointer (some ⟨b, off, none⟩)) rfl (by kernel_rfl) (fun _ _ _ h => h) (.inl ⟨rfl, fun w hS => ?_⟩) hS ?_
  · clear hS
    go_simp
  try simp only [Act.put, List.setIfInBounds_toArray, List.set_cons_zero, List.set_cons_succ]
  refine held_take (i := 5) (v := .int .i64 f0) rfl (by kernel_rfl) (fun _ _ _ h => h) (.inl ⟨rfl, fun w hS => ?_⟩) hS ?_
  · have qc := (hS.cell (p := ⟨b, off, none⟩) (World.block_lt_of_cell? w0 ⟨b, off, none⟩ H0.out)).trans H0.out
    clear hS
    go_simp
  try simp only [Act.put, List.setIfInBounds_toArray, List.set_cons_zero, List.set_cons_succ]
  refine held_take (i := 6) (v := .slice (some ⟨b, off, none⟩) n cap) rfl (by kernel_rfl) (fun _ _ _ h => h) (.inl ⟨rfl, fun w hS => ?_⟩) hS ?_
  · clear hS
    go_simp
  try simp only [Act.put, List.setIfInBounds_toArray, List.set_cons_zero, List.set_cons_succ]
  refine held_take (i := 7) (v := .slice (some ⟨b, off, none⟩) n cap) rfl (by kernel_rfl) (fun _ _ _ h => h) (.inl ⟨rfl, fun w hS => ?_⟩) hS ?_
  · clear hS
    go_simp
  try simp only [Act.put, List.setIfInBounds_toArray, List.set_cons_zero, List.set_cons_succ]
  refine held_take (i := 8) (v := .int .i64 (n : Int)) rfl (by kernel_rfl) (fun _ _ _ h => h) (.inl ⟨rfl, fun w hS => ?_⟩) hS ?_
  · clear hS
    go_simp
  try simp only [Act.put, List.setIfInBounds_toArray, List.set_cons_zero, List.set_cons_succ]
  refine held_take (i := 9) (v := .int .i64 (m : Int)) rfl (by kernel_rfl) (fun _ _ _ h => h) (.inl ⟨rfl, fun w hS => ?_⟩) hS ?_
  · clear hS
    go_simp
  try simp only [Act.put, List.setIfInBounds_toArray, List.set_cons_zero, List.set_cons_succ]
  refine held_take (i := 10) (v := .pointer (some ⟨b, off + m * 2, none⟩)) rfl (by kernel_rfl) (fun _ _ _ h => h) (.inl ⟨rfl, fun w hS => ?_⟩) hS ?_
  · clear hS
    go_simp
  try simp only [Act.put, List.setIfInBounds_toArray, List.set_cons_zero, List.set_cons_succ]
  refine held_take (i := 11) (v := .pointer (some ⟨b, off + m * 2, none⟩)) rfl (by kernel_rfl) (fun _ _ _ h => h) (.inl ⟨rfl, fun w hS => ?_⟩) hS ?_
  · clear hS
    go_simp
  try simp only [Act.put, List.setIfInBounds_toArray, List.set_cons_zero, List.set_cons_succ]
  refine held_take (i := 12) (v := .int .i64 fm) rfl (by kernel_rfl) (fun _ _ _ h => h) (.inl ⟨rfl, fun w hS => ?_⟩) hS ?_
  · have qc := (hS.cell (p := ⟨b, off + m * 2, none⟩) (World.block_lt_of_cell? w0 ⟨b, off + m * 2, none⟩ Hm.out)).trans Hm.out
    clear hS
    go_simp
  try simp only [Act.put, List.setIfInBounds_toArray, List.set_cons_zero, List.set_cons_succ]
  refine held_take (i := 13) (v := .slice (some ⟨b, off, none⟩) n cap) rfl (by kernel_rfl) (fun _ _ _ h => h) (.inl ⟨rfl, fun w hS => ?_⟩) hS ?_
  · clear hS
    go_simp
  try simp only [Act.put, List.setIfInBounds_toArray, List.set_cons_zero, List.set_cons_succ]
  obtain ⟨w2, hw2⟩ : ∃ w2, w2 = w1.drew := ⟨_, rfl⟩
  have hb12 : Below w1.heap.size w1 w2 := by rw [hw2]; exact below_drew w1
  rw [← hw2] at hS ⊢
  have HX2 := HX.out.below hb12
  clear hw2
  refine held_one (i := 14) (by kernel_rfl) rfl rfl ?_
  intro K hK
  go_simp
  go_at_call 37
  refine (HN.out _ hb12).mono ?_
  rintro en w3 ⟨hb3, al, cl, rfl, hl3⟩
  rw [← HK.out] at hl3 ⊢
  have HX3 := HX2.below hb3
  have hN := below2 hS hb3
  refine hK.out _ _ hN ?_
  clear hK hS
  have hS := hN
  clear hN
  try simp only [Act.put, List.setIfInBounds_toArray, List.set_cons_zero, List.set_cons_succ]
  refine held_one (i := 15) (by kernel_rfl) rfl rfl ?_
  intro K hK
  go_simp
  go_at_call 36
  refine (of_any al k cl L w3 hl3 (by omega)).mono ?_
  rintro en w4 ⟨hb4, g, hg4, rfl, hr4⟩
  have HX4 := HX3.below hb4
  have hN := below2 hS hb4
  refine hK.out _ _ hN ?_
  clear hK hS
  have hS := hN
  clear hN
  try simp only [Act.put, List.setIfInBounds_toArray, List.set_cons_zero, List.set_cons_succ]
  refine held_take (i := 16) (v := .agg #[.int .i64 (n : Int), .int .i64 f0, .int .i64 fm, .slice (some ⟨g, 0, none⟩) (need k) (need k), .int .i64 (k : Int)]) rfl (by kernel_rfl) (fun _ _ _ h => h) (.inl ⟨rfl, fun w hS => ?_⟩) hS ?_
  · clear hS
    go_simp
  try simp only [Act.put, List.setIfInBounds_toArray, List.set_cons_zero, List.set_cons_succ]
  obtain ⟨z0, z1, z2, z3, z4⟩ := HX4.cells
  obtain ⟨y0, y1, y2, y3, y4⟩ := HX4.frz
  have hne : g ≠ X := by have := HX3.lt; omega
  refine held_one (i := 17) (by kernel_rfl) rfl rfl ?_
  intro K hK
  go_simp
  have hB9 := HX4.set (.int .i64 (n : Int)) (.int .i64 f0) (.int .i64 fm) (.slice (some ⟨g, 0, none⟩) (need k) (need k)) (.int .i64 (k : Int))
  have hR9 : Ro (set5 w4 X (.int .i64 (n : Int)) (.int .i64 f0) (.int .i64 fm) (.slice (some ⟨g, 0, none⟩) (need k) (need k)) (.int .i64 (k : Int))) g 5 (bytV (pack L (need k))) := hr4.kept (set5_else _ _ _ _ _ hne)
  have hN : Below w0.heap.size w0 (set5 w4 X (.int .i64 (n : Int)) (.int .i64 f0) (.int .i64 fm) (.slice (some ⟨g, 0, none⟩) (need k) (need k)) (.int .i64 (k : Int))) := set5_below hS hX.out _ _ _ _ _
  refine hK.out _ (set5 w4 X (.int .i64 (n : Int)) (.int .i64 f0) (.int .i64 fm) (.slice (some ⟨g, 0, none⟩) (need k) (need k)) (.int .i64 (k : Int))) hN ?_
  clear hK hS z0 z1 z2 z3 z4 y0 y1 y2 y3 y4
  have hS := hN
  try simp only [Act.put, List.setIfInBounds_toArray, List.set_cons_zero, List.set_cons_succ]
  refine wpAnyH_done (by kernel_rfl) ?_ _
  refine NoPanic.normal ?_
  exact hQ.out _ _ _ _ _ _ _ _ _ _ _ _ _ _ _ _ _ g _ hS hB9 hR9
/-- what the answer's Build tells -/
def RefBuildPost (ls : List Bk.Sm) (L : List Bool) (w : World) (e : Ending) (w' : World) : Prop := Below w.heap.size w w' ∧ ∃ (a : Option Addr) (len cap k : Nat), e = .returned (.agg #[.int .i64 (ls.length : Int), .int .i64 (firstT ls), .int .i64 (lastT ls), .slice a len cap, .int .i64 (k : Int)]) ∧ ByAt w' a len cap (pack L len) ∧ len = need k ∧ k = L.length
set_option maxHeartbeats 1000000 in
set_option maxRecDepth 60000 in
theorem refBuild_any (a : Option Addr) (len cap : Nat) (ls : List Bk.Sm) (L : List Bool) (w : World) (h : Bk.SmsAt w a len cap ls) (hC : IsCh ls L) (h9 : L.length ≤ 9000) :
    Calls Tryd.prog 14 #[.slice a len cap] w fun e w' => RefBuildPost ls L w e w' := by
  have hl : ls.length = len := h.1
  have h0 : ¬ len = 0 := by have := hC.2.1; omega
  obtain ⟨m, hm⟩ : ∃ m, m = len - 1 := ⟨_, rfl⟩
  obtain ⟨b, off, rfl, hbs, hc⟩ := h.some (show 0 < len by omega)
  have h00 := (hc 0 (by omega)).1
  have hmm := (hc m (by omega)).1
  rw [Nat.zero_mul, Nat.add_zero] at h00
  have hcap : (cap : Int) ≤ 9223372036854775807 := by have := h.2.2.1; unfold maxLen at this; omega
  have hlc : (len : Int) ≤ (cap : Int) := by have := h.2.1; omega
  have P1 : IntKind.i64.wrap ((len : Int) - 1) = (m : Int) := by rw [IntKind.wrap_i64]; omega
  have P2 : (m : Int) < (len : Int) := by omega
  obtain ⟨k, hk⟩ : ∃ k, k = L.length := ⟨_, rfl⟩
  have hk9 : (k : Int) ≤ 9000 := by omega
  have HK := Hid.mk9 hk
  have HL := Hid.mk9 h
  have HCh := Hid.mk9 hC
  have HLl := Hid.mk9 hl
  have H00 := Hid.mk9 h00
  have Hmm := Hid.mk9 hmm
  have HMm := Hid.mk9 hm
  have HX := Hid.mk9 (B5.new w 28 (.int .i64 0) (.int .i64 0) (.int .i64 0) (.slice none 0 0) (.int .i64 0))
  have HB := Hid.mk9 (below_alloc w (.cells #[.int .i64 0, .int .i64 0, .int .i64 0, .slice none 0 0, .int .i64 0] 28))
  have H9 := Hid.mk9 h9
  clear h hC hl hc h00 hmm hm hbs hk h9
  go_enter Tryd.func14, Tryd.ntmps14
  go_upto_region 1 with fail
  generalize w.alloc (.cells #[.int .i64 0, .int .i64 0, .int .i64 0, .slice none 0 0, .int .i64 0] 28) = w1 at *
  obtain ⟨Y, hX⟩ : ∃ Y, w.heap.size = Y := ⟨_, rfl⟩
  have hX9 : Hid (w.heap.size ≤ Y) := by rw [← hX]; exact Nat.le_refl _
  rw [hX] at HX ⊢
  clear hX
  have HBi : Hid (∀ W, Below w1.heap.size w1 W → Calls Tryd.prog 37 #[.slice (some ⟨b, off, none⟩) len cap] W fun e w' => BoPost L W e w') := fun W hW => refBits_any _ len cap ls L W (HL.out.below (below2 HB.out hW)) HCh.out.1 HCh.out.2.2
  refine refBuild_1 _ _ _ _ _ _ _ _ _ _ _ _ _ _ _ _ _ _ Y b off len cap m k _ _ L w w1 _ h0 P2 P1 hk9 HK HX hX9 HB H00 Hmm HBi (fun _ _ _ _ _ _ _ _ _ _ _ _ _ _ _ _ _ g wC hbC hxC hrC => ?_)
  go_wp2_with fail
  refine bodyPost_ret (ret_5 rfl _ _ Y _ _ _ _ _ rfl hxC) rfl ?_
  have hby := hrC.bytes (by rw [pack_len]; unfold need maxLen; omega) (pack_lt _ _)
  rw [pack_len] at hby
  exact ⟨hbC, some ⟨g, 0, none⟩, need k, need k, k, by unfold firstT lastT Bk.tS; rw [HLl.out, ← HMm.out], hby, rfl, HK.out⟩
/-- are chunks alike? -/
def eqC (n f l n2 f2 l2 : Int) (q : Bool) : Bool := decide (n = n2) && (decide (f = f2) && (decide (l = l2) && q))
set_option maxHeartbeats 2000000 in
set_option maxRecDepth 60000 in
theorem refSameC_any (n f l N : Int) (a : Option Addr) (len cap : Nat) (bs : List Nat) (n2 f2 l2 N2 : Int) (a2 : Option Addr) (len2 cap2 : Nat) (cs : List Nat) (w : World) (h : ByAt w a len cap bs) (h2 : ByAt w a2 len2 cap2 cs) :
    Calls Tryd.prog 12 #[.agg #[.int .i64 n, .int .i64 f, .int .i64 l, .slice a len cap, .int .i64 N], .agg #[.int .i64 n2, .int .i64 f2, .int .i64 l2, .slice a2 len2 cap2, .int .i64 N2]] w fun e w' => e = .returned (.bool (eqC n f l n2 f2 l2 (sameP bs cs N N2))) ∧ Below w.heap.size w w' := by
  have hb1 := below_alloc w (.cells #[.int .i64 n, .int .i64 f, .int .i64 l, .slice a len cap, .int .i64 N] 28)
  have hb2 := below_alloc (w.alloc (.cells #[.int .i64 n, .int .i64 f, .int .i64 l, .slice a len cap, .int .i64 N] 28)) (.cells #[.int .i64 n2, .int .i64 f2, .int .i64 l2, .slice a2 len2 cap2, .int .i64 N2] 28)
  have HB := Hid.mk9 (below2 hb1 hb2)
  have HX := Hid.mk9 ((B5.new w 28 (.int .i64 n) (.int .i64 f) (.int .i64 l) (.slice a len cap) (.int .i64 N)).below hb2)
  have HY := Hid.mk9 (B5.new (w.alloc (.cells #[.int .i64 n, .int .i64 f, .int .i64 l, .slice a len cap, .int .i64 N] 28)) 28 (.int .i64 n2) (.int .i64 f2) (.int .i64 l2) (.slice a2 len2 cap2) (.int .i64 N2))
  have HS := Hid.mk9 (same_any a len cap N bs a2 len2 cap2 N2 cs _ (h.below (below2 hb1 hb2)) (h2.below (below2 hb1 hb2)))
  have HE : Hid (eqC n f l n2 f2 l2 (sameP bs cs N N2) = (decide (n = n2) && (decide (f = f2) && (decide (l = l2) && sameP bs cs N N2)))) := rfl
  generalize eqC n f l n2 f2 l2 (sameP bs cs N N2) = qq at *
  generalize sameP bs cs N N2 = sq at *
  clear hb1 hb2 h h2
  go_enter Tryd.func12, Tryd.ntmps12
  go_upto_region 1 with fail
  rw [show (w.alloc (.cells #[.int .i64 n, .int .i64 f, .int .i64 l, .slice a len cap, .int .i64 N] 28)).heap.size = w.heap.size + 1 by simp] at HY
  generalize (w.alloc (.cells #[.int .i64 n, .int .i64 f, .int .i64 l, .slice a len cap, .int .i64 N] 28)).alloc (.cells #[.int .i64 n2, .int .i64 f2, .int .i64 l2, .slice a2 len2 cap2, .int .i64 N2] 28) = w1 at *
  obtain ⟨Y, hX⟩ : ∃ Y, w.heap.size = Y := ⟨_, rfl⟩
  rw [hX] at HX HY ⊢
  have HBw : Hid (Below w.heap.size w w1) := HB.out
  clear HB
  clear hX
  obtain ⟨x0, x1, x2, x3, x4⟩ := HX.out.cells
  obtain ⟨y0, y1, y2, y3, y4⟩ := HY.out.cells
  by_cases e1 : n = n2
  · subst e1
    by_cases e2 : f = f2
    · subst e2
      by_cases e3 : l = l2
      · subst e3
        have HE2 : Hid (qq = sq) := by unfold Hid; rw [HE.out]; simp
        clear HE
        go_wp2_with (go_at_call 33; refine HS.out.mono ?_; rintro e w9 ⟨rfl, hb9⟩; have HB9 := Hid.mk9 (below2 HBw.out hb9); clear hb9)
        go_ret
        exact ⟨by rw [HE2.out]; rfl, HB9.out⟩
      · have HE2 : Hid (qq = false) := by unfold Hid; rw [HE.out]; simp [e3]
        clear HE
        have g3 : (l == l2) = false := by rw [beq_eq_false_iff_ne]; exact e3
        go_wp2_with fail
        go_ret
        exact ⟨by rw [HE2.out]; rfl, HBw.out⟩
    · have HE2 : Hid (qq = false) := by unfold Hid; rw [HE.out]; simp [e2]
      clear HE
      have g3 : (f == f2) = false := by rw [beq_eq_false_iff_ne]; exact e2
      go_wp2_with fail
      go_ret
      exact ⟨by rw [HE2.out]; rfl, HBw.out⟩
  · have HE2 : Hid (qq = false) := by unfold Hid; rw [HE.out]; simp [e1]
    clear HE
    have g3 : (n == n2) = false := by rw [beq_eq_false_iff_ne]; exact e1
    go_wp2_with fail
    go_ret
    exact ⟨by rw [HE2.out]; rfl, HBw.out⟩
theorem eqC_yes (n f l : Int) (q : Bool) : eqC n f l n f l q = q := by unfold eqC; simp
set_option maxHeartbeats 1000000 in
set_option maxRecDepth 60000 in
theorem check_yesC {a : Option Addr} {len cap : Nat} {n f l N : Int} {bs : List Nat} {w : World} (h : ByAt w a len cap bs) (hT : Tab w) {ls : List Bk.Sm} (hC : ChIs ls n f l bs N) : Calls Tryd.prog 16 #[.agg #[.int .i64 n, .int .i64 f, .int .i64 l, .slice a len cap, .int .i64 N]] w fun e w' => e = .returned (.int .i64 0) ∧ Below w.heap.size w w' := by
  have HB := Hid.mk9 (below_alloc w (.cells #[.int .i64 n, .int .i64 f, .int .i64 l, .slice a len cap, .int .i64 N] 28))
  have HX := Hid.mk9 (B5.new w 28 (.int .i64 n) (.int .i64 f) (.int .i64 l) (.slice a len cap) (.int .i64 N))
  have HS := Hid.mk9 (samples_yes (h.below (below_alloc w (.cells #[.int .i64 n, .int .i64 f, .int .i64 l, .slice a len cap, .int .i64 N] 28))) (hT.below (below_alloc w (.cells #[.int .i64 n, .int .i64 f, .int .i64 l, .slice a len cap, .int .i64 N] 28))) hC)
  clear h hT hC
  go_enter Tryd.func16, Tryd.ntmps16
  go_upto_region 1 with fail
  generalize w.alloc (.cells #[.int .i64 n, .int .i64 f, .int .i64 l, .slice a len cap, .int .i64 N] 28) = w1 at *
  generalize hY : w.heap.size = Y at HX ⊢
  have HBw : Hid (Below w.heap.size w w1) := HB.out
  obtain ⟨x0, x1, x2, x3, x4⟩ := HX.out.cells
  go_wp2_with (go_at_call 13; refine HS.out.mono ?_; rintro e w9 ⟨hb9, a2, len2, cap2, rfl, _⟩; have HB9 := Hid.mk9 (below2 HBw.out hb9); clear hb9 x0 x1 x2 x3 x4)
  go_ret
  exact ⟨rfl, HB9.out⟩
set_option maxHeartbeats 1000000 in
set_option maxRecDepth 60000 in
theorem check_noC {a : Option Addr} {len cap : Nat} {n f l N : Int} {bs : List Nat} {w : World} (h : ByAt w a len cap bs) (hT : Tab w) (hC : ∀ ls, ¬ ChIs ls n f l bs N) : Calls Tryd.prog 16 #[.agg #[.int .i64 n, .int .i64 f, .int .i64 l, .slice a len cap, .int .i64 N]] w fun e w' => e = .returned (.int .i64 2) ∧ Below w.heap.size w w' := by
  have HB := Hid.mk9 (below_alloc w (.cells #[.int .i64 n, .int .i64 f, .int .i64 l, .slice a len cap, .int .i64 N] 28))
  have HX := Hid.mk9 (B5.new w 28 (.int .i64 n) (.int .i64 f) (.int .i64 l) (.slice a len cap) (.int .i64 N))
  have HS := Hid.mk9 (samples_no (h.below (below_alloc w (.cells #[.int .i64 n, .int .i64 f, .int .i64 l, .slice a len cap, .int .i64 N] 28))) (hT.below (below_alloc w (.cells #[.int .i64 n, .int .i64 f, .int .i64 l, .slice a len cap, .int .i64 N] 28))) hC)
  clear h hT hC
  go_enter Tryd.func16, Tryd.ntmps16
  go_upto_region 1 with fail
  generalize w.alloc (.cells #[.int .i64 n, .int .i64 f, .int .i64 l, .slice a len cap, .int .i64 N] 28) = w1 at *
  generalize hY : w.heap.size = Y at HX ⊢
  have HBw : Hid (Below w.heap.size w w1) := HB.out
  obtain ⟨x0, x1, x2, x3, x4⟩ := HX.out.cells
  go_wp2_with (go_at_call 13; refine HS.out.mono ?_; rintro e w9 ⟨rfl, hb9⟩; have HB9 := Hid.mk9 (below2 HBw.out hb9); clear hb9 x0 x1 x2 x3 x4)
  go_ret
  exact ⟨rfl, HB9.out⟩
end Go.Proofs.YtcdlkdbnlomghaaDoor.Gl
