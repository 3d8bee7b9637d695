/-
  The contract of numberAt.
-/
import Derived.Test.YtcdlkdbnlomghaaDoorBiO
import Derived.Test.YtcdlkdbnlomghaaDoorBiK
namespace Go.Proofs.YtcdlkdbnlomghaaDoor.Bi
open Go.ChangeShapes Go.WideShapes Go.ChangeAt Go.RowKit
/-- the number v, of k bits, stands at a bit -/
def NumIs (l : List Bool) (at' : Nat) (v : Int) (k : Nat) : Prop := ∃ c, clsIs l at' c ∧ at' + szT c ≤ l.length ∧ k = szT c ∧ clsU (val (bt l) (at' + hdT c) (wdT c)) = c ∧ v = gatherN (val (bt l) (at' + hdT c) (wdT c))
theorem clsIs_one {l : List Bool} {at' c d : Nat} (h : clsIs l at' c) (k : clsIs l at' d) : c = d := by
  rcases Nat.lt_trichotomy c d with h1 | h1 | h1
  · exact absurd h.2.1 (k.2.2 c h1)
  · exact h1
  · exact absurd k.2.1 (h.2.2 d h1)
theorem num_one {l : List Bool} {at' k m : Nat} {v x : Int} (h : NumIs l at' v k) (g : NumIs l at' x m) : v = x ∧ k = m := by
  obtain ⟨c, h1, _, h3, _, h5⟩ := h
  obtain ⟨d, g1, _, g3, _, g5⟩ := g
  obtain rfl := clsIs_one h1 g1
  exact ⟨h5.trans g5.symm, h3.trans g3.symm⟩
theorem val_inU {l : List Bool} {at' n : Nat} (h : n ≤ 64) : inU (val (bt l) at' n) := by
  unfold inU
  have h1 := val_lt (bt_lt l) at' n
  have h2 : 2 ^ n ≤ 18446744073709551616 := Nat.le_trans (Nat.pow_le_pow_right (by decide) h) (by decide)
  omega
def NumPost (l : List Bool) (at' : Nat) (w : World) (e : Ending) (w' : World) : Prop := Grown w w' ∧ ((∃ (v : Int) (k : Nat), e = .returned (.tuple #[.int .i64 v, .int .i64 (k : Int), .bool true]) ∧ NumIs l at' v k) ∨ (e = .returned (.tuple #[.int .i64 0, .int .i64 0, .bool false]) ∧ ∀ v k, ¬ NumIs l at' v k))
set_option maxHeartbeats 1000000 in
set_option maxRecDepth 60000 in
theorem numberAt_none (a : Option Addr) (len cap k at' : Nat) (l : List Bool) (w : World) (h : ByAt w a len cap (pack l len)) (hk : l.length = k) (hl : len = need k) (hN : k ≤ 131072) (ha : at' ≤ k) (hT : Tab w) (hC : Calls Tryd.prog 83 #[.agg #[.slice a len cap, .int .i64 (k : Int)], .int .i64 at'] (w.alloc (.cells #[.slice a len cap, .int .i64 (k : Int)] 26)) fun e w' => e = .returned (.tuple #[.int .i64 0, .bool false]) ∧ Grown (w.alloc (.cells #[.slice a len cap, .int .i64 (k : Int)] 26)) w') (hno : ∀ v k, ¬ NumIs l at' v k) :
    Calls Tryd.prog 76 #[.agg #[.slice a len cap, .int .i64 (k : Int)], .int .i64 at'] w fun e w' => NumPost l at' w e w' := by
  have HL : Hid (l.length = k ∧ len = need k ∧ k ≤ 131072 ∧ at' ≤ k) := ⟨hk, hl, hN, ha⟩
  have hk9 : (k : Int) ≤ 131072 := by omega
  have HG1 := Hid.mk9 (grown_alloc w (.cells #[.slice a len cap, .int .i64 (k : Int)] 26))
  have HX := Hid.mk9 (B2.new w 26 (.slice a len cap) (.int .i64 (k : Int)))
  have HR := Hid.mk9 (h.below (below_alloc w (.cells #[.slice a len cap, .int .i64 (k : Int)] 26)))
  have HT := Hid.mk9 (hT.below (below_alloc w (.cells #[.slice a len cap, .int .i64 (k : Int)] 26)))
  have HC : Hid (Calls Tryd.prog 83 #[.agg #[.slice a len cap, .int .i64 (k : Int)], .int .i64 at'] (w.alloc (.cells #[.slice a len cap, .int .i64 (k : Int)] 26)) fun e w' => e = .returned (.tuple #[.int .i64 0, .bool false]) ∧ Grown (w.alloc (.cells #[.slice a len cap, .int .i64 (k : Int)] 26)) w') := hC
  have HNO := Hid.mk9 hno
  clear h hk hl hN ha hT hC hno
  go_enter Tryd.func76, Tryd.ntmps76
  go_upto_region 1 with fail
  generalize w.alloc (.cells #[.slice a len cap, .int .i64 (k : Int)] 26) = w1 at *
  generalize w.heap.size = X at *
  obtain ⟨p0, p1⟩ := HX.out.cells
  go_wp2_with (go_at_call 83; refine HC.out.mono ?_; rintro e w2 ⟨rfl, hg2⟩; have HG2 := Hid.mk9 (grown2 HG1.out hg2); have HB2 := Hid.mk9 (grown_below hg2); clear hg2 p0 p1)
  refine wp_region_QW mixed5 (by kernel_rfl) ?_
  repeat (refine QW_step (fun K hK => ?_); go_simp; first | (refine hK _ ?_; clear hK K) | (apply Exists.intro; refine ⟨fun _ => ?_, hK _ ?_⟩; fail; clear hK K))
  refine QW_nil ?_
  intro _ hw9
  obtain ⟨⟨nq, osq⟩, hw8⟩ := hw9
  subst hw8
  go_wp2_with fail
  go_ret3
  exact ⟨grown2 HG2.out ⟨nq, osq, rfl⟩, .inr ⟨rfl, HNO.out⟩⟩
set_option maxHeartbeats 1000000 in
set_option maxRecDepth 60000 in
theorem numberAt_some (a : Option Addr) (len cap k at' : Nat) (l : List Bool) (w : World) (h : ByAt w a len cap (pack l len)) (hk : l.length = k) (hl : len = need k) (hN : k ≤ 131072) (ha : at' ≤ k) (hT : Tab w) (c : Nat) (hC : Calls Tryd.prog 83 #[.agg #[.slice a len cap, .int .i64 (k : Int)], .int .i64 at'] (w.alloc (.cells #[.slice a len cap, .int .i64 (k : Int)] 26)) fun e w' => e = .returned (.tuple #[.int .i64 (c : Int), .bool true]) ∧ Grown (w.alloc (.cells #[.slice a len cap, .int .i64 (k : Int)] 26)) w') (hcl : clsIs l at' c) :
    Calls Tryd.prog 76 #[.agg #[.slice a len cap, .int .i64 (k : Int)], .int .i64 at'] w fun e w' => NumPost l at' w e w' := by
  have HL : Hid (l.length = k ∧ len = need k ∧ k ≤ 131072 ∧ at' ≤ k) := ⟨hk, hl, hN, ha⟩
  have hk9 : (k : Int) ≤ 131072 := by omega
  have HG1 := Hid.mk9 (grown_alloc w (.cells #[.slice a len cap, .int .i64 (k : Int)] 26))
  have HX := Hid.mk9 (B2.new w 26 (.slice a len cap) (.int .i64 (k : Int)))
  have HR := Hid.mk9 (h.below (below_alloc w (.cells #[.slice a len cap, .int .i64 (k : Int)] 26)))
  have HT := Hid.mk9 (hT.below (below_alloc w (.cells #[.slice a len cap, .int .i64 (k : Int)] 26)))
  have HC : Hid (Calls Tryd.prog 83 #[.agg #[.slice a len cap, .int .i64 (k : Int)], .int .i64 at'] (w.alloc (.cells #[.slice a len cap, .int .i64 (k : Int)] 26)) fun e w' => e = .returned (.tuple #[.int .i64 (c : Int), .bool true]) ∧ Grown (w.alloc (.cells #[.slice a len cap, .int .i64 (k : Int)] 26)) w') := hC
  have hlt := hcl.1
  have HLT := Hid.mk9 hlt
  have e1 : (c : Int) < 5 := by omega
  obtain ⟨hv, hhv⟩ : ∃ hv, hvT c = hv := ⟨_, rfl⟩
  obtain ⟨hd, hhd⟩ : ∃ hd, hdT c = hd := ⟨_, rfl⟩
  obtain ⟨wd, hwd⟩ : ∃ wd, wdT c = wd := ⟨_, rfl⟩
  obtain ⟨sz, hsz⟩ : ∃ sz, sz = hd + wd := ⟨_, rfl⟩
  have hd9 : (hd : Int) ≤ 4 := by have := hdT_small hlt; omega
  have wd9 : (wd : Int) ≤ 64 := by have := wdT_small hlt; omega
  have hd0 : 0 < hd := by rw [← hhd]; rcases c with _ | _ | _ | _ | _ | c <;> first | decide | omega
  have sz9 : (sz : Int) ≤ 1000 := by omega
  have HHV : Hid (hvT c = hv ∧ hdT c = hd ∧ wdT c = wd ∧ sz = hd + wd) := ⟨hhv, hhd, hwd, hsz⟩
  have HSZ : Hid (szT c = sz) := by unfold Hid szT; rw [hhd, hwd, hsz]
  have HZ : Hid (∀ W, Calls Tryd.prog 70 #[.agg #[.int .u64 (hv : Int), .int .i64 (hd : Int), .int .i64 (wd : Int)]] W fun e w' => e = .returned (.int .i64 (sz : Int)) ∧ Grown W w') := fun W => by
    have := size_any (hv : Int) hd wd (by omega) (by omega) W
    rwa [← hsz] at this
  have HCL := Hid.mk9 hcl
  by_cases hfit : at' + sz ≤ k
  rotate_left
  · have HH : Hid (∀ W, Calls Tryd.prog 84 #[.agg #[.slice a len cap, .int .i64 (k : Int)], .int .i64 at', .int .i64 sz] W fun e w' => e = .returned (.bool false) ∧ Grown W w') := fun W => by
      have := has_nat a len cap k at' sz hk9 sz9 (by omega) W
      rwa [decide_eq_false (by omega)] at this
    have HNO : Hid (∀ v m, ¬ NumIs l at' v m) := by
      rintro v m ⟨d, g1, g2, _⟩
      obtain rfl := clsIs_one HCL.out g1
      rw [HSZ.out, HL.out.1] at g2
      exact hfit g2
    clear h hk hl hN ha hT hC hcl hlt hhv hhd hwd hsz hfit
    go_enter Tryd.func76, Tryd.ntmps76
    go_upto_region 1 with fail
    generalize w.alloc (.cells #[.slice a len cap, .int .i64 (k : Int)] 26) = w1 at *
    generalize w.heap.size = X at *
    obtain ⟨p0, p1⟩ := HX.out.cells
    go_wp2_with (go_at_call 83; refine HC.out.mono ?_; rintro e w2 ⟨rfl, hg2⟩; have HG2 := Hid.mk9 (grown2 HG1.out hg2); have HB2 := Hid.mk9 (grown_below hg2); clear hg2 p0 p1)
    have HX2 := Hid.mk9 (HX.out.below HB2.out)
    have HT2 := Hid.mk9 (HT.out.below HB2.out)
    obtain ⟨y0, y1⟩ := HX2.out.cells
    have x0 := cell_grown (a := ⟨X, 0, none⟩) HX2.out.lt y0
    have x1 := cell_grown (a := ⟨X, 1, none⟩) HX2.out.lt y1
    obtain ⟨t1, t2, t3⟩ := HT2.out c HLT.out
    rw [HHV.out.1] at t1
    rw [HHV.out.2.1] at t2
    rw [HHV.out.2.2.1] at t3
    have x2 := cell_grown (a := ⟨0, c * 3, none⟩) HT2.out.lt t1
    have x3 := cell_grown (a := ⟨0, c * 3 + 1, none⟩) HT2.out.lt t2
    have x4 := cell_grown (a := ⟨0, c * 3 + 2, none⟩) HT2.out.lt t3
    clear y0 y1 t1 t2 t3
    refine wp_region_QW mixed5 (by kernel_rfl) ?_
    repeat (refine QW_step (fun K hK => ?_); go_simp; first | (refine hK _ ?_; clear hK K) | (apply Exists.intro; refine ⟨fun _ => ?_, hK _ ?_⟩; (first | (go_at_call 70; refine Calls.grown_of (HZ.out _)) | (go_at_call 84; refine Calls.grown_of (HH.out _))); clear hK K))
    refine QW_nil ?_
    intro _ hw9
    obtain ⟨⟨nq, osq⟩, hw8⟩ := hw9
    subst hw8
    go_wp2_with fail
    go_ret3
    exact ⟨grown2 HG2.out ⟨nq, osq, rfl⟩, .inr ⟨rfl, HNO.out⟩⟩
  obtain ⟨b, hb⟩ : ∃ b, b = at' + hd := ⟨_, rfl⟩
  obtain ⟨u, hu⟩ : ∃ u, u = val (bt l) (at' + hd) wd := ⟨_, rfl⟩
  have huI : inU u := by rw [hu]; exact val_inU (by omega)
  have HW : Hid (∀ W, Below w.heap.size w W → Calls Tryd.prog 77 #[.slice a len cap, .int .i64 b, .int .i64 wd] W fun e w' => e = .returned (.int .u64 (u : Int)) ∧ w' = W) := fun W hb9 => by
    have := word_any a len cap b wd l W (h.below hb9) (by have h1 := hl; unfold need at h1; omega) (by omega) (by omega)
    rwa [show val (bt l) b wd = u by rw [hu, hb]] at this
  have HLe : Hid (∀ W, Below w.heap.size w W → Calls Tryd.prog 82 #[.int .u64 (u : Int)] W fun e w' => e = .returned (.int .i64 ((clsU u : Nat) : Int)) ∧ w' = W) := fun W hb9 => least_any u huI W (hT.below hb9)
  have HGa : Hid (∀ W, Calls Tryd.prog 85 #[.int .u64 (u : Int)] W fun e w' => e = .returned (.int .i64 (gatherN u)) ∧ Grown W w') := fun W => (gather_any u huI W).mono fun e w' h => ⟨h.1, h.2 ▸ grown_refl W⟩
  have HU : Hid (u = val (bt l) (at' + hdT c) (wdT c)) := by unfold Hid; rw [hhd, hwd]; exact hu
  have e3 : (at' : Int) + (hd : Int) = (b : Int) := by omega
  have e4 : (b : Int) ≤ 1000000 := by omega
  have HH : Hid (∀ W, Calls Tryd.prog 84 #[.agg #[.slice a len cap, .int .i64 (k : Int)], .int .i64 at', .int .i64 sz] W fun e w' => e = .returned (.bool true) ∧ Grown W w') := fun W => by
    have := has_nat a len cap k at' sz hk9 sz9 (by omega) W
    rwa [decide_eq_true (by omega)] at this
  have HF : Hid (at' + szT c ≤ l.length) := by unfold Hid; rw [HSZ.out, HL.out.1]; exact hfit
  obtain ⟨d, hdd⟩ : ∃ d, d = clsU u := ⟨_, rfl⟩
  rw [← hdd] at HLe
  obtain ⟨v, hvv⟩ : ∃ v, v = gatherN u := ⟨_, rfl⟩
  rw [← hvv] at HGa
  have HD : Hid (d = clsU u ∧ v = gatherN u) := ⟨hdd, hvv⟩
  have HBw := Hid.mk9 (below_alloc w (.cells #[.slice a len cap, .int .i64 (k : Int)] 26))
  clear h hk hl hN ha hT hC hcl hlt hhv hhd hwd hsz hfit hb hu huI hdd hvv hd0
  go_enter Tryd.func76, Tryd.ntmps76
  go_upto_region 1 with fail
  generalize w.alloc (.cells #[.slice a len cap, .int .i64 (k : Int)] 26) = w1 at *
  obtain ⟨X, hX⟩ : ∃ X, X = w.heap.size := ⟨_, rfl⟩
  rw [← hX] at HX ⊢
  clear hX
  obtain ⟨p0, p1⟩ := HX.out.cells
  go_wp2_with (go_at_call 83; refine HC.out.mono ?_; rintro e w2 ⟨rfl, hg2⟩; have HG2 := Hid.mk9 (grown2 HG1.out hg2); have HB2 := Hid.mk9 (grown_below hg2); clear hg2 p0 p1)
  have HX2 := Hid.mk9 (HX.out.below HB2.out)
  have HT2 := Hid.mk9 (HT.out.below HB2.out)
  have HBw2 := Hid.mk9 (below2 HBw.out HB2.out)
  obtain ⟨y0, y1⟩ := HX2.out.cells
  have x0 := cell_grown (a := ⟨X, 0, none⟩) HX2.out.lt y0
  have x1 := cell_grown (a := ⟨X, 1, none⟩) HX2.out.lt y1
  obtain ⟨t1, t2, t3⟩ := HT2.out c HLT.out
  rw [HHV.out.1] at t1
  rw [HHV.out.2.1] at t2
  rw [HHV.out.2.2.1] at t3
  have x2 := cell_grown (a := ⟨0, c * 3, none⟩) HT2.out.lt t1
  have x3 := cell_grown (a := ⟨0, c * 3 + 1, none⟩) HT2.out.lt t2
  have x4 := cell_grown (a := ⟨0, c * 3 + 2, none⟩) HT2.out.lt t3
  clear y0 y1 t1 t2 t3
  refine wp_region_QW mixed5 (by kernel_rfl) ?_
  repeat (refine QW_step (fun K hK => ?_); go_simp; first | (refine hK _ ?_; clear hK K) | (apply Exists.intro; refine ⟨fun _ => ?_, hK _ ?_⟩; (first | (go_at_call 70; refine Calls.grown_of (HZ.out _)) | (go_at_call 84; refine Calls.grown_of (HH.out _))); clear hK K))
  refine QW_nil ?_
  intro _ hw9
  obtain ⟨⟨nq, osq⟩, hw8⟩ := hw9
  subst hw8
  have HX3 := Hid.mk9 (HX2.out.below (below_grow w2 nq osq))
  have HT3 := Hid.mk9 (HT2.out.below (below_grow w2 nq osq))
  have HB3 := Hid.mk9 (below2 HBw2.out (below_grow w2 nq osq))
  have HG3 : Hid (Grown w (Go.Sort.grow (w2.drewN nq) osq)) := grown2 HG2.out ⟨nq, osq, rfl⟩
  clear x0 x1 x2 x3 x4 HX2 HT2 HX HT HBw HBw2 HG2 HB2 HG1 HR
  generalize Go.Sort.grow (w2.drewN nq) osq = w3 at *
  obtain ⟨t1, t2, t3⟩ := HT3.out c HLT.out
  rw [HHV.out.1] at t1
  rw [HHV.out.2.1] at t2
  rw [HHV.out.2.2.1] at t3
  go_upto_region 5 with fail
  have HX4 := Hid.mk9 (HX3.out.below (below_alloc w3 (.cells #[.int .u64 (hv : Int), .int .i64 (hd : Int), .int .i64 (wd : Int)] 120)))
  have HB4 := Hid.mk9 (below2 HB3.out (below_alloc w3 (.cells #[.int .u64 (hv : Int), .int .i64 (hd : Int), .int .i64 (wd : Int)] 120)))
  have HG4 := Hid.mk9 (grown2 HG3.out (grown_alloc w3 (.cells #[.int .u64 (hv : Int), .int .i64 (hd : Int), .int .i64 (wd : Int)] 120)))
  have HQ4 := Hid.mk9 (B3.new w3 120 (.int .u64 (hv : Int)) (.int .i64 (hd : Int)) (.int .i64 (wd : Int)))
  clear HX3 HB3 HG3 HT3 t1 t2 t3
  generalize w3.alloc (.cells #[.int .u64 (hv : Int), .int .i64 (hd : Int), .int .i64 (wd : Int)] 120) = w4 at *
  generalize w3.heap.size = Qb at *
  obtain ⟨p0, p1⟩ := HX4.out.cells
  obtain ⟨s0, s1, s2⟩ := HQ4.out.cells
  have x2 := cell_grown (a := ⟨Qb, 0, none⟩) HQ4.out.lt s0
  have x3 := cell_grown (a := ⟨Qb, 1, none⟩) HQ4.out.lt s1
  have x4 := cell_grown (a := ⟨Qb, 2, none⟩) HQ4.out.lt s2
  by_cases hcd : d = c
  · have HY : Hid (NumIs l at' v sz) := ⟨c, HCL.out, HF.out, HSZ.out.symm, by rw [← HU.out, ← HD.out.1]; exact hcd, by rw [← HU.out]; exact HD.out.2⟩
    have e9 : ((d : Int) != (c : Int)) = false := by rw [bne_eq_false_iff_eq]; omega
    clear hcd
    go_wp2_with (first | (go_at_call 77; refine (HW.out _ HB4.out).mono ?_; rintro e w9 ⟨rfl, hw9⟩; obtain rfl := hw9.symm) | (go_at_call 82; refine (HLe.out _ HB4.out).mono ?_; rintro e w9 ⟨rfl, hw9⟩; obtain rfl := hw9.symm))
    refine wp_region_QW mixed5 (by kernel_rfl) ?_
    repeat (refine QW_step (fun K hK => ?_); go_simp; first | (refine hK _ ?_; clear hK K) | (apply Exists.intro; refine ⟨fun _ => ?_, hK _ ?_⟩; (first | (go_at_call 70; refine Calls.grown_of (HZ.out _)) | (go_at_call 85; refine Calls.grown_of (HGa.out _))); clear hK K))
    refine QW_nil ?_
    intro _ hw9
    obtain ⟨⟨nq, osq⟩, hw8⟩ := hw9
    subst hw8
    go_wp2_with fail
    go_ret3
    exact ⟨grown2 HG4.out ⟨nq, osq, rfl⟩, .inl ⟨v, sz, rfl, HY.out⟩⟩
  · have HNO : Hid (∀ v m, ¬ NumIs l at' v m) := by
      rintro x m ⟨y, g1, _, _, g4, _⟩
      obtain rfl := clsIs_one HCL.out g1
      rw [← HU.out, ← HD.out.1] at g4
      exact hcd g4
    have e9 : ((d : Int) != (c : Int)) = true := by rw [bne_iff_ne]; omega
    clear hcd
    go_wp2_with (first | (go_at_call 77; refine (HW.out _ HB4.out).mono ?_; rintro e w9 ⟨rfl, hw9⟩; obtain rfl := hw9.symm) | (go_at_call 82; refine (HLe.out _ HB4.out).mono ?_; rintro e w9 ⟨rfl, hw9⟩; obtain rfl := hw9.symm))
    go_ret3
    exact ⟨HG4.out, .inr ⟨rfl, HNO.out⟩⟩
end Go.Proofs.YtcdlkdbnlomghaaDoor.Bi
