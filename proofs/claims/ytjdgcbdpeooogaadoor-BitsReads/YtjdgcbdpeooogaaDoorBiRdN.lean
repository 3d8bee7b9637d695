/-
  The walk of BitsReads over bits that may not be.
-/
import Derived.Test.YtjdgcbdpeooogaaDoorBiSt
import Derived.Test.YtjdgcbdpeooogaaDoorBiMy
namespace Go.Proofs.YtjdgcbdpeooogaaDoor.Bi
open Go.ChangeShapes Go.WideShapes Go.ChangeAt Go.RowKit
set_option maxHeartbeats 4000000 in
set_option maxRecDepth 60000 in
theorem reads_no (a0 : Option Addr) (len0 cap0 : Nat) (z0 : List Nat) (n0 : Int) (a1 : Option Addr) (len1 cap1 : Nat) (z1 : List (Int × Int)) (w : World) (h0 : ByAt w a0 len0 cap0 z0) (h1 : StAt w a1 len1 cap1 z1) (hT : Tab w) (hl : lightP len0 n0 = true) (hM : ¬ MayB z0 n0) : Calls Tryd.prog 4 #[.agg #[.slice a0 len0 cap0, .int .i64 n0], .slice a1 len1 cap1] w fun e w' => e = .returned (.bool true) ∧ Below w.heap.size w w' := by
  have hll := lightP_iff.1 hl
  obtain ⟨L, hL⟩ : ∃ L : List Bool, L = [] := ⟨_, rfl⟩
  have HL0 := Hid.mk9 hL
  have HMy : Hid (mayR z0 n0 = false) := mayR_no hM
  have HR0 := Hid.mk9 h0
  have HRd : Hid (∀ W, Below w.heap.size w W → Calls Tryd.prog 21 #[.agg #[.slice a0 len0 cap0, .int .i64 n0]] W fun e w' => ReadPost L W e w') := fun W hW => by
    rw [hL]
    exact read_no a0 len0 cap0 n0 z0 W (HR0.out.below hW) hM
  have HN9 : Hid (n0 ≤ 2400) := hll.2.1
  clear hll hL
  have HLt := Hid.mk9 hl
  have HB := Hid.mk9 (below_alloc w (.cells #[.slice a0 len0 cap0, .int .i64 n0] 24))
  have HX := Hid.mk9 (B2.new w 24 (.slice a0 len0 cap0) (.int .i64 n0))
  have HST := Hid.mk9 h1
  have HT := Hid.mk9 hT
  have hm1 : (len1 : Int) ≤ 9223372036854775807 := by have := Nat.le_trans h1.2.1 h1.2.2.1; unfold maxLen at this; omega
  clear h0 h1 hT hl hM
  go_enter Tryd.func4, Tryd.ntmps4
  go_upto_region 1 with fail
  generalize w.alloc (.cells #[.slice a0 len0 cap0, .int .i64 n0] 24) = w1 at *
  obtain ⟨X, hX⟩ : ∃ X, w.heap.size = X := ⟨_, rfl⟩
  rw [hX] at HX
  rw [show (.pointer (some ⟨w.heap.size, 0, none⟩) : Value) = .pointer (some ⟨X, 0, none⟩) by rw [hX]]
  clear hX
  obtain ⟨p0, p1⟩ := HX.out.cells
  go_upto_region 3 with (go_at_call 8; refine (light_any a0 len0 cap0 n0 z0 _ (HR0.out.below HB.out)).mono ?_; rintro e w2 ⟨rfl, hg2⟩; rw [HLt.out]; have HX2 := Hid.mk9 (HX.out.below (grown_below hg2)); have HB2 := Hid.mk9 (below2 HB.out (grown_below hg2)); clear hg2 p0 p1 HX HB)
  obtain ⟨p0, p1⟩ := HX2.out.cells
  go_upto_region 6 with (go_at_call 21; refine (HRd.out _ HB2.out).mono ?_; rintro e w3 ⟨hb3, p, hp3, rfl, hr3⟩; have HX3 := Hid.mk9 (HX2.out.below hb3); have HB3 := Hid.mk9 (below2 HB2.out hb3); have HP : Hid (w.heap.size ≤ p) := Nat.le_trans HB2.out.size hp3; have HR3 := Hid.mk9 hr3; clear hb3 hp3 hr3 p0 p1 HX2 HB2)
  obtain ⟨p0, p1⟩ := HX3.out.cells
  have HB4 := Hid.mk9 (below2 HB3.out (below_alloc w3 (.cells #[] 4)))
  have HX4 := Hid.mk9 (HX3.out.below (below_alloc w3 (.cells #[] 4)))
  have HR4 := Hid.mk9 (HR3.out.below (below_alloc w3 (.cells #[] 4)))
  clear HX3 HB3 HR3 p0 p1
  go_upto_region 7 with fail
  generalize w3.alloc (.cells #[] 4) = w4 at *
  obtain ⟨Y, hY⟩ : ∃ Y, w3.heap.size = Y := ⟨_, rfl⟩
  rw [show (.slice (some ⟨w3.heap.size, 0, none⟩) 0 0 : Value) = .slice (some ⟨Y, 0, none⟩) 0 0 by rw [hY]]
  clear hY
  obtain ⟨p0, p1⟩ := HX4.out.cells
  go_upto_region 9 with (go_at_call 13; refine (rmay_any a0 len0 cap0 n0 z0 _ (HR0.out.below HB4.out) HN9.out).mono ?_; rintro e w5 ⟨rfl, hg5⟩; rw [HMy.out]; have HX5 := Hid.mk9 (HX4.out.below (grown_below hg5)); have HB5 := Hid.mk9 (below2 HB4.out (grown_below hg5)); have HR5 := Hid.mk9 (HR4.out.below (grown_below hg5)); clear hg5 p0 p1 HX4 HB4 HR4)
  obtain ⟨aw, haw⟩ : ∃ aw : Option Addr, aw = some ⟨Y, 0, none⟩ := ⟨_, rfl⟩
  obtain ⟨M, hM⟩ : ∃ M : Nat, M = 0 := ⟨_, rfl⟩
  obtain ⟨cw, hcw0⟩ : ∃ cw : Nat, cw = 0 := ⟨_, rfl⟩
  have HS0 : Hid (Sit w w5 p L aw M cw 0) := ⟨HR5.out, HB5.out, by rw [HL0.out, hM, hcw0]; exact ⟨rfl, Nat.le_refl _, Nat.zero_le _, .inl rfl⟩⟩
  rw [show (.slice (some ⟨Y, 0, none⟩) 0 0 : Value) = .slice aw M cw by rw [haw, hM, hcw0]]
  have HXX := HX5
  have HM9 : Hid (M ≤ 2400) := by unfold Hid; omega
  clear hM hcw0 haw HX5 HB5 HR5 HRd HLt HMy HN9 HL0 HR0
  clear HXX
  have hcw : (cw : Int) ≤ 9223372036854775807 := by have := HS0.out.2.2.2.2.1; unfold maxLen at this; omega
  have hMc : (M : Int) ≤ (cw : Int) := by have := HS0.out.2.2.2.1; omega
  go_upto_region 10 with fail
  go_wp2_with fail
  go_loopw [7, 8] (fun tv iv wr => ∃ t' i : Nat, tv = .int .i64 (t' : Int) ∧ iv = .int .i64 (i : Int) ∧ Hid (t' ≤ M) ∧ Hid (Sit w wr p L aw M cw t')) (fun tv iv _ => 60 - (intOf iv).toNat)
  case atStart => exact ⟨0, 0, rfl, rfl, Nat.zero_le _, HS0.out⟩
  case round =>
    obtain ⟨t', i, rfl, rfl, htM, hs⟩ := hrel
    have HS := Hid.mk9 hs.out
    have htm := htM.out
    clear HS0 hs htM
    by_cases hend : i < len1 ∧ i < 60
    rotate_left
    · have HB9 := Hid.mk9 HS.out.2.1
      by_cases hi1 : i < len1
      · have i1 : (i : Int) < (len1 : Int) := by omega
        have i2 : decide ((i : Int) < 60) = false := decide_eq_false (by omega)
        clear hend hi1
        go_wp2_with (go_at_call 9; refine (awake_any _ (HT.out.below HB9.out)).mono ?_; rintro e w8 ⟨rfl, hb8⟩; have HB8 := Hid.mk9 (below2 HB9.out hb8); clear hb8)
        go_ret
        exact ⟨rfl, HB8.out⟩
      · have i1 : (len1 : Int) ≤ (i : Int) := by omega
        clear hend hi1
        go_wp2_with (go_at_call 9; refine (awake_any _ (HT.out.below HB9.out)).mono ?_; rintro e w8 ⟨rfl, hb8⟩; have HB8 := Hid.mk9 (below2 HB9.out hb8); clear hb8)
        go_ret
        exact ⟨rfl, HB8.out⟩
    have i1 : (i : Int) < (len1 : Int) := by omega
    have i2 : (i : Int) < 60 := by omega
    have i3 : (i : Int) * 2 + 1 ≤ 200 := by omega
    obtain ⟨b1, o1, rfl, hcx, hcn⟩ := step_read HST.out HS.out.2.1 (i := i) hend.1
    generalize (z1.getD i (0, 0)).1 = x at hcx
    generalize (z1.getD i (0, 0)).2 = n at hcn
    clear hend
    have m9 : (M : Int) ≤ 2400 := by have := HM9.out; omega
    go_upto_region 22 with fail
    clear hcx hcn
    by_cases hx0 : x = 0
    · have x0 : (x == 0) = true := by rw [beq_iff_eq]; exact hx0
      clear hx0
      by_cases hw : isWordP n = false
      · have HTk := Hid.mk9 (Sit.word HS.out hw)
        have HT2 := Hid.mk9 htm
        by_cases hn : n < 0
        · have d1 : decide (n < 0) = true := decide_eq_true hn
          clear hn hw
          go_upto_region 24 with (go_at_call 22; refine HTk.out.mono ?_; rintro e w6 ⟨rfl, hs6⟩; have HS6 := Hid.mk9 hs6; clear hs6)
          go_wp2_with (first | (go_at_call 27; refine (Sit.at HS6.out).mono ?_; rintro e w8 ⟨rfl, hw8⟩; obtain rfl := hw8.symm) | (go_at_call 28; refine (Sit.left HS6.out).mono ?_; rintro e w9 ⟨rfl, hs9⟩; have HS9 := Hid.mk9 hs9; clear hs9))
          exact ⟨⟨t', i + 1, rfl, by go_num, HT2.out, HS9.out⟩, by simp [intOf]; omega⟩
        · have d1 : decide (n < 0) = false := decide_eq_false hn
          have d2 : decide (64 < n) = true := by
            unfold isWordP at hw
            simp at hw
            exact decide_eq_true (by omega)
          clear hn hw
          go_upto_region 24 with (go_at_call 22; refine HTk.out.mono ?_; rintro e w6 ⟨rfl, hs6⟩; have HS6 := Hid.mk9 hs6; clear hs6)
          go_wp2_with (first | (go_at_call 27; refine (Sit.at HS6.out).mono ?_; rintro e w8 ⟨rfl, hw8⟩; obtain rfl := hw8.symm) | (go_at_call 28; refine (Sit.left HS6.out).mono ?_; rintro e w9 ⟨rfl, hs9⟩; have HS9 := Hid.mk9 hs9; clear hs9))
          exact ⟨⟨t', i + 1, rfl, by go_num, HT2.out, HS9.out⟩, by simp [intOf]; omega⟩
      obtain ⟨k, rfl, hk6⟩ : ∃ k : Nat, n = (k : Int) ∧ k ≤ 64 := by
        unfold isWordP at hw
        simp at hw
        exact ⟨n.toNat, by omega, by omega⟩
      clear hw
      have d1 : decide ((k : Int) < 0) = false := decide_eq_false (by omega)
      have d2 : decide (64 < (k : Int)) = false := decide_eq_false (by omega)
      by_cases hf : M - t' < k
      · have HTk := Hid.mk9 (Sit.few HS.out hk6 hf)
        have HT2 := Hid.mk9 htm
        have d5 : decide ((M : Int) - (t' : Int) < (k : Int)) = true := decide_eq_true (by omega)
        clear hf hk6
        go_upto_region 24 with (go_at_call 22; refine HTk.out.mono ?_; rintro e w6 ⟨rfl, hs6⟩; have HS6 := Hid.mk9 hs6; clear hs6)
        go_wp2_with (first | (go_at_call 27; refine (Sit.at HS6.out).mono ?_; rintro e w8 ⟨rfl, hw8⟩; obtain rfl := hw8.symm) | (go_at_call 28; refine (Sit.left HS6.out).mono ?_; rintro e w9 ⟨rfl, hs9⟩; have HS9 := Hid.mk9 hs9; clear hs9))
        exact ⟨⟨t', i + 1, rfl, by go_num, HT2.out, HS9.out⟩, by simp [intOf]; omega⟩
      have hf2 : t' + k ≤ M := by omega
      have HTk := Hid.mk9 (Sit.yes HS.out HP.out hk6 hf2)
      have d5 : decide ((M : Int) - (t' : Int) < (k : Int)) = false := decide_eq_false (by omega)
      have HT2 := Hid.mk9 hf2
      by_cases hk0 : 0 < k
      · obtain ⟨t2, ht2⟩ : ∃ t2, t2 = t' + k := ⟨_, rfl⟩
        have HE2 := Hid.mk9 ht2
        have e2 : (t' : Int) + (k : Int) = (t2 : Int) := by omega
        have t3 : (t2 : Int) ≤ (M : Int) := by omega
        have t4 : (t' : Int) ≤ (t2 : Int) := by omega
        have t5 : (t2 : Int) ≤ (cw : Int) := by omega
        have hcq : ¬ cw = t' := by omega
        rw [← ht2] at HTk HT2
        obtain ⟨u, hu⟩ : ∃ u, u = val (bt L) t' k := ⟨_, rfl⟩
        rw [← hu] at HTk
        obtain ⟨bw, ow, rfl, hv9⟩ := Sit.val HS.out (q := t') (k := k) hk0 hf2 hk6
        rw [← hu, ← ht2] at hv9
        have HVs : Hid (∀ W, Sit w W p L (some ⟨bw, ow, none⟩) M cw t2 → Calls Tryd.prog 23 #[.slice (some ⟨bw, ow + t', none⟩) (t2 - t') (cw - t')] W fun e w' => e = .returned (.int .u64 (u : Int)) ∧ w' = W) := fun W hW => by
          obtain ⟨b2, o2, e9, h9⟩ := Sit.val hW (q := t') (k := k) hk0 hf2 hk6
          injection e9 with e9
          injection e9 with e9 e10
          subst e9 e10
          rw [← hu, ← ht2] at h9
          exact h9
        clear hv9 hu ht2 hk0 hf hf2 hk6
        go_upto_region 24 with (go_at_call 22; refine HTk.out.mono ?_; rintro e w6 ⟨rfl, hs6⟩; have HS6 := Hid.mk9 hs6; clear hs6)
        go_wp2_with (first | (go_at_call 23; refine (HVs.out _ HS6.out).mono ?_; rintro e w8 ⟨rfl, hw8⟩; obtain rfl := hw8.symm) | (go_at_call 27; refine (Sit.at HS6.out).mono ?_; rintro e w8 ⟨rfl, hw8⟩; obtain rfl := hw8.symm) | (go_at_call 28; refine (Sit.left HS6.out).mono ?_; rintro e w9 ⟨rfl, hs9⟩; have HS9 := Hid.mk9 hs9; clear hs9))
        exact ⟨⟨t2, i + 1, rfl, by go_num, HT2.out, HS9.out⟩, by simp [intOf]; omega⟩
      obtain rfl : k = 0 := by omega
      have hz9 : (((0 : Nat)) : Int) = 0 := rfl
      rw [Nat.add_zero, show val (bt L) t' 0 = 0 from rfl] at HTk
      rw [Nat.add_zero] at HT2
      simp only [hz9] at HTk d1 d2 d5 ⊢
      clear hz9 hk0 hf hf2 hk6
      have t4 : (t' : Int) ≤ (cw : Int) := by omega
      rcases aw with _ | ⟨bw, ow, sw⟩
      · go_upto_region 24 with (go_at_call 22; refine HTk.out.mono ?_; rintro e w6 ⟨rfl, hs6⟩; have HS6 := Hid.mk9 hs6; clear hs6)
        go_wp2_with (first | (go_at_call 23; refine (value_none _ _ _ (by omega) (by omega) _).mono ?_; rintro e w8 ⟨rfl, hw8⟩; obtain rfl := hw8.symm) | (go_at_call 27; refine (Sit.at HS6.out).mono ?_; rintro e w8 ⟨rfl, hw8⟩; obtain rfl := hw8.symm) | (go_at_call 28; refine (Sit.left HS6.out).mono ?_; rintro e w9 ⟨rfl, hs9⟩; have HS9 := Hid.mk9 hs9; clear hs9))
        exact ⟨⟨t', i + 1, rfl, by go_num, HT2.out, HS9.out⟩, by simp [intOf]; omega⟩
      by_cases hcq : cw = t'
      · subst hcq
        go_upto_region 24 with (go_at_call 22; refine HTk.out.mono ?_; rintro e w6 ⟨rfl, hs6⟩; have HS6 := Hid.mk9 hs6; clear hs6)
        go_wp2_with (first | (go_at_call 23; refine (value_none _ _ _ (by omega) (by omega) _).mono ?_; rintro e w8 ⟨rfl, hw8⟩; obtain rfl := hw8.symm) | (go_at_call 27; refine (Sit.at HS6.out).mono ?_; rintro e w8 ⟨rfl, hw8⟩; obtain rfl := hw8.symm) | (go_at_call 28; refine (Sit.left HS6.out).mono ?_; rintro e w9 ⟨rfl, hs9⟩; have HS9 := Hid.mk9 hs9; clear hs9))
        exact ⟨⟨cw, i + 1, rfl, by go_num, HT2.out, HS9.out⟩, by simp [intOf]; omega⟩
      · go_upto_region 24 with (go_at_call 22; refine HTk.out.mono ?_; rintro e w6 ⟨rfl, hs6⟩; have HS6 := Hid.mk9 hs6; clear hs6)
        go_wp2_with (first | (go_at_call 23; refine (value_none _ _ _ (by omega) (by omega) _).mono ?_; rintro e w8 ⟨rfl, hw8⟩; obtain rfl := hw8.symm) | (go_at_call 27; refine (Sit.at HS6.out).mono ?_; rintro e w8 ⟨rfl, hw8⟩; obtain rfl := hw8.symm) | (go_at_call 28; refine (Sit.left HS6.out).mono ?_; rintro e w9 ⟨rfl, hs9⟩; have HS9 := Hid.mk9 hs9; clear hs9))
        exact ⟨⟨t', i + 1, rfl, by go_num, HT2.out, HS9.out⟩, by simp [intOf]; omega⟩
    by_cases hx1 : x = 1
    · have x0 : (x == 0) = false := by rw [beq_eq_false_iff_ne]; exact hx0
      have x1 : (x == 1) = true := by rw [beq_iff_eq]; exact hx1
      clear hx0 hx1
      by_cases hE : ∃ v k, NumIs L t' v k
      · obtain ⟨v, k, hv⟩ := hE
        have hin := num_in hv
        rw [HS.out.ok.2] at hin
        have HTk := Hid.mk9 (Sit.numyes HS.out HP.out (HT.out.below HS.out.2.1) hv)
        have HNv := Hid.mk9 hv
        obtain ⟨t2, ht2⟩ : ∃ t2, t2 = t' + k := ⟨_, rfl⟩
        rw [← ht2] at HTk
        have e2 : (t' : Int) + (k : Int) = (t2 : Int) := by omega
        have t3 : (t2 : Int) ≤ (M : Int) := by omega
        have HT2 : Hid (t2 ≤ M) := by unfold Hid; omega
        have k1 : 0 < k := by omega
        have k3 : (k == 0) = false := by rw [beq_eq_false_iff_ne]; omega
        have k2 : ((k : Int) == 0) = false := by rw [beq_eq_false_iff_ne]; omega
        have hlt : t' < M := by omega
        have hcq : ¬ cw = t' := by omega
        have t4 : (t' : Int) ≤ (M : Int) := by omega
        have t5 : (M : Int) ≤ (cw : Int) := by omega
        obtain ⟨bw, ow, rfl, hb9⟩ := Sit.rest HS.out (q := t') hlt
        have HVs : Hid (∀ W at9, Sit w W p L (some ⟨bw, ow, none⟩) M cw at9 → BoAt W (some ⟨bw, ow + t', none⟩) (M - t') (cw - t') (L.drop t')) := fun W at9 hW => by
          obtain ⟨b2, o2, e9, h9⟩ := Sit.rest hW (q := t') hlt
          injection e9 with e9
          injection e9 with e9 e10
          subst e9 e10
          exact h9
        have HLn : Hid (t' + (M - t') = L.length ∧ M - t' ≤ 100000) := ⟨by have := HS.out.ok; omega, by omega⟩
        clear hb9 ht2 hin hv hlt
        go_upto_region 35 with (go_at_call 24; refine HTk.out.mono ?_; rintro e w6 ⟨rfl, hs6⟩; have HS6 := Hid.mk9 hs6; clear hs6)
        go_upto_region 36 with (go_at_call 25; refine (Sit.refyes HS6.out (HVs.out _ _ HS6.out) HLn.out.1 HLn.out.2 HNv.out).mono ?_; rintro e w7 ⟨rfl, hs7⟩; have HS7 := Hid.mk9 hs7; clear hs7)
        go_wp2_with (first | (go_at_call 27; refine (Sit.at HS7.out).mono ?_; rintro e w8 ⟨rfl, hw8⟩; obtain rfl := hw8.symm) | (go_at_call 28; refine (Sit.left HS7.out).mono ?_; rintro e w9 ⟨rfl, hs9⟩; have HS9 := Hid.mk9 hs9; clear hs9))
        exact ⟨⟨t2, i + 1, rfl, by go_num, HT2.out, HS9.out⟩, by simp [intOf]; omega⟩
      have hno : ∀ v k, ¬ NumIs L t' v k := fun v k hv => hE ⟨v, k, hv⟩
      have HNo := Hid.mk9 hno
      have HTk := Hid.mk9 (Sit.numno HS.out HP.out (HT.out.below HS.out.2.1) hno)
      have HT2 := Hid.mk9 htm
      clear hE hno
      by_cases hlt : t' < M
      · have hcq : ¬ cw = t' := by omega
        have t4 : (t' : Int) ≤ (M : Int) := by omega
        have t5 : (M : Int) ≤ (cw : Int) := by omega
        obtain ⟨bw, ow, rfl, hb9⟩ := Sit.rest HS.out (q := t') hlt
        have HVs : Hid (∀ W at9, Sit w W p L (some ⟨bw, ow, none⟩) M cw at9 → BoAt W (some ⟨bw, ow + t', none⟩) (M - t') (cw - t') (L.drop t')) := fun W at9 hW => by
          obtain ⟨b2, o2, e9, h9⟩ := Sit.rest hW (q := t') hlt
          injection e9 with e9
          injection e9 with e9 e10
          subst e9 e10
          exact h9
        have HLn : Hid (t' + (M - t') = L.length ∧ M - t' ≤ 100000) := ⟨by have := HS.out.ok; omega, by omega⟩
        clear hb9 hlt
        go_upto_region 35 with (go_at_call 24; refine HTk.out.mono ?_; rintro e w6 ⟨rfl, hs6⟩; have HS6 := Hid.mk9 hs6; clear hs6)
        go_upto_region 36 with (go_at_call 25; refine (Sit.refno HS6.out (HVs.out _ _ HS6.out) HLn.out.1 HLn.out.2 HNo.out).mono ?_; rintro e w7 ⟨rfl, hs7⟩; have HS7 := Hid.mk9 hs7; clear hs7)
        go_wp2_with (first | (go_at_call 27; refine (Sit.at HS7.out).mono ?_; rintro e w8 ⟨rfl, hw8⟩; obtain rfl := hw8.symm) | (go_at_call 28; refine (Sit.left HS7.out).mono ?_; rintro e w9 ⟨rfl, hs9⟩; have HS9 := Hid.mk9 hs9; clear hs9))
        exact ⟨⟨t', i + 1, rfl, by go_num, HT2.out, HS9.out⟩, by simp [intOf]; omega⟩
      have hqm : t' = M := by omega
      have HQM := Hid.mk9 hqm
      have t4 : (t' : Int) ≤ (M : Int) := by omega
      have t5 : (M : Int) ≤ (cw : Int) := by omega
      have t6 : (t' : Int) ≤ (cw : Int) := by omega
      rcases aw with _ | ⟨bw, ow, sw⟩
      · clear hlt hqm
        go_upto_region 35 with (go_at_call 24; refine HTk.out.mono ?_; rintro e w6 ⟨rfl, hs6⟩; have HS6 := Hid.mk9 hs6; clear hs6)
        go_upto_region 36 with (go_at_call 25; refine (Sit.refno HS6.out (Sit.over HS6.out HQM.out _ _ _ (by have := HQM.out; omega) (by omega)) (by have := HQM.out; have := HS6.out.ok; omega) (by omega) HNo.out).mono ?_; rintro e w7 ⟨rfl, hs7⟩; have HS7 := Hid.mk9 hs7; clear hs7)
        go_wp2_with (first | (go_at_call 27; refine (Sit.at HS7.out).mono ?_; rintro e w8 ⟨rfl, hw8⟩; obtain rfl := hw8.symm) | (go_at_call 28; refine (Sit.left HS7.out).mono ?_; rintro e w9 ⟨rfl, hs9⟩; have HS9 := Hid.mk9 hs9; clear hs9))
        exact ⟨⟨t', i + 1, rfl, by go_num, HT2.out, HS9.out⟩, by simp [intOf]; omega⟩
      by_cases hcq : cw = t'
      · subst hcq
        clear hlt hqm
        go_upto_region 35 with (go_at_call 24; refine HTk.out.mono ?_; rintro e w6 ⟨rfl, hs6⟩; have HS6 := Hid.mk9 hs6; clear hs6)
        go_upto_region 36 with (go_at_call 25; refine (Sit.refno HS6.out (Sit.over HS6.out HQM.out _ _ _ (by have := HQM.out; omega) (by omega)) (by have := HQM.out; have := HS6.out.ok; omega) (by omega) HNo.out).mono ?_; rintro e w7 ⟨rfl, hs7⟩; have HS7 := Hid.mk9 hs7; clear hs7)
        go_wp2_with (first | (go_at_call 27; refine (Sit.at HS7.out).mono ?_; rintro e w8 ⟨rfl, hw8⟩; obtain rfl := hw8.symm) | (go_at_call 28; refine (Sit.left HS7.out).mono ?_; rintro e w9 ⟨rfl, hs9⟩; have HS9 := Hid.mk9 hs9; clear hs9))
        exact ⟨⟨cw, i + 1, rfl, by go_num, HT2.out, HS9.out⟩, by simp [intOf]; omega⟩
      · clear hlt hqm
        go_upto_region 35 with (go_at_call 24; refine HTk.out.mono ?_; rintro e w6 ⟨rfl, hs6⟩; have HS6 := Hid.mk9 hs6; clear hs6)
        go_upto_region 36 with (go_at_call 25; refine (Sit.refno HS6.out (Sit.over HS6.out HQM.out _ _ _ (by have := HQM.out; omega) (by omega)) (by have := HQM.out; have := HS6.out.ok; omega) (by omega) HNo.out).mono ?_; rintro e w7 ⟨rfl, hs7⟩; have HS7 := Hid.mk9 hs7; clear hs7)
        go_wp2_with (first | (go_at_call 27; refine (Sit.at HS7.out).mono ?_; rintro e w8 ⟨rfl, hw8⟩; obtain rfl := hw8.symm) | (go_at_call 28; refine (Sit.left HS7.out).mono ?_; rintro e w9 ⟨rfl, hs9⟩; have HS9 := Hid.mk9 hs9; clear hs9))
        exact ⟨⟨t', i + 1, rfl, by go_num, HT2.out, HS9.out⟩, by simp [intOf]; omega⟩
    have x0 : (x == 0) = false := by rw [beq_eq_false_iff_ne]; exact hx0
    have x1 : (x == 1) = false := by rw [beq_eq_false_iff_ne]; exact hx1
    clear hx0 hx1
    by_cases hn : n < 0
    · have HTk := Hid.mk9 (Sit.seekno HS.out (.inl hn))
      have HT2 := Hid.mk9 htm
      have d1 : decide (n < 0) = true := decide_eq_true hn
      clear hn
      go_upto_region 16 with (go_at_call 26; refine HTk.out.mono ?_; rintro e w6 ⟨rfl, hs6⟩; have HS6 := Hid.mk9 hs6; clear hs6)
      go_wp2_with (first | (go_at_call 27; refine (Sit.at HS6.out).mono ?_; rintro e w8 ⟨rfl, hw8⟩; obtain rfl := hw8.symm) | (go_at_call 28; refine (Sit.left HS6.out).mono ?_; rintro e w9 ⟨rfl, hs9⟩; have HS9 := Hid.mk9 hs9; clear hs9))
      exact ⟨⟨t', i + 1, rfl, by go_num, HT2.out, HS9.out⟩, by simp [intOf]; omega⟩
    have d1 : decide (n < 0) = false := decide_eq_false hn
    by_cases hm : (M : Int) < n
    · have HTk := Hid.mk9 (Sit.seekno HS.out (.inr hm))
      have HT2 := Hid.mk9 htm
      have d2 : decide ((M : Int) < n) = true := decide_eq_true hm
      clear hn hm
      go_upto_region 16 with (go_at_call 26; refine HTk.out.mono ?_; rintro e w6 ⟨rfl, hs6⟩; have HS6 := Hid.mk9 hs6; clear hs6)
      go_wp2_with (first | (go_at_call 27; refine (Sit.at HS6.out).mono ?_; rintro e w8 ⟨rfl, hw8⟩; obtain rfl := hw8.symm) | (go_at_call 28; refine (Sit.left HS6.out).mono ?_; rintro e w9 ⟨rfl, hs9⟩; have HS9 := Hid.mk9 hs9; clear hs9))
      exact ⟨⟨t', i + 1, rfl, by go_num, HT2.out, HS9.out⟩, by simp [intOf]; omega⟩
    have d2 : decide ((M : Int) < n) = false := decide_eq_false hm
    obtain ⟨t2, rfl⟩ : ∃ t2 : Nat, n = (t2 : Int) := ⟨n.toNat, by omega⟩
    have HT2 : Hid (t2 ≤ M) := by unfold Hid; omega
    have t3 : (t2 : Int) ≤ (M : Int) := by omega
    have HTk := Hid.mk9 (Sit.seekyes HS.out HP.out HT2.out)
    clear hn hm
    go_upto_region 16 with (go_at_call 26; refine HTk.out.mono ?_; rintro e w6 ⟨rfl, hs6⟩; have HS6 := Hid.mk9 hs6; clear hs6)
    go_wp2_with (first | (go_at_call 27; refine (Sit.at HS6.out).mono ?_; rintro e w8 ⟨rfl, hw8⟩; obtain rfl := hw8.symm) | (go_at_call 28; refine (Sit.left HS6.out).mono ?_; rintro e w9 ⟨rfl, hs9⟩; have HS9 := Hid.mk9 hs9; clear hs9))
    exact ⟨⟨t2, i + 1, rfl, by go_num, HT2.out, HS9.out⟩, by simp [intOf]; omega⟩
end Go.Proofs.YtjdgcbdpeooogaaDoor.Bi
