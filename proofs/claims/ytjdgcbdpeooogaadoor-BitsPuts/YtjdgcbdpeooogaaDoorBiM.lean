/-
  The contract of Join.
-/
import Derived.Test.YtjdgcbdpeooogaaDoorBiJ
namespace Go.Proofs.YtjdgcbdpeooogaaDoor.Bi
open Go.ChangeShapes Go.WideShapes Go.ChangeAt Go.RowKit
theorem St.new2 (w : World) (v0 v1 b0 b1 : Value) : St w (((w.alloc (.cells #[v0, v1] 24)).alloc (.cells #[b0, b1] 24)).alloc (.cells #[.slice none 0 0, .int .i64 0] 24)) w.heap.size (w.heap.size + 2) v0 v1 (.slice none 0 0) (.int .i64 0) ∧
    B2 (((w.alloc (.cells #[v0, v1] 24)).alloc (.cells #[b0, b1] 24)).alloc (.cells #[.slice none 0 0, .int .i64 0] 24)) (w.heap.size + 1) 24 b0 b1 := by
  have s1 : (w.alloc (.cells #[v0, v1] 24)).heap.size = w.heap.size + 1 := by simp
  have s2 : ((w.alloc (.cells #[v0, v1] 24)).alloc (.cells #[b0, b1] 24)).heap.size = w.heap.size + 2 := by simp
  have h1 := B2.new (w.alloc (.cells #[v0, v1] 24)) 24 b0 b1
  rw [s1] at h1
  have h2 := B2.new ((w.alloc (.cells #[v0, v1] 24)).alloc (.cells #[b0, b1] 24)) 24 (.slice none 0 0) (.int .i64 0)
  rw [s2] at h2
  exact ⟨⟨below2 (below2 (below_alloc w _) (below_alloc _ _)) (below_alloc _ _), ((B2.new w _ _ _).below (below_alloc _ _)).below (below_alloc _ _), h2, by omega⟩, h1.below (below_alloc _ _)⟩
set_option maxHeartbeats 1000000 in
set_option maxRecDepth 60000 in
theorem join_no (a a2 : Option Addr) (len cap len2 cap2 : Nat) (N N2 : Int) (bs : List Nat) (w : World) (h : ByAt w a len cap bs) (hM : ¬ MayB bs N) : Calls Tryd.prog 12 #[.agg #[.slice a len cap, .int .i64 N], .agg #[.slice a2 len2 cap2, .int .i64 N2]] w fun e w' => BitsPost [] 1 w e w' := by
  have HL := Hid.mk9 h
  have HM := Hid.mk9 hM
  clear h hM
  have HSV := Hid.mk9 (St.new2 w (.slice a len cap) (.int .i64 N) (.slice a2 len2 cap2) (.int .i64 N2))
  go_enter Tryd.func12, Tryd.ntmps12
  go_upto_region 1 with fail
  have HS := Hid.mk9 HSV.out.1
  have HV := Hid.mk9 HSV.out.2
  clear HSV
  generalize (((w.alloc (.cells #[.slice a len cap, .int .i64 N] 24)).alloc (.cells #[.slice a2 len2 cap2, .int .i64 N2] 24)).alloc (.cells #[.slice none 0 0, .int .i64 0] 24)) = w1 at *
  obtain ⟨X, hX⟩ : ∃ X, w.heap.size = X := ⟨_, rfl⟩
  have HXw : Hid (w.heap.size = X) := Hid.mk9 hX
  rw [hX] at HS HV ⊢
  clear hX
  obtain ⟨p0, p1⟩ := HS.out.bx.cells
  obtain ⟨v0, v1⟩ := HV.out.cells
  go_wp2_with (go_at_call_of 29 a; refine (check_noB HL.out HM.out HS.out.bel).mono ?_; rintro e w2 ⟨rfl, hb2⟩; have HS2 := Hid.mk9 (HS.out.below hb2); have HV2 := Hid.mk9 (HV.out.below hb2); clear hb2 HS HV p0 p1 v0 v1; obtain ⟨p0, p1⟩ := HS2.out.bx.cells; obtain ⟨v0, v1⟩ := HV2.out.cells; obtain ⟨q0, q1⟩ := HS2.out.bY.cells; obtain ⟨f0, f1⟩ := HS2.out.bY.frz)
  have HS3 := Hid.mk9 (HS2.out.put (.slice none 0 0) (.int .i64 0))
  clear HS2
  refine bodyPost_ret (ret_2b rfl _ _ (X + 2) (.slice none 0 0) (.int .i64 0) (.int .i64 1) rfl rfl HS3.out.bY) rfl ?_
  exact BitsPost.zero HS3.out 1
set_option maxHeartbeats 1000000 in
set_option maxRecDepth 60000 in
theorem join_no2 (a a2 : Option Addr) (len cap len2 cap2 : Nat) (N N2 : Int) (bs bs2 : List Nat) (w : World) (h : ByAt w a len cap bs) (hM : MayB bs N) (h2 : ByAt w a2 len2 cap2 bs2) (hM2 : ¬ MayB bs2 N2) : Calls Tryd.prog 12 #[.agg #[.slice a len cap, .int .i64 N], .agg #[.slice a2 len2 cap2, .int .i64 N2]] w fun e w' => BitsPost [] 1 w e w' := by
  have HL := Hid.mk9 h
  have HM := Hid.mk9 hM
  have HL2 := Hid.mk9 h2
  have HM2 := Hid.mk9 hM2
  clear h hM h2 hM2
  have HSV := Hid.mk9 (St.new2 w (.slice a len cap) (.int .i64 N) (.slice a2 len2 cap2) (.int .i64 N2))
  go_enter Tryd.func12, Tryd.ntmps12
  go_upto_region 1 with fail
  have HS := Hid.mk9 HSV.out.1
  have HV := Hid.mk9 HSV.out.2
  clear HSV
  generalize (((w.alloc (.cells #[.slice a len cap, .int .i64 N] 24)).alloc (.cells #[.slice a2 len2 cap2, .int .i64 N2] 24)).alloc (.cells #[.slice none 0 0, .int .i64 0] 24)) = w1 at *
  obtain ⟨X, hX⟩ : ∃ X, w.heap.size = X := ⟨_, rfl⟩
  have HXw : Hid (w.heap.size = X) := Hid.mk9 hX
  rw [hX] at HS HV ⊢
  clear hX
  obtain ⟨p0, p1⟩ := HS.out.bx.cells
  obtain ⟨v0, v1⟩ := HV.out.cells
  go_wp2_with (first | (go_at_call_of 29 a; refine (check_yesB HL.out HM.out HS.out.bel).mono ?_; rintro e w2 ⟨rfl, hb2⟩; have HS2 := Hid.mk9 (HS.out.below hb2); have HV2 := Hid.mk9 (HV.out.below hb2); clear hb2 HS HV p0 p1 v0 v1; obtain ⟨p0, p1⟩ := HS2.out.bx.cells; obtain ⟨v0, v1⟩ := HV2.out.cells; obtain ⟨q0, q1⟩ := HS2.out.bY.cells; obtain ⟨f0, f1⟩ := HS2.out.bY.frz) | (go_at_call_of 29 a2; refine (check_noB HL2.out HM2.out HS2.out.bel).mono ?_; rintro e w2 ⟨rfl, hb2⟩; replace HS2 := Hid.mk9 (HS2.out.below hb2); replace HV2 := Hid.mk9 (HV2.out.below hb2); clear hb2 p0 p1 v0 v1 q0 q1 f0 f1; obtain ⟨p0, p1⟩ := HS2.out.bx.cells; obtain ⟨v0, v1⟩ := HV2.out.cells; obtain ⟨q0, q1⟩ := HS2.out.bY.cells; obtain ⟨f0, f1⟩ := HS2.out.bY.frz))
  have HS3 := Hid.mk9 (HS2.out.put (.slice none 0 0) (.int .i64 0))
  clear HS2
  refine bodyPost_ret (ret_2b rfl _ _ (X + 2) (.slice none 0 0) (.int .i64 0) (.int .i64 1) rfl rfl HS3.out.bY) rfl ?_
  exact BitsPost.zero HS3.out 1
set_option maxHeartbeats 1000000 in
set_option maxRecDepth 60000 in
theorem join_back (a a2 : Option Addr) (len cap len2 cap2 k k2 : Nat) (l m : List Bool) (w : World) (h : ByAt w a len cap (pack l len)) (hk : l.length = k) (hl : len = need k) (hN : k ≤ 131072) (h2 : ByAt w a2 len2 cap2 (pack m len2)) (hk2 : m.length = k2) (hl2 : len2 = need k2) (hN2 : k2 ≤ 131072) (hf : ¬ k + k2 ≤ 131072) :
    Calls Tryd.prog 12 #[.agg #[.slice a len cap, .int .i64 (k : Int)], .agg #[.slice a2 len2 cap2, .int .i64 (k2 : Int)]] w fun e w' => BitsPost l 6 w e w' := by
  have HL := Hid.mk9 h
  have HM : Hid (MayB (pack l len) (k : Int)) := by
    unfold Hid
    rw [hl, ← hk]
    exact pack_may (by omega)
  have HL2 := Hid.mk9 h2
  have HM2 : Hid (MayB (pack m len2) (k2 : Int)) := by
    unfold Hid
    rw [hl2, ← hk2]
    exact pack_may (by omega)
  have hk9 : (k : Int) ≤ 131072 := by omega
  have HF : Hid (∀ W, Calls Tryd.prog 32 #[.agg #[.slice a len cap, .int .i64 (k : Int)], .int .i64 (k2 : Int)] W fun e w' => e = .returned (.bool false) ∧ Below W.heap.size W w') := fun W => (fits_any a len cap k k2 (by omega) hk9 W).mono fun e w' h => ⟨by rw [h.1, decide_eq_false (by omega)], grown_below h.2⟩
  have Hk := Hid.mk9 hk
  have Hk2 := Hid.mk9 hk2
  have HN := Hid.mk9 hN
  have HLo : Hid (∀ W, Below w.heap.size w W → Calls Tryd.prog 31 #[.agg #[.slice a len cap, .int .i64 (k : Int)], .int .i64 0] W fun e w' => LongPost l k W e w') := fun W hb => by
    have := longer_any a len cap 0 l W (h.below hb) (by rw [hk]; exact hl) (by omega) (by decide)
    rwa [hk, Nat.add_zero] at this
  clear h hk hl hN h2 hk2 hl2 hN2 hf
  have HSV := Hid.mk9 (St.new2 w (.slice a len cap) (.int .i64 (k : Int)) (.slice a2 len2 cap2) (.int .i64 (k2 : Int)))
  go_enter Tryd.func12, Tryd.ntmps12
  go_upto_region 1 with fail
  have HS := Hid.mk9 HSV.out.1
  have HV := Hid.mk9 HSV.out.2
  clear HSV
  generalize (((w.alloc (.cells #[.slice a len cap, .int .i64 (k : Int)] 24)).alloc (.cells #[.slice a2 len2 cap2, .int .i64 (k2 : Int)] 24)).alloc (.cells #[.slice none 0 0, .int .i64 0] 24)) = w1 at *
  obtain ⟨X, hX⟩ : ∃ X, w.heap.size = X := ⟨_, rfl⟩
  have HXw : Hid (w.heap.size = X) := Hid.mk9 hX
  rw [hX] at HS HV ⊢
  clear hX
  obtain ⟨p0, p1⟩ := HS.out.bx.cells
  obtain ⟨v0, v1⟩ := HV.out.cells
  go_wp2_with (first | (go_at_call_of 29 a; refine (check_yesB HL.out HM.out HS.out.bel).mono ?_; rintro e w2 ⟨rfl, hb2⟩; have HS2 := Hid.mk9 (HS.out.below hb2); have HV2 := Hid.mk9 (HV.out.below hb2); clear hb2 HS HV p0 p1 v0 v1; obtain ⟨p0, p1⟩ := HS2.out.bx.cells; obtain ⟨v0, v1⟩ := HV2.out.cells; obtain ⟨q0, q1⟩ := HS2.out.bY.cells; obtain ⟨f0, f1⟩ := HS2.out.bY.frz) | (go_at_call_of 29 a2; refine (check_yesB HL2.out HM2.out HS2.out.bel).mono ?_; rintro e w2 ⟨rfl, hb2⟩; replace HS2 := Hid.mk9 (HS2.out.below hb2); replace HV2 := Hid.mk9 (HV2.out.below hb2); clear hb2 p0 p1 v0 v1 q0 q1 f0 f1; obtain ⟨p0, p1⟩ := HS2.out.bx.cells; obtain ⟨v0, v1⟩ := HV2.out.cells; obtain ⟨q0, q1⟩ := HS2.out.bY.cells; obtain ⟨f0, f1⟩ := HS2.out.bY.frz) | (go_at_call 32; refine (HF.out _).mono ?_; rintro e w3 ⟨rfl, hb3⟩; replace HS2 := Hid.mk9 (HS2.out.below hb3); replace HV2 := Hid.mk9 (HV2.out.below hb3); clear hb3 p0 p1 v0 v1 q0 q1 f0 f1; obtain ⟨p0, p1⟩ := HS2.out.bx.cells; obtain ⟨v0, v1⟩ := HV2.out.cells; obtain ⟨q0, q1⟩ := HS2.out.bY.cells; obtain ⟨f0, f1⟩ := HS2.out.bY.frz) | (go_at_call 31; refine (HLo.out _ HS2.out.bel).mono ?_; clear q0 q1 f0 f1; rintro e w4 ⟨hb4, g, hg4, rfl, hr4⟩; have HS4 := Hid.mk9 (HS2.out.below hb4); have HV4 := Hid.mk9 (HV2.out.below hb4); have HG4 := Hid.mk9 (And.intro hg4 hr4); have HY3 := Hid.mk9 HS2.out.bY.lt; obtain ⟨q0, q1⟩ := HS4.out.bY.cells; obtain ⟨f0, f1⟩ := HS4.out.bY.frz; clear hb4 hg4 hr4 p0 p1 v0 v1))
  have HS5 := Hid.mk9 (HS4.out.put (.slice (some ⟨g, 0, none⟩) (need k) (need k)) (.int .i64 (k : Int)))
  have HR5 := Hid.mk9 (HG4.out.2.set2 (Y := X + 2) (.slice (some ⟨g, 0, none⟩) (need k) (need k)) (.int .i64 (k : Int)) (by have := HG4.out.1; have := HY3.out; omega))
  have HGE : Hid (w.heap.size ≤ g) := Nat.le_trans HS2.out.bel.size HG4.out.1
  clear HS4 HG4 HS2
  refine bodyPost_ret (ret_2b rfl _ _ (X + 2) (.slice (some ⟨g, 0, none⟩) (need k) (need k)) (.int .i64 (k : Int)) (.int .i64 6) rfl rfl HS5.out.bY) rfl ?_
  have HP := BitsPost.of_long HS5.out.bel HGE.out HR5.out (by rw [Hk.out]) (by rw [Hk.out]; have := HN.out; omega) 6
  rw [Hk.out] at HP
  exact HP
set_option maxHeartbeats 1000000 in
set_option maxRecDepth 60000 in
theorem join_yes (a a2 : Option Addr) (len cap len2 cap2 k k2 : Nat) (l m : List Bool) (w : World) (h : ByAt w a len cap (pack l len)) (hk : l.length = k) (hl : len = need k) (hN : k ≤ 131072) (h2 : ByAt w a2 len2 cap2 (pack m len2)) (hk2 : m.length = k2) (hl2 : len2 = need k2) (hN2 : k2 ≤ 131072) (hlt : ∀ p, a2 = some p → p.block < w.heap.size) (hf : k + k2 ≤ 131072) :
    Calls Tryd.prog 12 #[.agg #[.slice a len cap, .int .i64 (k : Int)], .agg #[.slice a2 len2 cap2, .int .i64 (k2 : Int)]] w fun e w' => BitsPost (l ++ m) 0 w e w' := by
  have HL := Hid.mk9 h
  have HM : Hid (MayB (pack l len) (k : Int)) := by
    unfold Hid
    rw [hl, ← hk]
    exact pack_may (by omega)
  have HL2 := Hid.mk9 h2
  have HM2 : Hid (MayB (pack m len2) (k2 : Int)) := by
    unfold Hid
    rw [hl2, ← hk2]
    exact pack_may (by omega)
  have hk9 : (k : Int) ≤ 131072 := by omega
  have HF : Hid (∀ W, Calls Tryd.prog 32 #[.agg #[.slice a len cap, .int .i64 (k : Int)], .int .i64 (k2 : Int)] W fun e w' => e = .returned (.bool true) ∧ Below W.heap.size W w') := fun W => (fits_any a len cap k k2 (by omega) hk9 W).mono fun e w' h => ⟨by rw [h.1, decide_eq_true (by omega)], grown_below h.2⟩
  have Hk := Hid.mk9 hk
  have Hk2 := Hid.mk9 hk2
  have HN := Hid.mk9 hN
  obtain ⟨KK, hKK⟩ : ∃ KK, KK = k + k2 := ⟨_, rfl⟩
  obtain ⟨MM, hMM⟩ : ∃ MM, MM = need KK := ⟨_, rfl⟩
  have HLo : Hid (∀ W, Below w.heap.size w W → Calls Tryd.prog 31 #[.agg #[.slice a len cap, .int .i64 (k : Int)], .int .i64 k2] W fun e w' => Below W.heap.size W w' ∧ ∃ g, W.heap.size ≤ g ∧ e = .returned (.agg #[.slice (some ⟨g, 0, none⟩) MM MM, .int .i64 (KK : Int)]) ∧ Ro w' g 5 (bytV (pack l MM))) := fun W hb => by
    have := longer_any a len cap k2 l W (h.below hb) (by rw [hk]; exact hl) (by omega) (by omega)
    unfold LongPost at this
    rwa [hk, ← hKK, ← hMM] at this
  have HKK : Hid (KK = k + k2 ∧ MM = need KK ∧ k + k2 ≤ 131072 ∧ len2 = need k2 ∧ k2 ≤ 131072) := ⟨hKK, hMM, hf, hl2, hN2⟩
  have HLT := Hid.mk9 hlt
  clear h hk hl hN h2 hk2 hl2 hN2 hf hlt hKK hMM
  have HSV := Hid.mk9 (St.new2 w (.slice a len cap) (.int .i64 (k : Int)) (.slice a2 len2 cap2) (.int .i64 (k2 : Int)))
  go_enter Tryd.func12, Tryd.ntmps12
  go_upto_region 1 with fail
  have HS := Hid.mk9 HSV.out.1
  have HV := Hid.mk9 HSV.out.2
  clear HSV
  generalize (((w.alloc (.cells #[.slice a len cap, .int .i64 (k : Int)] 24)).alloc (.cells #[.slice a2 len2 cap2, .int .i64 (k2 : Int)] 24)).alloc (.cells #[.slice none 0 0, .int .i64 0] 24)) = w1 at *
  obtain ⟨X, hX⟩ : ∃ X, w.heap.size = X := ⟨_, rfl⟩
  have HXw : Hid (w.heap.size = X) := Hid.mk9 hX
  rw [hX] at HS HV ⊢
  clear hX
  obtain ⟨p0, p1⟩ := HS.out.bx.cells
  obtain ⟨v0, v1⟩ := HV.out.cells
  go_upto_region 6 with (first | (go_at_call_of 29 a; refine (check_yesB HL.out HM.out HS.out.bel).mono ?_; rintro e w2 ⟨rfl, hb2⟩; have HS2 := Hid.mk9 (HS.out.below hb2); have HV2 := Hid.mk9 (HV.out.below hb2); clear hb2 HS HV p0 p1 v0 v1; obtain ⟨p0, p1⟩ := HS2.out.bx.cells; obtain ⟨v0, v1⟩ := HV2.out.cells; obtain ⟨q0, q1⟩ := HS2.out.bY.cells; obtain ⟨f0, f1⟩ := HS2.out.bY.frz) | (go_at_call_of 29 a2; refine (check_yesB HL2.out HM2.out HS2.out.bel).mono ?_; rintro e w2 ⟨rfl, hb2⟩; replace HS2 := Hid.mk9 (HS2.out.below hb2); replace HV2 := Hid.mk9 (HV2.out.below hb2); clear hb2 p0 p1 v0 v1 q0 q1 f0 f1; obtain ⟨p0, p1⟩ := HS2.out.bx.cells; obtain ⟨v0, v1⟩ := HV2.out.cells; obtain ⟨q0, q1⟩ := HS2.out.bY.cells; obtain ⟨f0, f1⟩ := HS2.out.bY.frz) | (go_at_call 32; refine (HF.out _).mono ?_; rintro e w3 ⟨rfl, hb3⟩; replace HS2 := Hid.mk9 (HS2.out.below hb3); replace HV2 := Hid.mk9 (HV2.out.below hb3); clear hb3 p0 p1 v0 v1 q0 q1 f0 f1; obtain ⟨p0, p1⟩ := HS2.out.bx.cells; obtain ⟨v0, v1⟩ := HV2.out.cells; obtain ⟨q0, q1⟩ := HS2.out.bY.cells; obtain ⟨f0, f1⟩ := HS2.out.bY.frz) | (go_at_call 31; refine (HLo.out _ HS2.out.bel).mono ?_; rintro e w4 ⟨hb4, g, hg4, rfl, hr4⟩; have HS4 := Hid.mk9 (HS2.out.below hb4); have HV4 := Hid.mk9 (HV2.out.below hb4); have HG4 := Hid.mk9 (And.intro hg4 hr4); have HY3 := Hid.mk9 HS2.out.bY.lt; clear hb4 hg4 hr4 p0 p1 v0 v1 q0 q1 f0 f1))
  have HO := Hid.mk9 (Own.new (K := KK) HS4.out HY3.out HG4.out)
  have HV5 := Hid.mk9 (HV4.out.below (below_alloc w4 (.cells #[.slice (some ⟨g, 0, none⟩) MM MM, .int .i64 (KK : Int)] 24)))
  have HB5 := Hid.mk9 HO.out.st.bel
  have HGw : Hid (w.heap.size ≤ g) := Nat.le_trans HS2.out.bel.size HG4.out.1
  clear HS4 HY3 HG4 HV4 HS2 HV2
  generalize w4.alloc (.cells #[.slice (some ⟨g, 0, none⟩) MM MM, .int .i64 (KK : Int)] 24) = w5 at *
  generalize w4.heap.size = Z at *
  obtain ⟨p0, p1⟩ := HO.out.st.bx.cells
  obtain ⟨v0, v1⟩ := HV5.out.cells
  obtain ⟨z0, z1⟩ := HO.out.bz.cells
  have HY9 := Hid.mk9 (layAll_any g MM k 0 k2 l m a2 len2 cap2 w5 HO.out.ro Hk.out (by have := HKK.out; unfold need at this; omega) (by have := HKK.out; unfold need at this; omega) (HL2.out.below HB5.out) (fun p hp => by have := HLT.out p hp; have := HGw.out; omega) (by rw [Hk2.out]; omega) (by rw [Hk2.out]; have := HKK.out; unfold need at this; omega) (by rw [Hk2.out]; have := HKK.out; omega))
  go_upto_region 7 with (go_at_call 36; refine HY9.out.mono ?_; rintro e w6 ⟨rfl, hr6, hk6⟩; have HO6 := Hid.mk9 (HO.out.lay hr6 hk6); clear hr6 hk6 HO HY9 p0 p1 v0 v1 z0 z1)
  obtain ⟨p0, p1⟩ := HO6.out.st.bx.cells
  obtain ⟨q0, q1⟩ := HO6.out.st.bY.cells
  obtain ⟨f0, f1⟩ := HO6.out.st.bY.frz
  obtain ⟨z0, z1⟩ := HO6.out.bz.cells
  have HM9 : Hid ((m.drop 0).take k2 = m) := by unfold Hid; rw [List.drop_zero, ← Hk2.out, List.take_length]
  rw [HM9.out] at HO6
  obtain ⟨hz1, hz2⟩ := HO6.out.fin (by rw [List.length_append, Hk2.out, Hk.out]; exact HKK.out.1.symm) HKK.out.2.1 (by have := HKK.out; omega) 0
  have HZ := Hid.mk9 hz1
  have HP := Hid.mk9 hz2
  clear hz1 hz2 HO6
  go_wp2_with fail
  refine bodyPost_ret (ret_2b rfl _ _ (X + 2) (.slice (some ⟨g, 0, none⟩) MM MM) (.int .i64 (KK : Int)) (.int .i64 0) rfl rfl HZ.out) rfl ?_
  have HP2 := HP.out
  exact HP2
end Go.Proofs.YtjdgcbdpeooogaaDoor.Bi
