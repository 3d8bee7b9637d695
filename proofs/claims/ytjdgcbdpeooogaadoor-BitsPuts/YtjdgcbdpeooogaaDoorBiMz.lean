/-
  Join, where the second may be of no bits and lie anywhere.
-/
import Derived.Test.YtjdgcbdpeooogaaDoorBiM
namespace Go.Proofs.YtjdgcbdpeooogaaDoor.Bi
open Go.ChangeShapes Go.WideShapes Go.ChangeAt Go.RowKit
set_option maxHeartbeats 1000000 in
set_option maxRecDepth 60000 in
theorem layAll_any2 (g M at' st n : Nat) (l m : List Bool) (x : Option Addr) (len cap : Nat) (w : World) (h : Ro w g 5 (bytV (pack l M))) (ha : l.length = at') (hl : at' + n ≤ 8 * M) (hM : M ≤ 100000)
    (hx : ByAt w x len cap (pack m len)) (hne : n = 0 ∨ ∀ p, x = some p → p.block ≠ g) (hm : st + n ≤ m.length) (hml : m.length ≤ 8 * len) (hm9 : m.length ≤ 200000) :
    Calls Tryd.prog 36 #[.slice (some ⟨g, 0, none⟩) M M, .int .i64 at', .slice x len cap, .int .i64 st, .int .i64 n] w fun e w' => LayPost g M (l ++ (m.drop st).take n) w e w' := by
  have H := Hid.mk9 h
  have HL := Hid.mk9 hl
  have HM := Hid.mk9 hM
  have HA := Hid.mk9 ha
  have HX := Hid.mk9 hx
  have HNE := Hid.mk9 hne
  have HMM := Hid.mk9 hm
  have HML := Hid.mk9 hml
  have HM9 := Hid.mk9 hm9
  clear h hl hM ha hx hne hm hml hm9
  go_enter Tryd.func36, Tryd.ntmps36
  go_wp2
  go_loopw [10] (fun i wr => ∃ k : Nat, i = .int .i64 (k : Int) ∧ Hid (k ≤ n + 64) ∧ Hid (Ro wr g 5 (bytV (pack (l ++ (m.drop st).take (min k n)) M)) ∧ KeepR g w wr)) (fun i _ => n + 64 - (intOf i).toNat)
  case atStart => exact ⟨0, rfl, by unfold Hid; omega, by simpa using H.out, KeepR.refl _ _⟩
  case round =>
    obtain ⟨k, rfl, hk, hw⟩ := hrel
    by_cases hlt : k < n
    · obtain ⟨s, hs⟩ : ∃ s, s = min 64 (n - k) := ⟨_, rfl⟩
      obtain ⟨p, hp⟩ : ∃ p, p = at' + k := ⟨_, rfl⟩
      obtain ⟨q, hq⟩ : ∃ q, q = st + k := ⟨_, rfl⟩
      have hL := HL.out
      have hM9 := HM9.out
      have hMM := HMM.out
      have hM := HM.out
      have hML := HML.out
      have e1 : min (64 : Int) ((n : Int) - (k : Int)) = (s : Int) := by omega
      have e2 : (at' : Int) + (k : Int) = (p : Int) := by omega
      have e3 : (st : Int) + (k : Int) = (q : Int) := by omega
      have e4 : (k : Int) < (n : Int) := by omega
      have e5 : (p : Int) ≤ 10000000 := by omega
      have e6 : (q : Int) ≤ 10000000 := by omega
      have e7 : (n : Int) ≤ 10000000 := by omega
      have hmin : min k n = k := by omega
      rw [hmin] at hw
      have HC1 := Hid.mk9 (word_any x len cap q s m wr (byAt_keep HX.out hw.out.2 (HNE.out.resolve_left (by omega))) (by omega) (by omega) (by omega))
      have HC2 := Hid.mk9 (lay_any g M s (val (bt m) q s) p (l ++ (m.drop st).take k) wr hw.out.1 (by rw [List.length_append, HA.out, hp]; simp; omega) (by omega) hM (by omega))
      have HE : Hid (l ++ (m.drop st).take k ++ low (val (bt m) q s) s = l ++ (m.drop st).take (min (k + 64) n)) := by
        unfold Hid
        rw [low_piece (by omega), hq, List.append_assoc, take_more]
        by_cases h64 : k + 64 ≤ n
        · rw [show s = 64 by omega, show min (k + 64) n = k + 64 by omega]
        · rw [show k + s = n by omega, show min (k + 64) n = n by omega]
      rw [HE.out] at HC2
      have HK := Hid.mk9 hw.out.2
      generalize val (bt m) q s = V at *
      have HLT := Hid.mk9 hlt
      clear hL hM9 hMM hM hML hmin hw hs hp hq HE hlt
      go_wp2_with (first | (go_at_call 41; refine HC1.out.mono ?_; rintro e w9 ⟨rfl, hw9⟩; obtain rfl := hw9.symm) | (go_at_call 33; refine HC2.out.mono ?_; rintro e w9 ⟨rfl, hr9, hk9⟩; have HR9 := Hid.mk9 hr9; have HK9 := Hid.mk9 (HK.out.trans hk9); clear hr9 hk9))
      exact ⟨⟨k + 64, by go_num, by have := HLT.out; unfold Hid; omega, HR9.out, HK9.out⟩, by simp [intOf]; have := HLT.out; omega⟩
    · have e4 : (n : Int) ≤ (k : Int) := by omega
      have HE : Hid (LayPost g M (l ++ (m.drop st).take n) w (.returned (.tuple #[])) wr) := ⟨rfl, by have := hw.out.1; rwa [show min k n = n by omega] at this, hw.out.2⟩
      clear hw hlt
      go_wp2_with fail
      first | go_end0 | refine bodyPost_ret (results_none rfl _ _ _) rfl ?_
      exact HE.out
set_option maxHeartbeats 1000000 in
set_option maxRecDepth 60000 in
theorem join_yes2 (a a2 : Option Addr) (len cap len2 cap2 k k2 : Nat) (l m : List Bool) (w : World) (h : ByAt w a len cap (pack l len)) (hk : l.length = k) (hl : len = need k) (hN : k ≤ 131072) (h2 : ByAt w a2 len2 cap2 (pack m len2)) (hk2 : m.length = k2) (hl2 : len2 = need k2) (hN2 : k2 ≤ 131072) (hlt : k2 = 0 ∨ ∀ p, a2 = some p → p.block < w.heap.size) (hf : k + k2 ≤ 131072) :
    Calls Tryd.prog 12 #[.agg #[.slice a len cap, .int .i64 (k : Int)], .agg #[.slice a2 len2 cap2, .int .i64 (k2 : Int)]] w fun e w' => BitsPost (l ++ m) 0 w e w' := by
  have HL := Hid.mk9 h
  have HM : Hid (MayB (pack l len) (k : Int)) := by
    unfold Hid
    rw [hl, ← hk]
    exact pack_may (by omega)
  have HL2 := Hid.mk9 h2
  have HM2 : Hid (MayB (pack m len2) (k2 : Int)) := by
    unfold Hid
    rw [hl2, ← hk2]
    exact pack_may (by omega)
  have hk9 : (k : Int) ≤ 131072 := by omega
  have HF : Hid (∀ W, Calls Tryd.prog 32 #[.agg #[.slice a len cap, .int .i64 (k : Int)], .int .i64 (k2 : Int)] W fun e w' => e = .returned (.bool true) ∧ Below W.heap.size W w') := fun W => (fits_any a len cap k k2 (by omega) hk9 W).mono fun e w' h => ⟨by rw [h.1, decide_eq_true (by omega)], grown_below h.2⟩
  have Hk := Hid.mk9 hk
  have Hk2 := Hid.mk9 hk2
  have HN := Hid.mk9 hN
  obtain ⟨KK, hKK⟩ : ∃ KK, KK = k + k2 := ⟨_, rfl⟩
  obtain ⟨MM, hMM⟩ : ∃ MM, MM = need KK := ⟨_, rfl⟩
  have HLo : Hid (∀ W, Below w.heap.size w W → Calls Tryd.prog 31 #[.agg #[.slice a len cap, .int .i64 (k : Int)], .int .i64 k2] W fun e w' => Below W.heap.size W w' ∧ ∃ g, W.heap.size ≤ g ∧ e = .returned (.agg #[.slice (some ⟨g, 0, none⟩) MM MM, .int .i64 (KK : Int)]) ∧ Ro w' g 5 (bytV (pack l MM))) := fun W hb => by
    have := longer_any a len cap k2 l W (h.below hb) (by rw [hk]; exact hl) (by omega) (by omega)
    unfold LongPost at this
    rwa [hk, ← hKK, ← hMM] at this
  have HKK : Hid (KK = k + k2 ∧ MM = need KK ∧ k + k2 ≤ 131072 ∧ len2 = need k2 ∧ k2 ≤ 131072) := ⟨hKK, hMM, hf, hl2, hN2⟩
  have HLT := Hid.mk9 hlt
  clear h hk hl hN h2 hk2 hl2 hN2 hf hlt hKK hMM
  have HSV := Hid.mk9 (St.new2 w (.slice a len cap) (.int .i64 (k : Int)) (.slice a2 len2 cap2) (.int .i64 (k2 : Int)))
  go_enter Tryd.func12, Tryd.ntmps12
  go_upto_region 1 with fail
  have HS := Hid.mk9 HSV.out.1
  have HV := Hid.mk9 HSV.out.2
  clear HSV
  generalize (((w.alloc (.cells #[.slice a len cap, .int .i64 (k : Int)] 24)).alloc (.cells #[.slice a2 len2 cap2, .int .i64 (k2 : Int)] 24)).alloc (.cells #[.slice none 0 0, .int .i64 0] 24)) = w1 at *
  obtain ⟨X, hX⟩ : ∃ X, w.heap.size = X := ⟨_, rfl⟩
  have HXw : Hid (w.heap.size = X) := Hid.mk9 hX
  rw [hX] at HS HV ⊢
  clear hX
  obtain ⟨p0, p1⟩ := HS.out.bx.cells
  obtain ⟨v0, v1⟩ := HV.out.cells
  go_upto_region 6 with (first | (go_at_call_of 29 a; refine (check_yesB HL.out HM.out HS.out.bel).mono ?_; rintro e w2 ⟨rfl, hb2⟩; have HS2 := Hid.mk9 (HS.out.below hb2); have HV2 := Hid.mk9 (HV.out.below hb2); clear hb2 HS HV p0 p1 v0 v1; obtain ⟨p0, p1⟩ := HS2.out.bx.cells; obtain ⟨v0, v1⟩ := HV2.out.cells; obtain ⟨q0, q1⟩ := HS2.out.bY.cells; obtain ⟨f0, f1⟩ := HS2.out.bY.frz) | (go_at_call_of 29 a2; refine (check_yesB HL2.out HM2.out HS2.out.bel).mono ?_; rintro e w2 ⟨rfl, hb2⟩; replace HS2 := Hid.mk9 (HS2.out.below hb2); replace HV2 := Hid.mk9 (HV2.out.below hb2); clear hb2 p0 p1 v0 v1 q0 q1 f0 f1; obtain ⟨p0, p1⟩ := HS2.out.bx.cells; obtain ⟨v0, v1⟩ := HV2.out.cells; obtain ⟨q0, q1⟩ := HS2.out.bY.cells; obtain ⟨f0, f1⟩ := HS2.out.bY.frz) | (go_at_call 32; refine (HF.out _).mono ?_; rintro e w3 ⟨rfl, hb3⟩; replace HS2 := Hid.mk9 (HS2.out.below hb3); replace HV2 := Hid.mk9 (HV2.out.below hb3); clear hb3 p0 p1 v0 v1 q0 q1 f0 f1; obtain ⟨p0, p1⟩ := HS2.out.bx.cells; obtain ⟨v0, v1⟩ := HV2.out.cells; obtain ⟨q0, q1⟩ := HS2.out.bY.cells; obtain ⟨f0, f1⟩ := HS2.out.bY.frz) | (go_at_call 31; refine (HLo.out _ HS2.out.bel).mono ?_; rintro e w4 ⟨hb4, g, hg4, rfl, hr4⟩; have HS4 := Hid.mk9 (HS2.out.below hb4); have HV4 := Hid.mk9 (HV2.out.below hb4); have HG4 := Hid.mk9 (And.intro hg4 hr4); have HY3 := Hid.mk9 HS2.out.bY.lt; clear hb4 hg4 hr4 p0 p1 v0 v1 q0 q1 f0 f1))
  have HO := Hid.mk9 (Own.new (K := KK) HS4.out HY3.out HG4.out)
  have HV5 := Hid.mk9 (HV4.out.below (below_alloc w4 (.cells #[.slice (some ⟨g, 0, none⟩) MM MM, .int .i64 (KK : Int)] 24)))
  have HB5 := Hid.mk9 HO.out.st.bel
  have HGw : Hid (w.heap.size ≤ g) := Nat.le_trans HS2.out.bel.size HG4.out.1
  clear HS4 HY3 HG4 HV4 HS2 HV2
  generalize w4.alloc (.cells #[.slice (some ⟨g, 0, none⟩) MM MM, .int .i64 (KK : Int)] 24) = w5 at *
  generalize w4.heap.size = Z at *
  obtain ⟨p0, p1⟩ := HO.out.st.bx.cells
  obtain ⟨v0, v1⟩ := HV5.out.cells
  obtain ⟨z0, z1⟩ := HO.out.bz.cells
  have HY9 := Hid.mk9 (layAll_any2 g MM k 0 k2 l m a2 len2 cap2 w5 HO.out.ro Hk.out (by have := HKK.out; unfold need at this; omega) (by have := HKK.out; unfold need at this; omega) (HL2.out.below HB5.out) (HLT.out.imp id (fun h p hp => by have := h p hp; have := HGw.out; omega)) (by rw [Hk2.out]; omega) (by rw [Hk2.out]; have := HKK.out; unfold need at this; omega) (by rw [Hk2.out]; have := HKK.out; omega))
  go_upto_region 7 with (go_at_call 36; refine HY9.out.mono ?_; rintro e w6 ⟨rfl, hr6, hk6⟩; have HO6 := Hid.mk9 (HO.out.lay hr6 hk6); clear hr6 hk6 HO HY9 p0 p1 v0 v1 z0 z1)
  obtain ⟨p0, p1⟩ := HO6.out.st.bx.cells
  obtain ⟨q0, q1⟩ := HO6.out.st.bY.cells
  obtain ⟨f0, f1⟩ := HO6.out.st.bY.frz
  obtain ⟨z0, z1⟩ := HO6.out.bz.cells
  have HM9 : Hid ((m.drop 0).take k2 = m) := by unfold Hid; rw [List.drop_zero, ← Hk2.out, List.take_length]
  rw [HM9.out] at HO6
  obtain ⟨hz1, hz2⟩ := HO6.out.fin (by rw [List.length_append, Hk2.out, Hk.out]; exact HKK.out.1.symm) HKK.out.2.1 (by have := HKK.out; omega) 0
  have HZ := Hid.mk9 hz1
  have HP := Hid.mk9 hz2
  clear hz1 hz2 HO6
  go_wp2_with fail
  refine bodyPost_ret (ret_2b rfl _ _ (X + 2) (.slice (some ⟨g, 0, none⟩) MM MM) (.int .i64 (KK : Int)) (.int .i64 0) rfl rfl HZ.out) rfl ?_
  have HP2 := HP.out
  exact HP2
end Go.Proofs.YtjdgcbdpeooogaaDoor.Bi
