/-
  The contract of layAll.
-/
import Derived.Test.YtjdgcbdpeooogaaDoorBiG
import Derived.Test.YtjdgcbdpeooogaaDoorBiB
import Derived.Test.YtjdgcbdpeooogaaDoorBiC
namespace Go.Proofs.YtjdgcbdpeooogaaDoor.Bi
open Go.ChangeShapes Go.WideShapes Go.ChangeAt Go.RowKit
theorem byAt_keep {w w' : World} {g : Nat} {a : Option Addr} {len cap : Nat} {l : List Nat} (h : ByAt w a len cap l) (hk : KeepR g w w') (hne : ∀ p, a = some p → p.block ≠ g) : ByAt w' a len cap l := by
  refine ⟨h.1, h.2.1, h.2.2.1, h.2.2.2.1, h.2.2.2.2.1, ?_⟩
  rcases h.2.2.2.2.2 with h0 | ⟨b, off, e, hc⟩
  · exact .inl h0
  · refine .inr ⟨b, off, e, fun i hi => ?_⟩
    rw [← hc i hi]
    unfold World.cell?
    rw [show w'.heap[(⟨b, off + i, none⟩ : Addr).block]? = _ from hk.else_ b (hne _ e)]
theorem low_piece {m : List Bool} {a s : Nat} (h : a + s ≤ m.length) : low (val (bt m) a s) s = (m.drop a).take s := by
  rw [val_piece h]
  have := low_valL ((m.drop a).take s)
  rwa [show ((m.drop a).take s).length = s by simp; omega] at this
theorem take_more (m : List Bool) (st k s : Nat) : (m.drop st).take k ++ (m.drop (st + k)).take s = (m.drop st).take (k + s) := by
  rw [List.take_add, List.drop_drop]
set_option maxHeartbeats 1000000 in
set_option maxRecDepth 60000 in
theorem layAll_any (g M at' st n : Nat) (l m : List Bool) (x : Option Addr) (len cap : Nat) (w : World) (h : Ro w g 5 (bytV (pack l M))) (ha : l.length = at') (hl : at' + n ≤ 8 * M) (hM : M ≤ 100000)
    (hx : ByAt w x len cap (pack m len)) (hne : ∀ p, x = some p → p.block ≠ g) (hm : st + n ≤ m.length) (hml : m.length ≤ 8 * len) (hm9 : m.length ≤ 200000) :
    Calls Tryd.prog 36 #[.slice (some ⟨g, 0, none⟩) M M, .int .i64 at', .slice x len cap, .int .i64 st, .int .i64 n] w fun e w' => LayPost g M (l ++ (m.drop st).take n) w e w' := by
  have H := Hid.mk9 h
  have HL := Hid.mk9 hl
  have HM := Hid.mk9 hM
  have HA := Hid.mk9 ha
  have HX := Hid.mk9 hx
  have HNE := Hid.mk9 hne
  have HMM := Hid.mk9 hm
  have HML := Hid.mk9 hml
  have HM9 := Hid.mk9 hm9
  clear h hl hM ha hx hne hm hml hm9
  go_enter Tryd.func36, Tryd.ntmps36
  go_wp2
  go_loopw [10] (fun i wr => ∃ k : Nat, i = .int .i64 (k : Int) ∧ Hid (k ≤ n + 64) ∧ Hid (Ro wr g 5 (bytV (pack (l ++ (m.drop st).take (min k n)) M)) ∧ KeepR g w wr)) (fun i _ => n + 64 - (intOf i).toNat)
  case atStart => exact ⟨0, rfl, by unfold Hid; omega, by simpa using H.out, KeepR.refl _ _⟩
  case round =>
    obtain ⟨k, rfl, hk, hw⟩ := hrel
    by_cases hlt : k < n
    · obtain ⟨s, hs⟩ : ∃ s, s = min 64 (n - k) := ⟨_, rfl⟩
      obtain ⟨p, hp⟩ : ∃ p, p = at' + k := ⟨_, rfl⟩
      obtain ⟨q, hq⟩ : ∃ q, q = st + k := ⟨_, rfl⟩
      have hL := HL.out
      have hM9 := HM9.out
      have hMM := HMM.out
      have hM := HM.out
      have hML := HML.out
      have e1 : min (64 : Int) ((n : Int) - (k : Int)) = (s : Int) := by omega
      have e2 : (at' : Int) + (k : Int) = (p : Int) := by omega
      have e3 : (st : Int) + (k : Int) = (q : Int) := by omega
      have e4 : (k : Int) < (n : Int) := by omega
      have e5 : (p : Int) ≤ 10000000 := by omega
      have e6 : (q : Int) ≤ 10000000 := by omega
      have e7 : (n : Int) ≤ 10000000 := by omega
      have hmin : min k n = k := by omega
      rw [hmin] at hw
      have HC1 := Hid.mk9 (word_any x len cap q s m wr (byAt_keep HX.out hw.out.2 HNE.out) (by omega) (by omega) (by omega))
      have HC2 := Hid.mk9 (lay_any g M s (val (bt m) q s) p (l ++ (m.drop st).take k) wr hw.out.1 (by rw [List.length_append, HA.out, hp]; simp; omega) (by omega) hM (by omega))
      have HE : Hid (l ++ (m.drop st).take k ++ low (val (bt m) q s) s = l ++ (m.drop st).take (min (k + 64) n)) := by
        unfold Hid
        rw [low_piece (by omega), hq, List.append_assoc, take_more]
        by_cases h64 : k + 64 ≤ n
        · rw [show s = 64 by omega, show min (k + 64) n = k + 64 by omega]
        · rw [show k + s = n by omega, show min (k + 64) n = n by omega]
      rw [HE.out] at HC2
      have HK := Hid.mk9 hw.out.2
      generalize val (bt m) q s = V at *
      have HLT := Hid.mk9 hlt
      clear hL hM9 hMM hM hML hmin hw hs hp hq HE hlt
      go_wp2_with (first | (go_at_call 41; refine HC1.out.mono ?_; rintro e w9 ⟨rfl, hw9⟩; obtain rfl := hw9.symm) | (go_at_call 33; refine HC2.out.mono ?_; rintro e w9 ⟨rfl, hr9, hk9⟩; have HR9 := Hid.mk9 hr9; have HK9 := Hid.mk9 (HK.out.trans hk9); clear hr9 hk9))
      exact ⟨⟨k + 64, by go_num, by have := HLT.out; unfold Hid; omega, HR9.out, HK9.out⟩, by simp [intOf]; have := HLT.out; omega⟩
    · have e4 : (n : Int) ≤ (k : Int) := by omega
      have HE : Hid (LayPost g M (l ++ (m.drop st).take n) w (.returned (.tuple #[])) wr) := ⟨rfl, by have := hw.out.1; rwa [show min k n = n by omega] at this, hw.out.2⟩
      clear hw hlt
      go_wp2_with fail
      first | go_end0 | refine bodyPost_ret (results_none rfl _ _ _) rfl ?_
      exact HE.out
end Go.Proofs.YtjdgcbdpeooogaaDoor.Bi
