/-
  The contract of Put, where the bits are laid.
-/
import Derived.Test.YtcdlkdbnlomghaaDoorBiI
namespace Go.Proofs.YtcdlkdbnlomghaaDoor.Bi
open Go.ChangeShapes Go.WideShapes Go.ChangeAt Go.RowKit
/-- bits of one's own in a box, which are laid -/
structure Own (w w' : World) (X Y Z g K M : Nat) (v0 v1 r0 r1 : Value) (l : List Bool) : Prop where
  st : St w w' X Y v0 v1 r0 r1
  bz : B2 w' Z 26 (.slice (some ⟨g, 0, none⟩) M M) (.int .i64 (K : Int))
  ro : Ro w' g 5 (bytV (pack l M))
  ne : Y < g ∧ Y < Z ∧ g ≠ Z
theorem Own.below {w w' w'' : World} {X Y Z g K M : Nat} {v0 v1 r0 r1 : Value} {l : List Bool} (h : Own w w' X Y Z g K M v0 v1 r0 r1 l) (hb : Below w'.heap.size w' w'') : Own w w'' X Y Z g K M v0 v1 r0 r1 l :=
  ⟨h.st.below hb, h.bz.below hb, h.ro.below hb, h.ne⟩
theorem Own.lay {w w' w'' : World} {X Y Z g K M : Nat} {v0 v1 r0 r1 : Value} {l l' : List Bool} (h : Own w w' X Y Z g K M v0 v1 r0 r1 l) (hr : Ro w'' g 5 (bytV (pack l' M))) (hk : KeepR g w' w'') : Own w w'' X Y Z g K M v0 v1 r0 r1 l' := by
  have hne := h.ne
  have hge := h.st.ge
  exact ⟨⟨hk.below _ _ h.st.bel (by omega), h.st.bx.kept (hk.else_ X (by omega)), h.st.bY.kept (hk.else_ Y (by omega)), hge⟩, h.bz.kept (hk.else_ Z (by omega)), hr, hne⟩
theorem Own.fin {w w' : World} {X Y Z g K M : Nat} {v0 v1 r0 r1 : Value} {l : List Bool} (h : Own w w' X Y Z g K M v0 v1 r0 r1 l) (hK : l.length = K) (hM : M = need K) (hl : K ≤ 1000000) (er : Int) :
    B2 (set2 w' Y (.slice (some ⟨g, 0, none⟩) M M) (.int .i64 (K : Int))) Y 26 (.slice (some ⟨g, 0, none⟩) M M) (.int .i64 (K : Int)) ∧
    BitsPost l er w (.returned (.tuple #[.agg #[.slice (some ⟨g, 0, none⟩) M M, .int .i64 (K : Int)], .int .i64 er])) (set2 w' Y (.slice (some ⟨g, 0, none⟩) M M) (.int .i64 (K : Int))) := by
  have hne := h.ne
  have hge := h.st.ge
  have hs := h.st.put (.slice (some ⟨g, 0, none⟩) M M) (.int .i64 (K : Int))
  refine ⟨hs.bY, ?_⟩
  subst hK
  exact BitsPost.of_long hs.bel (by omega) (h.ro.set2 (Y := Y) _ _ (by omega)) hM hl er
theorem Own.new {w w3 w4 : World} {X Y g K M : Nat} {v0 v1 r0 r1 : Value} {l : List Bool} (h : St w w4 X Y v0 v1 r0 r1) (hY : Y < w3.heap.size) (hg : w3.heap.size ≤ g ∧ Ro w4 g 5 (bytV (pack l M))) : Own w (w4.alloc (.cells #[.slice (some ⟨g, 0, none⟩) M M, .int .i64 (K : Int)] 26)) X Y w4.heap.size g K M v0 v1 r0 r1 l :=
  ⟨h.below (below_alloc _ _), B2.new _ _ _ _, hg.2.below (below_alloc _ _), by omega, h.bY.lt, by have := hg.2.lt; omega⟩
set_option maxHeartbeats 1000000 in
set_option maxRecDepth 60000 in
theorem put_yes (a : Option Addr) (len cap k n u : Nat) (l : List Bool) (w : World) (h : ByAt w a len cap (pack l len)) (hk : l.length = k) (hl : len = need k) (hn : n ≤ 64) (hu : u / 2 ^ n = 0) (hf : k + n ≤ 131072) :
    Calls Tryd.prog 53 #[.agg #[.slice a len cap, .int .i64 (k : Int)], .int .u64 u, .int .i64 n] w fun e w' => BitsPost (l ++ low u n) 0 w e w' := by
  have HL := Hid.mk9 h
  have HM : Hid (MayB (pack l len) (k : Int)) := by
    unfold Hid
    rw [hl, ← hk]
    exact pack_may (by omega)
  obtain ⟨KK, hKK⟩ : ∃ KK, KK = k + n := ⟨_, rfl⟩
  obtain ⟨MM, hMM⟩ : ∃ MM, MM = need KK := ⟨_, rfl⟩
  have HLo : Hid (∀ W, Below w.heap.size w W → Calls Tryd.prog 71 #[.agg #[.slice a len cap, .int .i64 (k : Int)], .int .i64 n] W fun e w' => Below W.heap.size W w' ∧ ∃ g, W.heap.size ≤ g ∧ e = .returned (.agg #[.slice (some ⟨g, 0, none⟩) MM MM, .int .i64 (KK : Int)]) ∧ Ro w' g 5 (bytV (pack l MM))) := fun W hb => by
    have := longer_any a len cap n l W (h.below hb) (by rw [hk]; exact hl) (by omega) (by omega)
    unfold LongPost at this
    rwa [hk, ← hKK, ← hMM] at this
  have Hk := Hid.mk9 hk
  have hk9 : (k : Int) ≤ 131072 := by omega
  have hn9 : (n : Int) ≤ 64 := by omega
  have e3 : (u : Int) / 2 ^ n = 0 := by
    have : (u : Int) / 2 ^ n = ((u / 2 ^ n : Nat) : Int) := by rw [Int.natCast_ediv, Int.natCast_pow]; rfl
    rw [this, hu]
    rfl
  have HI : Hid (∀ W, Calls Tryd.prog 75 #[.int .i64 (n : Int)] W fun e w' => e = .returned (.bool true) ∧ w' = W) := fun W => by
    have := isWord_any n W
    rwa [show isWordP (n : Int) = true by unfold isWordP; simp; omega] at this
  have HF : Hid (∀ W, Calls Tryd.prog 69 #[.agg #[.slice a len cap, .int .i64 (k : Int)], .int .i64 n] W fun e w' => e = .returned (.bool true) ∧ Below W.heap.size W w') := fun W => (fits_any a len cap k n (by omega) hk9 W).mono fun e w' h => ⟨by rw [h.1, decide_eq_true (by omega)], grown_below h.2⟩
  have HKK : Hid (KK = k + n ∧ MM = need KK ∧ k + n ≤ 131072 ∧ n ≤ 64) := ⟨hKK, hMM, hf, hn⟩
  clear h hk hl hf hu hKK hMM hn
  have HS := Hid.mk9 (St.new w (.slice a len cap) (.int .i64 (k : Int)))
  go_enter Tryd.func53, Tryd.ntmps53
  go_upto_region 1 with fail
  generalize ((w.alloc (.cells #[.slice a len cap, .int .i64 (k : Int)] 26)).alloc (.cells #[.slice none 0 0, .int .i64 0] 26)) = w1 at *
  obtain ⟨X, hX⟩ : ∃ X, w.heap.size = X := ⟨_, rfl⟩
  have HXw : Hid (w.heap.size = X) := Hid.mk9 hX
  rw [hX] at HS ⊢
  clear hX
  obtain ⟨p0, p1⟩ := HS.out.bx.cells
  go_upto_region 8 with (first | (go_at_call 67; refine (check_yesB HL.out HM.out HS.out.bel).mono ?_; rintro e w2 ⟨rfl, hb2⟩; have HS2 := Hid.mk9 (HS.out.below hb2); clear hb2 HS p0 p1; obtain ⟨p0, p1⟩ := HS2.out.bx.cells; obtain ⟨q0, q1⟩ := HS2.out.bY.cells; obtain ⟨f0, f1⟩ := HS2.out.bY.frz) | (go_at_call 75; refine (HI.out _).mono ?_; rintro e w9 ⟨rfl, hw9⟩; obtain rfl := hw9.symm) | (go_at_call 69; refine (HF.out _).mono ?_; rintro e w3 ⟨rfl, hb3⟩; have HS3 := Hid.mk9 (HS2.out.below hb3); clear hb3 p0 p1 q0 q1 f0 f1 HS2; have HS2 := Hid.mk9 HS3.out; clear HS3; obtain ⟨p0, p1⟩ := HS2.out.bx.cells; obtain ⟨q0, q1⟩ := HS2.out.bY.cells; obtain ⟨f0, f1⟩ := HS2.out.bY.frz) | (go_at_call 71; refine (HLo.out _ HS2.out.bel).mono ?_; rintro e w4 ⟨hb4, g, hg4, rfl, hr4⟩; have HS4 := Hid.mk9 (HS2.out.below hb4); have HG4 := Hid.mk9 (And.intro hg4 hr4); have HY3 := Hid.mk9 HS2.out.bY.lt; clear hb4 hg4 hr4 p0 p1 q0 q1 f0 f1 HS2))
  have HO := Hid.mk9 (Own.new (K := KK) HS4.out HY3.out HG4.out)
  clear HS4 HY3 HG4
  generalize w4.alloc (.cells #[.slice (some ⟨g, 0, none⟩) MM MM, .int .i64 (KK : Int)] 26) = w5 at *
  generalize w4.heap.size = Z at *
  obtain ⟨p0, p1⟩ := HO.out.st.bx.cells
  obtain ⟨q0, q1⟩ := HO.out.st.bY.cells
  obtain ⟨f0, f1⟩ := HO.out.st.bY.frz
  obtain ⟨z0, z1⟩ := HO.out.bz.cells
  have HY9 := Hid.mk9 (lay_any g MM n u k l _ HO.out.ro Hk.out (by have := HKK.out; unfold need at this; omega) (by have := HKK.out; unfold need at this; omega) (by have := HKK.out; omega))
  go_upto_region 9 with (go_at_call 72; refine HY9.out.mono ?_; rintro e w6 ⟨rfl, hr6, hk6⟩; have HO6 := Hid.mk9 (HO.out.lay hr6 hk6); clear hr6 hk6 HO HY9 p0 p1 q0 q1 f0 f1 z0 z1)
  obtain ⟨p0, p1⟩ := HO6.out.st.bx.cells
  obtain ⟨q0, q1⟩ := HO6.out.st.bY.cells
  obtain ⟨f0, f1⟩ := HO6.out.st.bY.frz
  obtain ⟨z0, z1⟩ := HO6.out.bz.cells
  obtain ⟨hz1, hz2⟩ := HO6.out.fin (by rw [List.length_append, low_len, Hk.out]; exact HKK.out.1.symm) HKK.out.2.1 (by have := HKK.out; omega) 0
  have HZ := Hid.mk9 hz1
  have HP := Hid.mk9 hz2
  clear hz1 hz2 HO6
  go_wp2_with fail
  refine bodyPost_ret (ret_2b rfl _ _ (X + 1) (.slice (some ⟨g, 0, none⟩) MM MM) (.int .i64 (KK : Int)) (.int .i64 0) rfl rfl HZ.out) rfl ?_
  have HP2 := HP.out
  exact HP2
end Go.Proofs.YtcdlkdbnlomghaaDoor.Bi
