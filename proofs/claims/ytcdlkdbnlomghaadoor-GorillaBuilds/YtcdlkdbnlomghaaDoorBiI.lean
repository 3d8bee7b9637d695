/-
  The contract of Put, where bits are told as they were handed in.
-/
import Derived.Test.YtcdlkdbnlomghaaDoorBiH
import Derived.Test.YtcdlkdbnlomghaaDoorBiE
namespace Go.Proofs.YtcdlkdbnlomghaaDoor.Bi
open Go.ChangeShapes Go.WideShapes Go.ChangeAt Go.RowKit
/-- bits told, with an error -/
def BitsPost (l : List Bool) (er : Int) (w : World) (e : Ending) (w' : World) : Prop := Below w.heap.size w w' ∧ ∃ (a : Option Addr) (len cap : Nat), e = .returned (.tuple #[.agg #[.slice a len cap, .int .i64 (l.length : Int)], .int .i64 er]) ∧ ByAt w' a len cap (pack l len) ∧ len = need l.length ∧ (∀ p, a = some p → w.heap.size ≤ p.block)
theorem check_yesB {a : Option Addr} {len cap : Nat} {N : Int} {bs : List Nat} {w W : World} (h : ByAt w a len cap bs) (hM : MayB bs N) (hb : Below w.heap.size w W) : Calls Tryd.prog 67 #[.agg #[.slice a len cap, .int .i64 N]] W fun e w' => e = .returned (.int .i64 0) ∧ Below W.heap.size W w' := by
  have := check_any a len cap N bs W (h.below hb)
  rw [chk_yes hM] at this
  exact this.mono fun e w' h => ⟨h.1, grown_below h.2⟩
theorem check_noB {a : Option Addr} {len cap : Nat} {N : Int} {bs : List Nat} {w W : World} (h : ByAt w a len cap bs) (hM : ¬ MayB bs N) (hb : Below w.heap.size w W) : Calls Tryd.prog 67 #[.agg #[.slice a len cap, .int .i64 N]] W fun e w' => e = .returned (.int .i64 1) ∧ Below W.heap.size W w' := by
  have := check_any a len cap N bs W (h.below hb)
  rw [chk_no hM] at this
  exact this.mono fun e w' h => ⟨h.1, grown_below h.2⟩
/-- a box of what came in, and one of what is told -/
structure St (w w' : World) (X Y : Nat) (v0 v1 r0 r1 : Value) : Prop where
  bel : Below w.heap.size w w'
  bx : B2 w' X 26 v0 v1
  bY : B2 w' Y 26 r0 r1
  ge : w.heap.size ≤ X ∧ X < Y
theorem St.below {w w' w'' : World} {X Y : Nat} {v0 v1 r0 r1 : Value} (h : St w w' X Y v0 v1 r0 r1) (hb : Below w'.heap.size w' w'') : St w w'' X Y v0 v1 r0 r1 :=
  ⟨below2 h.bel hb, h.bx.below hb, h.bY.below hb, h.ge⟩
theorem St.put {w w' : World} {X Y : Nat} {v0 v1 r0 r1 : Value} (h : St w w' X Y v0 v1 r0 r1) (u0 u1 : Value) : St w (set2 w' Y u0 u1) X Y v0 v1 u0 u1 :=
  ⟨set2_below h.bel (by have := h.ge; omega) _ _, h.bx.kept (set2_else _ _ (by have := h.ge; omega)), h.bY.set _ _, h.ge⟩
theorem St.new (w : World) (v0 v1 : Value) : St w ((w.alloc (.cells #[v0, v1] 26)).alloc (.cells #[.slice none 0 0, .int .i64 0] 26)) w.heap.size (w.heap.size + 1) v0 v1 (.slice none 0 0) (.int .i64 0) := by
  refine ⟨below2 (below_alloc w _) (below_alloc _ _), (B2.new w _ _ _).below (below_alloc _ _), ?_, Nat.le_refl _, Nat.lt_succ_self _⟩
  have := B2.new (w.alloc (.cells #[v0, v1] 26)) 26 (.slice none 0 0) (.int .i64 0)
  rw [show (w.alloc (.cells #[v0, v1] 26)).heap.size = w.heap.size + 1 from by simp] at this
  exact this
theorem BitsPost.zero {w w' : World} {X Y : Nat} {v0 v1 r0 r1 : Value} (h : St w w' X Y v0 v1 r0 r1) (er : Int) : BitsPost [] er w (.returned (.tuple #[.agg #[.slice none 0 0, .int .i64 0], .int .i64 er])) w' :=
  ⟨h.bel, none, 0, 0, rfl, ByAt.nil _, rfl, fun p hp => by cases hp⟩
/-- what longer told, told on -/
theorem BitsPost.of_long {w w' : World} {l : List Bool} {g M : Nat} (hb : Below w.heap.size w w') (hg : w.heap.size ≤ g) (hR : Ro w' g 5 (bytV (pack l M))) (hM : M = need l.length) (hl : l.length ≤ 1000000) (er : Int) : BitsPost l er w (.returned (.tuple #[.agg #[.slice (some ⟨g, 0, none⟩) M M, .int .i64 (l.length : Int)], .int .i64 er])) w' := by
  refine ⟨hb, _, M, M, rfl, ?_, hM, fun p hp => by injection hp with hp; rw [← hp]; exact hg⟩
  have := hR.bytes (by rw [pack_len, hM]; unfold need maxLen; omega) (pack_lt _ _)
  rwa [pack_len] at this
/-- the row of a box's own stays where the box of what is told is written -/
theorem Ro.set2 {w : World} {g T Y : Nat} {l : List Value} (h : Ro w g T l) (u0 u1 : Value) (hne : g ≠ Y) : Ro (set2 w Y u0 u1) g T l := h.kept (set2_else _ _ hne)
set_option maxHeartbeats 1000000 in
set_option maxRecDepth 60000 in
theorem put_no (a : Option Addr) (len cap : Nat) (N n : Int) (u : Nat) (bs : List Nat) (w : World) (h : ByAt w a len cap bs) (hM : ¬ MayB bs N) : Calls Tryd.prog 53 #[.agg #[.slice a len cap, .int .i64 N], .int .u64 u, .int .i64 n] w fun e w' => BitsPost [] 1 w e w' := by
  have HL := Hid.mk9 h
  have HM := Hid.mk9 hM
  clear h hM
  have HS := Hid.mk9 (St.new w (.slice a len cap) (.int .i64 N))
  go_enter Tryd.func53, Tryd.ntmps53
  go_upto_region 1 with fail
  generalize ((w.alloc (.cells #[.slice a len cap, .int .i64 N] 26)).alloc (.cells #[.slice none 0 0, .int .i64 0] 26)) = w1 at *
  obtain ⟨X, hX⟩ : ∃ X, w.heap.size = X := ⟨_, rfl⟩
  have HXw : Hid (w.heap.size = X) := Hid.mk9 hX
  rw [hX] at HS ⊢
  clear hX
  obtain ⟨p0, p1⟩ := HS.out.bx.cells
  go_wp2_with (go_at_call 67; refine (check_noB HL.out HM.out HS.out.bel).mono ?_; rintro e w2 ⟨rfl, hb2⟩; have HS2 := Hid.mk9 (HS.out.below hb2); clear hb2 HS p0 p1; obtain ⟨p0, p1⟩ := HS2.out.bx.cells; obtain ⟨q0, q1⟩ := HS2.out.bY.cells; obtain ⟨f0, f1⟩ := HS2.out.bY.frz)
  have HS3 := Hid.mk9 (HS2.out.put (.slice none 0 0) (.int .i64 0))
  clear HS2
  refine bodyPost_ret (ret_2b rfl _ _ (X + 1) (.slice none 0 0) (.int .i64 0) (.int .i64 1) rfl rfl HS3.out.bY) rfl ?_
  exact BitsPost.zero HS3.out 1
set_option maxHeartbeats 1000000 in
set_option maxRecDepth 60000 in
theorem put_back (a : Option Addr) (len cap k : Nat) (n : Int) (u : Nat) (l : List Bool) (er : Int) (w : World) (h : ByAt w a len cap (pack l len)) (hk : l.length = k) (hl : len = need k) (hN : k ≤ 131072) (hn : isWordP n = false ∧ er = 1 ∨ isWordP n = true ∧ u / 2 ^ n.toNat ≠ 0 ∧ er = 1 ∨ isWordP n = true ∧ u / 2 ^ n.toNat = 0 ∧ ¬ (k : Int) + n ≤ 131072 ∧ er = 6) :
    Calls Tryd.prog 53 #[.agg #[.slice a len cap, .int .i64 (k : Int)], .int .u64 u, .int .i64 n] w fun e w' => BitsPost l er w e w' := by
  have HL := Hid.mk9 h
  have HM : Hid (MayB (pack l len) (k : Int)) := by
    unfold Hid
    rw [hl, ← hk]
    exact pack_may (by omega)
  have HLo : Hid (∀ W, Below w.heap.size w W → Calls Tryd.prog 71 #[.agg #[.slice a len cap, .int .i64 (k : Int)], .int .i64 0] W fun e w' => LongPost l k W e w') := fun W hb => by
    have := longer_any a len cap 0 l W (h.below hb) (by rw [hk]; exact hl) (by omega) (by decide)
    rwa [hk, Nat.add_zero] at this
  have Hk := Hid.mk9 hk
  have HN := Hid.mk9 hN
  have hk9 : (k : Int) ≤ 131072 := by omega
  have HI := Hid.mk9 (isWord_any n)
  have HF : Hid (∀ W, Calls Tryd.prog 69 #[.agg #[.slice a len cap, .int .i64 (k : Int)], .int .i64 n] W fun e w' => e = .returned (.bool (decide (n ≤ 131072 - (k : Int)))) ∧ Below W.heap.size W w') := fun W => (fits_any a len cap k n (by omega) hk9 W).mono fun e w' h => ⟨h.1, grown_below h.2⟩
  clear h hk hN hl
  rcases hn with ⟨hi, rfl⟩ | ⟨hi, hu, rfl⟩ | ⟨hi, hu, hf, rfl⟩
  · have hX0 := trivial
    rw [hi] at HI
    clear hi
    have HS := Hid.mk9 (St.new w (.slice a len cap) (.int .i64 (k : Int)))
    go_enter Tryd.func53, Tryd.ntmps53
    go_upto_region 1 with fail
    generalize ((w.alloc (.cells #[.slice a len cap, .int .i64 (k : Int)] 26)).alloc (.cells #[.slice none 0 0, .int .i64 0] 26)) = w1 at *
    obtain ⟨X, hX⟩ : ∃ X, w.heap.size = X := ⟨_, rfl⟩
    have HXw : Hid (w.heap.size = X) := Hid.mk9 hX
    rw [hX] at HS ⊢
    clear hX
    obtain ⟨p0, p1⟩ := HS.out.bx.cells
    go_wp2_with (first | (go_at_call 67; refine (check_yesB HL.out HM.out HS.out.bel).mono ?_; rintro e w2 ⟨rfl, hb2⟩; have HS2 := Hid.mk9 (HS.out.below hb2); clear hb2 HS p0 p1; obtain ⟨p0, p1⟩ := HS2.out.bx.cells; obtain ⟨q0, q1⟩ := HS2.out.bY.cells; obtain ⟨f0, f1⟩ := HS2.out.bY.frz) | (go_at_call 75; refine (HI.out _).mono ?_; rintro e w9 ⟨rfl, hw9⟩; obtain rfl := hw9.symm) | (go_at_call 71; refine (HLo.out _ HS2.out.bel).mono ?_; rintro e w4 ⟨hb4, g, hg4, rfl, hr4⟩; have HS4 := Hid.mk9 (HS2.out.below hb4); have HG4 : Hid (w2.heap.size ≤ g ∧ Ro w4 g 5 (bytV (pack l (need k)))) := ⟨hg4, hr4⟩; clear hb4 hg4 hr4 p0 p1 q0 q1 f0 f1; obtain ⟨p0, p1⟩ := HS4.out.bx.cells; obtain ⟨q0, q1⟩ := HS4.out.bY.cells; obtain ⟨f0, f1⟩ := HS4.out.bY.frz))
    have HS5 := Hid.mk9 (HS4.out.put (.slice (some ⟨g, 0, none⟩) (need k) (need k)) (.int .i64 (k : Int)))
    have HR5 := Hid.mk9 (HG4.out.2.set2 (Y := X + 1) (.slice (some ⟨g, 0, none⟩) (need k) (need k)) (.int .i64 (k : Int)) (by have := HG4.out.1; have := HS2.out.bY.lt; omega))
    have HGE : Hid (w.heap.size ≤ g) := Nat.le_trans HS2.out.bel.size HG4.out.1
    clear HS4 HG4 HS2
    refine bodyPost_ret (ret_2b rfl _ _ (X + 1) (.slice (some ⟨g, 0, none⟩) (need k) (need k)) (.int .i64 (k : Int)) (.int .i64 1) rfl rfl HS5.out.bY) rfl ?_
    have HP := BitsPost.of_long HS5.out.bel HGE.out HR5.out (by rw [Hk.out]) (by rw [Hk.out]; have := HN.out; omega) 1
    rw [Hk.out] at HP
    exact HP
  · have hX0 := trivial
    obtain ⟨m, rfl⟩ : ∃ m : Nat, n = m := ⟨n.toNat, by unfold isWordP at hi; simp at hi; omega⟩
    have hm : (m : Int) ≤ 64 := by unfold isWordP at hi; simp at hi; omega
    have e3 : (u : Int) / 2 ^ m = ((u / 2 ^ m : Nat) : Int) := by rw [Int.natCast_ediv, Int.natCast_pow]; rfl
    have hu2 : u / 2 ^ m ≠ 0 := hu
    have e4 : (((u / 2 ^ m : Nat) : Int) != 0) = true := by rw [bne_iff_ne]; omega
    rw [hi] at HI
    generalize u / 2 ^ m = v at *
    clear hu hu2 hi
    have HS := Hid.mk9 (St.new w (.slice a len cap) (.int .i64 (k : Int)))
    go_enter Tryd.func53, Tryd.ntmps53
    go_upto_region 1 with fail
    generalize ((w.alloc (.cells #[.slice a len cap, .int .i64 (k : Int)] 26)).alloc (.cells #[.slice none 0 0, .int .i64 0] 26)) = w1 at *
    obtain ⟨X, hX⟩ : ∃ X, w.heap.size = X := ⟨_, rfl⟩
    have HXw : Hid (w.heap.size = X) := Hid.mk9 hX
    rw [hX] at HS ⊢
    clear hX
    obtain ⟨p0, p1⟩ := HS.out.bx.cells
    go_wp2_with (first | (go_at_call 67; refine (check_yesB HL.out HM.out HS.out.bel).mono ?_; rintro e w2 ⟨rfl, hb2⟩; have HS2 := Hid.mk9 (HS.out.below hb2); clear hb2 HS p0 p1; obtain ⟨p0, p1⟩ := HS2.out.bx.cells; obtain ⟨q0, q1⟩ := HS2.out.bY.cells; obtain ⟨f0, f1⟩ := HS2.out.bY.frz) | (go_at_call 75; refine (HI.out _).mono ?_; rintro e w9 ⟨rfl, hw9⟩; obtain rfl := hw9.symm) | (go_at_call 71; refine (HLo.out _ HS2.out.bel).mono ?_; rintro e w4 ⟨hb4, g, hg4, rfl, hr4⟩; have HS4 := Hid.mk9 (HS2.out.below hb4); have HG4 : Hid (w2.heap.size ≤ g ∧ Ro w4 g 5 (bytV (pack l (need k)))) := ⟨hg4, hr4⟩; clear hb4 hg4 hr4 p0 p1 q0 q1 f0 f1; obtain ⟨p0, p1⟩ := HS4.out.bx.cells; obtain ⟨q0, q1⟩ := HS4.out.bY.cells; obtain ⟨f0, f1⟩ := HS4.out.bY.frz))
    have HS5 := Hid.mk9 (HS4.out.put (.slice (some ⟨g, 0, none⟩) (need k) (need k)) (.int .i64 (k : Int)))
    have HR5 := Hid.mk9 (HG4.out.2.set2 (Y := X + 1) (.slice (some ⟨g, 0, none⟩) (need k) (need k)) (.int .i64 (k : Int)) (by have := HG4.out.1; have := HS2.out.bY.lt; omega))
    have HGE : Hid (w.heap.size ≤ g) := Nat.le_trans HS2.out.bel.size HG4.out.1
    clear HS4 HG4 HS2
    refine bodyPost_ret (ret_2b rfl _ _ (X + 1) (.slice (some ⟨g, 0, none⟩) (need k) (need k)) (.int .i64 (k : Int)) (.int .i64 1) rfl rfl HS5.out.bY) rfl ?_
    have HP := BitsPost.of_long HS5.out.bel HGE.out HR5.out (by rw [Hk.out]) (by rw [Hk.out]; have := HN.out; omega) 1
    rw [Hk.out] at HP
    exact HP
  · have hX0 := trivial
    obtain ⟨m, rfl⟩ : ∃ m : Nat, n = m := ⟨n.toNat, by unfold isWordP at hi; simp at hi; omega⟩
    have hm : (m : Int) ≤ 64 := by unfold isWordP at hi; simp at hi; omega
    have e3 : (u : Int) / 2 ^ m = 0 := by
      have : (u : Int) / 2 ^ m = ((u / 2 ^ m : Nat) : Int) := by rw [Int.natCast_ediv, Int.natCast_pow]; rfl
      rw [this, show u / 2 ^ m = 0 from hu]
      rfl
    have hd : decide ((m : Int) ≤ 131072 - (k : Int)) = false := decide_eq_false (by omega)
    rw [hi] at HI
    rw [hd] at HF
    clear hu hi hf hd
    have HS := Hid.mk9 (St.new w (.slice a len cap) (.int .i64 (k : Int)))
    go_enter Tryd.func53, Tryd.ntmps53
    go_upto_region 1 with fail
    generalize ((w.alloc (.cells #[.slice a len cap, .int .i64 (k : Int)] 26)).alloc (.cells #[.slice none 0 0, .int .i64 0] 26)) = w1 at *
    obtain ⟨X, hX⟩ : ∃ X, w.heap.size = X := ⟨_, rfl⟩
    have HXw : Hid (w.heap.size = X) := Hid.mk9 hX
    rw [hX] at HS ⊢
    clear hX
    obtain ⟨p0, p1⟩ := HS.out.bx.cells
    go_wp2_with (first | (go_at_call 67; refine (check_yesB HL.out HM.out HS.out.bel).mono ?_; rintro e w2 ⟨rfl, hb2⟩; have HS2 := Hid.mk9 (HS.out.below hb2); clear hb2 HS p0 p1; obtain ⟨p0, p1⟩ := HS2.out.bx.cells; obtain ⟨q0, q1⟩ := HS2.out.bY.cells; obtain ⟨f0, f1⟩ := HS2.out.bY.frz) | (go_at_call 75; refine (HI.out _).mono ?_; rintro e w9 ⟨rfl, hw9⟩; obtain rfl := hw9.symm) | (go_at_call 69; refine (HF.out _).mono ?_; rintro e w3 ⟨rfl, hb3⟩; have HS3 := Hid.mk9 (HS2.out.below hb3); clear hb3 p0 p1 q0 q1 f0 f1 HS2; have HS2 := Hid.mk9 HS3.out; clear HS3; obtain ⟨p0, p1⟩ := HS2.out.bx.cells; obtain ⟨q0, q1⟩ := HS2.out.bY.cells; obtain ⟨f0, f1⟩ := HS2.out.bY.frz) | (go_at_call 71; refine (HLo.out _ HS2.out.bel).mono ?_; rintro e w4 ⟨hb4, g, hg4, rfl, hr4⟩; have HS4 := Hid.mk9 (HS2.out.below hb4); have HG4 : Hid (w3.heap.size ≤ g ∧ Ro w4 g 5 (bytV (pack l (need k)))) := ⟨hg4, hr4⟩; clear hb4 hg4 hr4 p0 p1 q0 q1 f0 f1; obtain ⟨p0, p1⟩ := HS4.out.bx.cells; obtain ⟨q0, q1⟩ := HS4.out.bY.cells; obtain ⟨f0, f1⟩ := HS4.out.bY.frz))
    have HS5 := Hid.mk9 (HS4.out.put (.slice (some ⟨g, 0, none⟩) (need k) (need k)) (.int .i64 (k : Int)))
    have HR5 := Hid.mk9 (HG4.out.2.set2 (Y := X + 1) (.slice (some ⟨g, 0, none⟩) (need k) (need k)) (.int .i64 (k : Int)) (by have := HG4.out.1; have := HS2.out.bY.lt; omega))
    have HGE : Hid (w.heap.size ≤ g) := Nat.le_trans HS2.out.bel.size HG4.out.1
    clear HS4 HG4 HS2
    refine bodyPost_ret (ret_2b rfl _ _ (X + 1) (.slice (some ⟨g, 0, none⟩) (need k) (need k)) (.int .i64 (k : Int)) (.int .i64 6) rfl rfl HS5.out.bY) rfl ?_
    have HP := BitsPost.of_long HS5.out.bel HGE.out HR5.out (by rw [Hk.out]) (by rw [Hk.out]; have := HN.out; omega) 6
    rw [Hk.out] at HP
    exact HP
end Go.Proofs.YtcdlkdbnlomghaaDoor.Bi
