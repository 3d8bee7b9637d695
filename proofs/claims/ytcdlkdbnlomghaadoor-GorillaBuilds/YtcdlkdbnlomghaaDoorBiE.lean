/-
  The contracts of endsInNoughts and Check.
-/
import Derived.Test.YtcdlkdbnlomghaaDoorBiD
namespace Go.Proofs.YtcdlkdbnlomghaaDoor.Bi
open Go.ChangeShapes Go.WideShapes Go.ChangeAt Go.RowKit
/-- the bits behind the last one are noughts -/
def endP (bs : List Nat) (n : Nat) : Bool := decide (n % 8 = 0) || decide (bs.getD (bs.length - 1) 0 * 2 ^ (n % 8) % 256 = 0)
theorem endP_iff {bs : List Nat} {n : Nat} : endP bs n = true ↔ n % 8 = 0 ∨ bs.getD (bs.length - 1) 0 % 2 ^ (8 - n % 8) = 0 := by
  unfold endP
  rw [Bool.or_eq_true, decide_eq_true_iff, decide_eq_true_iff]
  refine or_congr_right ?_
  have e : 256 = 2 ^ (8 - n % 8) * 2 ^ (n % 8) := by rw [← Nat.pow_add, show 8 - n % 8 + n % 8 = 8 by omega]
  have hp := Nat.two_pow_pos (n % 8)
  conv => lhs; rw [e]
  rw [Nat.mul_mod_mul_right]
  constructor
  · intro h2
    rcases Nat.mul_eq_zero.1 h2 with h3 | h3
    · exact h3
    · omega
  · intro h2
    rw [h2, Nat.zero_mul]
theorem shl_zero (B q : Nat) : (((B : Int) * 2 ^ q % 256) == 0) = decide (B * 2 ^ q % 256 = 0) := by
  have e : ((B : Int) * 2 ^ q % 256) = ((B * 2 ^ q % 256 : Nat) : Int) := by
    rw [Int.natCast_emod, Int.natCast_mul, Int.natCast_pow]; rfl
  rw [e]
  generalize B * 2 ^ q % 256 = x
  cases x with
  | zero => rfl
  | succ n => rfl
set_option maxHeartbeats 1000000 in
theorem ends_any (a : Option Addr) (len cap n : Nat) (bs : List Nat) (w : World) (h : ByAt w a len cap bs) (hl : len = need n) (hn : (n : Int) ≤ 1000000) : Calls Tryd.prog 81 #[.agg #[.slice a len cap, .int .i64 n]] w fun e w' => e = .returned (.bool (endP bs n)) ∧ Grown w w' := by
  have HG := Hid.mk9 (grown_alloc w (.cells #[.slice a len cap, .int .i64 n] 26))
  obtain ⟨q, hq⟩ : ∃ q, q = n % 8 := ⟨_, rfl⟩
  have e1 : (n : Int) % 8 = (q : Int) := by omega
  have e2 : (q : Int) < 8 := by omega
  have hE : endP bs n = (decide (q = 0) || decide (bs.getD (bs.length - 1) 0 * 2 ^ q % 256 = 0)) := by rw [hq]; rfl
  by_cases h0 : q = 0
  · have hE2 : Hid (endP bs n = true) := by unfold Hid; rw [hE, h0]; rfl
    have h0' : (q : Int) = 0 := by omega
    rw [h0'] at e1
    clear hE h0 h0' hq e2 h hl
    go_enter Tryd.func81, Tryd.ntmps81
    go_wp2
    go_ret
    exact ⟨by rw [hE2.out]; rfl, HG.out⟩
  · have hpos : 0 < len := by rw [hl]; unfold need; omega
    have hlen := h.1
    obtain ⟨b, off, rfl, hb, hc⟩ := h.some hpos
    have h1 := hc (len - 1) (by omega)
    obtain ⟨B, hB⟩ : ∃ B, B = bs.getD (len - 1) 0 := ⟨_, rfl⟩
    rw [← hB] at h1
    have hE2 : Hid (endP bs n = decide (B * 2 ^ q % 256 = 0)) := by unfold Hid; rw [hE, hlen, ← hB, decide_eq_false h0]; rfl
    obtain ⟨j, hj⟩ : ∃ j, j = len - 1 := ⟨_, rfl⟩
    rw [← hj] at h1
    have e3 : (len : Int) - 1 = (j : Int) := by omega
    have e4 : (j : Int) < (len : Int) := by omega
    have e5 : ((q : Int) == 0) = false := by simpa using h0
    have e6 : (len : Int) ≤ 1000000 := by have : len ≤ 1000000 := by { rw [hl]; unfold need; omega }; omega
    have h2 : (w.alloc (.cells #[.slice (some ⟨b, off, none⟩) len cap, .int .i64 n] 26)).cell? ⟨b, off + j, none⟩ = some (.int .u8 (B : Int)) := ((below_alloc w _).cell (p := ⟨b, off + j, none⟩) hb).trans h1
    clear hE hc hj hl hpos hq h0 hlen hB h
    go_enter Tryd.func81, Tryd.ntmps81
    go_wp2
    go_ret
    refine ⟨?_, HG.out⟩
    rw [hE2.out, ← shl_zero]
    rfl
set_option maxHeartbeats 1000000 in
set_option maxRecDepth 60000 in
theorem check_neg (a : Option Addr) (len cap : Nat) (N : Int) (bs : List Nat) (w : World) (h : ByAt w a len cap bs) (hN : N < 0) : Calls Tryd.prog 67 #[.agg #[.slice a len cap, .int .i64 N]] w fun e w' => e = .returned (.int .i64 1) ∧ Grown w w' := by
  have hm : (len : Int) ≤ 9223372036854775807 := by have := Nat.le_trans h.2.1 h.2.2.1; unfold maxLen at this; omega
  have HG := Hid.mk9 (grown_alloc w (.cells #[.slice a len cap, .int .i64 N] 26))
  have HX := Hid.mk9 (B2.new w 26 (.slice a len cap) (.int .i64 N))
  have HR := Hid.mk9 (h.below (below_alloc w (.cells #[.slice a len cap, .int .i64 N] 26)))
  have d1 : decide (N < 0) = true := decide_eq_true hN
  clear h
  go_enter Tryd.func67, Tryd.ntmps67
  go_upto_region 1 with fail
  generalize w.alloc (.cells #[.slice a len cap, .int .i64 N] 26) = w1 at *
  obtain ⟨X, hX⟩ : ∃ X, w.heap.size = X := ⟨_, rfl⟩
  rw [hX] at HX ⊢
  clear hX
  obtain ⟨y0, y1⟩ := HX.out.cells
  have x0 := cell_grown (a := ⟨X, 0, none⟩) HX.out.lt y0
  have x1 := cell_grown (a := ⟨X, 1, none⟩) HX.out.lt y1
  clear y0 y1
  refine wp_region_QW mixed5 (by kernel_rfl) ?_
  repeat (refine QW_step (fun K hK => ?_); go_simp; first | (refine hK _ ?_; clear hK K) | (apply Exists.intro; refine ⟨fun _ => ?_, hK _ ?_⟩; fail; clear hK K))
  refine QW_nil ?_
  intro _ hw9
  obtain ⟨⟨nq, osq⟩, hw8⟩ := hw9
  subst hw8
  have HG2 : Hid (Grown w (Go.Sort.grow (w1.drewN nq) osq)) := grown2 HG.out ⟨nq, osq, rfl⟩
  generalize Go.Sort.grow (w1.drewN nq) osq = w2 at *
  go_wp2_with fail
  go_ret
  exact ⟨rfl, HG2.out⟩
set_option maxHeartbeats 1000000 in
set_option maxRecDepth 60000 in
theorem check_many (a : Option Addr) (len cap : Nat) (N : Int) (bs : List Nat) (w : World) (h : ByAt w a len cap bs) (hN : 131072 < N) : Calls Tryd.prog 67 #[.agg #[.slice a len cap, .int .i64 N]] w fun e w' => e = .returned (.int .i64 1) ∧ Grown w w' := by
  have hm : (len : Int) ≤ 9223372036854775807 := by have := Nat.le_trans h.2.1 h.2.2.1; unfold maxLen at this; omega
  have HG := Hid.mk9 (grown_alloc w (.cells #[.slice a len cap, .int .i64 N] 26))
  have HX := Hid.mk9 (B2.new w 26 (.slice a len cap) (.int .i64 N))
  have HR := Hid.mk9 (h.below (below_alloc w (.cells #[.slice a len cap, .int .i64 N] 26)))
  have d1 : decide (N < 0) = false := decide_eq_false (by omega)
  have d2 : decide (131072 < N) = true := decide_eq_true hN
  clear h
  go_enter Tryd.func67, Tryd.ntmps67
  go_upto_region 1 with fail
  generalize w.alloc (.cells #[.slice a len cap, .int .i64 N] 26) = w1 at *
  obtain ⟨X, hX⟩ : ∃ X, w.heap.size = X := ⟨_, rfl⟩
  rw [hX] at HX ⊢
  clear hX
  obtain ⟨y0, y1⟩ := HX.out.cells
  have x0 := cell_grown (a := ⟨X, 0, none⟩) HX.out.lt y0
  have x1 := cell_grown (a := ⟨X, 1, none⟩) HX.out.lt y1
  clear y0 y1
  refine wp_region_QW mixed5 (by kernel_rfl) ?_
  repeat (refine QW_step (fun K hK => ?_); go_simp; first | (refine hK _ ?_; clear hK K) | (apply Exists.intro; refine ⟨fun _ => ?_, hK _ ?_⟩; fail; clear hK K))
  refine QW_nil ?_
  intro _ hw9
  obtain ⟨⟨nq, osq⟩, hw8⟩ := hw9
  subst hw8
  have HG2 : Hid (Grown w (Go.Sort.grow (w1.drewN nq) osq)) := grown2 HG.out ⟨nq, osq, rfl⟩
  generalize Go.Sort.grow (w1.drewN nq) osq = w2 at *
  go_wp2_with fail
  go_ret
  exact ⟨rfl, HG2.out⟩
set_option maxHeartbeats 1000000 in
set_option maxRecDepth 60000 in
theorem check_len (a : Option Addr) (len cap : Nat) (n : Nat) (bs : List Nat) (w : World) (h : ByAt w a len cap bs) (hN : (n : Int) ≤ 131072) (hl : len ≠ need n) : Calls Tryd.prog 67 #[.agg #[.slice a len cap, .int .i64 (n : Int)]] w fun e w' => e = .returned (.int .i64 1) ∧ Grown w w' := by
  have hm : (len : Int) ≤ 9223372036854775807 := by have := Nat.le_trans h.2.1 h.2.2.1; unfold maxLen at this; omega
  have HG := Hid.mk9 (grown_alloc w (.cells #[.slice a len cap, .int .i64 (n : Int)] 26))
  have HX := Hid.mk9 (B2.new w 26 (.slice a len cap) (.int .i64 (n : Int)))
  have HR := Hid.mk9 (h.below (below_alloc w (.cells #[.slice a len cap, .int .i64 (n : Int)] 26)))
  have hn9 : (n : Int) ≤ 1000000 := by omega
  have HC : Hid (∀ W, Calls Tryd.prog 80 #[.int .i64 (n : Int)] W fun e w' => e = .returned (.int .i64 ((need n : Nat) : Int)) ∧ Grown W w') := fun W => (bytesOf_any n hn9 W).mono fun e w' h => ⟨h.1, h.2 ▸ grown_refl W⟩
  have d1 : decide ((n : Int) < 0) = false := decide_eq_false (by omega)
  have d2 : decide (131072 < (n : Int)) = false := decide_eq_false (by omega)
  have hne : ((len : Int) != ((need n : Nat) : Int)) = true := by rw [bne_iff_ne]; omega
  generalize need n = kk at *
  clear hl
  clear h
  go_enter Tryd.func67, Tryd.ntmps67
  go_upto_region 1 with fail
  generalize w.alloc (.cells #[.slice a len cap, .int .i64 (n : Int)] 26) = w1 at *
  obtain ⟨X, hX⟩ : ∃ X, w.heap.size = X := ⟨_, rfl⟩
  rw [hX] at HX ⊢
  clear hX
  obtain ⟨y0, y1⟩ := HX.out.cells
  have x0 := cell_grown (a := ⟨X, 0, none⟩) HX.out.lt y0
  have x1 := cell_grown (a := ⟨X, 1, none⟩) HX.out.lt y1
  clear y0 y1
  refine wp_region_QW mixed5 (by kernel_rfl) ?_
  repeat (refine QW_step (fun K hK => ?_); go_simp; first | (refine hK _ ?_; clear hK K) | (apply Exists.intro; refine ⟨fun _ => ?_, hK _ ?_⟩; (go_at_call 80; refine Calls.grown_of (HC.out _)); clear hK K))
  refine QW_nil ?_
  intro _ hw9
  obtain ⟨⟨nq, osq⟩, hw8⟩ := hw9
  subst hw8
  have HG2 : Hid (Grown w (Go.Sort.grow (w1.drewN nq) osq)) := grown2 HG.out ⟨nq, osq, rfl⟩
  generalize Go.Sort.grow (w1.drewN nq) osq = w2 at *
  go_wp2_with fail
  go_ret
  exact ⟨rfl, HG2.out⟩
set_option maxHeartbeats 1000000 in
set_option maxRecDepth 60000 in
theorem check_ends (a : Option Addr) (len cap : Nat) (n : Nat) (bs : List Nat) (w : World) (h : ByAt w a len cap bs) (hN : (n : Int) ≤ 131072) (hl : len = need n) (he : endP bs n = false) : Calls Tryd.prog 67 #[.agg #[.slice a len cap, .int .i64 (n : Int)]] w fun e w' => e = .returned (.int .i64 1) ∧ Grown w w' := by
  have hm : (len : Int) ≤ 9223372036854775807 := by have := Nat.le_trans h.2.1 h.2.2.1; unfold maxLen at this; omega
  have HG := Hid.mk9 (grown_alloc w (.cells #[.slice a len cap, .int .i64 (n : Int)] 26))
  have HX := Hid.mk9 (B2.new w 26 (.slice a len cap) (.int .i64 (n : Int)))
  have HR := Hid.mk9 (h.below (below_alloc w (.cells #[.slice a len cap, .int .i64 (n : Int)] 26)))
  have hn9 : (n : Int) ≤ 1000000 := by omega
  have HC : Hid (∀ W, Calls Tryd.prog 80 #[.int .i64 (n : Int)] W fun e w' => e = .returned (.int .i64 ((need n : Nat) : Int)) ∧ Grown W w') := fun W => (bytesOf_any n hn9 W).mono fun e w' h => ⟨h.1, h.2 ▸ grown_refl W⟩
  have d1 : decide ((n : Int) < 0) = false := decide_eq_false (by omega)
  have d2 : decide (131072 < (n : Int)) = false := decide_eq_false (by omega)
  have HE : Hid (∀ m os, Calls Tryd.prog 81 #[.agg #[.slice a len cap, .int .i64 (n : Int)]] (Go.Sort.grow ((w.alloc (.cells #[.slice a len cap, .int .i64 (n : Int)] 26)).drewN m) os) fun e w' => e = .returned (.bool false) ∧ Grown (Go.Sort.grow ((w.alloc (.cells #[.slice a len cap, .int .i64 (n : Int)] 26)).drewN m) os) w') := fun m os => by
    have := ends_any a len cap n bs _ (HR.out.below (below_grow _ m os)) hl hn9
    rwa [he] at this
  have hq : ((len : Int) != ((need n : Nat) : Int)) = false := by rw [bne_eq_false_iff_eq]; omega
  generalize need n = kk at *
  clear hl he
  clear h
  go_enter Tryd.func67, Tryd.ntmps67
  go_upto_region 1 with fail
  generalize w.alloc (.cells #[.slice a len cap, .int .i64 (n : Int)] 26) = w1 at *
  obtain ⟨X, hX⟩ : ∃ X, w.heap.size = X := ⟨_, rfl⟩
  rw [hX] at HX ⊢
  clear hX
  obtain ⟨y0, y1⟩ := HX.out.cells
  have x0 := cell_grown (a := ⟨X, 0, none⟩) HX.out.lt y0
  have x1 := cell_grown (a := ⟨X, 1, none⟩) HX.out.lt y1
  clear y0 y1
  refine wp_region_QW mixed5 (by kernel_rfl) ?_
  repeat (refine QW_step (fun K hK => ?_); go_simp; first | (refine hK _ ?_; clear hK K) | (apply Exists.intro; refine ⟨fun _ => ?_, hK _ ?_⟩; (first | (go_at_call 80; refine Calls.grown_of (HC.out _)) | (go_at_call 81; refine Calls.grown_of (HE.out _ _))); clear hK K))
  refine QW_nil ?_
  intro _ hw9
  obtain ⟨⟨nq, osq⟩, hw8⟩ := hw9
  subst hw8
  have HG2 : Hid (Grown w (Go.Sort.grow (w1.drewN nq) osq)) := grown2 HG.out ⟨nq, osq, rfl⟩
  generalize Go.Sort.grow (w1.drewN nq) osq = w2 at *
  go_wp2_with fail
  go_ret
  exact ⟨rfl, HG2.out⟩
set_option maxHeartbeats 1000000 in
set_option maxRecDepth 60000 in
theorem check_yes (a : Option Addr) (len cap : Nat) (n : Nat) (bs : List Nat) (w : World) (h : ByAt w a len cap bs) (hN : (n : Int) ≤ 131072) (hl : len = need n) (he : endP bs n = true) : Calls Tryd.prog 67 #[.agg #[.slice a len cap, .int .i64 (n : Int)]] w fun e w' => e = .returned (.int .i64 0) ∧ Grown w w' := by
  have hm : (len : Int) ≤ 9223372036854775807 := by have := Nat.le_trans h.2.1 h.2.2.1; unfold maxLen at this; omega
  have HG := Hid.mk9 (grown_alloc w (.cells #[.slice a len cap, .int .i64 (n : Int)] 26))
  have HX := Hid.mk9 (B2.new w 26 (.slice a len cap) (.int .i64 (n : Int)))
  have HR := Hid.mk9 (h.below (below_alloc w (.cells #[.slice a len cap, .int .i64 (n : Int)] 26)))
  have hn9 : (n : Int) ≤ 1000000 := by omega
  have HC : Hid (∀ W, Calls Tryd.prog 80 #[.int .i64 (n : Int)] W fun e w' => e = .returned (.int .i64 ((need n : Nat) : Int)) ∧ Grown W w') := fun W => (bytesOf_any n hn9 W).mono fun e w' h => ⟨h.1, h.2 ▸ grown_refl W⟩
  have d1 : decide ((n : Int) < 0) = false := decide_eq_false (by omega)
  have d2 : decide (131072 < (n : Int)) = false := decide_eq_false (by omega)
  have HE : Hid (∀ m os, Calls Tryd.prog 81 #[.agg #[.slice a len cap, .int .i64 (n : Int)]] (Go.Sort.grow ((w.alloc (.cells #[.slice a len cap, .int .i64 (n : Int)] 26)).drewN m) os) fun e w' => e = .returned (.bool true) ∧ Grown (Go.Sort.grow ((w.alloc (.cells #[.slice a len cap, .int .i64 (n : Int)] 26)).drewN m) os) w') := fun m os => by
    have := ends_any a len cap n bs _ (HR.out.below (below_grow _ m os)) hl hn9
    rwa [he] at this
  have hq : ((len : Int) != ((need n : Nat) : Int)) = false := by rw [bne_eq_false_iff_eq]; omega
  generalize need n = kk at *
  clear hl he
  clear h
  go_enter Tryd.func67, Tryd.ntmps67
  go_upto_region 1 with fail
  generalize w.alloc (.cells #[.slice a len cap, .int .i64 (n : Int)] 26) = w1 at *
  obtain ⟨X, hX⟩ : ∃ X, w.heap.size = X := ⟨_, rfl⟩
  rw [hX] at HX ⊢
  clear hX
  obtain ⟨y0, y1⟩ := HX.out.cells
  have x0 := cell_grown (a := ⟨X, 0, none⟩) HX.out.lt y0
  have x1 := cell_grown (a := ⟨X, 1, none⟩) HX.out.lt y1
  clear y0 y1
  refine wp_region_QW mixed5 (by kernel_rfl) ?_
  repeat (refine QW_step (fun K hK => ?_); go_simp; first | (refine hK _ ?_; clear hK K) | (apply Exists.intro; refine ⟨fun _ => ?_, hK _ ?_⟩; (first | (go_at_call 80; refine Calls.grown_of (HC.out _)) | (go_at_call 81; refine Calls.grown_of (HE.out _ _))); clear hK K))
  refine QW_nil ?_
  intro _ hw9
  obtain ⟨⟨nq, osq⟩, hw8⟩ := hw9
  subst hw8
  have HG2 : Hid (Grown w (Go.Sort.grow (w1.drewN nq) osq)) := grown2 HG.out ⟨nq, osq, rfl⟩
  generalize Go.Sort.grow (w1.drewN nq) osq = w2 at *
  go_wp2_with fail
  go_ret
  exact ⟨rfl, HG2.out⟩
/-- Check of whatever bits -/
theorem may_iff {bs : List Nat} {n : Nat} : MayB bs n ↔ (n : Int) ≤ 131072 ∧ bs.length = need n ∧ endP bs n = true := by
  unfold MayB need
  rw [endP_iff]
  constructor
  · rintro ⟨_, h2, h3, h4⟩
    exact ⟨h2, by omega, h4.imp (fun h => by omega) (fun h => by simpa using h)⟩
  · rintro ⟨h2, h3, h4⟩
    exact ⟨by omega, h2, by omega, h4.imp (fun h => by omega) (fun h => by simpa using h)⟩
open Classical in
noncomputable def chk (bs : List Nat) (N : Int) : Int := if MayB bs N then 0 else 1
theorem chk_yes {bs : List Nat} {N : Int} (h : MayB bs N) : chk bs N = 0 := if_pos h
theorem chk_no {bs : List Nat} {N : Int} (h : ¬ MayB bs N) : chk bs N = 1 := if_neg h
theorem check_any (a : Option Addr) (len cap : Nat) (N : Int) (bs : List Nat) (w : World) (h : ByAt w a len cap bs) : Calls Tryd.prog 67 #[.agg #[.slice a len cap, .int .i64 N]] w fun e w' => e = .returned (.int .i64 (chk bs N)) ∧ Grown w w' := by
  by_cases h1 : N < 0
  · rw [chk_no (fun hm => by have := hm.1; omega)]
    exact check_neg a len cap N bs w h h1
  by_cases h2 : 131072 < N
  · rw [chk_no (fun hm => by have := hm.2.1; omega)]
    exact check_many a len cap N bs w h h2
  obtain ⟨n, rfl⟩ : ∃ n : Nat, N = n := ⟨N.toNat, by omega⟩
  have hl := h.1
  by_cases h3 : len = need n
  · cases h4 : endP bs n with
    | true =>
      rw [chk_yes (may_iff.2 ⟨by omega, by rw [hl, h3], h4⟩)]
      exact check_yes a len cap n bs w h (by omega) h3 h4
    | false =>
      rw [chk_no (fun hm => by have := (may_iff.1 hm).2.2; rw [h4] at this; cases this)]
      exact check_ends a len cap n bs w h (by omega) h3 h4
  · rw [chk_no (fun hm => by have := (may_iff.1 hm).2.1; omega)]
    exact check_len a len cap n bs w h (by omega) h3
end Go.Proofs.YtcdlkdbnlomghaaDoor.Bi
