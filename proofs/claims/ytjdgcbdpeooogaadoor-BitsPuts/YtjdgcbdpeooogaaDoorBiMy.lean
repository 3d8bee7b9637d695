/-
  The answer May, and which bits are light.
-/
import Derived.Test.YtjdgcbdpeooogaaDoorBiE
import Derived.Test.YtjdgcbdpeooogaaDoorBiT
namespace Go.Proofs.YtjdgcbdpeooogaaDoor.Bi
open Go.ChangeShapes Go.WideShapes Go.ChangeAt Go.RowKit
set_option maxHeartbeats 1000000 in
set_option maxRecDepth 60000 in
theorem rmay_neg (a : Option Addr) (len cap : Nat) (N : Int) (bs : List Nat) (w : World) (h : ByAt w a len cap bs) (hN : N < 0) : Calls Tryd.prog 13 #[.agg #[.slice a len cap, .int .i64 N]] w fun e w' => e = .returned (.bool false) ∧ Grown w w' := by
  have HG := Hid.mk9 (grown_alloc w (.cells #[.slice a len cap, .int .i64 N] 24))
  have HX := Hid.mk9 (B2.new w 24 (.slice a len cap) (.int .i64 N))
  have HR := Hid.mk9 (h.below (below_alloc w (.cells #[.slice a len cap, .int .i64 N] 24)))
  have hm : (len : Int) ≤ 9223372036854775807 := by have := Nat.le_trans h.2.1 h.2.2.1; unfold maxLen at this; omega
  have d1 : decide (N < 0) = true := decide_eq_true hN
  clear h
  go_enter Tryd.func13, Tryd.ntmps13
  go_upto_region 1 with fail
  generalize w.alloc (.cells #[.slice a len cap, .int .i64 N] 24) = w1 at *
  obtain ⟨X, hX⟩ : ∃ X, w.heap.size = X := ⟨_, rfl⟩
  rw [hX] at HX ⊢
  clear hX
  obtain ⟨y0, y1⟩ := HX.out.cells
  go_wp2_with fail
  go_ret
  exact ⟨rfl, HG.out⟩
set_option maxHeartbeats 1000000 in
set_option maxRecDepth 60000 in
theorem rmay_len (a : Option Addr) (len cap : Nat) (n : Nat) (bs : List Nat) (w : World) (h : ByAt w a len cap bs) (hN : n ≤ 2400) (hl : len ≠ need n) : Calls Tryd.prog 13 #[.agg #[.slice a len cap, .int .i64 (n : Int)]] w fun e w' => e = .returned (.bool false) ∧ Grown w w' := by
  have HG := Hid.mk9 (grown_alloc w (.cells #[.slice a len cap, .int .i64 (n : Int)] 24))
  have HX := Hid.mk9 (B2.new w 24 (.slice a len cap) (.int .i64 (n : Int)))
  have HR := Hid.mk9 (h.below (below_alloc w (.cells #[.slice a len cap, .int .i64 (n : Int)] 24)))
  have hm : (len : Int) ≤ 9223372036854775807 := by have := Nat.le_trans h.2.1 h.2.2.1; unfold maxLen at this; omega
  have n9 : (n : Int) ≤ 2400 := by omega
  have e3 : ((len : Int) != ((n : Int) + 7) / 8) = true := by rw [bne_iff_ne]; unfold need at hl; omega
  clear h hl hN
  go_enter Tryd.func13, Tryd.ntmps13
  go_upto_region 1 with fail
  generalize w.alloc (.cells #[.slice a len cap, .int .i64 (n : Int)] 24) = w1 at *
  obtain ⟨X, hX⟩ : ∃ X, w.heap.size = X := ⟨_, rfl⟩
  rw [hX] at HX ⊢
  clear hX
  obtain ⟨y0, y1⟩ := HX.out.cells
  go_wp2_with fail
  go_ret
  exact ⟨rfl, HG.out⟩
set_option maxHeartbeats 1000000 in
set_option maxRecDepth 60000 in
theorem rmay_even (a : Option Addr) (len cap : Nat) (n : Nat) (bs : List Nat) (w : World) (h : ByAt w a len cap bs) (hN : n ≤ 2400) (hl : len = need n) (h8 : n % 8 = 0) : Calls Tryd.prog 13 #[.agg #[.slice a len cap, .int .i64 (n : Int)]] w fun e w' => e = .returned (.bool true) ∧ Grown w w' := by
  have HG := Hid.mk9 (grown_alloc w (.cells #[.slice a len cap, .int .i64 (n : Int)] 24))
  have HX := Hid.mk9 (B2.new w 24 (.slice a len cap) (.int .i64 (n : Int)))
  have HR := Hid.mk9 (h.below (below_alloc w (.cells #[.slice a len cap, .int .i64 (n : Int)] 24)))
  have hm : (len : Int) ≤ 9223372036854775807 := by have := Nat.le_trans h.2.1 h.2.2.1; unfold maxLen at this; omega
  have n9 : (n : Int) ≤ 2400 := by omega
  have e3 : ((len : Int) != ((n : Int) + 7) / 8) = false := by rw [bne_eq_false_iff_eq]; unfold need at hl; omega
  have e4 : (n : Int).tmod 8 = 0 := by rw [Int.tmod_eq_emod_of_nonneg (by omega)]; omega
  clear h hl hN h8
  go_enter Tryd.func13, Tryd.ntmps13
  go_upto_region 1 with fail
  generalize w.alloc (.cells #[.slice a len cap, .int .i64 (n : Int)] 24) = w1 at *
  obtain ⟨X, hX⟩ : ∃ X, w.heap.size = X := ⟨_, rfl⟩
  rw [hX] at HX ⊢
  clear hX
  obtain ⟨y0, y1⟩ := HX.out.cells
  go_wp2_with fail
  have x0 := cell_grown (a := ⟨X, 0, none⟩) HX.out.lt y0
  have x1 := cell_grown (a := ⟨X, 1, none⟩) HX.out.lt y1
  clear y0 y1
  refine wp_region_QW mixed5 (by kernel_rfl) ?_
  repeat (refine QW_step (fun K hK => ?_); go_simp; first | (refine hK _ ?_; clear hK K) | (apply Exists.intro; refine ⟨fun _ => ?_, hK _ ?_⟩; fail; clear hK K))
  refine QW_nil ?_
  intro _ hw9
  obtain ⟨⟨nq, osq⟩, hw8⟩ := hw9
  subst hw8
  have HG2 : Hid (Grown w (Go.Sort.grow (w1.drewN nq) osq)) := grown2 HG.out ⟨nq, osq, rfl⟩
  generalize Go.Sort.grow (w1.drewN nq) osq = w2 at *
  go_wp2_with fail
  go_ret
  exact ⟨rfl, HG2.out⟩
set_option maxHeartbeats 1000000 in
set_option maxRecDepth 60000 in
theorem rmay_odd1 (b off len cap n q j B : Nat) (w : World) (hN : (n : Int) ≤ 2400) (hl : ((len : Int) != ((n : Int) + 7) / 8) = false) (hm : (len : Int) ≤ 9223372036854775807) (hq : 8 - (n : Int) % 8 = (q : Int)) (hq1 : 1 ≤ (q : Int)) (hq7 : (q : Int) ≤ 7) (hj : (len : Int) - 1 = (j : Int)) (hb : w.cell? ⟨b, off + j, none⟩ = some (.int .u8 (B : Int))) (hB : (B : Int) < 256) : Calls Tryd.prog 13 #[.agg #[.slice (some ⟨b, off, none⟩) len cap, .int .i64 (n : Int)]] w fun e w' => e = .returned (.bool ((B : Int) % 2 ^ q == 0)) ∧ Grown w w' := by
  have HG := Hid.mk9 (grown_alloc w (.cells #[.slice (some ⟨b, off, none⟩) len cap, .int .i64 (n : Int)] 24))
  have HX := Hid.mk9 (B2.new w 24 (.slice (some ⟨b, off, none⟩) len cap) (.int .i64 (n : Int)))
  have hlt : b < w.heap.size := World.block_lt_of_cell? w ⟨b, off + j, none⟩ hb
  have hb2 := (below_alloc w (.cells #[.slice (some ⟨b, off, none⟩) len cap, .int .i64 (n : Int)] 24)).cell (p := ⟨b, off + j, none⟩) hlt
  rw [hb] at hb2
  have hlt2 : b < (w.alloc (.cells #[.slice (some ⟨b, off, none⟩) len cap, .int .i64 (n : Int)] 24)).heap.size := World.block_lt_of_cell? _ ⟨b, off + j, none⟩ hb2
  have xb := cell_grown (a := ⟨b, off + j, none⟩) hlt2 hb2
  obtain ⟨r, hr⟩ : ∃ r, r = ((B : Int) % 2 ^ q == 0) := ⟨_, rfl⟩
  have HRr : Hid (r = ((B : Int) % 2 ^ q == 0)) := hr
  rw [← hr]
  clear hr
  have j9 : (j : Int) < (len : Int) := by omega
  have j0 : (0 : Int) ≤ (j : Int) := by omega
  have jw : IntKind.i64.wrap (j : Int) = (j : Int) := by simp [IntKind.wrap, IntKind.bits, IntKind.signed]; omega
  have bw : IntKind.i64.wrap (B : Int) = (B : Int) := by simp [IntKind.wrap, IntKind.bits, IntKind.signed]; omega
  clear hb hlt hb2 hlt2
  go_enter Tryd.func13, Tryd.ntmps13
  go_upto_region 1 with fail
  generalize w.alloc (.cells #[.slice (some ⟨b, off, none⟩) len cap, .int .i64 (n : Int)] 24) = w1 at *
  obtain ⟨X, hX⟩ : ∃ X, w.heap.size = X := ⟨_, rfl⟩
  rw [hX] at HX ⊢
  clear hX
  obtain ⟨y0, y1⟩ := HX.out.cells
  go_wp2_with fail
  have x0 := cell_grown (a := ⟨X, 0, none⟩) HX.out.lt y0
  have x1 := cell_grown (a := ⟨X, 1, none⟩) HX.out.lt y1
  clear y0 y1
  have hqq : q = 1 ∨ q = 2 ∨ q = 3 ∨ q = 4 ∨ q = 5 ∨ q = 6 ∨ q = 7 := by omega
  rcases hqq with rfl | rfl | rfl | rfl | rfl | rfl | rfl
  · have hqc : (n : Int).tmod 8 = 7 := by rw [Int.tmod_eq_emod_of_nonneg (by omega)]; omega
    have hsh : IntKind.i64.wrap (2 ^ min (IntKind.u64.wrap (IntKind.i64.wrap 1)).toNat 64) = 2 := by kernel_rfl
    have hbm : (B : Int).tmod 2 = (B : Int) % 2 := Int.tmod_eq_emod_of_nonneg (by omega)
    clear hq hq1 hq7
    refine wp_region_QW mixed5 (by kernel_rfl) ?_
    repeat (refine QW_step (fun K hK => ?_); go_simp; first | (refine hK _ ?_; clear hK K) | (apply Exists.intro; refine ⟨fun _ => ?_, hK _ ?_⟩; fail; clear hK K))
    refine QW_nil ?_
    intro _ hw9
    obtain ⟨⟨nq, osq⟩, hw8⟩ := hw9
    subst hw8
    have HG2 : Hid (Grown w (Go.Sort.grow (w1.drewN nq) osq)) := grown2 HG.out ⟨nq, osq, rfl⟩
    generalize Go.Sort.grow (w1.drewN nq) osq = w2 at *
    go_wp2_with fail
    go_ret
    exact ⟨by rw [HRr.out]; rfl, HG2.out⟩
  · have hqc : (n : Int).tmod 8 = 6 := by rw [Int.tmod_eq_emod_of_nonneg (by omega)]; omega
    have hsh : IntKind.i64.wrap (2 ^ min (IntKind.u64.wrap (IntKind.i64.wrap 2)).toNat 64) = 4 := by kernel_rfl
    have hbm : (B : Int).tmod 4 = (B : Int) % 4 := Int.tmod_eq_emod_of_nonneg (by omega)
    clear hq hq1 hq7
    refine wp_region_QW mixed5 (by kernel_rfl) ?_
    repeat (refine QW_step (fun K hK => ?_); go_simp; first | (refine hK _ ?_; clear hK K) | (apply Exists.intro; refine ⟨fun _ => ?_, hK _ ?_⟩; fail; clear hK K))
    refine QW_nil ?_
    intro _ hw9
    obtain ⟨⟨nq, osq⟩, hw8⟩ := hw9
    subst hw8
    have HG2 : Hid (Grown w (Go.Sort.grow (w1.drewN nq) osq)) := grown2 HG.out ⟨nq, osq, rfl⟩
    generalize Go.Sort.grow (w1.drewN nq) osq = w2 at *
    go_wp2_with fail
    go_ret
    exact ⟨by rw [HRr.out]; rfl, HG2.out⟩
  · have hqc : (n : Int).tmod 8 = 5 := by rw [Int.tmod_eq_emod_of_nonneg (by omega)]; omega
    have hsh : IntKind.i64.wrap (2 ^ min (IntKind.u64.wrap (IntKind.i64.wrap 3)).toNat 64) = 8 := by kernel_rfl
    have hbm : (B : Int).tmod 8 = (B : Int) % 8 := Int.tmod_eq_emod_of_nonneg (by omega)
    clear hq hq1 hq7
    refine wp_region_QW mixed5 (by kernel_rfl) ?_
    repeat (refine QW_step (fun K hK => ?_); go_simp; first | (refine hK _ ?_; clear hK K) | (apply Exists.intro; refine ⟨fun _ => ?_, hK _ ?_⟩; fail; clear hK K))
    refine QW_nil ?_
    intro _ hw9
    obtain ⟨⟨nq, osq⟩, hw8⟩ := hw9
    subst hw8
    have HG2 : Hid (Grown w (Go.Sort.grow (w1.drewN nq) osq)) := grown2 HG.out ⟨nq, osq, rfl⟩
    generalize Go.Sort.grow (w1.drewN nq) osq = w2 at *
    go_wp2_with fail
    go_ret
    exact ⟨by rw [HRr.out]; rfl, HG2.out⟩
  · have hqc : (n : Int).tmod 8 = 4 := by rw [Int.tmod_eq_emod_of_nonneg (by omega)]; omega
    have hsh : IntKind.i64.wrap (2 ^ min (IntKind.u64.wrap (IntKind.i64.wrap 4)).toNat 64) = 16 := by kernel_rfl
    have hbm : (B : Int).tmod 16 = (B : Int) % 16 := Int.tmod_eq_emod_of_nonneg (by omega)
    clear hq hq1 hq7
    refine wp_region_QW mixed5 (by kernel_rfl) ?_
    repeat (refine QW_step (fun K hK => ?_); go_simp; first | (refine hK _ ?_; clear hK K) | (apply Exists.intro; refine ⟨fun _ => ?_, hK _ ?_⟩; fail; clear hK K))
    refine QW_nil ?_
    intro _ hw9
    obtain ⟨⟨nq, osq⟩, hw8⟩ := hw9
    subst hw8
    have HG2 : Hid (Grown w (Go.Sort.grow (w1.drewN nq) osq)) := grown2 HG.out ⟨nq, osq, rfl⟩
    generalize Go.Sort.grow (w1.drewN nq) osq = w2 at *
    go_wp2_with fail
    go_ret
    exact ⟨by rw [HRr.out]; rfl, HG2.out⟩
  · have hqc : (n : Int).tmod 8 = 3 := by rw [Int.tmod_eq_emod_of_nonneg (by omega)]; omega
    have hsh : IntKind.i64.wrap (2 ^ min (IntKind.u64.wrap (IntKind.i64.wrap 5)).toNat 64) = 32 := by kernel_rfl
    have hbm : (B : Int).tmod 32 = (B : Int) % 32 := Int.tmod_eq_emod_of_nonneg (by omega)
    clear hq hq1 hq7
    refine wp_region_QW mixed5 (by kernel_rfl) ?_
    repeat (refine QW_step (fun K hK => ?_); go_simp; first | (refine hK _ ?_; clear hK K) | (apply Exists.intro; refine ⟨fun _ => ?_, hK _ ?_⟩; fail; clear hK K))
    refine QW_nil ?_
    intro _ hw9
    obtain ⟨⟨nq, osq⟩, hw8⟩ := hw9
    subst hw8
    have HG2 : Hid (Grown w (Go.Sort.grow (w1.drewN nq) osq)) := grown2 HG.out ⟨nq, osq, rfl⟩
    generalize Go.Sort.grow (w1.drewN nq) osq = w2 at *
    go_wp2_with fail
    go_ret
    exact ⟨by rw [HRr.out]; rfl, HG2.out⟩
  · have hqc : (n : Int).tmod 8 = 2 := by rw [Int.tmod_eq_emod_of_nonneg (by omega)]; omega
    have hsh : IntKind.i64.wrap (2 ^ min (IntKind.u64.wrap (IntKind.i64.wrap 6)).toNat 64) = 64 := by kernel_rfl
    have hbm : (B : Int).tmod 64 = (B : Int) % 64 := Int.tmod_eq_emod_of_nonneg (by omega)
    clear hq hq1 hq7
    refine wp_region_QW mixed5 (by kernel_rfl) ?_
    repeat (refine QW_step (fun K hK => ?_); go_simp; first | (refine hK _ ?_; clear hK K) | (apply Exists.intro; refine ⟨fun _ => ?_, hK _ ?_⟩; fail; clear hK K))
    refine QW_nil ?_
    intro _ hw9
    obtain ⟨⟨nq, osq⟩, hw8⟩ := hw9
    subst hw8
    have HG2 : Hid (Grown w (Go.Sort.grow (w1.drewN nq) osq)) := grown2 HG.out ⟨nq, osq, rfl⟩
    generalize Go.Sort.grow (w1.drewN nq) osq = w2 at *
    go_wp2_with fail
    go_ret
    exact ⟨by rw [HRr.out]; rfl, HG2.out⟩
  · have hqc : (n : Int).tmod 8 = 1 := by rw [Int.tmod_eq_emod_of_nonneg (by omega)]; omega
    have hsh : IntKind.i64.wrap (2 ^ min (IntKind.u64.wrap (IntKind.i64.wrap 7)).toNat 64) = 128 := by kernel_rfl
    have hbm : (B : Int).tmod 128 = (B : Int) % 128 := Int.tmod_eq_emod_of_nonneg (by omega)
    clear hq hq1 hq7
    refine wp_region_QW mixed5 (by kernel_rfl) ?_
    repeat (refine QW_step (fun K hK => ?_); go_simp; first | (refine hK _ ?_; clear hK K) | (apply Exists.intro; refine ⟨fun _ => ?_, hK _ ?_⟩; fail; clear hK K))
    refine QW_nil ?_
    intro _ hw9
    obtain ⟨⟨nq, osq⟩, hw8⟩ := hw9
    subst hw8
    have HG2 : Hid (Grown w (Go.Sort.grow (w1.drewN nq) osq)) := grown2 HG.out ⟨nq, osq, rfl⟩
    generalize Go.Sort.grow (w1.drewN nq) osq = w2 at *
    go_wp2_with fail
    go_ret
    exact ⟨by rw [HRr.out]; rfl, HG2.out⟩
open Classical in
noncomputable def mayR (bs : List Nat) (N : Int) : Bool := decide (MayB bs N)
open Classical in
theorem mayR_yes {bs : List Nat} {N : Int} (h : MayB bs N) : mayR bs N = true := decide_eq_true h
open Classical in
theorem mayR_no {bs : List Nat} {N : Int} (h : ¬ MayB bs N) : mayR bs N = false := decide_eq_false h
/-- the answer's May of bits that are not too many -/
theorem rmay_any (a : Option Addr) (len cap : Nat) (N : Int) (bs : List Nat) (w : World) (h : ByAt w a len cap bs) (hN : N ≤ 2400) : Calls Tryd.prog 13 #[.agg #[.slice a len cap, .int .i64 N]] w fun e w' => e = .returned (.bool (mayR bs N)) ∧ Grown w w' := by
  by_cases h1 : N < 0
  · rw [mayR_no (fun hm => by have := hm.1; omega)]
    exact rmay_neg a len cap N bs w h h1
  obtain ⟨n, rfl⟩ : ∃ n : Nat, N = n := ⟨N.toNat, by omega⟩
  have hl := h.1
  by_cases h3 : len = need n
  rotate_left
  · rw [mayR_no (fun hm => by have := (may_iff.1 hm).2.1; omega)]
    exact rmay_len a len cap n bs w h (by omega) h3
  by_cases h4 : n % 8 = 0
  · rw [mayR_yes (may_iff.2 ⟨by omega, by rw [hl, h3], endP_iff.2 (.inl h4)⟩)]
    exact rmay_even a len cap n bs w h (by omega) h3 h4
  have hpos : 0 < len := by rw [h3]; unfold need; omega
  obtain ⟨b, off, rfl, -, hc⟩ := h.some hpos
  have hj := hc (len - 1) (by omega)
  have hB : bs.getD (len - 1) 0 < 256 := h.2.2.2.1 (len - 1)
  have key : mayR bs (n : Int) = (((bs.getD (len - 1) 0 : Nat) : Int) % 2 ^ (8 - n % 8) == 0) := by
    have e : MayB bs (n : Int) ↔ bs.getD (len - 1) 0 % 2 ^ (8 - n % 8) = 0 := by
      rw [may_iff, endP_iff, hl]
      exact ⟨fun hh => by rcases hh.2.2 with h5 | h5; exact absurd h5 h4; exact h5, fun hh => ⟨by omega, h3, .inr hh⟩⟩
    have e2 : ((((bs.getD (len - 1) 0 : Nat) : Int) % 2 ^ (8 - n % 8) == 0) = true) ↔ bs.getD (len - 1) 0 % 2 ^ (8 - n % 8) = 0 := by
      rw [beq_iff_eq]
      have : (((bs.getD (len - 1) 0 : Nat) : Int) % 2 ^ (8 - n % 8)) = ((bs.getD (len - 1) 0 % 2 ^ (8 - n % 8) : Nat) : Int) := by
        rw [Int.natCast_emod, Int.natCast_pow]
        rfl
      rw [this]
      omega
    by_cases hM : MayB bs (n : Int)
    · rw [mayR_yes hM]
      exact (e2.2 (e.1 hM)).symm
    · rw [mayR_no hM]
      cases hz : (((bs.getD (len - 1) 0 : Nat) : Int) % 2 ^ (8 - n % 8) == 0) with
      | false => rfl
      | true => exact absurd (e.2 (e2.1 hz)) hM
  rw [key]
  exact rmay_odd1 b off len cap n (8 - n % 8) (len - 1) (bs.getD (len - 1) 0) w (by omega) (by rw [bne_eq_false_iff_eq]; unfold need at h3; omega) (by have := Nat.le_trans h.2.1 h.2.2.1; unfold maxLen at this; omega) (by omega) (by omega) (by omega) (by omega) hj (by omega)
def lightP (len : Nat) (N : Int) : Bool := decide (len ≤ 300) && decide (N ≤ 2400) && decide (-10 ≤ N)
theorem lightP_iff {len : Nat} {N : Int} : lightP len N = true ↔ len ≤ 300 ∧ N ≤ 2400 ∧ -10 ≤ N := by
  simp [lightP, and_assoc]
set_option maxHeartbeats 1000000 in
set_option maxRecDepth 60000 in
theorem light_any (a : Option Addr) (len cap : Nat) (N : Int) (bs : List Nat) (w : World) (h : ByAt w a len cap bs) : Calls Tryd.prog 8 #[.agg #[.slice a len cap, .int .i64 N]] w fun e w' => e = .returned (.bool (lightP len N)) ∧ Grown w w' := by
  have HG := Hid.mk9 (grown_alloc w (.cells #[.slice a len cap, .int .i64 N] 24))
  have HX := Hid.mk9 (B2.new w 24 (.slice a len cap) (.int .i64 N))
  have HR := Hid.mk9 (h.below (below_alloc w (.cells #[.slice a len cap, .int .i64 N] 24)))
  have hm : (len : Int) ≤ 9223372036854775807 := by have := Nat.le_trans h.2.1 h.2.2.1; unfold maxLen at this; omega
  have HE : Hid (lightP len N = (decide (len ≤ 300) && decide (N ≤ 2400) && decide (-10 ≤ N))) := rfl
  clear h
  generalize lightP len N = qq at *
  by_cases h1 : len ≤ 300
  · have d1 : decide ((len : Int) ≤ 300) = true := decide_eq_true (by omega)
    by_cases h2 : N ≤ 2400
    · have d2 : decide (N ≤ 2400) = true := decide_eq_true h2
      by_cases h3 : -10 ≤ N
      · have d3 : decide (-10 ≤ N) = true := decide_eq_true h3
        have HQ : Hid (qq = true) := by rw [Hid, HE.out]; simp [h1, h2, h3]
        clear h1 h2 h3 HE
        go_enter Tryd.func8, Tryd.ntmps8
        go_upto_region 1 with fail
        generalize w.alloc (.cells #[.slice a len cap, .int .i64 N] 24) = w1 at *
        obtain ⟨X, hX⟩ : ∃ X, w.heap.size = X := ⟨_, rfl⟩
        rw [hX] at HX ⊢
        clear hX
        obtain ⟨y0, y1⟩ := HX.out.cells
        go_wp2_with fail
        go_ret
        exact ⟨by rw [HQ.out]; rfl, HG.out⟩
      · have d3 : decide (-10 ≤ N) = false := decide_eq_false h3
        have HQ : Hid (qq = false) := by rw [Hid, HE.out]; simp [h1, h2, h3]
        clear h1 h2 h3 HE
        go_enter Tryd.func8, Tryd.ntmps8
        go_upto_region 1 with fail
        generalize w.alloc (.cells #[.slice a len cap, .int .i64 N] 24) = w1 at *
        obtain ⟨X, hX⟩ : ∃ X, w.heap.size = X := ⟨_, rfl⟩
        rw [hX] at HX ⊢
        clear hX
        obtain ⟨y0, y1⟩ := HX.out.cells
        go_wp2_with fail
        go_ret
        exact ⟨by rw [HQ.out]; rfl, HG.out⟩
    · have d2 : decide (N ≤ 2400) = false := decide_eq_false h2
      have HQ : Hid (qq = false) := by rw [Hid, HE.out]; simp [h2]
      clear h1 h2 HE
      go_enter Tryd.func8, Tryd.ntmps8
      go_upto_region 1 with fail
      generalize w.alloc (.cells #[.slice a len cap, .int .i64 N] 24) = w1 at *
      obtain ⟨X, hX⟩ : ∃ X, w.heap.size = X := ⟨_, rfl⟩
      rw [hX] at HX ⊢
      clear hX
      obtain ⟨y0, y1⟩ := HX.out.cells
      go_wp2_with fail
      go_ret
      exact ⟨by rw [HQ.out]; rfl, HG.out⟩
  · have d1 : decide ((len : Int) ≤ 300) = false := decide_eq_false (by omega)
    have HQ : Hid (qq = false) := by rw [Hid, HE.out]; simp [h1]
    clear h1 HE
    go_enter Tryd.func8, Tryd.ntmps8
    go_upto_region 1 with fail
    generalize w.alloc (.cells #[.slice a len cap, .int .i64 N] 24) = w1 at *
    obtain ⟨X, hX⟩ : ∃ X, w.heap.size = X := ⟨_, rfl⟩
    rw [hX] at HX ⊢
    clear hX
    obtain ⟨y0, y1⟩ := HX.out.cells
    go_wp2_with fail
    go_ret
    exact ⟨by rw [HQ.out]; rfl, HG.out⟩
end Go.Proofs.YtjdgcbdpeooogaaDoor.Bi
