/-
  The contract of classAt.
-/
import Derived.Test.YtcdlkdbnlomghaaDoorBiN
namespace Go.Proofs.YtcdlkdbnlomghaaDoor.Bi
open Go.ChangeShapes Go.WideShapes Go.ChangeAt Go.RowKit
/-- a number of class c begins at a bit -/
def clsOk (l : List Bool) (at' c : Nat) : Prop := at' + hdT c ≤ l.length ∧ val (bt l) at' (hdT c) = hvT c
/-- the first class that begins there -/
def clsIs (l : List Bool) (at' c : Nat) : Prop := c < 5 ∧ clsOk l at' c ∧ ∀ j, j < c → ¬ clsOk l at' j
def ClsPost (l : List Bool) (at' : Nat) (w : World) (e : Ending) (w' : World) : Prop := Grown w w' ∧ ((∃ c : Nat, e = .returned (.tuple #[.int .i64 (c : Int), .bool true]) ∧ clsIs l at' c) ∨ (e = .returned (.tuple #[.int .i64 0, .bool false]) ∧ ∀ j, j < 5 → ¬ clsOk l at' j))
theorem has_nat (a : Option Addr) (len cap k at' n : Nat) (hk : (k : Int) ≤ 131072) (hn : (n : Int) ≤ 1000) (h0 : 0 < n) (w : World) : Calls Tryd.prog 84 #[.agg #[.slice a len cap, .int .i64 k], .int .i64 at', .int .i64 n] w fun e w' => e = .returned (.bool (decide (at' + n ≤ k))) ∧ Grown w w' := by
  have := has_any a len cap k at' n (by omega) hk (by simp [Lit.wf, IntKind.min, IntKind.max, IntKind.bits, IntKind.signed]; omega) w
  have e : hasP k at' n = decide (at' + n ≤ k) := by
    unfold hasP
    rw [decide_eq_false (by omega : ¬ (n : Int) = 0), decide_eq_true (by omega : (0 : Int) < n), decide_eq_true (by omega : (0 : Int) ≤ at')]
    by_cases h : at' + n ≤ k
    · rw [decide_eq_true h, decide_eq_true (by omega)]; rfl
    · rw [decide_eq_false h, decide_eq_false (by omega)]; rfl
  rwa [e] at this
set_option maxHeartbeats 4000000 in
set_option maxRecDepth 60000 in
theorem classAt_any (a : Option Addr) (len cap k at' : Nat) (l : List Bool) (w : World) (h : ByAt w a len cap (pack l len)) (hk : l.length = k) (hl : len = need k) (hN : k ≤ 131072) (ha : at' ≤ k) (hT : Tab w) :
    Calls Tryd.prog 83 #[.agg #[.slice a len cap, .int .i64 (k : Int)], .int .i64 at'] w fun e w' => ClsPost l at' w e w' := by
  have HL : Hid (l.length = k ∧ len = need k ∧ k ≤ 131072 ∧ at' ≤ k) := ⟨hk, hl, hN, ha⟩
  have hk9 : (k : Int) ≤ 131072 := by omega
  have HG1 := Hid.mk9 (grown_alloc w (.cells #[.slice a len cap, .int .i64 (k : Int)] 26))
  have HX := Hid.mk9 (B2.new w 26 (.slice a len cap) (.int .i64 (k : Int)))
  have HR := Hid.mk9 (h.below (below_alloc w (.cells #[.slice a len cap, .int .i64 (k : Int)] 26)))
  have HT := Hid.mk9 (hT.below (below_alloc w (.cells #[.slice a len cap, .int .i64 (k : Int)] 26)))
  clear h hk hl hN ha hT
  go_enter Tryd.func83, Tryd.ntmps83
  go_upto_region 1 with fail
  generalize w.alloc (.cells #[.slice a len cap, .int .i64 (k : Int)] 26) = w1 at *
  generalize w.heap.size = X at *
  have g0 : w1.cell? ⟨0, 0, none⟩ = some (.int .u64 0) := (HT.out 0 (by decide)).1
  have g1 : w1.cell? ⟨0, 1, none⟩ = some (.int .i64 1) := (HT.out 0 (by decide)).2.1
  have g2 : w1.cell? ⟨0, 2, none⟩ = some (.int .i64 0) := (HT.out 0 (by decide)).2.2
  have g3 : w1.cell? ⟨0, 3, none⟩ = some (.int .u64 2) := (HT.out 1 (by decide)).1
  have g4 : w1.cell? ⟨0, 4, none⟩ = some (.int .i64 2) := (HT.out 1 (by decide)).2.1
  have g5 : w1.cell? ⟨0, 5, none⟩ = some (.int .i64 7) := (HT.out 1 (by decide)).2.2
  have g6 : w1.cell? ⟨0, 6, none⟩ = some (.int .u64 6) := (HT.out 2 (by decide)).1
  have g7 : w1.cell? ⟨0, 7, none⟩ = some (.int .i64 3) := (HT.out 2 (by decide)).2.1
  have g8 : w1.cell? ⟨0, 8, none⟩ = some (.int .i64 12) := (HT.out 2 (by decide)).2.2
  have g9 : w1.cell? ⟨0, 9, none⟩ = some (.int .u64 14) := (HT.out 3 (by decide)).1
  have g10 : w1.cell? ⟨0, 10, none⟩ = some (.int .i64 4) := (HT.out 3 (by decide)).2.1
  have g11 : w1.cell? ⟨0, 11, none⟩ = some (.int .i64 20) := (HT.out 3 (by decide)).2.2
  have g12 : w1.cell? ⟨0, 12, none⟩ = some (.int .u64 15) := (HT.out 4 (by decide)).1
  have g13 : w1.cell? ⟨0, 13, none⟩ = some (.int .i64 4) := (HT.out 4 (by decide)).2.1
  have g14 : w1.cell? ⟨0, 14, none⟩ = some (.int .i64 64) := (HT.out 4 (by decide)).2.2
  go_wp2_with fail
  clear g0 g1 g2 g3 g4 g5 g6 g7 g8 g9 g10 g11 g12 g13 g14
  go_loopw [9] (fun i wr => ∃ c : Nat, i = .int .i64 (c : Int) ∧ Hid (c ≤ 5 ∧ ∀ j, j < c → ¬ clsOk l at' j) ∧ Hid (Grown w1 wr)) (fun i _ => 5 - (intOf i).toNat)
  case atStart => exact ⟨0, rfl, ⟨by decide, fun j hj => by omega⟩, grown_refl _⟩
  case round =>
    obtain ⟨c, rfl, hc, hg⟩ := hrel
    have hgB : Hid (Below w1.heap.size w1 wr) := grown_below hg.out
    have hc5 : c = 0 ∨ c = 1 ∨ c = 2 ∨ c = 3 ∨ c = 4 ∨ c = 5 := by have := hc.out.1; omega
    rcases hc5 with rfl | rfl | rfl | rfl | rfl | rfl
    · have hcc : (((0 : Nat) : Int)) = 0 := rfl
      rw [hcc]
      clear hcc
      have hix : ∀ W, (Instr.index 121 (.agg #[.int .u64 0, .int .i64 1, .int .i64 0, .int .u64 2, .int .i64 2, .int .i64 7, .int .u64 6, .int .i64 3, .int .i64 12, .int .u64 14, .int .i64 4, .int .i64 20, .int .u64 15, .int .i64 4, .int .i64 64]) (.int .i64 0)).run Tryd.prog W = .ok (.agg #[.int .u64 0, .int .i64 1, .int .i64 0]) W := fun _ => by kernel_rfl
      by_cases h1 : at' + 1 ≤ k
      · obtain ⟨V, hV⟩ : ∃ V, V = val (bt l) at' 1 := ⟨_, rfl⟩
        have HV : Hid (val (bt l) at' 1 = V) := hV.symm
        have HK := Hid.mk9 h1
        have HH : Hid (∀ W, Calls Tryd.prog 84 #[.agg #[.slice a len cap, .int .i64 (k : Int)], .int .i64 at', .int .i64 1] W fun e w' => e = .returned (.bool true) ∧ Grown W w') := fun W => by
          have := has_nat a len cap k at' 1 hk9 (by decide) (by decide) W
          rwa [decide_eq_true (by omega)] at this
        by_cases h2 : V = 0
        · have HYes : Hid (clsOk l at' 0) := ⟨by have := HL.out; show at' + 1 ≤ l.length; omega, by show val (bt l) at' 1 = 0; rw [HV.out, h2]⟩
          have e9 : ((V : Int) == 0) = true := by rw [beq_iff_eq]; omega
          clear h1 h2 hV
          go_upto_region 4 with fail
          have HX5 := Hid.mk9 (HX.out.below (below2 hgB.out (below_alloc wr (.cells #[.int .u64 0, .int .i64 1, .int .i64 0] 120))))
          have HR5 := Hid.mk9 (HR.out.below (below2 hgB.out (below_alloc wr (.cells #[.int .u64 0, .int .i64 1, .int .i64 0] 120))))
          have HQ5 := Hid.mk9 (B3.new wr 120 (.int .u64 0) (.int .i64 1) (.int .i64 0))
          have HG5 := Hid.mk9 (grown2 hg.out (grown_alloc wr (.cells #[.int .u64 0, .int .i64 1, .int .i64 0] 120)))
          clear hg hgB HX HR
          generalize wr.alloc (.cells #[.int .u64 0, .int .i64 1, .int .i64 0] 120) = w5 at *
          generalize wr.heap.size = Qb at *
          obtain ⟨y0, y1⟩ := HX5.out.cells
          obtain ⟨y2, y3, y4⟩ := HQ5.out.cells
          have x0 := cell_grown (a := ⟨X, 0, none⟩) HX5.out.lt y0
          have x1 := cell_grown (a := ⟨X, 1, none⟩) HX5.out.lt y1
          have x2 := cell_grown (a := ⟨Qb, 0, none⟩) HQ5.out.lt y2
          have x3 := cell_grown (a := ⟨Qb, 1, none⟩) HQ5.out.lt y3
          clear y0 y1 y2 y3 y4
          have HWd : Hid (∀ m os, Calls Tryd.prog 77 #[.slice a len cap, .int .i64 at', .int .i64 1] (Go.Sort.grow (w5.drewN m) os) fun e w' => e = .returned (.int .u64 (V : Int)) ∧ Grown (Go.Sort.grow (w5.drewN m) os) w') := fun m os => by
            have := word_any a len cap at' 1 l _ (HR5.out.below (below_grow _ m os)) (by have h1 := HL.out; unfold need at h1; have h2 := HK.out; omega) (by decide) (by have h1 := HL.out; omega)
            rw [HV.out] at this
            exact this.mono fun e w' h => ⟨h.1, h.2 ▸ grown_refl _⟩
          refine wp_region_QW mixed5 (by kernel_rfl) ?_
          repeat (refine QW_step (fun K hK => ?_); go_simp; first | (refine hK _ ?_; clear hK K) | (apply Exists.intro; refine ⟨fun _ => ?_, hK _ ?_⟩; (first | (go_at_call 84; refine Calls.grown_of (HH.out _)) | (go_at_call 77; refine Calls.grown_of (HWd.out _ _))); clear hK K))
          refine QW_nil ?_
          intro _ hw9
          obtain ⟨⟨nq, osq⟩, hw8⟩ := hw9
          subst hw8
          have HG6 := Hid.mk9 (grown2 HG5.out ⟨nq, osq, rfl⟩)
          clear x0 x1 x2 x3
          generalize Go.Sort.grow (w5.drewN nq) osq = w6 at *
          go_wp2_with fail
          go_ret2
          exact ⟨grown2 HG1.out HG6.out, .inl ⟨0, rfl, by decide, HYes.out, hc.out.2⟩⟩
        · have HNo : Hid (¬ clsOk l at' 0) := fun hk => h2 (by have := hk.2; rw [← HV.out]; exact this)
          have e9 : ((V : Int) == 0) = false := by rw [beq_eq_false_iff_ne]; omega
          clear h1 h2 hV
          go_upto_region 4 with fail
          have HX5 := Hid.mk9 (HX.out.below (below2 hgB.out (below_alloc wr (.cells #[.int .u64 0, .int .i64 1, .int .i64 0] 120))))
          have HR5 := Hid.mk9 (HR.out.below (below2 hgB.out (below_alloc wr (.cells #[.int .u64 0, .int .i64 1, .int .i64 0] 120))))
          have HQ5 := Hid.mk9 (B3.new wr 120 (.int .u64 0) (.int .i64 1) (.int .i64 0))
          have HG5 := Hid.mk9 (grown2 hg.out (grown_alloc wr (.cells #[.int .u64 0, .int .i64 1, .int .i64 0] 120)))
          clear hg hgB HX HR
          generalize wr.alloc (.cells #[.int .u64 0, .int .i64 1, .int .i64 0] 120) = w5 at *
          generalize wr.heap.size = Qb at *
          obtain ⟨y0, y1⟩ := HX5.out.cells
          obtain ⟨y2, y3, y4⟩ := HQ5.out.cells
          have x0 := cell_grown (a := ⟨X, 0, none⟩) HX5.out.lt y0
          have x1 := cell_grown (a := ⟨X, 1, none⟩) HX5.out.lt y1
          have x2 := cell_grown (a := ⟨Qb, 0, none⟩) HQ5.out.lt y2
          have x3 := cell_grown (a := ⟨Qb, 1, none⟩) HQ5.out.lt y3
          clear y0 y1 y2 y3 y4
          have HWd : Hid (∀ m os, Calls Tryd.prog 77 #[.slice a len cap, .int .i64 at', .int .i64 1] (Go.Sort.grow (w5.drewN m) os) fun e w' => e = .returned (.int .u64 (V : Int)) ∧ Grown (Go.Sort.grow (w5.drewN m) os) w') := fun m os => by
            have := word_any a len cap at' 1 l _ (HR5.out.below (below_grow _ m os)) (by have h1 := HL.out; unfold need at h1; have h2 := HK.out; omega) (by decide) (by have h1 := HL.out; omega)
            rw [HV.out] at this
            exact this.mono fun e w' h => ⟨h.1, h.2 ▸ grown_refl _⟩
          refine wp_region_QW mixed5 (by kernel_rfl) ?_
          repeat (refine QW_step (fun K hK => ?_); go_simp; first | (refine hK _ ?_; clear hK K) | (apply Exists.intro; refine ⟨fun _ => ?_, hK _ ?_⟩; (first | (go_at_call 84; refine Calls.grown_of (HH.out _)) | (go_at_call 77; refine Calls.grown_of (HWd.out _ _))); clear hK K))
          refine QW_nil ?_
          intro _ hw9
          obtain ⟨⟨nq, osq⟩, hw8⟩ := hw9
          subst hw8
          have HG6 := Hid.mk9 (grown2 HG5.out ⟨nq, osq, rfl⟩)
          clear x0 x1 x2 x3
          generalize Go.Sort.grow (w5.drewN nq) osq = w6 at *
          go_wp2_with fail
          exact ⟨⟨1, by go_num, ⟨by decide, fun j hj => by
            by_cases e : j = 0
            · subst e; exact HNo.out
            · exact hc.out.2 j (by omega)⟩, HG6.out⟩, by simp [intOf]⟩
      · have HNo : Hid (¬ clsOk l at' 0) := fun hk => h1 (by have h3 := hk.1; have h4 := HL.out; have h5 : at' + 1 ≤ l.length := h3; omega)
        have HH : Hid (∀ W, Calls Tryd.prog 84 #[.agg #[.slice a len cap, .int .i64 (k : Int)], .int .i64 at', .int .i64 1] W fun e w' => e = .returned (.bool false) ∧ Grown W w') := fun W => by
          have := has_nat a len cap k at' 1 hk9 (by decide) (by decide) W
          rwa [decide_eq_false (by omega)] at this
        clear h1
        go_upto_region 4 with fail
        have HX5 := Hid.mk9 (HX.out.below (below2 hgB.out (below_alloc wr (.cells #[.int .u64 0, .int .i64 1, .int .i64 0] 120))))
        have HR5 := Hid.mk9 (HR.out.below (below2 hgB.out (below_alloc wr (.cells #[.int .u64 0, .int .i64 1, .int .i64 0] 120))))
        have HQ5 := Hid.mk9 (B3.new wr 120 (.int .u64 0) (.int .i64 1) (.int .i64 0))
        have HG5 := Hid.mk9 (grown2 hg.out (grown_alloc wr (.cells #[.int .u64 0, .int .i64 1, .int .i64 0] 120)))
        clear hg hgB HX HR
        generalize wr.alloc (.cells #[.int .u64 0, .int .i64 1, .int .i64 0] 120) = w5 at *
        generalize wr.heap.size = Qb at *
        obtain ⟨y0, y1⟩ := HX5.out.cells
        obtain ⟨y2, y3, y4⟩ := HQ5.out.cells
        have x0 := cell_grown (a := ⟨X, 0, none⟩) HX5.out.lt y0
        have x1 := cell_grown (a := ⟨X, 1, none⟩) HX5.out.lt y1
        have x2 := cell_grown (a := ⟨Qb, 0, none⟩) HQ5.out.lt y2
        have x3 := cell_grown (a := ⟨Qb, 1, none⟩) HQ5.out.lt y3
        clear y0 y1 y2 y3 y4
        refine wp_region_QW mixed5 (by kernel_rfl) ?_
        repeat (refine QW_step (fun K hK => ?_); go_simp; first | (refine hK _ ?_; clear hK K) | (apply Exists.intro; refine ⟨fun _ => ?_, hK _ ?_⟩; (go_at_call 84; refine Calls.grown_of (HH.out _)); clear hK K))
        refine QW_nil ?_
        intro _ hw9
        obtain ⟨⟨nq, osq⟩, hw8⟩ := hw9
        subst hw8
        have HG6 := Hid.mk9 (grown2 HG5.out ⟨nq, osq, rfl⟩)
        clear x0 x1 x2 x3
        generalize Go.Sort.grow (w5.drewN nq) osq = w6 at *
        go_wp2_with fail
        exact ⟨⟨1, by go_num, ⟨by decide, fun j hj => by
          by_cases e : j = 0
          · subst e; exact HNo.out
          · exact hc.out.2 j (by omega)⟩, HG6.out⟩, by simp [intOf]⟩
    · have hcc : (((1 : Nat) : Int)) = 1 := rfl
      rw [hcc]
      clear hcc
      have hix : ∀ W, (Instr.index 121 (.agg #[.int .u64 0, .int .i64 1, .int .i64 0, .int .u64 2, .int .i64 2, .int .i64 7, .int .u64 6, .int .i64 3, .int .i64 12, .int .u64 14, .int .i64 4, .int .i64 20, .int .u64 15, .int .i64 4, .int .i64 64]) (.int .i64 1)).run Tryd.prog W = .ok (.agg #[.int .u64 2, .int .i64 2, .int .i64 7]) W := fun _ => by kernel_rfl
      by_cases h1 : at' + 2 ≤ k
      · obtain ⟨V, hV⟩ : ∃ V, V = val (bt l) at' 2 := ⟨_, rfl⟩
        have HV : Hid (val (bt l) at' 2 = V) := hV.symm
        have HK := Hid.mk9 h1
        have HH : Hid (∀ W, Calls Tryd.prog 84 #[.agg #[.slice a len cap, .int .i64 (k : Int)], .int .i64 at', .int .i64 2] W fun e w' => e = .returned (.bool true) ∧ Grown W w') := fun W => by
          have := has_nat a len cap k at' 2 hk9 (by decide) (by decide) W
          rwa [decide_eq_true (by omega)] at this
        by_cases h2 : V = 2
        · have HYes : Hid (clsOk l at' 1) := ⟨by have := HL.out; show at' + 2 ≤ l.length; omega, by show val (bt l) at' 2 = 2; rw [HV.out, h2]⟩
          have e9 : ((V : Int) == 2) = true := by rw [beq_iff_eq]; omega
          clear h1 h2 hV
          go_upto_region 4 with fail
          have HX5 := Hid.mk9 (HX.out.below (below2 hgB.out (below_alloc wr (.cells #[.int .u64 2, .int .i64 2, .int .i64 7] 120))))
          have HR5 := Hid.mk9 (HR.out.below (below2 hgB.out (below_alloc wr (.cells #[.int .u64 2, .int .i64 2, .int .i64 7] 120))))
          have HQ5 := Hid.mk9 (B3.new wr 120 (.int .u64 2) (.int .i64 2) (.int .i64 7))
          have HG5 := Hid.mk9 (grown2 hg.out (grown_alloc wr (.cells #[.int .u64 2, .int .i64 2, .int .i64 7] 120)))
          clear hg hgB HX HR
          generalize wr.alloc (.cells #[.int .u64 2, .int .i64 2, .int .i64 7] 120) = w5 at *
          generalize wr.heap.size = Qb at *
          obtain ⟨y0, y1⟩ := HX5.out.cells
          obtain ⟨y2, y3, y4⟩ := HQ5.out.cells
          have x0 := cell_grown (a := ⟨X, 0, none⟩) HX5.out.lt y0
          have x1 := cell_grown (a := ⟨X, 1, none⟩) HX5.out.lt y1
          have x2 := cell_grown (a := ⟨Qb, 0, none⟩) HQ5.out.lt y2
          have x3 := cell_grown (a := ⟨Qb, 1, none⟩) HQ5.out.lt y3
          clear y0 y1 y2 y3 y4
          have HWd : Hid (∀ m os, Calls Tryd.prog 77 #[.slice a len cap, .int .i64 at', .int .i64 2] (Go.Sort.grow (w5.drewN m) os) fun e w' => e = .returned (.int .u64 (V : Int)) ∧ Grown (Go.Sort.grow (w5.drewN m) os) w') := fun m os => by
            have := word_any a len cap at' 2 l _ (HR5.out.below (below_grow _ m os)) (by have h1 := HL.out; unfold need at h1; have h2 := HK.out; omega) (by decide) (by have h1 := HL.out; omega)
            rw [HV.out] at this
            exact this.mono fun e w' h => ⟨h.1, h.2 ▸ grown_refl _⟩
          refine wp_region_QW mixed5 (by kernel_rfl) ?_
          repeat (refine QW_step (fun K hK => ?_); go_simp; first | (refine hK _ ?_; clear hK K) | (apply Exists.intro; refine ⟨fun _ => ?_, hK _ ?_⟩; (first | (go_at_call 84; refine Calls.grown_of (HH.out _)) | (go_at_call 77; refine Calls.grown_of (HWd.out _ _))); clear hK K))
          refine QW_nil ?_
          intro _ hw9
          obtain ⟨⟨nq, osq⟩, hw8⟩ := hw9
          subst hw8
          have HG6 := Hid.mk9 (grown2 HG5.out ⟨nq, osq, rfl⟩)
          clear x0 x1 x2 x3
          generalize Go.Sort.grow (w5.drewN nq) osq = w6 at *
          go_wp2_with fail
          go_ret2
          exact ⟨grown2 HG1.out HG6.out, .inl ⟨1, rfl, by decide, HYes.out, hc.out.2⟩⟩
        · have HNo : Hid (¬ clsOk l at' 1) := fun hk => h2 (by have := hk.2; rw [← HV.out]; exact this)
          have e9 : ((V : Int) == 2) = false := by rw [beq_eq_false_iff_ne]; omega
          clear h1 h2 hV
          go_upto_region 4 with fail
          have HX5 := Hid.mk9 (HX.out.below (below2 hgB.out (below_alloc wr (.cells #[.int .u64 2, .int .i64 2, .int .i64 7] 120))))
          have HR5 := Hid.mk9 (HR.out.below (below2 hgB.out (below_alloc wr (.cells #[.int .u64 2, .int .i64 2, .int .i64 7] 120))))
          have HQ5 := Hid.mk9 (B3.new wr 120 (.int .u64 2) (.int .i64 2) (.int .i64 7))
          have HG5 := Hid.mk9 (grown2 hg.out (grown_alloc wr (.cells #[.int .u64 2, .int .i64 2, .int .i64 7] 120)))
          clear hg hgB HX HR
          generalize wr.alloc (.cells #[.int .u64 2, .int .i64 2, .int .i64 7] 120) = w5 at *
          generalize wr.heap.size = Qb at *
          obtain ⟨y0, y1⟩ := HX5.out.cells
          obtain ⟨y2, y3, y4⟩ := HQ5.out.cells
          have x0 := cell_grown (a := ⟨X, 0, none⟩) HX5.out.lt y0
          have x1 := cell_grown (a := ⟨X, 1, none⟩) HX5.out.lt y1
          have x2 := cell_grown (a := ⟨Qb, 0, none⟩) HQ5.out.lt y2
          have x3 := cell_grown (a := ⟨Qb, 1, none⟩) HQ5.out.lt y3
          clear y0 y1 y2 y3 y4
          have HWd : Hid (∀ m os, Calls Tryd.prog 77 #[.slice a len cap, .int .i64 at', .int .i64 2] (Go.Sort.grow (w5.drewN m) os) fun e w' => e = .returned (.int .u64 (V : Int)) ∧ Grown (Go.Sort.grow (w5.drewN m) os) w') := fun m os => by
            have := word_any a len cap at' 2 l _ (HR5.out.below (below_grow _ m os)) (by have h1 := HL.out; unfold need at h1; have h2 := HK.out; omega) (by decide) (by have h1 := HL.out; omega)
            rw [HV.out] at this
            exact this.mono fun e w' h => ⟨h.1, h.2 ▸ grown_refl _⟩
          refine wp_region_QW mixed5 (by kernel_rfl) ?_
          repeat (refine QW_step (fun K hK => ?_); go_simp; first | (refine hK _ ?_; clear hK K) | (apply Exists.intro; refine ⟨fun _ => ?_, hK _ ?_⟩; (first | (go_at_call 84; refine Calls.grown_of (HH.out _)) | (go_at_call 77; refine Calls.grown_of (HWd.out _ _))); clear hK K))
          refine QW_nil ?_
          intro _ hw9
          obtain ⟨⟨nq, osq⟩, hw8⟩ := hw9
          subst hw8
          have HG6 := Hid.mk9 (grown2 HG5.out ⟨nq, osq, rfl⟩)
          clear x0 x1 x2 x3
          generalize Go.Sort.grow (w5.drewN nq) osq = w6 at *
          go_wp2_with fail
          exact ⟨⟨2, by go_num, ⟨by decide, fun j hj => by
            by_cases e : j = 1
            · subst e; exact HNo.out
            · exact hc.out.2 j (by omega)⟩, HG6.out⟩, by simp [intOf]⟩
      · have HNo : Hid (¬ clsOk l at' 1) := fun hk => h1 (by have h3 := hk.1; have h4 := HL.out; have h5 : at' + 2 ≤ l.length := h3; omega)
        have HH : Hid (∀ W, Calls Tryd.prog 84 #[.agg #[.slice a len cap, .int .i64 (k : Int)], .int .i64 at', .int .i64 2] W fun e w' => e = .returned (.bool false) ∧ Grown W w') := fun W => by
          have := has_nat a len cap k at' 2 hk9 (by decide) (by decide) W
          rwa [decide_eq_false (by omega)] at this
        clear h1
        go_upto_region 4 with fail
        have HX5 := Hid.mk9 (HX.out.below (below2 hgB.out (below_alloc wr (.cells #[.int .u64 2, .int .i64 2, .int .i64 7] 120))))
        have HR5 := Hid.mk9 (HR.out.below (below2 hgB.out (below_alloc wr (.cells #[.int .u64 2, .int .i64 2, .int .i64 7] 120))))
        have HQ5 := Hid.mk9 (B3.new wr 120 (.int .u64 2) (.int .i64 2) (.int .i64 7))
        have HG5 := Hid.mk9 (grown2 hg.out (grown_alloc wr (.cells #[.int .u64 2, .int .i64 2, .int .i64 7] 120)))
        clear hg hgB HX HR
        generalize wr.alloc (.cells #[.int .u64 2, .int .i64 2, .int .i64 7] 120) = w5 at *
        generalize wr.heap.size = Qb at *
        obtain ⟨y0, y1⟩ := HX5.out.cells
        obtain ⟨y2, y3, y4⟩ := HQ5.out.cells
        have x0 := cell_grown (a := ⟨X, 0, none⟩) HX5.out.lt y0
        have x1 := cell_grown (a := ⟨X, 1, none⟩) HX5.out.lt y1
        have x2 := cell_grown (a := ⟨Qb, 0, none⟩) HQ5.out.lt y2
        have x3 := cell_grown (a := ⟨Qb, 1, none⟩) HQ5.out.lt y3
        clear y0 y1 y2 y3 y4
        refine wp_region_QW mixed5 (by kernel_rfl) ?_
        repeat (refine QW_step (fun K hK => ?_); go_simp; first | (refine hK _ ?_; clear hK K) | (apply Exists.intro; refine ⟨fun _ => ?_, hK _ ?_⟩; (go_at_call 84; refine Calls.grown_of (HH.out _)); clear hK K))
        refine QW_nil ?_
        intro _ hw9
        obtain ⟨⟨nq, osq⟩, hw8⟩ := hw9
        subst hw8
        have HG6 := Hid.mk9 (grown2 HG5.out ⟨nq, osq, rfl⟩)
        clear x0 x1 x2 x3
        generalize Go.Sort.grow (w5.drewN nq) osq = w6 at *
        go_wp2_with fail
        exact ⟨⟨2, by go_num, ⟨by decide, fun j hj => by
          by_cases e : j = 1
          · subst e; exact HNo.out
          · exact hc.out.2 j (by omega)⟩, HG6.out⟩, by simp [intOf]⟩
    · have hcc : (((2 : Nat) : Int)) = 2 := rfl
      rw [hcc]
      clear hcc
      have hix : ∀ W, (Instr.index 121 (.agg #[.int .u64 0, .int .i64 1, .int .i64 0, .int .u64 2, .int .i64 2, .int .i64 7, .int .u64 6, .int .i64 3, .int .i64 12, .int .u64 14, .int .i64 4, .int .i64 20, .int .u64 15, .int .i64 4, .int .i64 64]) (.int .i64 2)).run Tryd.prog W = .ok (.agg #[.int .u64 6, .int .i64 3, .int .i64 12]) W := fun _ => by kernel_rfl
      by_cases h1 : at' + 3 ≤ k
      · obtain ⟨V, hV⟩ : ∃ V, V = val (bt l) at' 3 := ⟨_, rfl⟩
        have HV : Hid (val (bt l) at' 3 = V) := hV.symm
        have HK := Hid.mk9 h1
        have HH : Hid (∀ W, Calls Tryd.prog 84 #[.agg #[.slice a len cap, .int .i64 (k : Int)], .int .i64 at', .int .i64 3] W fun e w' => e = .returned (.bool true) ∧ Grown W w') := fun W => by
          have := has_nat a len cap k at' 3 hk9 (by decide) (by decide) W
          rwa [decide_eq_true (by omega)] at this
        by_cases h2 : V = 6
        · have HYes : Hid (clsOk l at' 2) := ⟨by have := HL.out; show at' + 3 ≤ l.length; omega, by show val (bt l) at' 3 = 6; rw [HV.out, h2]⟩
          have e9 : ((V : Int) == 6) = true := by rw [beq_iff_eq]; omega
          clear h1 h2 hV
          go_upto_region 4 with fail
          have HX5 := Hid.mk9 (HX.out.below (below2 hgB.out (below_alloc wr (.cells #[.int .u64 6, .int .i64 3, .int .i64 12] 120))))
          have HR5 := Hid.mk9 (HR.out.below (below2 hgB.out (below_alloc wr (.cells #[.int .u64 6, .int .i64 3, .int .i64 12] 120))))
          have HQ5 := Hid.mk9 (B3.new wr 120 (.int .u64 6) (.int .i64 3) (.int .i64 12))
          have HG5 := Hid.mk9 (grown2 hg.out (grown_alloc wr (.cells #[.int .u64 6, .int .i64 3, .int .i64 12] 120)))
          clear hg hgB HX HR
          generalize wr.alloc (.cells #[.int .u64 6, .int .i64 3, .int .i64 12] 120) = w5 at *
          generalize wr.heap.size = Qb at *
          obtain ⟨y0, y1⟩ := HX5.out.cells
          obtain ⟨y2, y3, y4⟩ := HQ5.out.cells
          have x0 := cell_grown (a := ⟨X, 0, none⟩) HX5.out.lt y0
          have x1 := cell_grown (a := ⟨X, 1, none⟩) HX5.out.lt y1
          have x2 := cell_grown (a := ⟨Qb, 0, none⟩) HQ5.out.lt y2
          have x3 := cell_grown (a := ⟨Qb, 1, none⟩) HQ5.out.lt y3
          clear y0 y1 y2 y3 y4
          have HWd : Hid (∀ m os, Calls Tryd.prog 77 #[.slice a len cap, .int .i64 at', .int .i64 3] (Go.Sort.grow (w5.drewN m) os) fun e w' => e = .returned (.int .u64 (V : Int)) ∧ Grown (Go.Sort.grow (w5.drewN m) os) w') := fun m os => by
            have := word_any a len cap at' 3 l _ (HR5.out.below (below_grow _ m os)) (by have h1 := HL.out; unfold need at h1; have h2 := HK.out; omega) (by decide) (by have h1 := HL.out; omega)
            rw [HV.out] at this
            exact this.mono fun e w' h => ⟨h.1, h.2 ▸ grown_refl _⟩
          refine wp_region_QW mixed5 (by kernel_rfl) ?_
          repeat (refine QW_step (fun K hK => ?_); go_simp; first | (refine hK _ ?_; clear hK K) | (apply Exists.intro; refine ⟨fun _ => ?_, hK _ ?_⟩; (first | (go_at_call 84; refine Calls.grown_of (HH.out _)) | (go_at_call 77; refine Calls.grown_of (HWd.out _ _))); clear hK K))
          refine QW_nil ?_
          intro _ hw9
          obtain ⟨⟨nq, osq⟩, hw8⟩ := hw9
          subst hw8
          have HG6 := Hid.mk9 (grown2 HG5.out ⟨nq, osq, rfl⟩)
          clear x0 x1 x2 x3
          generalize Go.Sort.grow (w5.drewN nq) osq = w6 at *
          go_wp2_with fail
          go_ret2
          exact ⟨grown2 HG1.out HG6.out, .inl ⟨2, rfl, by decide, HYes.out, hc.out.2⟩⟩
        · have HNo : Hid (¬ clsOk l at' 2) := fun hk => h2 (by have := hk.2; rw [← HV.out]; exact this)
          have e9 : ((V : Int) == 6) = false := by rw [beq_eq_false_iff_ne]; omega
          clear h1 h2 hV
          go_upto_region 4 with fail
          have HX5 := Hid.mk9 (HX.out.below (below2 hgB.out (below_alloc wr (.cells #[.int .u64 6, .int .i64 3, .int .i64 12] 120))))
          have HR5 := Hid.mk9 (HR.out.below (below2 hgB.out (below_alloc wr (.cells #[.int .u64 6, .int .i64 3, .int .i64 12] 120))))
          have HQ5 := Hid.mk9 (B3.new wr 120 (.int .u64 6) (.int .i64 3) (.int .i64 12))
          have HG5 := Hid.mk9 (grown2 hg.out (grown_alloc wr (.cells #[.int .u64 6, .int .i64 3, .int .i64 12] 120)))
          clear hg hgB HX HR
          generalize wr.alloc (.cells #[.int .u64 6, .int .i64 3, .int .i64 12] 120) = w5 at *
          generalize wr.heap.size = Qb at *
          obtain ⟨y0, y1⟩ := HX5.out.cells
          obtain ⟨y2, y3, y4⟩ := HQ5.out.cells
          have x0 := cell_grown (a := ⟨X, 0, none⟩) HX5.out.lt y0
          have x1 := cell_grown (a := ⟨X, 1, none⟩) HX5.out.lt y1
          have x2 := cell_grown (a := ⟨Qb, 0, none⟩) HQ5.out.lt y2
          have x3 := cell_grown (a := ⟨Qb, 1, none⟩) HQ5.out.lt y3
          clear y0 y1 y2 y3 y4
          have HWd : Hid (∀ m os, Calls Tryd.prog 77 #[.slice a len cap, .int .i64 at', .int .i64 3] (Go.Sort.grow (w5.drewN m) os) fun e w' => e = .returned (.int .u64 (V : Int)) ∧ Grown (Go.Sort.grow (w5.drewN m) os) w') := fun m os => by
            have := word_any a len cap at' 3 l _ (HR5.out.below (below_grow _ m os)) (by have h1 := HL.out; unfold need at h1; have h2 := HK.out; omega) (by decide) (by have h1 := HL.out; omega)
            rw [HV.out] at this
            exact this.mono fun e w' h => ⟨h.1, h.2 ▸ grown_refl _⟩
          refine wp_region_QW mixed5 (by kernel_rfl) ?_
          repeat (refine QW_step (fun K hK => ?_); go_simp; first | (refine hK _ ?_; clear hK K) | (apply Exists.intro; refine ⟨fun _ => ?_, hK _ ?_⟩; (first | (go_at_call 84; refine Calls.grown_of (HH.out _)) | (go_at_call 77; refine Calls.grown_of (HWd.out _ _))); clear hK K))
          refine QW_nil ?_
          intro _ hw9
          obtain ⟨⟨nq, osq⟩, hw8⟩ := hw9
          subst hw8
          have HG6 := Hid.mk9 (grown2 HG5.out ⟨nq, osq, rfl⟩)
          clear x0 x1 x2 x3
          generalize Go.Sort.grow (w5.drewN nq) osq = w6 at *
          go_wp2_with fail
          exact ⟨⟨3, by go_num, ⟨by decide, fun j hj => by
            by_cases e : j = 2
            · subst e; exact HNo.out
            · exact hc.out.2 j (by omega)⟩, HG6.out⟩, by simp [intOf]⟩
      · have HNo : Hid (¬ clsOk l at' 2) := fun hk => h1 (by have h3 := hk.1; have h4 := HL.out; have h5 : at' + 3 ≤ l.length := h3; omega)
        have HH : Hid (∀ W, Calls Tryd.prog 84 #[.agg #[.slice a len cap, .int .i64 (k : Int)], .int .i64 at', .int .i64 3] W fun e w' => e = .returned (.bool false) ∧ Grown W w') := fun W => by
          have := has_nat a len cap k at' 3 hk9 (by decide) (by decide) W
          rwa [decide_eq_false (by omega)] at this
        clear h1
        go_upto_region 4 with fail
        have HX5 := Hid.mk9 (HX.out.below (below2 hgB.out (below_alloc wr (.cells #[.int .u64 6, .int .i64 3, .int .i64 12] 120))))
        have HR5 := Hid.mk9 (HR.out.below (below2 hgB.out (below_alloc wr (.cells #[.int .u64 6, .int .i64 3, .int .i64 12] 120))))
        have HQ5 := Hid.mk9 (B3.new wr 120 (.int .u64 6) (.int .i64 3) (.int .i64 12))
        have HG5 := Hid.mk9 (grown2 hg.out (grown_alloc wr (.cells #[.int .u64 6, .int .i64 3, .int .i64 12] 120)))
        clear hg hgB HX HR
        generalize wr.alloc (.cells #[.int .u64 6, .int .i64 3, .int .i64 12] 120) = w5 at *
        generalize wr.heap.size = Qb at *
        obtain ⟨y0, y1⟩ := HX5.out.cells
        obtain ⟨y2, y3, y4⟩ := HQ5.out.cells
        have x0 := cell_grown (a := ⟨X, 0, none⟩) HX5.out.lt y0
        have x1 := cell_grown (a := ⟨X, 1, none⟩) HX5.out.lt y1
        have x2 := cell_grown (a := ⟨Qb, 0, none⟩) HQ5.out.lt y2
        have x3 := cell_grown (a := ⟨Qb, 1, none⟩) HQ5.out.lt y3
        clear y0 y1 y2 y3 y4
        refine wp_region_QW mixed5 (by kernel_rfl) ?_
        repeat (refine QW_step (fun K hK => ?_); go_simp; first | (refine hK _ ?_; clear hK K) | (apply Exists.intro; refine ⟨fun _ => ?_, hK _ ?_⟩; (go_at_call 84; refine Calls.grown_of (HH.out _)); clear hK K))
        refine QW_nil ?_
        intro _ hw9
        obtain ⟨⟨nq, osq⟩, hw8⟩ := hw9
        subst hw8
        have HG6 := Hid.mk9 (grown2 HG5.out ⟨nq, osq, rfl⟩)
        clear x0 x1 x2 x3
        generalize Go.Sort.grow (w5.drewN nq) osq = w6 at *
        go_wp2_with fail
        exact ⟨⟨3, by go_num, ⟨by decide, fun j hj => by
          by_cases e : j = 2
          · subst e; exact HNo.out
          · exact hc.out.2 j (by omega)⟩, HG6.out⟩, by simp [intOf]⟩
    · have hcc : (((3 : Nat) : Int)) = 3 := rfl
      rw [hcc]
      clear hcc
      have hix : ∀ W, (Instr.index 121 (.agg #[.int .u64 0, .int .i64 1, .int .i64 0, .int .u64 2, .int .i64 2, .int .i64 7, .int .u64 6, .int .i64 3, .int .i64 12, .int .u64 14, .int .i64 4, .int .i64 20, .int .u64 15, .int .i64 4, .int .i64 64]) (.int .i64 3)).run Tryd.prog W = .ok (.agg #[.int .u64 14, .int .i64 4, .int .i64 20]) W := fun _ => by kernel_rfl
      by_cases h1 : at' + 4 ≤ k
      · obtain ⟨V, hV⟩ : ∃ V, V = val (bt l) at' 4 := ⟨_, rfl⟩
        have HV : Hid (val (bt l) at' 4 = V) := hV.symm
        have HK := Hid.mk9 h1
        have HH : Hid (∀ W, Calls Tryd.prog 84 #[.agg #[.slice a len cap, .int .i64 (k : Int)], .int .i64 at', .int .i64 4] W fun e w' => e = .returned (.bool true) ∧ Grown W w') := fun W => by
          have := has_nat a len cap k at' 4 hk9 (by decide) (by decide) W
          rwa [decide_eq_true (by omega)] at this
        by_cases h2 : V = 14
        · have HYes : Hid (clsOk l at' 3) := ⟨by have := HL.out; show at' + 4 ≤ l.length; omega, by show val (bt l) at' 4 = 14; rw [HV.out, h2]⟩
          have e9 : ((V : Int) == 14) = true := by rw [beq_iff_eq]; omega
          clear h1 h2 hV
          go_upto_region 4 with fail
          have HX5 := Hid.mk9 (HX.out.below (below2 hgB.out (below_alloc wr (.cells #[.int .u64 14, .int .i64 4, .int .i64 20] 120))))
          have HR5 := Hid.mk9 (HR.out.below (below2 hgB.out (below_alloc wr (.cells #[.int .u64 14, .int .i64 4, .int .i64 20] 120))))
          have HQ5 := Hid.mk9 (B3.new wr 120 (.int .u64 14) (.int .i64 4) (.int .i64 20))
          have HG5 := Hid.mk9 (grown2 hg.out (grown_alloc wr (.cells #[.int .u64 14, .int .i64 4, .int .i64 20] 120)))
          clear hg hgB HX HR
          generalize wr.alloc (.cells #[.int .u64 14, .int .i64 4, .int .i64 20] 120) = w5 at *
          generalize wr.heap.size = Qb at *
          obtain ⟨y0, y1⟩ := HX5.out.cells
          obtain ⟨y2, y3, y4⟩ := HQ5.out.cells
          have x0 := cell_grown (a := ⟨X, 0, none⟩) HX5.out.lt y0
          have x1 := cell_grown (a := ⟨X, 1, none⟩) HX5.out.lt y1
          have x2 := cell_grown (a := ⟨Qb, 0, none⟩) HQ5.out.lt y2
          have x3 := cell_grown (a := ⟨Qb, 1, none⟩) HQ5.out.lt y3
          clear y0 y1 y2 y3 y4
          have HWd : Hid (∀ m os, Calls Tryd.prog 77 #[.slice a len cap, .int .i64 at', .int .i64 4] (Go.Sort.grow (w5.drewN m) os) fun e w' => e = .returned (.int .u64 (V : Int)) ∧ Grown (Go.Sort.grow (w5.drewN m) os) w') := fun m os => by
            have := word_any a len cap at' 4 l _ (HR5.out.below (below_grow _ m os)) (by have h1 := HL.out; unfold need at h1; have h2 := HK.out; omega) (by decide) (by have h1 := HL.out; omega)
            rw [HV.out] at this
            exact this.mono fun e w' h => ⟨h.1, h.2 ▸ grown_refl _⟩
          refine wp_region_QW mixed5 (by kernel_rfl) ?_
          repeat (refine QW_step (fun K hK => ?_); go_simp; first | (refine hK _ ?_; clear hK K) | (apply Exists.intro; refine ⟨fun _ => ?_, hK _ ?_⟩; (first | (go_at_call 84; refine Calls.grown_of (HH.out _)) | (go_at_call 77; refine Calls.grown_of (HWd.out _ _))); clear hK K))
          refine QW_nil ?_
          intro _ hw9
          obtain ⟨⟨nq, osq⟩, hw8⟩ := hw9
          subst hw8
          have HG6 := Hid.mk9 (grown2 HG5.out ⟨nq, osq, rfl⟩)
          clear x0 x1 x2 x3
          generalize Go.Sort.grow (w5.drewN nq) osq = w6 at *
          go_wp2_with fail
          go_ret2
          exact ⟨grown2 HG1.out HG6.out, .inl ⟨3, rfl, by decide, HYes.out, hc.out.2⟩⟩
        · have HNo : Hid (¬ clsOk l at' 3) := fun hk => h2 (by have := hk.2; rw [← HV.out]; exact this)
          have e9 : ((V : Int) == 14) = false := by rw [beq_eq_false_iff_ne]; omega
          clear h1 h2 hV
          go_upto_region 4 with fail
          have HX5 := Hid.mk9 (HX.out.below (below2 hgB.out (below_alloc wr (.cells #[.int .u64 14, .int .i64 4, .int .i64 20] 120))))
          have HR5 := Hid.mk9 (HR.out.below (below2 hgB.out (below_alloc wr (.cells #[.int .u64 14, .int .i64 4, .int .i64 20] 120))))
          have HQ5 := Hid.mk9 (B3.new wr 120 (.int .u64 14) (.int .i64 4) (.int .i64 20))
          have HG5 := Hid.mk9 (grown2 hg.out (grown_alloc wr (.cells #[.int .u64 14, .int .i64 4, .int .i64 20] 120)))
          clear hg hgB HX HR
          generalize wr.alloc (.cells #[.int .u64 14, .int .i64 4, .int .i64 20] 120) = w5 at *
          generalize wr.heap.size = Qb at *
          obtain ⟨y0, y1⟩ := HX5.out.cells
          obtain ⟨y2, y3, y4⟩ := HQ5.out.cells
          have x0 := cell_grown (a := ⟨X, 0, none⟩) HX5.out.lt y0
          have x1 := cell_grown (a := ⟨X, 1, none⟩) HX5.out.lt y1
          have x2 := cell_grown (a := ⟨Qb, 0, none⟩) HQ5.out.lt y2
          have x3 := cell_grown (a := ⟨Qb, 1, none⟩) HQ5.out.lt y3
          clear y0 y1 y2 y3 y4
          have HWd : Hid (∀ m os, Calls Tryd.prog 77 #[.slice a len cap, .int .i64 at', .int .i64 4] (Go.Sort.grow (w5.drewN m) os) fun e w' => e = .returned (.int .u64 (V : Int)) ∧ Grown (Go.Sort.grow (w5.drewN m) os) w') := fun m os => by
            have := word_any a len cap at' 4 l _ (HR5.out.below (below_grow _ m os)) (by have h1 := HL.out; unfold need at h1; have h2 := HK.out; omega) (by decide) (by have h1 := HL.out; omega)
            rw [HV.out] at this
            exact this.mono fun e w' h => ⟨h.1, h.2 ▸ grown_refl _⟩
          refine wp_region_QW mixed5 (by kernel_rfl) ?_
          repeat (refine QW_step (fun K hK => ?_); go_simp; first | (refine hK _ ?_; clear hK K) | (apply Exists.intro; refine ⟨fun _ => ?_, hK _ ?_⟩; (first | (go_at_call 84; refine Calls.grown_of (HH.out _)) | (go_at_call 77; refine Calls.grown_of (HWd.out _ _))); clear hK K))
          refine QW_nil ?_
          intro _ hw9
          obtain ⟨⟨nq, osq⟩, hw8⟩ := hw9
          subst hw8
          have HG6 := Hid.mk9 (grown2 HG5.out ⟨nq, osq, rfl⟩)
          clear x0 x1 x2 x3
          generalize Go.Sort.grow (w5.drewN nq) osq = w6 at *
          go_wp2_with fail
          exact ⟨⟨4, by go_num, ⟨by decide, fun j hj => by
            by_cases e : j = 3
            · subst e; exact HNo.out
            · exact hc.out.2 j (by omega)⟩, HG6.out⟩, by simp [intOf]⟩
      · have HNo : Hid (¬ clsOk l at' 3) := fun hk => h1 (by have h3 := hk.1; have h4 := HL.out; have h5 : at' + 4 ≤ l.length := h3; omega)
        have HH : Hid (∀ W, Calls Tryd.prog 84 #[.agg #[.slice a len cap, .int .i64 (k : Int)], .int .i64 at', .int .i64 4] W fun e w' => e = .returned (.bool false) ∧ Grown W w') := fun W => by
          have := has_nat a len cap k at' 4 hk9 (by decide) (by decide) W
          rwa [decide_eq_false (by omega)] at this
        clear h1
        go_upto_region 4 with fail
        have HX5 := Hid.mk9 (HX.out.below (below2 hgB.out (below_alloc wr (.cells #[.int .u64 14, .int .i64 4, .int .i64 20] 120))))
        have HR5 := Hid.mk9 (HR.out.below (below2 hgB.out (below_alloc wr (.cells #[.int .u64 14, .int .i64 4, .int .i64 20] 120))))
        have HQ5 := Hid.mk9 (B3.new wr 120 (.int .u64 14) (.int .i64 4) (.int .i64 20))
        have HG5 := Hid.mk9 (grown2 hg.out (grown_alloc wr (.cells #[.int .u64 14, .int .i64 4, .int .i64 20] 120)))
        clear hg hgB HX HR
        generalize wr.alloc (.cells #[.int .u64 14, .int .i64 4, .int .i64 20] 120) = w5 at *
        generalize wr.heap.size = Qb at *
        obtain ⟨y0, y1⟩ := HX5.out.cells
        obtain ⟨y2, y3, y4⟩ := HQ5.out.cells
        have x0 := cell_grown (a := ⟨X, 0, none⟩) HX5.out.lt y0
        have x1 := cell_grown (a := ⟨X, 1, none⟩) HX5.out.lt y1
        have x2 := cell_grown (a := ⟨Qb, 0, none⟩) HQ5.out.lt y2
        have x3 := cell_grown (a := ⟨Qb, 1, none⟩) HQ5.out.lt y3
        clear y0 y1 y2 y3 y4
        refine wp_region_QW mixed5 (by kernel_rfl) ?_
        repeat (refine QW_step (fun K hK => ?_); go_simp; first | (refine hK _ ?_; clear hK K) | (apply Exists.intro; refine ⟨fun _ => ?_, hK _ ?_⟩; (go_at_call 84; refine Calls.grown_of (HH.out _)); clear hK K))
        refine QW_nil ?_
        intro _ hw9
        obtain ⟨⟨nq, osq⟩, hw8⟩ := hw9
        subst hw8
        have HG6 := Hid.mk9 (grown2 HG5.out ⟨nq, osq, rfl⟩)
        clear x0 x1 x2 x3
        generalize Go.Sort.grow (w5.drewN nq) osq = w6 at *
        go_wp2_with fail
        exact ⟨⟨4, by go_num, ⟨by decide, fun j hj => by
          by_cases e : j = 3
          · subst e; exact HNo.out
          · exact hc.out.2 j (by omega)⟩, HG6.out⟩, by simp [intOf]⟩
    · have hcc : (((4 : Nat) : Int)) = 4 := rfl
      rw [hcc]
      clear hcc
      have hix : ∀ W, (Instr.index 121 (.agg #[.int .u64 0, .int .i64 1, .int .i64 0, .int .u64 2, .int .i64 2, .int .i64 7, .int .u64 6, .int .i64 3, .int .i64 12, .int .u64 14, .int .i64 4, .int .i64 20, .int .u64 15, .int .i64 4, .int .i64 64]) (.int .i64 4)).run Tryd.prog W = .ok (.agg #[.int .u64 15, .int .i64 4, .int .i64 64]) W := fun _ => by kernel_rfl
      by_cases h1 : at' + 4 ≤ k
      · obtain ⟨V, hV⟩ : ∃ V, V = val (bt l) at' 4 := ⟨_, rfl⟩
        have HV : Hid (val (bt l) at' 4 = V) := hV.symm
        have HK := Hid.mk9 h1
        have HH : Hid (∀ W, Calls Tryd.prog 84 #[.agg #[.slice a len cap, .int .i64 (k : Int)], .int .i64 at', .int .i64 4] W fun e w' => e = .returned (.bool true) ∧ Grown W w') := fun W => by
          have := has_nat a len cap k at' 4 hk9 (by decide) (by decide) W
          rwa [decide_eq_true (by omega)] at this
        by_cases h2 : V = 15
        · have HYes : Hid (clsOk l at' 4) := ⟨by have := HL.out; show at' + 4 ≤ l.length; omega, by show val (bt l) at' 4 = 15; rw [HV.out, h2]⟩
          have e9 : ((V : Int) == 15) = true := by rw [beq_iff_eq]; omega
          clear h1 h2 hV
          go_upto_region 4 with fail
          have HX5 := Hid.mk9 (HX.out.below (below2 hgB.out (below_alloc wr (.cells #[.int .u64 15, .int .i64 4, .int .i64 64] 120))))
          have HR5 := Hid.mk9 (HR.out.below (below2 hgB.out (below_alloc wr (.cells #[.int .u64 15, .int .i64 4, .int .i64 64] 120))))
          have HQ5 := Hid.mk9 (B3.new wr 120 (.int .u64 15) (.int .i64 4) (.int .i64 64))
          have HG5 := Hid.mk9 (grown2 hg.out (grown_alloc wr (.cells #[.int .u64 15, .int .i64 4, .int .i64 64] 120)))
          clear hg hgB HX HR
          generalize wr.alloc (.cells #[.int .u64 15, .int .i64 4, .int .i64 64] 120) = w5 at *
          generalize wr.heap.size = Qb at *
          obtain ⟨y0, y1⟩ := HX5.out.cells
          obtain ⟨y2, y3, y4⟩ := HQ5.out.cells
          have x0 := cell_grown (a := ⟨X, 0, none⟩) HX5.out.lt y0
          have x1 := cell_grown (a := ⟨X, 1, none⟩) HX5.out.lt y1
          have x2 := cell_grown (a := ⟨Qb, 0, none⟩) HQ5.out.lt y2
          have x3 := cell_grown (a := ⟨Qb, 1, none⟩) HQ5.out.lt y3
          clear y0 y1 y2 y3 y4
          have HWd : Hid (∀ m os, Calls Tryd.prog 77 #[.slice a len cap, .int .i64 at', .int .i64 4] (Go.Sort.grow (w5.drewN m) os) fun e w' => e = .returned (.int .u64 (V : Int)) ∧ Grown (Go.Sort.grow (w5.drewN m) os) w') := fun m os => by
            have := word_any a len cap at' 4 l _ (HR5.out.below (below_grow _ m os)) (by have h1 := HL.out; unfold need at h1; have h2 := HK.out; omega) (by decide) (by have h1 := HL.out; omega)
            rw [HV.out] at this
            exact this.mono fun e w' h => ⟨h.1, h.2 ▸ grown_refl _⟩
          refine wp_region_QW mixed5 (by kernel_rfl) ?_
          repeat (refine QW_step (fun K hK => ?_); go_simp; first | (refine hK _ ?_; clear hK K) | (apply Exists.intro; refine ⟨fun _ => ?_, hK _ ?_⟩; (first | (go_at_call 84; refine Calls.grown_of (HH.out _)) | (go_at_call 77; refine Calls.grown_of (HWd.out _ _))); clear hK K))
          refine QW_nil ?_
          intro _ hw9
          obtain ⟨⟨nq, osq⟩, hw8⟩ := hw9
          subst hw8
          have HG6 := Hid.mk9 (grown2 HG5.out ⟨nq, osq, rfl⟩)
          clear x0 x1 x2 x3
          generalize Go.Sort.grow (w5.drewN nq) osq = w6 at *
          go_wp2_with fail
          go_ret2
          exact ⟨grown2 HG1.out HG6.out, .inl ⟨4, rfl, by decide, HYes.out, hc.out.2⟩⟩
        · have HNo : Hid (¬ clsOk l at' 4) := fun hk => h2 (by have := hk.2; rw [← HV.out]; exact this)
          have e9 : ((V : Int) == 15) = false := by rw [beq_eq_false_iff_ne]; omega
          clear h1 h2 hV
          go_upto_region 4 with fail
          have HX5 := Hid.mk9 (HX.out.below (below2 hgB.out (below_alloc wr (.cells #[.int .u64 15, .int .i64 4, .int .i64 64] 120))))
          have HR5 := Hid.mk9 (HR.out.below (below2 hgB.out (below_alloc wr (.cells #[.int .u64 15, .int .i64 4, .int .i64 64] 120))))
          have HQ5 := Hid.mk9 (B3.new wr 120 (.int .u64 15) (.int .i64 4) (.int .i64 64))
          have HG5 := Hid.mk9 (grown2 hg.out (grown_alloc wr (.cells #[.int .u64 15, .int .i64 4, .int .i64 64] 120)))
          clear hg hgB HX HR
          generalize wr.alloc (.cells #[.int .u64 15, .int .i64 4, .int .i64 64] 120) = w5 at *
          generalize wr.heap.size = Qb at *
          obtain ⟨y0, y1⟩ := HX5.out.cells
          obtain ⟨y2, y3, y4⟩ := HQ5.out.cells
          have x0 := cell_grown (a := ⟨X, 0, none⟩) HX5.out.lt y0
          have x1 := cell_grown (a := ⟨X, 1, none⟩) HX5.out.lt y1
          have x2 := cell_grown (a := ⟨Qb, 0, none⟩) HQ5.out.lt y2
          have x3 := cell_grown (a := ⟨Qb, 1, none⟩) HQ5.out.lt y3
          clear y0 y1 y2 y3 y4
          have HWd : Hid (∀ m os, Calls Tryd.prog 77 #[.slice a len cap, .int .i64 at', .int .i64 4] (Go.Sort.grow (w5.drewN m) os) fun e w' => e = .returned (.int .u64 (V : Int)) ∧ Grown (Go.Sort.grow (w5.drewN m) os) w') := fun m os => by
            have := word_any a len cap at' 4 l _ (HR5.out.below (below_grow _ m os)) (by have h1 := HL.out; unfold need at h1; have h2 := HK.out; omega) (by decide) (by have h1 := HL.out; omega)
            rw [HV.out] at this
            exact this.mono fun e w' h => ⟨h.1, h.2 ▸ grown_refl _⟩
          refine wp_region_QW mixed5 (by kernel_rfl) ?_
          repeat (refine QW_step (fun K hK => ?_); go_simp; first | (refine hK _ ?_; clear hK K) | (apply Exists.intro; refine ⟨fun _ => ?_, hK _ ?_⟩; (first | (go_at_call 84; refine Calls.grown_of (HH.out _)) | (go_at_call 77; refine Calls.grown_of (HWd.out _ _))); clear hK K))
          refine QW_nil ?_
          intro _ hw9
          obtain ⟨⟨nq, osq⟩, hw8⟩ := hw9
          subst hw8
          have HG6 := Hid.mk9 (grown2 HG5.out ⟨nq, osq, rfl⟩)
          clear x0 x1 x2 x3
          generalize Go.Sort.grow (w5.drewN nq) osq = w6 at *
          go_wp2_with fail
          exact ⟨⟨5, by go_num, ⟨by decide, fun j hj => by
            by_cases e : j = 4
            · subst e; exact HNo.out
            · exact hc.out.2 j (by omega)⟩, HG6.out⟩, by simp [intOf]⟩
      · have HNo : Hid (¬ clsOk l at' 4) := fun hk => h1 (by have h3 := hk.1; have h4 := HL.out; have h5 : at' + 4 ≤ l.length := h3; omega)
        have HH : Hid (∀ W, Calls Tryd.prog 84 #[.agg #[.slice a len cap, .int .i64 (k : Int)], .int .i64 at', .int .i64 4] W fun e w' => e = .returned (.bool false) ∧ Grown W w') := fun W => by
          have := has_nat a len cap k at' 4 hk9 (by decide) (by decide) W
          rwa [decide_eq_false (by omega)] at this
        clear h1
        go_upto_region 4 with fail
        have HX5 := Hid.mk9 (HX.out.below (below2 hgB.out (below_alloc wr (.cells #[.int .u64 15, .int .i64 4, .int .i64 64] 120))))
        have HR5 := Hid.mk9 (HR.out.below (below2 hgB.out (below_alloc wr (.cells #[.int .u64 15, .int .i64 4, .int .i64 64] 120))))
        have HQ5 := Hid.mk9 (B3.new wr 120 (.int .u64 15) (.int .i64 4) (.int .i64 64))
        have HG5 := Hid.mk9 (grown2 hg.out (grown_alloc wr (.cells #[.int .u64 15, .int .i64 4, .int .i64 64] 120)))
        clear hg hgB HX HR
        generalize wr.alloc (.cells #[.int .u64 15, .int .i64 4, .int .i64 64] 120) = w5 at *
        generalize wr.heap.size = Qb at *
        obtain ⟨y0, y1⟩ := HX5.out.cells
        obtain ⟨y2, y3, y4⟩ := HQ5.out.cells
        have x0 := cell_grown (a := ⟨X, 0, none⟩) HX5.out.lt y0
        have x1 := cell_grown (a := ⟨X, 1, none⟩) HX5.out.lt y1
        have x2 := cell_grown (a := ⟨Qb, 0, none⟩) HQ5.out.lt y2
        have x3 := cell_grown (a := ⟨Qb, 1, none⟩) HQ5.out.lt y3
        clear y0 y1 y2 y3 y4
        refine wp_region_QW mixed5 (by kernel_rfl) ?_
        repeat (refine QW_step (fun K hK => ?_); go_simp; first | (refine hK _ ?_; clear hK K) | (apply Exists.intro; refine ⟨fun _ => ?_, hK _ ?_⟩; (go_at_call 84; refine Calls.grown_of (HH.out _)); clear hK K))
        refine QW_nil ?_
        intro _ hw9
        obtain ⟨⟨nq, osq⟩, hw8⟩ := hw9
        subst hw8
        have HG6 := Hid.mk9 (grown2 HG5.out ⟨nq, osq, rfl⟩)
        clear x0 x1 x2 x3
        generalize Go.Sort.grow (w5.drewN nq) osq = w6 at *
        go_wp2_with fail
        exact ⟨⟨5, by go_num, ⟨by decide, fun j hj => by
          by_cases e : j = 4
          · subst e; exact HNo.out
          · exact hc.out.2 j (by omega)⟩, HG6.out⟩, by simp [intOf]⟩
    · have hcc : (((5 : Nat) : Int)) = 5 := rfl
      rw [hcc]
      clear hcc
      go_wp2_with fail
      go_ret2
      exact ⟨grown2 HG1.out hg.out, .inr ⟨rfl, hc.out.2⟩⟩
end Go.Proofs.YtcdlkdbnlomghaaDoor.Bi
