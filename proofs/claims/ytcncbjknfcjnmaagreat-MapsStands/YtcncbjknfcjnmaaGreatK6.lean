/-
  The contracts of mayBe, added, turned, concerns and refusal, for a node added and a node that goes up.
  The contracts of refusalToAdd, refusalOfNode and refusal, for a node added to none and a node that goes up.
  The contract of refusal, for a node added to none and a node that goes up.
  What a turn keeps; a bare map in a box of one's own; the contract of leave where too few acted.
  The contracts of slices.Equal over ints and of the answer's Ints; of leave where too few acted.
-/
import Derived.Test.YtcncbjknfcjnmaaGreatK4
import Derived.Test.YtcncbjknfcjnmaaGreatK5
namespace Go.Proofs.YtcncbjknfcjnmaaGreat.Tp
open Go.ChangeShapes Go.WideShapes Go.ChangeAt Go.RowKit
set_option maxRecDepth 60000 in
theorem mayBe_add (id z r wt : Int) (w : World) : Calls Tryz.prog 64 #[.agg #[.int .i64 1, .int .i64 id, .int .i64 z, .int .i64 r, .int .i64 wt, .int .i64 0, .slice none 0 0]] w fun e w' => e = .returned (.bool true) ∧ Below w.heap.size w w' := by
  go_enter Tryz.func64, Tryz.ntmps64
  go_wp2_with fail
  go_ret
  exact ⟨rfl, below2 (below_alloc _ _) (below_alloc _ _)⟩
set_option maxRecDepth 60000 in
theorem mayBe_up (id : Int) (w : World) : Calls Tryz.prog 64 #[.agg #[.int .i64 3, .int .i64 id, .int .i64 0, .int .i64 0, .int .i64 0, .int .i64 0, .slice none 0 0]] w fun e w' => e = .returned (.bool true) ∧ Below w.heap.size w w' := by
  go_enter Tryz.func64, Tryz.ntmps64
  go_wp2_with fail
  go_ret
  exact ⟨rfl, below2 (below_alloc _ _) (below_alloc _ _)⟩
theorem ret_nd {fn : Func} {p : Tmp} (h : fn.results = #[.cell p 72]) (tmps : Array Value) (w : World) (b : Nat) (v0 v1 v2 v3 v4 v5 : Value) (hp : tmps.getD p undef = .pointer (some ⟨b, 0, none⟩)) (hb : Six w b v0 v1 v2 v3 v4 v5) : (results fn tmps).run Tryz.prog w = .ok (.agg #[v0, v1, v2, v3, v4, v5]) w := by
  obtain ⟨h0, h1, h2, h3, h4, h5⟩ := hb
  simp only [Array.getD_eq_getD_getElem?] at hp
  simp only [results, h]
  simp [go_sem, hp, h0, h1, h2, h3, h4, h5]
set_option maxRecDepth 60000 in
theorem added_any (k id z r wt g : Int) (a : Option Addr) (len cap : Nat) (w : World) : Calls Tryz.prog 88 #[.agg #[.int .i64 k, .int .i64 id, .int .i64 z, .int .i64 r, .int .i64 wt, .int .i64 g, .slice a len cap]] w fun e w' => e = .returned (.agg #[.int .i64 id, .int .i64 z, .int .i64 r, .int .i64 wt, .bool false, .bool true]) ∧ Grown w w' := by
  have HG : Hid (Grown w ((w.alloc (.cells #[.int .i64 k, .int .i64 id, .int .i64 z, .int .i64 r, .int .i64 wt, .int .i64 g, .slice a len cap] 37)).alloc (.cells #[.int .i64 id, .int .i64 z, .int .i64 r, .int .i64 wt, .bool false, .bool true] 72))) := grown2 (grown_alloc _ _) (grown_alloc _ _)
  go_enter Tryz.func88, Tryz.ntmps88
  go_wp2_with fail
  refine bodyPost_ret (ret_nd rfl _ _ (w.heap.size + 1) (.int .i64 id) (.int .i64 z) (.int .i64 r) (.int .i64 wt) (.bool false) (.bool true) rfl (by unfold Six; simp)) rfl ?_
  exact ⟨rfl, HG.out⟩
theorem six_new (W : World) (v0 v1 v2 v3 v4 v5 : Value) (t : TypeId) : Six (W.alloc (.cells #[v0, v1, v2, v3, v4, v5] t)) W.heap.size v0 v1 v2 v3 v4 v5 := by unfold Six; simp
set_option maxRecDepth 60000 in
theorem turned_up (c1 c2 c3 c4 : Int) (c5 c6 : Bool) (id : Int) (w : World) : Calls Tryz.prog 93 #[.agg #[.int .i64 c1, .int .i64 c2, .int .i64 c3, .int .i64 c4, .bool c5, .bool c6], .agg #[.int .i64 3, .int .i64 id, .int .i64 0, .int .i64 0, .int .i64 0, .int .i64 0, .slice none 0 0]] w fun e w' => e = .returned (.agg #[.int .i64 c1, .int .i64 c2, .int .i64 c3, .int .i64 c4, .bool true, .bool c6]) ∧ Grown w w' := by
  have HG : Hid (Grown w (((w.alloc (.cells #[.int .i64 c1, .int .i64 c2, .int .i64 c3, .int .i64 c4, .bool true, .bool c6] 72)).alloc (.cells #[.int .i64 3, .int .i64 id, .int .i64 0, .int .i64 0, .int .i64 0, .int .i64 0, .slice none 0 0] 37)).alloc (.cells #[.int .i64 c1, .int .i64 c2, .int .i64 c3, .int .i64 c4, .bool true, .bool c6] 72))) := grown2 (grown2 (grown_alloc _ _) (grown_alloc _ _)) (grown_alloc _ _)
  have HS : Hid (Six (((w.alloc (.cells #[.int .i64 c1, .int .i64 c2, .int .i64 c3, .int .i64 c4, .bool true, .bool c6] 72)).alloc (.cells #[.int .i64 3, .int .i64 id, .int .i64 0, .int .i64 0, .int .i64 0, .int .i64 0, .slice none 0 0] 37)).alloc (.cells #[.int .i64 c1, .int .i64 c2, .int .i64 c3, .int .i64 c4, .bool true, .bool c6] 72)) (w.heap.size + 1 + 1) (.int .i64 c1) (.int .i64 c2) (.int .i64 c3) (.int .i64 c4) (.bool true) (.bool c6)) := by
    have := six_new ((w.alloc (.cells #[.int .i64 c1, .int .i64 c2, .int .i64 c3, .int .i64 c4, .bool true, .bool c6] 72)).alloc (.cells #[.int .i64 3, .int .i64 id, .int .i64 0, .int .i64 0, .int .i64 0, .int .i64 0, .slice none 0 0] 37)) (.int .i64 c1) (.int .i64 c2) (.int .i64 c3) (.int .i64 c4) (.bool true) (.bool c6) 72
    rwa [show ((w.alloc (.cells #[.int .i64 c1, .int .i64 c2, .int .i64 c3, .int .i64 c4, .bool true, .bool c6] 72)).alloc (.cells #[.int .i64 3, .int .i64 id, .int .i64 0, .int .i64 0, .int .i64 0, .int .i64 0, .slice none 0 0] 37)).heap.size = w.heap.size + 1 + 1 by simp] at this
  go_enter Tryz.func93, Tryz.ntmps93
  go_wp2_with fail
  refine bodyPost_ret (ret_nd rfl _ _ (w.heap.size + 1 + 1) (.int .i64 c1) (.int .i64 c2) (.int .i64 c3) (.int .i64 c4) (.bool true) (.bool c6) rfl HS.out) rfl ?_
  exact ⟨rfl, HG.out⟩
theorem concerns_add (g id z r wt : Int) (w : World) : Calls Tryz.prog 70 #[.agg #[.int .i64 1, .int .i64 id, .int .i64 z, .int .i64 r, .int .i64 wt, .int .i64 0, .slice none 0 0], .int .i64 g] w fun e w' => e = .returned (.bool true) ∧ Below w.heap.size w w' := by
  go_enter Tryz.func70, Tryz.ntmps70
  go_wp2_with fail
  go_ret
  exact ⟨rfl, below_alloc _ _⟩
theorem concerns_up (g id z r wt : Int) (w : World) : Calls Tryz.prog 70 #[.agg #[.int .i64 3, .int .i64 id, .int .i64 z, .int .i64 r, .int .i64 wt, .int .i64 0, .slice none 0 0], .int .i64 g] w fun e w' => e = .returned (.bool true) ∧ Below w.heap.size w w' := by
  go_enter Tryz.func70, Tryz.ntmps70
  go_wp2_with fail
  go_ret
  exact ⟨rfl, below_alloc _ _⟩
end Go.Proofs.YtcncbjknfcjnmaaGreat.Tp
namespace Go.Proofs.YtcncbjknfcjnmaaGreat.Tp
open Go.ChangeShapes Go.WideShapes Go.ChangeAt Go.RowKit
theorem srch_none {id : Int} {p : Nat} {t : Bool} (h : SrchIs [] id p t) : p = 0 ∧ t = false := by
  obtain ⟨h1, _, _, h4⟩ := h
  refine ⟨by simpa using h1, ?_⟩
  cases t with
  | false => rfl
  | true => exact absurd (h4.1 rfl).1 (by simp)
theorem one_at (w : World) (x : Nd) : NdsAt (w.alloc (.cells (ndCells x).toArray 72)) (some ⟨w.heap.size, 0, none⟩) 1 1 [x] := by
  refine ⟨rfl, Nat.le_refl _, by unfold maxLen; omega, .inr ⟨w.heap.size, 0, rfl, fun i hi => ?_⟩⟩
  obtain rfl : i = 0 := by omega
  exact ⟨by simp [ndCells], by simp [ndCells], by simp [ndCells], by simp [ndCells], by simp [ndCells], by simp [ndCells]⟩
theorem one_may {x : Nd} (h : InN x) : MayN [x] := ⟨by simp, fun i hi => by
  obtain rfl : i = 0 := by simp at hi; omega
  exact ⟨h, fun h => absurd h (by decide)⟩⟩
set_option maxRecDepth 60000 in
theorem refuseAdd_none {m : Mp} {s : MV} {id z r wt : Int} (hx : InN ⟨id, z, r, wt, false, true⟩) (hn : m.nds = []) (w : World) (hN : NdsAt w s.aN s.lN s.cN m.nds) :
    Calls Tryz.prog 65 #[.agg (mapCells m s).toArray, .agg #[.int .i64 1, .int .i64 id, .int .i64 z, .int .i64 r, .int .i64 wt, .int .i64 0, .slice none 0 0]] w fun e w' => e = .returned (.int .i64 0) ∧ Below w.heap.size w w' := by
  have hb1 : Below w.heap.size w ((w.alloc (.cells (mapCells m s).toArray 26)).alloc (.cells #[.int .i64 1, .int .i64 id, .int .i64 z, .int .i64 r, .int .i64 wt, .int .i64 0, .slice none 0 0] 37)) := below2 (below_alloc _ _) (below_alloc _ _)
  have HC : Hid (Calls Tryz.prog 68 #[.agg (mapCells m s).toArray, .int .i64 id] ((w.alloc (.cells (mapCells m s).toArray 26)).alloc (.cells #[.int .i64 1, .int .i64 id, .int .i64 z, .int .i64 r, .int .i64 wt, .int .i64 0, .slice none 0 0] 37)) fun e w' => e = .returned (.tuple #[.int .i64 0, .bool false]) ∧ Below ((w.alloc (.cells (mapCells m s).toArray 26)).alloc (.cells #[.int .i64 1, .int .i64 id, .int .i64 z, .int .i64 r, .int .i64 wt, .int .i64 0, .slice none 0 0] 37)).heap.size ((w.alloc (.cells (mapCells m s).toArray 26)).alloc (.cells #[.int .i64 1, .int .i64 id, .int .i64 z, .int .i64 r, .int .i64 wt, .int .i64 0, .slice none 0 0] 37)) w') := (node_any m s id _ (hN.below hb1) (by rw [hn]; exact ⟨Nat.zero_le _, fun i hi => by simp at hi⟩)).mono fun e w' ⟨hb, p, t, he, hI⟩ => by
    rw [hn] at hI
    obtain ⟨rfl, rfl⟩ := srch_none hI
    exact ⟨he, hb⟩
  have hl0 : s.lN = 0 := by have := hN.1; rw [hn] at this; simpa using this.symm
  have HA : Hid (∀ W, Calls Tryz.prog 88 #[.agg #[.int .i64 1, .int .i64 id, .int .i64 z, .int .i64 r, .int .i64 wt, .int .i64 0, .slice none 0 0]] W fun e w' => e = .returned (.agg #[.int .i64 id, .int .i64 z, .int .i64 r, .int .i64 wt, .bool false, .bool true]) ∧ Below W.heap.size W w') := fun W => (added_any 1 id z r wt 0 none 0 0 W).mono fun e w' ⟨he, hg⟩ => ⟨he, grown_below hg⟩
  have HK : Hid (∀ W : World, Calls Tryz.prog 40 #[.slice (some ⟨W.heap.size, 0, none⟩) 1 1] (W.alloc (.cells #[.int .i64 id, .int .i64 z, .int .i64 r, .int .i64 wt, .bool false, .bool true] 72)) fun e w' => e = .returned (.int .i64 0) ∧ Below (W.alloc (.cells #[.int .i64 id, .int .i64 z, .int .i64 r, .int .i64 wt, .bool false, .bool true] 72)).heap.size (W.alloc (.cells #[.int .i64 id, .int .i64 z, .int .i64 r, .int .i64 wt, .bool false, .bool true] 72)) w') := fun W => (check_any _ 1 1 [⟨id, z, r, wt, false, true⟩] _ (one_at W ⟨id, z, r, wt, false, true⟩)).mono fun e w' ⟨hb, hh⟩ => by
    rcases hh with ⟨he, _⟩ | ⟨_, hno⟩
    · exact ⟨he, hb⟩
    · exact absurd (one_may hx) hno
  obtain ⟨ep, sz, mn, gr, nds, tms, trs⟩ := m
  obtain ⟨aN, lN, cN, aT, lT, cT, aR, lR, cR⟩ := s
  simp only [mapCells] at *
  subst hl0
  clear hN hx hn
  have HBA : Hid (Box7 ((w.alloc (.cells #[.int .i64 ep, .int .i64 sz, .int .i64 mn, .int .i64 gr, .slice aN 0 cN, .slice aT lT cT, .slice aR lR cR] 26)).alloc (.cells #[.int .i64 1, .int .i64 id, .int .i64 z, .int .i64 r, .int .i64 wt, .int .i64 0, .slice none 0 0] 37)) w.heap.size (.int .i64 ep) (.int .i64 sz) (.int .i64 mn) (.int .i64 gr) (.slice aN 0 cN) (.slice aT lT cT) (.slice aR lR cR)) := (Box7.new w _ _ _ _ _ _ _ _).below (below_alloc _ _)
  have HBD : Hid (Box7 ((w.alloc (.cells #[.int .i64 ep, .int .i64 sz, .int .i64 mn, .int .i64 gr, .slice aN 0 cN, .slice aT lT cT, .slice aR lR cR] 26)).alloc (.cells #[.int .i64 1, .int .i64 id, .int .i64 z, .int .i64 r, .int .i64 wt, .int .i64 0, .slice none 0 0] 37)) (w.heap.size + 1) (.int .i64 1) (.int .i64 id) (.int .i64 z) (.int .i64 r) (.int .i64 wt) (.int .i64 0) (.slice none 0 0)) := by
    have := Box7.new (w.alloc (.cells #[.int .i64 ep, .int .i64 sz, .int .i64 mn, .int .i64 gr, .slice aN 0 cN, .slice aT lT cT, .slice aR lR cR] 26)) (.int .i64 1) (.int .i64 id) (.int .i64 z) (.int .i64 r) (.int .i64 wt) (.int .i64 0) (.slice none 0 0) 37
    rwa [show (w.alloc (.cells #[.int .i64 ep, .int .i64 sz, .int .i64 mn, .int .i64 gr, .slice aN 0 cN, .slice aT lT cT, .slice aR lR cR] 26)).heap.size = w.heap.size + 1 by simp] at this
  go_enter Tryz.func65, Tryz.ntmps65
  go_wp2_with (first
    | (go_at_call 68; refine HC.out.mono ?_; rintro e w2 ⟨rfl, hb2⟩; obtain ⟨⟨c0, c1, c2, c3, c4, c5, c6⟩, -⟩ := HBA.out.below hb2; obtain ⟨⟨d0, d1, d2, d3, d4, d5, d6⟩, -⟩ := HBD.out.below hb2)
    | (go_at_call 88; refine (HA.out _).mono ?_; rintro e w3 ⟨rfl, hb3⟩)
    | (go_at_call 40; refine (HK.out _).mono ?_; rintro e w4 ⟨rfl, hb4⟩))
  go_ret
  exact ⟨rfl, below2 hb1 (below2 hb2 (below2 hb3 (below2 (below_alloc _ _) hb4)))⟩
set_option maxRecDepth 60000 in
theorem refuseNode_up (m : Mp) (s : MV) (c1 c2 c3 c4 : Int) (c6 : Bool) (id : Int) (w : World) : Calls Tryz.prog 69 #[.agg (mapCells m s).toArray, .agg #[.int .i64 c1, .int .i64 c2, .int .i64 c3, .int .i64 c4, .bool false, .bool c6], .agg #[.int .i64 3, .int .i64 id, .int .i64 0, .int .i64 0, .int .i64 0, .int .i64 0, .slice none 0 0]] w fun e w' => e = .returned (.int .i64 0) ∧ Grown w w' := by
  obtain ⟨ep, sz, mn, gr, nds, tms, trs⟩ := m
  obtain ⟨aN, lN, cN, aT, lT, cT, aR, lR, cR⟩ := s
  simp only [mapCells]
  obtain ⟨w1, hw1⟩ : ∃ w1, w1 = ((w.alloc (.cells #[.int .i64 ep, .int .i64 sz, .int .i64 mn, .int .i64 gr, .slice aN lN cN, .slice aT lT cT, .slice aR lR cR] 26)).alloc (.cells #[.int .i64 c1, .int .i64 c2, .int .i64 c3, .int .i64 c4, .bool false, .bool c6] 72)).alloc (.cells #[.int .i64 3, .int .i64 id, .int .i64 0, .int .i64 0, .int .i64 0, .int .i64 0, .slice none 0 0] 37) := ⟨_, rfl⟩
  have hg1 : Grown w w1 := by rw [hw1]; exact grown2 (grown2 (grown_alloc _ _) (grown_alloc _ _)) (grown_alloc _ _)
  have hb1 := grown_below hg1
  have HS : Hid (Six w1 (w.heap.size + 1) (.int .i64 c1) (.int .i64 c2) (.int .i64 c3) (.int .i64 c4) (.bool false) (.bool c6)) := by
    rw [hw1]
    have := (six_new (w.alloc (.cells #[.int .i64 ep, .int .i64 sz, .int .i64 mn, .int .i64 gr, .slice aN lN cN, .slice aT lT cT, .slice aR lR cR] 26)) (.int .i64 c1) (.int .i64 c2) (.int .i64 c3) (.int .i64 c4) (.bool false) (.bool c6) 72).below (below_alloc _ (.cells #[.int .i64 3, .int .i64 id, .int .i64 0, .int .i64 0, .int .i64 0, .int .i64 0, .slice none 0 0] 37))
    rwa [show (w.alloc (.cells #[.int .i64 ep, .int .i64 sz, .int .i64 mn, .int .i64 gr, .slice aN lN cN, .slice aT lT cT, .slice aR lR cR] 26)).heap.size = w.heap.size + 1 by simp] at this
  have HBD : Hid (Box7 w1 (w.heap.size + 1 + 1) (.int .i64 3) (.int .i64 id) (.int .i64 0) (.int .i64 0) (.int .i64 0) (.int .i64 0) (.slice none 0 0)) := by
    rw [hw1]
    have := Box7.new ((w.alloc (.cells #[.int .i64 ep, .int .i64 sz, .int .i64 mn, .int .i64 gr, .slice aN lN cN, .slice aT lT cT, .slice aR lR cR] 26)).alloc (.cells #[.int .i64 c1, .int .i64 c2, .int .i64 c3, .int .i64 c4, .bool false, .bool c6] 72)) (.int .i64 3) (.int .i64 id) (.int .i64 0) (.int .i64 0) (.int .i64 0) (.int .i64 0) (.slice none 0 0) 37
    rwa [show ((w.alloc (.cells #[.int .i64 ep, .int .i64 sz, .int .i64 mn, .int .i64 gr, .slice aN lN cN, .slice aT lT cT, .slice aR lR cR] 26)).alloc (.cells #[.int .i64 c1, .int .i64 c2, .int .i64 c3, .int .i64 c4, .bool false, .bool c6] 72)).heap.size = w.heap.size + 1 + 1 by simp] at this
  have HT : Hid (∀ W, Calls Tryz.prog 93 #[.agg #[.int .i64 c1, .int .i64 c2, .int .i64 c3, .int .i64 c4, .bool false, .bool c6], .agg #[.int .i64 3, .int .i64 id, .int .i64 0, .int .i64 0, .int .i64 0, .int .i64 0, .slice none 0 0]] W fun e w' => e = .returned (.agg #[.int .i64 c1, .int .i64 c2, .int .i64 c3, .int .i64 c4, .bool true, .bool c6]) ∧ Grown W w') := fun W => turned_up c1 c2 c3 c4 false c6 id W
  go_enter Tryz.func69, Tryz.ntmps69
  go_upto_region 1 with fail
  rw [← hw1]
  clear hw1
  have hl2 := HBD.out.lt
  have hl1 : w.heap.size + 1 < w1.heap.size := by omega
  obtain ⟨s0, s1, s2, s3, s4, s5⟩ := HS.out
  obtain ⟨⟨d0, d1, d2, d3, d4, d5, d6⟩, -⟩ := HBD.out
  have HGR : Hid (∀ n os, Grown w (Go.Sort.grow (w1.drewN n) os)) := fun n os => grown2 hg1 ⟨n, os, rfl⟩
  have x0 := cell_grown (w := w1) (a := ⟨w.heap.size + 1, 0, none⟩) hl1 s0
  have x1 := cell_grown (w := w1) (a := ⟨w.heap.size + 1, 1, none⟩) hl1 s1
  have x2 := cell_grown (w := w1) (a := ⟨w.heap.size + 1, 2, none⟩) hl1 s2
  have x3 := cell_grown (w := w1) (a := ⟨w.heap.size + 1, 3, none⟩) hl1 s3
  have x4 := cell_grown (w := w1) (a := ⟨w.heap.size + 1, 4, none⟩) hl1 s4
  have x5 := cell_grown (w := w1) (a := ⟨w.heap.size + 1, 5, none⟩) hl1 s5
  have y0 := cell_grown (w := w1) (a := ⟨w.heap.size + 1 + 1, 0, none⟩) hl2 d0
  have y1 := cell_grown (w := w1) (a := ⟨w.heap.size + 1 + 1, 1, none⟩) hl2 d1
  have y2 := cell_grown (w := w1) (a := ⟨w.heap.size + 1 + 1, 2, none⟩) hl2 d2
  have y3 := cell_grown (w := w1) (a := ⟨w.heap.size + 1 + 1, 3, none⟩) hl2 d3
  have y4 := cell_grown (w := w1) (a := ⟨w.heap.size + 1 + 1, 4, none⟩) hl2 d4
  have y5 := cell_grown (w := w1) (a := ⟨w.heap.size + 1 + 1, 5, none⟩) hl2 d5
  have y6 := cell_grown (w := w1) (a := ⟨w.heap.size + 1 + 1, 6, none⟩) hl2 d6
  go_wp2_with fail
  refine wp_region_QW mixed5 (by kernel_rfl) ?_
  repeat (refine QW_step (fun K hK => ?_); go_simp; first | (refine hK _ ?_; clear hK K) | (apply Exists.intro; refine ⟨fun _ => ?_, hK _ ?_⟩; (go_at_call 93; refine Calls.grown_of (HT.out _)); clear hK K))
  refine QW_nil ?_
  intro _ hw9
  obtain ⟨⟨nq, osq⟩, hw8⟩ := hw9
  subst hw8
  have hgf := HGR.out nq osq
  go_wp2_with fail
  go_ret
  exact ⟨rfl, hgf⟩
end Go.Proofs.YtcncbjknfcjnmaaGreat.Tp
namespace Go.Proofs.YtcncbjknfcjnmaaGreat.Tp
open Go.ChangeShapes Go.WideShapes Go.ChangeAt Go.RowKit
theorem srch_one {id : Int} {p : Nat} {t : Bool} (h : SrchIs [id] id p t) : p = 0 ∧ t = true := by
  obtain ⟨h1, h2, _, h4⟩ := h
  have hp : p = 0 := by
    cases p with
    | zero => rfl
    | succ p => have := h2 0 (by omega); simp at this
  subst hp
  exact ⟨rfl, h4.2 ⟨by simp, by simp⟩⟩
set_option maxRecDepth 60000 in
theorem refusal_add {m : Mp} {s : MV} {id z r wt : Int} (hx : InN ⟨id, z, r, wt, false, true⟩) (hn : m.nds = []) (hep : m.ep < 2147483647) (w : World) (hN : NdsAt w s.aN s.lN s.cN m.nds) :
    Calls Tryz.prog 37 #[.agg (mapCells m s).toArray, .agg #[.int .i64 1, .int .i64 id, .int .i64 z, .int .i64 r, .int .i64 wt, .int .i64 0, .slice none 0 0]] w fun e w' => e = .returned (.int .i64 0) ∧ Below w.heap.size w w' := by
  have HM : Hid (∀ W, Calls Tryz.prog 64 #[.agg #[.int .i64 1, .int .i64 id, .int .i64 z, .int .i64 r, .int .i64 wt, .int .i64 0, .slice none 0 0]] W fun e w' => e = .returned (.bool true) ∧ Below W.heap.size W w') := mayBe_add id z r wt
  have HR : Hid (∀ W, Below w.heap.size w W → Calls Tryz.prog 65 #[.agg (mapCells m s).toArray, .agg #[.int .i64 1, .int .i64 id, .int .i64 z, .int .i64 r, .int .i64 wt, .int .i64 0, .slice none 0 0]] W fun e w' => e = .returned (.int .i64 0) ∧ Below W.heap.size W w') := fun W hb => refuseAdd_none hx hn W (hN.below hb)
  obtain ⟨ep, sz, mn, gr, nds, tms, trs⟩ := m
  obtain ⟨aN, lN, cN, aT, lT, cT, aR, lR, cR⟩ := s
  simp only [mapCells] at *
  have hepd : (ep == 2147483647) = false := beq_eq_false_iff_ne.2 (by omega)
  clear hN hx hn hep
  obtain ⟨w1, hw1⟩ : ∃ w1, w1 = (w.alloc (.cells #[.int .i64 ep, .int .i64 sz, .int .i64 mn, .int .i64 gr, .slice aN lN cN, .slice aT lT cT, .slice aR lR cR] 26)).alloc (.cells #[.int .i64 1, .int .i64 id, .int .i64 z, .int .i64 r, .int .i64 wt, .int .i64 0, .slice none 0 0] 37) := ⟨_, rfl⟩
  have hb1 : Below w.heap.size w w1 := by rw [hw1]; exact below2 (below_alloc _ _) (below_alloc _ _)
  have HBA : Hid (Box7 w1 w.heap.size (.int .i64 ep) (.int .i64 sz) (.int .i64 mn) (.int .i64 gr) (.slice aN lN cN) (.slice aT lT cT) (.slice aR lR cR)) := by
    rw [hw1]
    exact (Box7.new w _ _ _ _ _ _ _ _).below (below_alloc _ _)
  have HBD : Hid (Box7 w1 (w.heap.size + 1) (.int .i64 1) (.int .i64 id) (.int .i64 z) (.int .i64 r) (.int .i64 wt) (.int .i64 0) (.slice none 0 0)) := by
    rw [hw1]
    have := Box7.new (w.alloc (.cells #[.int .i64 ep, .int .i64 sz, .int .i64 mn, .int .i64 gr, .slice aN lN cN, .slice aT lT cT, .slice aR lR cR] 26)) (.int .i64 1) (.int .i64 id) (.int .i64 z) (.int .i64 r) (.int .i64 wt) (.int .i64 0) (.slice none 0 0) 37
    rwa [show (w.alloc (.cells #[.int .i64 ep, .int .i64 sz, .int .i64 mn, .int .i64 gr, .slice aN lN cN, .slice aT lT cT, .slice aR lR cR] 26)).heap.size = w.heap.size + 1 by simp] at this
  obtain ⟨⟨d0, d1, d2, d3, d4, d5, d6⟩, -⟩ := HBD.out
  go_enter Tryz.func37, Tryz.ntmps37
  go_upto_region 1 with fail
  rw [← hw1]
  clear hw1
  go_wp2_with (first
    | (go_at_call 64; refine (HM.out _).mono ?_; rintro e w2 ⟨rfl, hb2⟩; obtain ⟨⟨c0, c1, c2', c3', c4', c5, c6'⟩, -⟩ := HBA.out.below hb2; obtain ⟨⟨g0, g1, g2, g3, g4, g5, g6⟩, -⟩ := HBD.out.below hb2)
    | (go_at_call 65; refine (HR.out _ (below2 hb1 hb2)).mono ?_; rintro e w3 ⟨rfl, hb3⟩))
  go_ret
  exact ⟨rfl, below2 hb1 (below2 hb2 hb3)⟩
set_option maxRecDepth 60000 in
theorem refusal_up {m : Mp} {s : MV} {id c2 c3 c4 : Int} {c6 : Bool} (hx : InN ⟨id, c2, c3, c4, false, c6⟩) (hn : m.nds = [⟨id, c2, c3, c4, false, c6⟩]) (hep : m.ep < 2147483647) (w : World) (hN : NdsAt w s.aN s.lN s.cN m.nds) :
    Calls Tryz.prog 37 #[.agg (mapCells m s).toArray, .agg #[.int .i64 3, .int .i64 id, .int .i64 0, .int .i64 0, .int .i64 0, .int .i64 0, .slice none 0 0]] w fun e w' => e = .returned (.int .i64 0) ∧ Below w.heap.size w w' := by
  have HM : Hid (∀ W, Calls Tryz.prog 64 #[.agg #[.int .i64 3, .int .i64 id, .int .i64 0, .int .i64 0, .int .i64 0, .int .i64 0, .slice none 0 0]] W fun e w' => e = .returned (.bool true) ∧ Below W.heap.size W w') := mayBe_up id
  have HND : Hid (∀ W, Below w.heap.size w W → Calls Tryz.prog 68 #[.agg (mapCells m s).toArray, .int .i64 id] W fun e w' => e = .returned (.tuple #[.int .i64 0, .bool true]) ∧ Below W.heap.size W w') := fun W hb => (node_any m s id W (hN.below hb) (by rw [hn]; exact one_may hx)).mono fun e w' ⟨hb, p, t, he, hI⟩ => by
    rw [hn] at hI
    obtain ⟨rfl, rfl⟩ := srch_one hI
    exact ⟨he, hb⟩
  have HRN : Hid (∀ W, Calls Tryz.prog 69 #[.agg (mapCells m s).toArray, .agg #[.int .i64 id, .int .i64 c2, .int .i64 c3, .int .i64 c4, .bool false, .bool c6], .agg #[.int .i64 3, .int .i64 id, .int .i64 0, .int .i64 0, .int .i64 0, .int .i64 0, .slice none 0 0]] W fun e w' => e = .returned (.int .i64 0) ∧ Grown W w') := fun W => refuseNode_up m s id c2 c3 c4 c6 id W
  have HNN : Hid (NdsAt w s.aN s.lN s.cN [⟨id, c2, c3, c4, false, c6⟩]) := by rw [← hn]; exact hN
  have hl1 : s.lN = 1 := by have := hN.1; rw [hn] at this; simpa using this.symm
  obtain ⟨ep, sz, mn, gr, nds, tms, trs⟩ := m
  obtain ⟨aN, lN, cN, aT, lT, cT, aR, lR, cR⟩ := s
  simp only [mapCells] at *
  subst hl1
  have hepd : (ep == 2147483647) = false := beq_eq_false_iff_ne.2 (by omega)
  clear hN hx hn hep
  obtain ⟨w1, hw1⟩ : ∃ w1, w1 = (w.alloc (.cells #[.int .i64 ep, .int .i64 sz, .int .i64 mn, .int .i64 gr, .slice aN 1 cN, .slice aT lT cT, .slice aR lR cR] 26)).alloc (.cells #[.int .i64 3, .int .i64 id, .int .i64 0, .int .i64 0, .int .i64 0, .int .i64 0, .slice none 0 0] 37) := ⟨_, rfl⟩
  have hb1 : Below w.heap.size w w1 := by rw [hw1]; exact below2 (below_alloc _ _) (below_alloc _ _)
  have HBA : Hid (Box7 w1 w.heap.size (.int .i64 ep) (.int .i64 sz) (.int .i64 mn) (.int .i64 gr) (.slice aN 1 cN) (.slice aT lT cT) (.slice aR lR cR)) := by
    rw [hw1]
    exact (Box7.new w _ _ _ _ _ _ _ _).below (below_alloc _ _)
  have HBD : Hid (Box7 w1 (w.heap.size + 1) (.int .i64 3) (.int .i64 id) (.int .i64 0) (.int .i64 0) (.int .i64 0) (.int .i64 0) (.slice none 0 0)) := by
    rw [hw1]
    have := Box7.new (w.alloc (.cells #[.int .i64 ep, .int .i64 sz, .int .i64 mn, .int .i64 gr, .slice aN 1 cN, .slice aT lT cT, .slice aR lR cR] 26)) (.int .i64 3) (.int .i64 id) (.int .i64 0) (.int .i64 0) (.int .i64 0) (.int .i64 0) (.slice none 0 0) 37
    rwa [show (w.alloc (.cells #[.int .i64 ep, .int .i64 sz, .int .i64 mn, .int .i64 gr, .slice aN 1 cN, .slice aT lT cT, .slice aR lR cR] 26)).heap.size = w.heap.size + 1 by simp] at this
  obtain ⟨⟨d0, d1, d2, d3, d4, d5, d6⟩, -⟩ := HBD.out
  go_enter Tryz.func37, Tryz.ntmps37
  go_upto_region 1 with fail
  rw [← hw1]
  clear hw1
  go_upto_region 17 with (first
    | (go_at_call 64; refine (HM.out _).mono ?_; rintro e w2 ⟨rfl, hb2⟩; obtain ⟨⟨c0, c1, c2', c3', c4', c5, c6'⟩, -⟩ := HBA.out.below hb2; obtain ⟨⟨g0, g1, g2, g3, g4, g5, g6⟩, -⟩ := HBD.out.below hb2)
    | (go_at_call 68; refine (HND.out _ (below2 hb1 hb2)).mono ?_; rintro e w3 ⟨rfl, hb3⟩))
  have hbw3 : Below w.heap.size w w3 := below2 hb1 (below2 hb2 hb3)
  have HBA3 : Hid (Box7 w3 w.heap.size (.int .i64 ep) (.int .i64 sz) (.int .i64 mn) (.int .i64 gr) (.slice aN 1 cN) (.slice aT lT cT) (.slice aR lR cR)) := (HBA.out.below hb2).below hb3
  have HBD3 : Hid (Box7 w3 (w.heap.size + 1) (.int .i64 3) (.int .i64 id) (.int .i64 0) (.int .i64 0) (.int .i64 0) (.int .i64 0) (.slice none 0 0)) := (HBD.out.below hb2).below hb3
  obtain ⟨bb, off, rfl, hbs, hcell⟩ := (HNN.out.below hbw3).some (by decide)
  obtain ⟨e0, e1, e2, e3, e4, e5⟩ := hcell 0 (by decide)
  rw [Nat.zero_mul, Nat.add_zero] at e0 e1 e2 e3 e4 e5
  simp only [List.getD_cons_zero] at e0 e1 e2 e3 e4 e5
  clear c0 c1 c2' c3' c4' c5 c6' g0 g1 g2 g3 g4 g5 g6 d0 d1 d2 d3 d4 d5 d6 hcell HND HM HBA HBD hb1 hb2 hb3
  have hlA := HBA3.out.lt
  have hlD := HBD3.out.lt
  obtain ⟨⟨c0, c1, c2', c3', c4', c5, c6'⟩, -⟩ := HBA3.out
  obtain ⟨⟨d0, d1, d2, d3, d4, d5, d6⟩, -⟩ := HBD3.out
  have HGR : Hid (∀ n os, Below w.heap.size w (Go.Sort.grow (w3.drewN n) os)) := fun n os => below2 hbw3 (below_grow _ _ _)
  have x0 := cell_grown (w := w3) (a := ⟨w.heap.size, 0, none⟩) hlA c0
  have x1 := cell_grown (w := w3) (a := ⟨w.heap.size, 1, none⟩) hlA c1
  have x2 := cell_grown (w := w3) (a := ⟨w.heap.size, 2, none⟩) hlA c2'
  have x3 := cell_grown (w := w3) (a := ⟨w.heap.size, 3, none⟩) hlA c3'
  have x4 := cell_grown (w := w3) (a := ⟨w.heap.size, 4, none⟩) hlA c4'
  have x5 := cell_grown (w := w3) (a := ⟨w.heap.size, 5, none⟩) hlA c5
  have x6 := cell_grown (w := w3) (a := ⟨w.heap.size, 6, none⟩) hlA c6'
  have y0 := cell_grown (w := w3) (a := ⟨w.heap.size + 1, 0, none⟩) hlD d0
  have y1 := cell_grown (w := w3) (a := ⟨w.heap.size + 1, 1, none⟩) hlD d1
  have y2 := cell_grown (w := w3) (a := ⟨w.heap.size + 1, 2, none⟩) hlD d2
  have y3 := cell_grown (w := w3) (a := ⟨w.heap.size + 1, 3, none⟩) hlD d3
  have y4 := cell_grown (w := w3) (a := ⟨w.heap.size + 1, 4, none⟩) hlD d4
  have y5 := cell_grown (w := w3) (a := ⟨w.heap.size + 1, 5, none⟩) hlD d5
  have y6 := cell_grown (w := w3) (a := ⟨w.heap.size + 1, 6, none⟩) hlD d6
  have z0 := cell_grown (w := w3) (a := ⟨bb, off, none⟩) hbs e0
  have z1 := cell_grown (w := w3) (a := ⟨bb, off + 1, none⟩) hbs e1
  have z2 := cell_grown (w := w3) (a := ⟨bb, off + 2, none⟩) hbs e2
  have z3 := cell_grown (w := w3) (a := ⟨bb, off + 3, none⟩) hbs e3
  have z4 := cell_grown (w := w3) (a := ⟨bb, off + 4, none⟩) hbs e4
  have z5 := cell_grown (w := w3) (a := ⟨bb, off + 5, none⟩) hbs e5
  refine wp_region_QW mixed5 (by kernel_rfl) ?_
  repeat (refine QW_step (fun K hK => ?_); go_simp; first | (refine hK _ ?_; clear hK K) | (apply Exists.intro; refine ⟨fun _ => ?_, hK _ ?_⟩; (go_at_call 69; refine Calls.grown_of (HRN.out _)); clear hK K))
  refine QW_nil ?_
  intro _ hw9
  obtain ⟨⟨nq, osq⟩, hw8⟩ := hw9
  subst hw8
  have hgf := HGR.out nq osq
  go_wp2_with fail
  go_ret
  exact ⟨rfl, hgf⟩
end Go.Proofs.YtcncbjknfcjnmaaGreat.Tp
namespace Go.Proofs.YtcncbjknfcjnmaaGreat.Tp
open Go.ChangeShapes Go.WideShapes Go.ChangeAt Go.RowKit
/-- a type that a turn may write -/
def TurnT (T : TypeId) : Prop := T = 26 ∨ T = 72 ∨ T = 59 ∨ T = 53 ∨ T = 55
/-- all blocks of other types are as they were -/
structure Kp (w w' : World) : Prop where
  os : w'.os = w.os
  tape : w'.tape = w.tape
  output : w'.output = w.output
  size : w.heap.size ≤ w'.heap.size
  block : ∀ (k : Nat) (cur : Array Value) (T : TypeId) (fz : Nat × Nat), w.heap[k]? = some (Obj.cells cur T fz) → ¬ TurnT T → w'.heap[k]? = w.heap[k]?
  ty : ∀ (k : Nat) (cur : Array Value) (T : TypeId), w.heap[k]? = some (Obj.cells cur T (0, 0)) → ∃ cur', w'.heap[k]? = some (Obj.cells cur' T (0, 0))
theorem lt_of_get {w : World} {k : Nat} {o : Obj} (h : w.heap[k]? = some o) : k < w.heap.size := (Array.getElem?_eq_some_iff.1 h).1
theorem Kp.refl (w : World) : Kp w w := ⟨rfl, rfl, rfl, Nat.le_refl _, fun _ _ _ _ _ _ => rfl, fun _ cur _ h => ⟨cur, h⟩⟩
theorem Kp.trans {a b c : World} (h : Kp a b) (k : Kp b c) : Kp a c :=
  ⟨k.os.trans h.os, k.tape.trans h.tape, k.output.trans h.output, Nat.le_trans h.size k.size, fun j cur T fz hj hT => by
    have h1 := h.block j cur T fz hj hT
    rw [← h1] at hj
    exact (k.block j cur T fz hj hT).trans h1, fun j cur T hj => by
    obtain ⟨c1, h1⟩ := h.ty j cur T hj
    exact k.ty j c1 T h1⟩
theorem kp_below {w w' : World} (h : Below w.heap.size w w') : Kp w w' := by
  have hg := below_grownBy h none
  refine ⟨hg.os, hg.tape, hg.output, hg.size, fun k cur T fz hk _ => hg.block k (lt_of_get hk) (by simp), fun k cur T hk => ⟨cur, ?_⟩⟩
  rw [hg.block k (lt_of_get hk) (by simp)]
  exact hk
/-- a block of that type -/
def BoxTy (w : World) (b : Nat) (T : TypeId) : Prop := ∃ cur, w.heap[b]? = some (.cells cur T (0, 0))
theorem BoxTy.kp {w w' : World} {b : Nat} {T : TypeId} (h : BoxTy w b T) (k : Kp w w') : BoxTy w' b T := by
  obtain ⟨cur, h⟩ := h
  exact k.ty b cur T h
theorem BoxTy.new (w : World) (c : Array Value) (T : TypeId) : BoxTy (w.alloc (.cells c T)) w.heap.size T := ⟨c, heap_alloc_new w _⟩
theorem kp_set {w : World} {b : Nat} {T : TypeId} (h : BoxTy w b T) (hT : TurnT T) (i : Nat) (v : Value) : Kp w (w.setCell ⟨b, i, none⟩ v) := by
  obtain ⟨cur, h⟩ := h
  have hg := set_grownBy w b i v
  refine ⟨hg.os, hg.tape, hg.output, hg.size, fun k c T' fz hk hT' => ?_, fun k c T' hk => ?_⟩
  · refine hg.block k (lt_of_get hk) ?_
    intro e
    injection e with e
    subst e
    rw [h] at hk
    injection hk with hk
    injection hk with h1 h2 h3
    exact hT' (h2 ▸ hT)
  · by_cases e : k = b
    · subst e
      rw [h] at hk
      injection hk with hk
      injection hk with h1 h2 h3
      subst h2
      exact ⟨_, heap_setCell_same w k i cur T v h⟩
    · rw [hg.block k (lt_of_get hk) (by simpa using e)]
      exact ⟨c, hk⟩
theorem own_kp {w w' : World} {B s n : Nat} {E : TypeId} {v : Value} {xs : List Value} (h : w.ownsRow B E s v n xs) (k : Kp w w') (hE : ¬ TurnT E) : w'.ownsRow B E s v n xs := by
  refine ⟨h.1, ?_⟩
  rcases h.2 with h | ⟨g, cap, cur, hv, hB, hh, r⟩
  · exact .inl h
  · exact .inr ⟨g, cap, cur, hv, hB, (k.block g cur E _ hh hE).trans hh, r⟩
theorem box_kp {w w' : World} {b : Nat} {T : TypeId} {v0 v1 v2 v3 v4 v5 v6 : Value} (h : Box7 w b v0 v1 v2 v3 v4 v5 v6) (ht : BoxTy w b T) (k : Kp w w') (hT : ¬ TurnT T) : Box7 w' b v0 v1 v2 v3 v4 v5 v6 := by
  obtain ⟨cur, ht⟩ := ht
  have hb := k.block b cur T _ ht hT
  obtain ⟨⟨h0, h1, h2, h3, h4, h5, h6⟩, ⟨f0, f1, f2, f3, f4, f5, f6⟩⟩ := h
  exact ⟨⟨(World.cell?_of_block (a := ⟨b, 0, none⟩) hb).trans h0, (World.cell?_of_block (a := ⟨b, 1, none⟩) hb).trans h1, (World.cell?_of_block (a := ⟨b, 2, none⟩) hb).trans h2, (World.cell?_of_block (a := ⟨b, 3, none⟩) hb).trans h3, (World.cell?_of_block (a := ⟨b, 4, none⟩) hb).trans h4, (World.cell?_of_block (a := ⟨b, 5, none⟩) hb).trans h5, (World.cell?_of_block (a := ⟨b, 6, none⟩) hb).trans h6⟩,
    ⟨(World.frozen?_of_block (a := ⟨b, 0, none⟩) hb).trans f0, (World.frozen?_of_block (a := ⟨b, 1, none⟩) hb).trans f1, (World.frozen?_of_block (a := ⟨b, 2, none⟩) hb).trans f2, (World.frozen?_of_block (a := ⟨b, 3, none⟩) hb).trans f3, (World.frozen?_of_block (a := ⟨b, 4, none⟩) hb).trans f4, (World.frozen?_of_block (a := ⟨b, 5, none⟩) hb).trans f5, (World.frozen?_of_block (a := ⟨b, 6, none⟩) hb).trans f6⟩⟩
/-- a bare map in a box of one's own, its rows one's own, too -/
structure Live (w : World) (pm N : Nat) (m : Mp) (s : MV) : Prop where
  box : Box7 w pm (.int .i64 m.ep) (.int .i64 m.size) (.int .i64 m.mn) (.int .i64 m.gr) (.slice s.aN s.lN s.cN) (.slice s.aT s.lT s.cT) (.slice s.aR s.lR s.cR)
  ty : BoxTy w pm 26
  own : OwnBare w N m s
  ge : N ≤ pm
theorem OwnBare.below {w w' : World} {B : Nat} {m : Mp} {s : MV} (h : OwnBare w B m s) (hb : Below w.heap.size w w') : OwnBare w' B m s :=
  ⟨own_below h.nds hb, h.ndl, h.aT, h.lT, h.cT, h.tms, h.past, h.trl, own_below h.trs hb⟩
theorem Live.below {w w' : World} {pm N : Nat} {m : Mp} {s : MV} (h : Live w pm N m s) (hb : Below w.heap.size w w') : Live w' pm N m s := ⟨h.box.below hb, h.ty.kp (kp_below hb), h.own.below hb, h.ge⟩
theorem row_ty {w : World} {B s n cap g : Nat} {E : TypeId} {xs : List Value} (h : w.ownsRow B E s (.slice (some ⟨g, 0, none⟩) n cap) n xs) : BoxTy w g E ∧ B ≤ g := by
  rcases h.2 with ⟨e, _⟩ | ⟨g', cap', cur, hv, hB, hh, _⟩
  · simp at e
  · injection hv with h1 h2 h3
    injection h1 with h1
    injection h1 with h1
    subst h1
    exact ⟨⟨cur, hh⟩, hB⟩
/-- the trail of a group, set -/
def setTr (m : Mp) (k : Nat) (z : Int) : Mp := { m with trs := m.trs.set k ⟨z, []⟩ }
theorem bare_setSince (l : List Tr) (k : Nat) (h : k < l.length) (z : Int) : (pairCells (barePairs l)).set (k * 2) (.int .i64 z) = pairCells (barePairs (l.set k ⟨z, []⟩)) := by
  have hl : k < (barePairs l).length := by rw [barePairs_len]; exact h
  rw [pairCells_set0 (barePairs l) k hl z]
  congr 1
  have e : (barePairs l)[k] = ((l[k]).since, .slice none 0 0) := by simp [barePairs]
  rw [e]
  simp [barePairs, List.map_set]
theorem Live.since {w : World} {pm N : Nat} {m : Mp} {s : MV} (h : Live w pm N m s) {k : Nat} (hk : k < s.lR) {g : Nat} (hg : s.aR = some ⟨g, 0, none⟩) (z : Int) : Live (w.setCell ⟨g, k * 2, none⟩ (.int .i64 z)) pm N (setTr m k z) s ∧ Kp w (w.setCell ⟨g, k * 2, none⟩ (.int .i64 z)) ∧ N ≤ g := by
  have hr := h.own.trs
  rw [hg] at hr
  obtain ⟨ht, hN⟩ := row_ty hr
  have hkp := kp_set ht (.inr (.inr (.inr (.inl rfl)))) (k * 2) (.int .i64 z)
  have hgr := set_grownBy w g (k * 2) (.int .i64 z)
  have hne : pm ≠ g := by
    rintro rfl
    obtain ⟨c1, h1⟩ := h.ty
    obtain ⟨c2, h2⟩ := ht
    rw [h1] at h2
    injection h2 with h2
    injection h2 with _ h2
    exact absurd h2 (by decide)
  refine ⟨⟨h.box.else hgr hne, h.ty.kp hkp, ⟨?_, h.own.ndl, h.own.aT, h.own.lT, h.own.cT, h.own.tms, ?_, ?_, ?_⟩, h.ge⟩, hkp, hN⟩
  · obtain ⟨c2, h2⟩ := ht
    exact own_type h.own.nds hgr h2 (by decide)
  · intro t ht
    rcases List.mem_or_eq_of_mem_set ht with h1 | h1
    · exact h.own.past t h1
    · rw [h1]
  · show (m.trs.set k _).length = _
    rw [List.length_set]
    exact h.own.trl
  · have h2 := (hr.stored (k * 2) (.int .i64 z)).1
    rw [bare_setSince m.trs k (by have := h.own.trl; omega) z] at h2
    rw [hg]
    exact h2
end Go.Proofs.YtcncbjknfcjnmaaGreat.Tp
namespace Go.Proofs.YtcncbjknfcjnmaaGreat.Tp
open Go.ChangeShapes Go.WideShapes Go.ChangeAt Go.RowKit
theorem eq_of_getD {l r : List Int} {n : Nat} (hl : l.length = n) (hr : r.length = n) (h : ∀ j, j < n → l.getD j 0 = r.getD j 0) : l = r := by
  apply List.ext_getElem (by omega)
  intro i h1 h2
  have := h i (by omega)
  simpa [h1, h2] using this
theorem own_rowI {w : World} {B n cap : Nat} {a : Option Addr} {l : List Int} (h : w.ownsRow B 3 1 (.slice a n cap) n (intCells l)) : RowI w a n cap l := by
  have hl : l.length = n := by have := h.1; simpa [intCells] using this
  have hc := own_caps h
  refine ⟨hl, hc.1, hc.2.1, hc.2.2, ?_⟩
  rcases own_lies h with h0 | ⟨b, off, e, hx⟩
  · exact .inl h0
  · exact .inr ⟨b, off, e, fun i hi => hx i _ (by simp [intCells, show i < l.length by omega])⟩
set_option maxHeartbeats 1000000 in
set_option maxRecDepth 60000 in
theorem eqInts (a b : Option Addr) (la ca lb cb : Nat) (l r : List Int) (w : World) (hl : RowI w a la ca l) (hr : RowI w b lb cb r) :
    Calls Tryz.prog 72 #[.slice a la ca, .slice b lb cb] w fun e w' => e = .returned (.bool (decide (l = r))) ∧ Grown w w' := by
  have hla := hl.1
  have hlb := hr.1
  have hma : la ≤ maxLen := Nat.le_trans hl.2.1 hl.2.2.1
  unfold maxLen at hma
  have HL : Hid (RowI w a la ca l) := hl
  have HR : Hid (RowI w b lb cb r) := hr
  clear hl hr
  by_cases hn : la = lb
  · subst hn
    have HE : Hid ((∀ j, j < la → l.getD j 0 = r.getD j 0) → decide (l = r) = true) := fun h => by simpa using eq_of_getD hla hlb h
    have HNE : Hid (∀ j, j < la → l.getD j 0 ≠ r.getD j 0 → decide (l = r) = false) := fun j hj h => by
      rw [decide_eq_false_iff_not]
      intro e
      rw [e] at h
      exact h rfl
    generalize decide (l = r) = q at *
    clear hla hlb
    go_enter Tryz.func72, Tryz.ntmps72
    go_wp2_with fail
    go_loopw [13] (fun i wr => ∃ k : Nat, k ≤ la ∧ i = .int .i64 k ∧ Grown w wr ∧ Hid (∀ j, j < k → l.getD j 0 = r.getD j 0)) (fun i _ => la - (intOf i).toNat)
    case atStart => exact ⟨0, Nat.zero_le _, rfl, grown_refl _, fun j hj => absurd hj (Nat.not_lt_zero _)⟩
    case round =>
      obtain ⟨k, hk, rfl, hgr, hT⟩ := hrel
      by_cases hlt : k < la
      · have hk1 : (k : Int) < (la : Int) := by omega
        have hk0 : (0 : Int) ≤ (k : Int) := by omega
        obtain ⟨p, po, rfl, hp, hcp⟩ := (HL.out.below (grown_below hgr)).some (by omega)
        obtain ⟨q2, qo, rfl, hq, hcq⟩ := (HR.out.below (grown_below hgr)).some (by omega)
        have x0 := cell_grown (a := ⟨p, po + k, none⟩) hp (hcp k hlt)
        have x1 := cell_grown (a := ⟨q2, qo + k, none⟩) hq (hcq k hlt)
        have HG : Hid (∀ n os, Grown w (Go.Sort.grow (wr.drewN n) os)) := fun n os => grown2 hgr ⟨n, os, rfl⟩
        have HNX : Hid (l.getD k 0 = r.getD k 0 → ∀ j, j < k + 1 → l.getD j 0 = r.getD j 0) := fun h j hj => by
          by_cases e : j = k
          · rw [e]; exact h
          · exact hT.out j (by omega)
        have HNK := HNE.out k hlt
        clear hcp hcq hT
        generalize l.getD k 0 = y at *
        generalize r.getD k 0 = z at *
        by_cases hyz : y = z
        · subst hyz
          have HX : Hid (∀ j, j < k + 1 → l.getD j 0 = r.getD j 0) := HNX.out rfl
          clear HNX HNK
          go_wp2_with fail
          refine wp_region_QW mixed5 (by kernel_rfl) ?_
          repeat (refine QW_step (fun K hK => ?_); go_simp; first | (refine hK _ ?_; clear hK K) | (apply Exists.intro; refine ⟨fun _ => ?_, hK _ ?_⟩; fail; clear hK K))
          refine QW_nil ?_
          intro _ hw9
          obtain ⟨⟨nq, osq⟩, hw8⟩ := hw9
          subst hw8
          have hb := HG.out nq osq
          go_wp2_with fail
          exact ⟨⟨k + 1, by omega, by go_num, hb, HX⟩, by simp [intOf]; omega⟩
        · have hq0 : q = false := HNK hyz
          subst hq0
          have hyd : (y == z) = false := by simpa using hyz
          clear HNX HNK HE HNE
          go_wp2_with fail
          refine wp_region_QW mixed5 (by kernel_rfl) ?_
          repeat (refine QW_step (fun K hK => ?_); go_simp; first | (refine hK _ ?_; clear hK K) | (apply Exists.intro; refine ⟨fun _ => ?_, hK _ ?_⟩; fail; clear hK K))
          refine QW_nil ?_
          intro _ hw9
          obtain ⟨⟨nq, osq⟩, hw8⟩ := hw9
          subst hw8
          have hb := HG.out nq osq
          go_wp2_with fail
          go_ret
          exact ⟨rfl, hb⟩
      · obtain rfl : k = la := by omega
        have hq0 : q = true := HE.out hT.out
        subst hq0
        clear HE HNE hT
        go_wp2_with fail
        go_ret
        exact ⟨rfl, hgr⟩
  · have hq0 : decide (l = r) = false := by
      rw [decide_eq_false_iff_not]
      intro e
      rw [e] at hla
      omega
    rw [hq0]
    have hnd : (la == lb) = false := by simpa using hn
    have hnd' : ((la : Int) == (lb : Int)) = false := beq_eq_false_iff_ne.2 (by omega)
    clear hq0 hla hlb
    go_enter Tryz.func72, Tryz.ntmps72
    go_wp2_with fail
    go_ret
    exact ⟨rfl, grown_refl _⟩
set_option maxHeartbeats 1000000 in
set_option maxRecDepth 60000 in
theorem refInts (a b : Option Addr) (la ca lb cb : Nat) (l r : List Int) (w : World) (hl : RowI w a la ca l) (hr : RowI w b lb cb r) :
    Calls Tryz.prog 22 #[.slice a la ca, .slice b lb cb] w fun e w' => e = .returned (.bool (decide (l = r))) ∧ Grown w w' := by
  have hla := hl.1
  have hlb := hr.1
  have hma : la ≤ maxLen := Nat.le_trans hl.2.1 hl.2.2.1
  unfold maxLen at hma
  have HL : Hid (RowI w a la ca l) := hl
  have HR : Hid (RowI w b lb cb r) := hr
  clear hl hr
  by_cases hn : la = lb
  · subst hn
    have HE : Hid ((∀ j, j < la → l.getD j 0 = r.getD j 0) → decide (l = r) = true) := fun h => by simpa using eq_of_getD hla hlb h
    have HNE : Hid (∀ j, j < la → l.getD j 0 ≠ r.getD j 0 → decide (l = r) = false) := fun j hj h => by
      rw [decide_eq_false_iff_not]
      intro e
      rw [e] at h
      exact h rfl
    generalize decide (l = r) = q at *
    clear hla hlb
    go_enter Tryz.func22, Tryz.ntmps22
    go_wp2_with fail
    go_loopw [5] (fun i wr => ∃ k : Nat, k ≤ la ∧ i = .int .i64 k ∧ Grown w wr ∧ Hid (∀ j, j < k → l.getD j 0 = r.getD j 0)) (fun i _ => la - (intOf i).toNat)
    case atStart => exact ⟨0, Nat.zero_le _, rfl, grown_refl _, fun j hj => absurd hj (Nat.not_lt_zero _)⟩
    case round =>
      obtain ⟨k, hk, rfl, hgr, hT⟩ := hrel
      by_cases hlt : k < la
      · have hk1 : (k : Int) < (la : Int) := by omega
        have hk0 : (0 : Int) ≤ (k : Int) := by omega
        obtain ⟨p, po, rfl, hp, hcp⟩ := (HL.out.below (grown_below hgr)).some (by omega)
        obtain ⟨q2, qo, rfl, hq, hcq⟩ := (HR.out.below (grown_below hgr)).some (by omega)
        have x0 := cell_grown (a := ⟨p, po + k, none⟩) hp (hcp k hlt)
        have x1 := cell_grown (a := ⟨q2, qo + k, none⟩) hq (hcq k hlt)
        have HG : Hid (∀ n os, Grown w (Go.Sort.grow (wr.drewN n) os)) := fun n os => grown2 hgr ⟨n, os, rfl⟩
        have HNX : Hid (l.getD k 0 = r.getD k 0 → ∀ j, j < k + 1 → l.getD j 0 = r.getD j 0) := fun h j hj => by
          by_cases e : j = k
          · rw [e]; exact h
          · exact hT.out j (by omega)
        have HNK := HNE.out k hlt
        clear hcp hcq hT
        generalize l.getD k 0 = y at *
        generalize r.getD k 0 = z at *
        by_cases hyz : y = z
        · subst hyz
          have HX : Hid (∀ j, j < k + 1 → l.getD j 0 = r.getD j 0) := HNX.out rfl
          clear HNX HNK
          go_wp2_with fail
          refine wp_region_QW mixed5 (by kernel_rfl) ?_
          repeat (refine QW_step (fun K hK => ?_); go_simp; first | (refine hK _ ?_; clear hK K) | (apply Exists.intro; refine ⟨fun _ => ?_, hK _ ?_⟩; fail; clear hK K))
          refine QW_nil ?_
          intro _ hw9
          obtain ⟨⟨nq, osq⟩, hw8⟩ := hw9
          subst hw8
          have hb := HG.out nq osq
          go_wp2_with fail
          exact ⟨⟨k + 1, by omega, by go_num, hb, HX⟩, by simp [intOf]; omega⟩
        · have hq0 : q = false := HNK hyz
          subst hq0
          have hyd : (y == z) = false := by simpa using hyz
          clear HNX HNK HE HNE
          go_wp2_with fail
          refine wp_region_QW mixed5 (by kernel_rfl) ?_
          repeat (refine QW_step (fun K hK => ?_); go_simp; first | (refine hK _ ?_; clear hK K) | (apply Exists.intro; refine ⟨fun _ => ?_, hK _ ?_⟩; fail; clear hK K))
          refine QW_nil ?_
          intro _ hw9
          obtain ⟨⟨nq, osq⟩, hw8⟩ := hw9
          subst hw8
          have hb := HG.out nq osq
          go_wp2_with fail
          go_ret
          exact ⟨rfl, hb⟩
      · obtain rfl : k = la := by omega
        have hq0 : q = true := HE.out hT.out
        subst hq0
        clear HE HNE hT
        go_wp2_with fail
        go_ret
        exact ⟨rfl, hgr⟩
  · have hq0 : decide (l = r) = false := by
      rw [decide_eq_false_iff_not]
      intro e
      rw [e] at hla
      omega
    rw [hq0]
    have hnd : (la == lb) = false := by simpa using hn
    have hnd' : ((la : Int) == (lb : Int)) = false := beq_eq_false_iff_ne.2 (by omega)
    clear hq0 hla hlb
    go_enter Tryz.func22, Tryz.ntmps22
    go_wp2_with fail
    go_ret
    exact ⟨rfl, grown_refl _⟩
set_option maxHeartbeats 1000000 in
set_option maxRecDepth 60000 in
theorem leave_short {pm N : Nat} {m : Mp} {s : MV} {k : Nat} (hk : k < s.lR) (h8 : s.lR ≤ 8) (a : Option Addr) (len cap : Nat) (hlen : (len : Int) < m.mn) (hmn : m.mn ≤ 3) (w : World) (hL : Live w pm N m s) (hN : N ≤ w.heap.size) :
    Calls Tryz.prog 73 #[.pointer (some ⟨pm, 0, none⟩), .int .i64 (k : Int), .slice a len cap] w fun e w' => e = .returned (.tuple #[]) ∧ Live w' pm N (setTr m k m.ep) s ∧ Kp w w' ∧ Below N w w' := by
  have hr := hL.own.trs
  obtain ⟨g, cg, hv, hgB, hgs, hgc⟩ := own_some hr (by omega)
  injection hv with hv1 hv2 hv3
  have hb1 := below_alloc w (.cells #[.slice a len cap] 35)
  have HL1 : Hid (Live (w.alloc (.cells #[.slice a len cap] 35)) pm N m s) := hL.below hb1
  have c0 : (w.alloc (.cells #[.slice a len cap] 35)).cell? ⟨w.heap.size, 0, none⟩ = some (.slice a len cap) := by simp
  have hls : w.heap.size < (w.alloc (.cells #[.slice a len cap] 35)).heap.size := by simp
  have hkp1 := kp_below hb1
  generalize hw1 : w.alloc (.cells #[.slice a len cap] 35) = w1 at *
  have hgw := HL1.out.box.lt
  have HG : Hid (∀ n os, Grown w1 (Go.Sort.grow (w1.drewN n) os)) := fun n os => ⟨n, os, rfl⟩
  have HF : Hid (∀ W, Grown w1 W → Live (W.setCell ⟨g, k * 2, none⟩ (.int .i64 m.ep)) pm N (setTr m k m.ep) s ∧ Kp w (W.setCell ⟨g, k * 2, none⟩ (.int .i64 m.ep)) ∧ Below N w (W.setCell ⟨g, k * 2, none⟩ (.int .i64 m.ep))) := fun W hW => by
    have hbW := grown_below hW
    have hl := HL1.out.below hbW
    obtain ⟨q1, q2, q3⟩ := hl.since hk hv1 m.ep
    exact ⟨q1, hkp1.trans ((kp_below hbW).trans q2), ((below2 hb1 hbW).mono hN).setCell (p := ⟨g, k * 2, none⟩) q3 _⟩
  have HC : Hid (∀ W, Grown w1 W → W.cell? ⟨g, k * 2, none⟩ = some (.int .i64 (m.trs.getD k tr0).since) ∧ W.frozen? ⟨g, k * 2, none⟩ = false) := fun W hW => by
    have hl := (HL1.out.below (grown_below hW)).own.trs
    rw [hv1] at hl
    have htl := HL1.out.own.trl
    exact ⟨(hl.cellAt (k * 2) (by omega)).trans (bare_get m.trs k (by omega)).1, hl.frozenAt (k * 2)⟩
  obtain ⟨⟨d0, d1, d2, d3, d4, d5, d6⟩, -⟩ := HL1.out.box
  obtain ⟨ep, sz, mn, gr, nds, tms, trs⟩ := m
  obtain ⟨aN, lN, cN, aT, lT, cT, aR, lR, cR⟩ := s
  simp only at *
  subst hv1
  have hk0 : (0 : Int) ≤ (k : Int) := by omega
  have hk1 : (k : Int) < (lR : Int) := by omega
  have h8' : (lR : Int) ≤ 8 := by omega
  have hd : decide (mn ≤ (len : Int)) = false := by simp; omega
  generalize (trs.getD k tr0).since = sn at *
  have x0 := cell_grown (w := w1) (a := ⟨pm, 0, none⟩) hgw d0
  have x1 := cell_grown (w := w1) (a := ⟨pm, 1, none⟩) hgw d1
  have x2 := cell_grown (w := w1) (a := ⟨pm, 2, none⟩) hgw d2
  have x3 := cell_grown (w := w1) (a := ⟨pm, 3, none⟩) hgw d3
  have x4 := cell_grown (w := w1) (a := ⟨pm, 4, none⟩) hgw d4
  have x5 := cell_grown (w := w1) (a := ⟨pm, 5, none⟩) hgw d5
  have x6 := cell_grown (w := w1) (a := ⟨pm, 6, none⟩) hgw d6
  have y0 := cell_grown (w := w1) (a := ⟨w.heap.size, 0, none⟩) hls c0
  clear hr hL HL1 hkp1 hv2 hv3 h8 hlen
  go_enter Tryz.func73, Tryz.ntmps73
  go_upto_region 1 with fail
  clear hw1
  go_wp2_with fail
  refine wp_region_QW mixed5 (by kernel_rfl) ?_
  repeat (refine QW_step (fun K hK => ?_); go_simp; first | (refine hK _ ?_; clear hK K) | (apply Exists.intro; refine ⟨fun _ => ?_, hK _ ?_⟩; fail; clear hK K))
  refine QW_nil ?_
  intro _ hw9
  obtain ⟨⟨nq, osq⟩, hw8⟩ := hw9
  subst hw8
  have hGW := HG.out nq osq
  obtain ⟨f1, f2, f3⟩ := HF.out _ hGW
  have HF1 : Hid (Live ((Go.Sort.grow (w1.drewN nq) osq).setCell ⟨g, k * 2, none⟩ (.int .i64 ep)) pm N (setTr ⟨ep, sz, mn, gr, nds, tms, trs⟩ k ep) ⟨aN, lN, cN, aT, lT, cT, some ⟨g, 0, none⟩, lR, cR⟩) := f1
  obtain ⟨q1, q2⟩ := HC.out _ hGW
  have z0 := x0 nq osq
  have z6 := x6 nq osq
  clear x0 x1 x2 x3 x4 x5 x6 y0 HC HF HG hGW f1
  go_wp2_with fail
  go_returns
  exact ⟨rfl, HF1.out, f2, f3⟩
end Go.Proofs.YtcncbjknfcjnmaaGreat.Tp
