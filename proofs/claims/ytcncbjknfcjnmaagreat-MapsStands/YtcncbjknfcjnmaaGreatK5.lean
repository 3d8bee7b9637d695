/-
  The contract of clone, of bare maps.
-/
import Derived.Test.YtcncbjknfcjnmaaGreatK1
import Derived.Deep.Cut
namespace Go.Proofs.YtcncbjknfcjnmaaGreat.Tp
open Go.ChangeShapes Go.WideShapes Go.ChangeAt Go.RowKit
theorem ret_map {fn : Func} {p : Tmp} (h : fn.results = #[.cell p 26]) (tmps : Array Value) (w : World) (b : Nat) (v0 v1 v2 v3 v4 v5 v6 : Value) (hp : tmps.getD p undef = .pointer (some ⟨b, 0, none⟩))
    (hb : Box7 w b v0 v1 v2 v3 v4 v5 v6) : (results fn tmps).run Tryz.prog w = .ok (.agg #[v0, v1, v2, v3, v4, v5, v6]) w := by
  obtain ⟨⟨h0, h1, h2, h3, h4, h5, h6⟩, -⟩ := hb
  simp only [Array.getD_eq_getD_getElem?] at hp
  simp only [results, h]
  simp [go_sem, hp, h0, h1, h2, h3, h4, h5, h6]
theorem barePairs_len (l : List Tr) : (barePairs l).length = l.length := by simp [barePairs]
theorem bare_one (l : List Tr) : ∀ u ∈ pairCells (barePairs l), u.oneCell' = true := fun u hu => by
  obtain ⟨x, hx, hu⟩ := List.mem_flatMap.1 hu
  obtain ⟨t, _, rfl⟩ := List.mem_map.1 hx
  simp at hu
  rcases hu with rfl | rfl <;> rfl
theorem bare_get (l : List Tr) (k : Nat) (h : k < l.length) : (pairCells (barePairs l))[k * 2]? = some (.int .i64 (l.getD k tr0).since) ∧ (pairCells (barePairs l))[k * 2 + 1]? = some (.slice none 0 0) := by
  have hl : k < (barePairs l).length := by rw [barePairs_len]; exact h
  obtain ⟨g0, g1⟩ := pairCells_get (barePairs l) k hl
  have e : (barePairs l)[k] = ((l.getD k tr0).since, .slice none 0 0) := by simp [barePairs, List.getD_eq_getElem?_getD, h]
  rw [e] at g0 g1
  exact ⟨g0, g1⟩
theorem bare_set (l : List Tr) (k : Nat) (h : k < l.length) : (pairCells (barePairs l)).set (k * 2 + 1) (.slice none 0 0) = pairCells (barePairs l) := by
  have h2 := (bare_get l k h).2
  have hlt := (List.getElem?_eq_some_iff.1 h2).1
  have := (List.getElem?_eq_some_iff.1 h2).2
  conv => lhs; rw [← this]
  exact List.set_getElem_self hlt
/-- a map cloned -/
def ClonePost (m : Mp) (w : World) (e : Ending) (w' : World) : Prop := Below w.heap.size w w' ∧ ∃ s, e = .returned (.agg (mapCells m s).toArray) ∧ OwnBare w' w.heap.size m s ∧ (m.nds = [] → s.aN = none ∧ s.lN = 0 ∧ s.cN = 0)
set_option maxHeartbeats 4000000 in
set_option maxRecDepth 60000 in
theorem clone_bare {m : Mp} {s : MV} (h8 : m.trs.length ≤ 8) (h12 : m.nds.length ≤ 12) (w : World) (h : BareAt w m s) : Calls Tryz.prog 36 #[.agg (mapCells m s).toArray] w fun e w' => ClonePost m w e w' := by
  obtain ⟨ep, sz, mn, gr, nds, tms, trs⟩ := m
  obtain ⟨aN, lN, cN, aT, lT, cT, aR, lR, cR⟩ := s
  obtain ⟨hN, hnN, rfl, rfl, rfl, rfl, hP, rfl, hC, hnR, hT⟩ := h
  simp only at *
  have hNl := hN.1
  have hw1 : ∃ w1, w1 = (w.alloc (.cells #[.int .i64 ep, .int .i64 sz, .int .i64 mn, .int .i64 gr, .slice aN lN cN, .slice none 0 0, .slice aR trs.length cR] 26)).alloc (.cells #[.int .i64 0, .int .i64 0, .int .i64 0, .int .i64 0, .slice none 0 0, .slice none 0 0, .slice none 0 0] 26) := ⟨_, rfl⟩
  obtain ⟨w1, hw1⟩ := hw1
  have hb1 : Below w.heap.size w w1 := by rw [hw1]; exact below2 (below_alloc _ _) (below_alloc _ _)
  have HA : Hid (Box7 w1 w.heap.size (.int .i64 ep) (.int .i64 sz) (.int .i64 mn) (.int .i64 gr) (.slice aN lN cN) (.slice none 0 0) (.slice aR trs.length cR)) := by
    rw [hw1]
    exact (Box7.new w _ _ _ _ _ _ _ _).below (below_alloc _ _)
  have HB : Hid (Box7 w1 (w.heap.size + 1) (.int .i64 0) (.int .i64 0) (.int .i64 0) (.int .i64 0) (.slice none 0 0) (.slice none 0 0) (.slice none 0 0)) := by
    rw [hw1]
    have := Box7.new (w.alloc (.cells #[.int .i64 ep, .int .i64 sz, .int .i64 mn, .int .i64 gr, .slice aN lN cN, .slice none 0 0, .slice aR trs.length cR] 26)) (.int .i64 0) (.int .i64 0) (.int .i64 0) (.int .i64 0) (.slice none 0 0) (.slice none 0 0) (.slice none 0 0) 26
    rwa [show (w.alloc (.cells #[.int .i64 ep, .int .i64 sz, .int .i64 mn, .int .i64 gr, .slice aN lN cN, .slice none 0 0, .slice aR trs.length cR] 26)).heap.size = w.heap.size + 1 by simp] at this
  have HCN : Hid (Calls Tryz.prog 59 #[.slice aN lN cN] w1 fun e w' => CopyPost 72 6 lN (ndsCells nds) w1 e w') := copiedNode aN lN cN _ w1 (by rw [ndsCells_len, hNl]) (by omega) ((nds_lies hN).below hb1) hnN (ndsCells_one nds)
  have HCT : Hid (∀ W, Calls Tryz.prog 60 #[.slice none 0 0] W fun e w' => e = .returned (.slice none 0 0) ∧ w' = W) := copyTemp_nil
  have HCS : Hid (∀ W, Calls Tryz.prog 63 #[.slice none 0 0] W fun e w' => e = .returned (.slice none 0 0) ∧ w' = W) := copySpan_nil
  have HCR : Hid (∀ W, Below w.heap.size w W → Calls Tryz.prog 62 #[.slice aR trs.length cR] W fun e w' => CopyPost 53 2 trs.length (pairCells (barePairs trs)) W e w') := fun W hb => copiedTrail aR trs.length cR _ W (by rw [pairCells_len, barePairs_len]) (by omega) (hT.below hb) hnR (bare_one trs)
  have HP : Hid (∀ t ∈ trs, t.past = []) := hP
  have HNL : Hid (nds.length = lN) := hNl
  have HGT : Hid (∀ k, k < trs.length → (pairCells (barePairs trs))[k * 2]? = some (.int .i64 (trs.getD k tr0).since) ∧ (pairCells (barePairs trs))[k * 2 + 1]? = some (.slice none 0 0)) := bare_get trs
  have HST : Hid (∀ k, k < trs.length → (pairCells (barePairs trs)).set (k * 2 + 1) (.slice none 0 0) = pairCells (barePairs trs)) := bare_set trs
  have h8' : (trs.length : Int) ≤ 8 := by omega
  clear hN hnN hP hC hnR hT hNl h8 h12
  have ls1 : w.heap.size < w1.heap.size := HA.out.lt
  have ls2 : w.heap.size + 1 < w1.heap.size := HB.out.lt
  obtain ⟨⟨c0, c1, c2, c3, c4, c5, c6⟩, ⟨f0, f1, f2, f3, f4, f5, f6⟩⟩ := HA.out
  show Calls Tryz.prog 36 #[.agg #[.int .i64 ep, .int .i64 sz, .int .i64 mn, .int .i64 gr, .slice aN lN cN, .slice none 0 0, .slice aR trs.length cR]] w _
  go_enter Tryz.func36, Tryz.ntmps36
  go_upto_region 1 with fail
  rw [← hw1]
  clear hw1
  go_upto_region 2 with (go_at_call 59; refine HCN.out.mono ?_; rintro e w2 ⟨hb2, v2, rfl, hown2, hnil2⟩; obtain ⟨a2, cap2, rfl, hcap2⟩ := own_slice hown2; obtain ⟨⟨d0, d1, d2, d3, d4, d5, d6⟩, ⟨g0, g1, g2, g3, g4, g5, g6⟩⟩ := HA.out.below hb2)
  have HA2 : Hid (Box7 (w2.setCell ⟨w.heap.size, 4, none⟩ (.slice a2 lN cap2)) w.heap.size (.int .i64 ep) (.int .i64 sz) (.int .i64 mn) (.int .i64 gr) (.slice a2 lN cap2) (.slice none 0 0) (.slice aR trs.length cR)) := (HA.out.below hb2).put4 _
  have HB2 : Hid (Box7 (w2.setCell ⟨w.heap.size, 4, none⟩ (.slice a2 lN cap2)) (w.heap.size + 1) (.int .i64 0) (.int .i64 0) (.int .i64 0) (.int .i64 0) (.slice none 0 0) (.slice none 0 0) (.slice none 0 0)) := (HB.out.below hb2).else (set_grownBy _ _ _ _) (by omega)
  have hbw2 : Below w.heap.size w (w2.setCell ⟨w.heap.size, 4, none⟩ (.slice a2 lN cap2)) := (below2 hb1 hb2).setCell (p := ⟨w.heap.size, 4, none⟩) (Nat.le_refl _) _
  have HO2 : Hid ((w2.setCell ⟨w.heap.size, 4, none⟩ (.slice a2 lN cap2)).ownsRow (w.heap.size + 2) 72 6 (.slice a2 lN cap2) lN (ndsCells nds)) := own_base (hown2.kept (set_grownBy _ _ _ _) (by
    cases hv : (Value.slice a2 lN cap2).ownBlock with
    | none => exact .inl rfl
    | some k => right; have := (hown2.lt k hv).1; simp; omega)) (by omega)
  have HNI : Hid (nds = [] → a2 = none ∧ lN = 0 ∧ cap2 = 0) := fun h => by
    have hl0 : lN = 0 := by have := HNL.out; rw [h] at this; simpa using this.symm
    have := hnil2.2 hl0
    injection this with h1 h2 h3
    exact ⟨h1, hl0, h3⟩
  clear hown2 hnil2 HCN HA HB c0 c1 c2 c3 c4 c5 c6 f0 f1 f2 f3 f4 f5 f6 d0 d1 d2 d3 d4 d5 d6 g0 g1 g2 g3 g4 g5 g6 hb1
  generalize hw3 : w2.setCell ⟨w.heap.size, 4, none⟩ (.slice a2 lN cap2) = w3 at *
  clear hw3 hb2
  obtain ⟨⟨c0, c1, c2, c3, c4, c5, c6⟩, ⟨f0, f1, f2, f3, f4, f5, f6⟩⟩ := HA2.out
  go_upto_region 3 with (go_at_call 60; refine (HCT.out _).mono ?_; rintro e w' ⟨rfl, hw'⟩; obtain rfl := hw'.symm)
  have HA3 : Hid (Box7 (w3.setCell ⟨w.heap.size, 5, none⟩ (.slice none 0 0)) w.heap.size (.int .i64 ep) (.int .i64 sz) (.int .i64 mn) (.int .i64 gr) (.slice a2 lN cap2) (.slice none 0 0) (.slice aR trs.length cR)) := HA2.out.put5 _
  have HB3 : Hid (Box7 (w3.setCell ⟨w.heap.size, 5, none⟩ (.slice none 0 0)) (w.heap.size + 1) (.int .i64 0) (.int .i64 0) (.int .i64 0) (.int .i64 0) (.slice none 0 0) (.slice none 0 0) (.slice none 0 0)) := HB2.out.else (set_grownBy _ _ _ _) (by omega)
  have hbw3 : Below w.heap.size w (w3.setCell ⟨w.heap.size, 5, none⟩ (.slice none 0 0)) := hbw2.setCell (p := ⟨w.heap.size, 5, none⟩) (Nat.le_refl _) _
  have HO3 : Hid ((w3.setCell ⟨w.heap.size, 5, none⟩ (.slice none 0 0)).ownsRow (w.heap.size + 2) 72 6 (.slice a2 lN cap2) lN (ndsCells nds)) := HO2.out.kept (set_grownBy _ _ _ _) (by
    cases hv : (Value.slice a2 lN cap2).ownBlock with
    | none => exact .inl rfl
    | some k => right; have := (HO2.out.lt k hv).1; simp; omega)
  clear HA2 HB2 hbw2 HO2 c0 c1 c2 c3 c4 c5 c6 f0 f1 f2 f3 f4 f5 f6
  generalize hw4 : w3.setCell ⟨w.heap.size, 5, none⟩ (.slice none 0 0) = w4 at *
  clear hw4
  obtain ⟨⟨c0, c1, c2, c3, c4, c5, c6⟩, ⟨f0, f1, f2, f3, f4, f5, f6⟩⟩ := HA3.out
  go_wp2_with fail
  go_loopw [20] (fun i wr => i = .int .i64 0 ∧ wr = w4) (fun i _ => 0)
  case atStart => exact ⟨rfl, rfl⟩
  case round =>
    obtain ⟨rfl, rfl⟩ := hrel
    go_upto_region 9 with (go_at_call 62; refine (HCR.out _ hbw3).mono ?_; rintro e w5 ⟨hb5, v5, rfl, hown5, hnil5⟩; obtain ⟨a5, cap5, rfl, hcap5⟩ := own_slice hown5; obtain ⟨⟨d0, d1, d2, d3, d4, d5, d6⟩, ⟨g0, g1, g2, g3, g4, g5, g6⟩⟩ := HA3.out.below hb5)
    have HA6 : Hid (Box7 (w5.setCell ⟨w.heap.size, 6, none⟩ (.slice a5 trs.length cap5)) w.heap.size (.int .i64 ep) (.int .i64 sz) (.int .i64 mn) (.int .i64 gr) (.slice a2 lN cap2) (.slice none 0 0) (.slice a5 trs.length cap5)) := (HA3.out.below hb5).put6 _
    have HB6 : Hid (Box7 (w5.setCell ⟨w.heap.size, 6, none⟩ (.slice a5 trs.length cap5)) (w.heap.size + 1) (.int .i64 0) (.int .i64 0) (.int .i64 0) (.int .i64 0) (.slice none 0 0) (.slice none 0 0) (.slice none 0 0)) := (HB3.out.below hb5).else (set_grownBy _ _ _ _) (by omega)
    have hbw6 : Below w.heap.size w (w5.setCell ⟨w.heap.size, 6, none⟩ (.slice a5 trs.length cap5)) := (below2 hbw3 hb5).setCell (p := ⟨w.heap.size, 6, none⟩) (Nat.le_refl _) _
    have HO6 : Hid ((w5.setCell ⟨w.heap.size, 6, none⟩ (.slice a5 trs.length cap5)).ownsRow (w.heap.size + 2) 72 6 (.slice a2 lN cap2) lN (ndsCells nds)) := (own_below HO3.out hb5).kept (set_grownBy _ _ _ _) (by
      cases hv : (Value.slice a2 lN cap2).ownBlock with
      | none => exact .inl rfl
      | some k => right; have := (HO3.out.lt k hv).1; simp; omega)
    have hs4 : w.heap.size + 2 ≤ wr.heap.size := HB3.out.lt
    have HR6 : Hid ((w5.setCell ⟨w.heap.size, 6, none⟩ (.slice a5 trs.length cap5)).ownsRow (w.heap.size + 2) 53 2 (.slice a5 trs.length cap5) trs.length (pairCells (barePairs trs))) := own_base (hown5.kept (set_grownBy _ _ _ _) (by
      cases hv : (Value.slice a5 trs.length cap5).ownBlock with
      | none => exact .inl rfl
      | some k => right; have := (hown5.lt k hv).1; simp; omega)) hs4
    clear HA3 HB3 hbw3 HO3 HCR hown5 hnil5 c0 c1 c2 c3 c4 c5 c6 f0 f1 f2 f3 f4 f5 f6 d0 d1 d2 d3 d4 d5 d6 g0 g1 g2 g3 g4 g5 g6
    generalize hw6 : w5.setCell ⟨w.heap.size, 6, none⟩ (.slice a5 trs.length cap5) = w6 at *
    clear hw6 hb5 hs4 ls1 ls2
    obtain ⟨⟨c0, c1, c2, c3, c4, c5, c6⟩, -⟩ := HA6.out
    generalize hn : trs.length = n at *
    have HN : Hid (trs.length = n) := hn
    clear hn
    go_wp2_with fail
    clear c0 c1 c2 c3 c4 c5 c6
    go_loopw [41] (fun i wr => ∃ k : Nat, k ≤ n ∧ i = .int .i64 k ∧ Hid (Box7 wr w.heap.size (.int .i64 ep) (.int .i64 sz) (.int .i64 mn) (.int .i64 gr) (.slice a2 lN cap2) (.slice none 0 0) (.slice a5 n cap5)) ∧ Hid (Box7 wr (w.heap.size + 1) (.int .i64 0) (.int .i64 0) (.int .i64 0) (.int .i64 0) (.slice none 0 0) (.slice none 0 0) (.slice none 0 0)) ∧ Hid (wr.ownsRow (w.heap.size + 2) 72 6 (.slice a2 lN cap2) lN (ndsCells nds)) ∧ Hid (wr.ownsRow (w.heap.size + 2) 53 2 (.slice a5 n cap5) n (pairCells (barePairs trs))) ∧ Below w.heap.size w wr) (fun i _ => n - (intOf i).toNat)
    case atStart => exact ⟨0, Nat.zero_le _, rfl, HA6, HB6, HO6, HR6, hbw6⟩
    case round =>
      obtain ⟨k, hk, rfl, hA, hB, hO, hR, hbel⟩ := hrel
      clear HA6 HB6 HO6 HR6 hbw6
      by_cases hlt : k < n
      · obtain ⟨g, cg, hv, hgB, hgs, hgc⟩ := own_some hR.out (by omega)
        injection hv with hv1 hv2 hv3
        subst hv1 hv3
        have hk1 : (k : Int) < (n : Int) := by omega
        have hk0 : (0 : Int) ≤ (k : Int) := by omega
        obtain ⟨q0, q1⟩ := HGT.out k hlt
        have hstk := HST.out k hlt
        generalize (trs.getD k tr0).since = sn at *
        have r0 := (hR.out.cellAt (k * 2) (by omega)).trans q0
        have r1 := (hR.out.cellAt (k * 2 + 1) (by omega)).trans q1
        have hA1 := hA.out.below (below_alloc wr (.cells #[.int .i64 sn, .slice none 0 0] 53))
        have hR1 := own_alloc hR.out (.cells #[.int .i64 sn, .slice none 0 0] 53)
        have r2 := (hR1.cellAt (k * 2 + 1) (by omega)).trans q1
        have r3 := hR1.frozenAt (k * 2 + 1)
        have hls := hA.out.lt
        have hls2 := hB.out.lt
        obtain ⟨⟨c0, c1, c2, c3, c4, c5, c6⟩, -⟩ := hA1
        have HR1 : Hid ((wr.alloc (.cells #[.int .i64 sn, .slice none 0 0] 53)).ownsRow (w.heap.size + 2) 53 2 (.slice (some ⟨g, 0, none⟩) n cap5) n (pairCells (barePairs trs))) := hR1
        clear hR1 q0 q1 HR1
        obtain ⟨hs1, hs2⟩ := hR.out.stored (k * 2 + 1) (.slice none 0 0)
        rw [hstk] at hs1
        have hne : ∀ (a : Option Addr) (m c : Nat) (E s : TypeId) (xs : List Value), wr.ownsRow (w.heap.size + 2) E s (.slice a m c) m xs → E ≠ 53 → (wr.setCell ⟨g, k * 2 + 1, none⟩ (.slice none 0 0)).ownsRow (w.heap.size + 2) E s (.slice a m c) m xs := fun a m c E s xs h hE => h.kept hs2 (by
          rcases own_apart h hR.out hE with h | h
          · exact .inl h
          · exact .inr h)
        have hz0 : Below (wr.setCell ⟨g, k * 2 + 1, none⟩ (.slice none 0 0)).heap.size (wr.setCell ⟨g, k * 2 + 1, none⟩ (.slice none 0 0)) ((wr.setCell ⟨g, k * 2 + 1, none⟩ (.slice none 0 0)).alloc (.cells #[.int .i64 sn, .slice none 0 0] 53)).drew := below2 (below_alloc _ _) (below_drew _)
        have HZA : Hid (Box7 ((wr.setCell ⟨g, k * 2 + 1, none⟩ (.slice none 0 0)).alloc (.cells #[.int .i64 sn, .slice none 0 0] 53)).drew w.heap.size (.int .i64 ep) (.int .i64 sz) (.int .i64 mn) (.int .i64 gr) (.slice a2 lN cap2) (.slice none 0 0) (.slice (some ⟨g, 0, none⟩) n cap5)) := (hA.out.else hs2 (by omega)).below hz0
        have HZB : Hid (Box7 ((wr.setCell ⟨g, k * 2 + 1, none⟩ (.slice none 0 0)).alloc (.cells #[.int .i64 sn, .slice none 0 0] 53)).drew (w.heap.size + 1) (.int .i64 0) (.int .i64 0) (.int .i64 0) (.int .i64 0) (.slice none 0 0) (.slice none 0 0) (.slice none 0 0)) := (hB.out.else hs2 (by omega)).below hz0
        have HZO : Hid (((wr.setCell ⟨g, k * 2 + 1, none⟩ (.slice none 0 0)).alloc (.cells #[.int .i64 sn, .slice none 0 0] 53)).drew.ownsRow (w.heap.size + 2) 72 6 (.slice a2 lN cap2) lN (ndsCells nds)) := own_below (hne _ _ _ _ _ _ hO.out (by decide)) hz0
        have HZR : Hid (((wr.setCell ⟨g, k * 2 + 1, none⟩ (.slice none 0 0)).alloc (.cells #[.int .i64 sn, .slice none 0 0] 53)).drew.ownsRow (w.heap.size + 2) 53 2 (.slice (some ⟨g, 0, none⟩) n cap5) n (pairCells (barePairs trs))) := own_below hs1 hz0
        have hzb : Below w.heap.size w ((wr.setCell ⟨g, k * 2 + 1, none⟩ (.slice none 0 0)).alloc (.cells #[.int .i64 sn, .slice none 0 0] 53)).drew := below2 (hbel.setCell (p := ⟨g, k * 2 + 1, none⟩) (by show w.heap.size ≤ g; omega) _) hz0
        have hz1 : ((wr.setCell ⟨g, k * 2 + 1, none⟩ (.slice none 0 0)).alloc (.cells #[.int .i64 sn, .slice none 0 0] 53)).drew.cell? ⟨wr.heap.size, 1, none⟩ = some (.slice none 0 0) := by
          have := cells_lit (wr.setCell ⟨g, k * 2 + 1, none⟩ (.slice none 0 0)) [.int .i64 sn, .slice none 0 0] 53 1 (.slice none 0 0) rfl
          rw [addr_add] at this
          simpa using this
        clear hs1 hs2 hne hz0 hA hB hO hR hstk hbel
        go_wp2_with fail
        go_region_with ((go_at_call 63; refine (HCS.out _).mono ?_; rintro e w' ⟨rfl, hw'⟩; obtain rfl := hw'.symm))
        all_goals
          generalize hwz : ((wr.setCell ⟨g, k * 2 + 1, none⟩ (.slice none 0 0)).alloc (.cells #[.int .i64 sn, .slice none 0 0] 53)).drew = wz at *
          clear hwz r0 r1 r2 r3 c0 c1 c2 c3 c4 c5 c6
          go_wp2_with fail
          go_loopw [57] (fun i wq => i = .int .i64 0 ∧ wq = wz) (fun i _ => 0)
          case atStart => exact ⟨rfl, rfl⟩
          case round =>
            obtain ⟨rfl, rfl⟩ := hrel
            go_wp2_with fail
            exact ⟨⟨k + 1, by omega, by go_num, HZA, HZB, HZO, HZR, hzb⟩, by simp [intOf]; omega⟩
      · obtain rfl : k = n := by omega
        obtain ⟨⟨c0, c1, c2, c3, c4, c5, c6⟩, -⟩ := hA.out
        obtain ⟨⟨d0, d1, d2, d3, d4, d5, d6⟩, ⟨f0, f1, f2, f3, f4, f5, f6⟩⟩ := hB.out
        have hg7 := set7_grownBy wr (w.heap.size + 1) (.int .i64 ep) (.int .i64 sz) (.int .i64 mn) (.int .i64 gr) (.slice a2 lN cap2) (.slice none 0 0) (.slice a5 k cap5)
        have HFO : Hid ((set7 wr (w.heap.size + 1) (.int .i64 ep) (.int .i64 sz) (.int .i64 mn) (.int .i64 gr) (.slice a2 lN cap2) (.slice none 0 0) (.slice a5 k cap5)).ownsRow (w.heap.size + 2) 72 6 (.slice a2 lN cap2) lN (ndsCells nds)) := hO.out.kept hg7 (by
          cases hv : (Value.slice a2 lN cap2).ownBlock with
          | none => exact .inl rfl
          | some j => right; have := (hO.out.lt j hv).1; simp; omega)
        have HFR : Hid ((set7 wr (w.heap.size + 1) (.int .i64 ep) (.int .i64 sz) (.int .i64 mn) (.int .i64 gr) (.slice a2 lN cap2) (.slice none 0 0) (.slice a5 k cap5)).ownsRow (w.heap.size + 2) 53 2 (.slice a5 k cap5) k (pairCells (barePairs trs))) := hR.out.kept hg7 (by
          cases hv : (Value.slice a5 k cap5).ownBlock with
          | none => exact .inl rfl
          | some j => right; have := (hR.out.lt j hv).1; simp; omega)
        clear hg7
        go_wp2_with fail
        refine bodyPost_ret (ret_map rfl _ _ (w.heap.size + 1) _ _ _ _ _ _ _ rfl (hB.out.set _ _ _ _ _ _ _)) rfl ?_
        exact ⟨set7_below hbel (by omega) _ _ _ _ _ _ _, ⟨a2, lN, cap2, none, 0, 0, a5, k, cap5⟩, rfl, ⟨own_base HFO.out (by omega), HNL.out, rfl, rfl, rfl, rfl, HP.out, HN.out, own_base HFR.out (by omega)⟩, HNI.out⟩
end Go.Proofs.YtcncbjknfcjnmaaGreat.Tp
