/-
  The law MapsMoves.
-/
import Derived.Test.YtcncbjknfcjnmaaGreatPr40
import Derived.Test.YtcncbjknfcjnmaaGreatPr45
import Derived.Test.YtcncbjknfcjnmaaGreatPr01
import Derived.Test.YtcncbjknfcjnmaaGreatPr46
import Derived.Test.YtcncbjknfcjnmaaGreatPr47
namespace Go.Proofs.YtcncbjknfcjnmaaGreat.Tp
open Go.ChangeShapes Go.WideShapes Go.ChangeAt Go.RowKit
set_option maxHeartbeats 4000000 in
set_option maxRecDepth 60000 in
theorem moves_dark {ep sz mn gr k id zn rk wt dg : Int} {aN aT aR ad : Option Addr} {lN cN lT cT lR cR ld cd : Nat} (w : World)
    (HL : Hid (∀ W, Below w.heap.size w W → Calls Tryz.prog 14 #[.agg #[.int .i64 ep, .int .i64 sz, .int .i64 mn, .int .i64 gr, .slice aN lN cN, .slice aT lT cT, .slice aR lR cR]] W fun e w' => e = .returned (.bool false) ∧ Below W.heap.size W w'))
    (HAW : Hid (∀ W, Calls Tryz.prog 11 #[] W fun e w' => TruePost W e w')) :
    Calls Tryz.prog 7 #[.agg #[.int .i64 ep, .int .i64 sz, .int .i64 mn, .int .i64 gr, .slice aN lN cN, .slice aT lT cT, .slice aR lR cR], .agg #[.int .i64 k, .int .i64 id, .int .i64 zn, .int .i64 rk, .int .i64 wt, .int .i64 dg, .slice ad ld cd]] w fun e w' => e = .returned (.bool true) ∧ Below w.heap.size w w' := by
  obtain ⟨w1, hw1⟩ : ∃ w1, w1 = (w.alloc (.cells #[.int .i64 ep, .int .i64 sz, .int .i64 mn, .int .i64 gr, .slice aN lN cN, .slice aT lT cT, .slice aR lR cR] 26)).alloc (.cells #[.int .i64 k, .int .i64 id, .int .i64 zn, .int .i64 rk, .int .i64 wt, .int .i64 dg, .slice ad ld cd] 37) := ⟨_, rfl⟩
  have hb1 : Below w.heap.size w w1 := by rw [hw1]; exact below2 (below_alloc _ _) (below_alloc _ _)
  have HBM : Hid (Box7 w1 w.heap.size (.int .i64 ep) (.int .i64 sz) (.int .i64 mn) (.int .i64 gr) (.slice aN lN cN) (.slice aT lT cT) (.slice aR lR cR)) := by
    rw [hw1]
    exact (Box7.new w _ _ _ _ _ _ _ _).below (below_alloc _ _)
  have HBD : Hid (Box7 w1 (w.heap.size + 1) (.int .i64 k) (.int .i64 id) (.int .i64 zn) (.int .i64 rk) (.int .i64 wt) (.int .i64 dg) (.slice ad ld cd)) := by
    rw [hw1]
    have := Box7.new (w.alloc (.cells #[.int .i64 ep, .int .i64 sz, .int .i64 mn, .int .i64 gr, .slice aN lN cN, .slice aT lT cT, .slice aR lR cR] 26)) (.int .i64 k) (.int .i64 id) (.int .i64 zn) (.int .i64 rk) (.int .i64 wt) (.int .i64 dg) (.slice ad ld cd) 37
    rwa [show (w.alloc (.cells #[.int .i64 ep, .int .i64 sz, .int .i64 mn, .int .i64 gr, .slice aN lN cN, .slice aT lT cT, .slice aR lR cR] 26)).heap.size = w.heap.size + 1 by simp] at this
  obtain ⟨⟨c0, c1, c2, c3, c4, c5, c6⟩, -⟩ := HBM.out
  go_enter Tryz.func7, Tryz.ntmps7
  go_upto_region 1 with fail
  rw [show (w.alloc (.cells #[.int .i64 ep, .int .i64 sz, .int .i64 mn, .int .i64 gr, .slice aN lN cN, .slice aT lT cT, .slice aR lR cR] 26)).alloc (.cells #[.int .i64 k, .int .i64 id, .int .i64 zn, .int .i64 rk, .int .i64 wt, .int .i64 dg, .slice ad ld cd] 37) = w1 from hw1.symm]
  clear hw1
  go_wp2_with fail
  refine (HL.out _ hb1).mono ?_
  rintro e w2 ⟨rfl, hb2⟩
  clear HL c0 c1 c2 c3 c4 c5 c6
  have hbw2 := below2 hb1 hb2
  go_wp2_with (go_at_call 11; refine (HAW.out _).mono ?_; rintro e w3 ⟨rfl, hb3⟩)
  go_ret
  exact ⟨rfl, below2 hbw2 hb3⟩
theorem raw_row {m : Mp} {s : MV} (hM : MayM m) {q : Int} (hq : 0 ≤ q ∧ q < m.gr) (W : World) (h : MapAt W m s) : Calls Tryz.prog 23 #[.agg (mapCells m s).toArray, .int .i64 q] W fun e w' => RowPost (rawP m q) W e w' :=
  (rawX_may hM hq W h).mono fun e w' ⟨hb, a, cap, he, hI⟩ => ⟨hb, a, cap, he, hI.1.rowL (by
    have h1 := raw_len hM.stand q
    have h2 := hM.cnt.1.2
    omega)⟩
theorem mapsMoves_any (m : Mp) (s : MV) (d : Dl) (y : Option Addr) (len cap : Nat) (w : World) (h : MapAt w m s) (hD : RowI w y len cap d.ns) : Calls Tryz.prog 7 #[.agg (mapCells m s).toArray, .agg (dlCells d y len cap).toArray] w fun e w' => e = .returned (.bool true) ∧ Below w.heap.size w w' := by
  by_cases hM : MayM m
  · have h8 : m.trs.length ≤ 8 := by
      have := hM.trs.1
      have := hM.cnt.2.2.2
      omega
    by_cases hp : ∀ i, i < m.trs.length → (m.trs.getD i tr0).past.length ≤ 20
    · have hp60 : PastFew m := fun i hi => Nat.le_trans (hp i hi) (by decide)
      have HMY : ∀ W, Below w.heap.size w W → Calls Tryz.prog 13 #[.agg (mapCells m s).toArray] W fun e w' => e = .returned (.bool true) ∧ Below W.heap.size W w' := fun W hb => (refMay_any8 W (h.below hb)).mono fun e w' ⟨hb', q, he, hq⟩ => ⟨by rw [he, hq.2 hM], hb'⟩
      by_cases href : refP m d.k d.id d.zn d.rk d.wt d.g d.ns = 0
      · have hT := tn_may hM href
        have hTg : (tnM m d.k d.id d.zn d.rk d.wt d.g d.ns).gr = m.gr := (chM_same m d.k d.id d.zn d.rk d.wt d.g d.ns).2.2.2.1
        have hgr := hM.trs.1
        obtain ⟨k, id, zn, rk, wt, dg, ns⟩ := d
        obtain ⟨ep, sz, mn, gr, nds, tms, trs⟩ := m
        simp only at href hT hTg hgr hD h8
        subst hgr
        refine moves_yes (mx := tnM ⟨ep, sz, mn, trs.length, nds, tms, trs⟩ k id zn rk wt dg ns) (n9 := trs.length) (A := fun q => rawP ⟨ep, sz, mn, trs.length, nds, tms, trs⟩ (q : Int)) (B := fun q => rawP (tnM ⟨ep, sz, mn, trs.length, nds, tms, trs⟩ k id zn rk wt dg ns) (q : Int)) (ns := ns) h8 w (fun W hb => light_any W (h.below hb)) HMY awake9 (fun W hb => (apply_yes hM hp60 href y len cap W (h.below hb) (hD.below hb)).mono fun e w' hh => hh.post) (fun W q hq hb => raw_row hM ⟨by omega, by show (q : Int) < (trs.length : Int); omega⟩ W (h.below hb)) (fun W s3 q hq hb h3 => raw_row hT ⟨by omega, by rw [hTg]; omega⟩ W h3) hD ?_ ?_ ?_
        · intro q hq k8 hne
          subst k8
          exact (raw_other hM _ hne).symm
        · intro q hq k8 he h0
          subst k8
          subst he
          exact raw_pinned hM fun e => by
            have := hD.1
            rw [e] at this
            simp at this
            omega
        · intro q hq k5
          exact (raw_still hM href k5 _).symm
      · exact moves_no (mx := m) href w (fun W hb => light_any W (h.below hb)) HMY awake9 (fun W hb => apply_no _ _ _ _ _ _ _ hM (hM.small hp60) W href (fun W' s' hb' hm => refusal_any hM _ _ _ _ _ _ y len cap d.ns W' hm ((hD.below hb).below hb')) (h.below hb)) (fun W s3 hb h3 => (refSame W h3 (h.below hb)).mono fun e w' ⟨he, hg⟩ => ⟨by rw [he, (mpB_iff m m).2 rfl], grown_below hg⟩)
    · exact moves_dark w (fun W hb => (light_few (Nat.le_trans h8 (by decide)) W (h.below hb)).mono fun e w' ⟨q, he, hq, hb'⟩ => by
        cases q with
        | true => exact absurd (hq rfl) hp
        | false => exact ⟨he, hb'⟩) awake9
  · exact moves_not w (fun W hb => light_any W (h.below hb)) (fun W hb => (refMay_any8 W (h.below hb)).mono fun e w' ⟨hb', q, he, hq⟩ => by
      cases q with
      | true => exact absurd (hq.1 rfl) hM
      | false => exact ⟨he, hb'⟩) awake9
end Go.Proofs.YtcncbjknfcjnmaaGreat.Tp
