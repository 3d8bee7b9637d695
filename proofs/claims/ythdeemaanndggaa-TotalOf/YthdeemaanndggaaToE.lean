/-
  The contract of the answer's Of.
-/
import Derived.Test.YthdeemaanndggaaToC
namespace Go.Proofs.Ythdeemaanndggaa.Bk
open Go.ChangeShapes Go.WideShapes Go.ChangeAt Go.RowKit
def minZ (ls : List Sm) (k : Nat) : Int := if k = 0 then 0 else minN ls (k - 1)
def maxZ (ls : List Sm) (k : Nat) : Int := if k = 0 then 0 else maxN ls (k - 1)
theorem minZ_step (ls : List Sm) (m : Nat) : (bif decide (vAt ls (m + 1) < minZ ls (m + 1)) then vAt ls (m + 1) else minZ ls (m + 1)) = minZ ls (m + 1 + 1) := by
  unfold minZ
  simp only [Nat.add_sub_cancel, Nat.add_eq_zero_iff, Nat.one_ne_zero, and_false, if_false]
  rw [minN]
  by_cases h : vAt ls (m + 1) < minN ls m
  · simp [h]
  · simp [h]
theorem maxZ_step (ls : List Sm) (m : Nat) : (bif decide (maxZ ls (m + 1) < vAt ls (m + 1)) then vAt ls (m + 1) else maxZ ls (m + 1)) = maxZ ls (m + 1 + 1) := by
  unfold maxZ
  simp only [Nat.add_sub_cancel, Nat.add_eq_zero_iff, Nat.one_ne_zero, and_false, if_false]
  rw [maxN]
  by_cases h : maxN ls m < vAt ls (m + 1)
  · simp [h]
  · simp [h]
theorem growN_step (ls : List Sm) (m : Nat) : growN ls (m + 1 + 1 - 1) = growN ls m + gr (vAt ls m) (vAt ls (m + 1)) := by
  rw [Nat.add_sub_cancel, growN]
theorem grow_w {g p v : Int} {m : Nat} (hg : 0 ≤ g ∧ g ≤ 2199023255552 * (m : Int)) (hp : -1099511627776 ≤ p ∧ p ≤ 1099511627776) (hv : -1099511627776 ≤ v ∧ v ≤ 1099511627776) (hm : (m : Int) ≤ 64) : wrap64 (g + v) = g + v ∧ wrap64 (g + v - p) = g + v - p ∧ wrap64 (m : Int) = m :=
  ⟨w64_id (by omega) (by omega), w64_id (by omega) (by omega), w64_id (by omega) (by omega)⟩
theorem rate_w {g p q : Int} {m k : Nat} (hg : 0 ≤ g ∧ g ≤ 2199023255552 * (m : Int)) (hm : (m : Int) ≤ 64) (hpq : p < q) (hp : 0 ≤ p) (hq : q ≤ 1099511627776) (hk : (k : Int) - 1 = m) : IntKind.i64.wrap (g * 60) = g * 60 ∧ IntKind.i64.wrap (q - p) = q - p ∧ IntKind.i64.wrap ((k : Int) - 1) = (m : Int) := by
  refine ⟨?_, ?_, ?_⟩
  · rw [IntKind.wrap_i64]; omega
  · rw [IntKind.wrap_i64]; omega
  · rw [hk, IntKind.wrap_i64]; omega
theorem minZ_one (ls : List Sm) : (ls.getD 0 sm0).2 = minZ ls (0 + 1) := rfl
theorem maxZ_one (ls : List Sm) : (ls.getD 0 sm0).2 = maxZ ls (0 + 1) := rfl
theorem gr_step (a v g : Int) : (bif decide (a ≤ v) then g + v - a else bif decide (0 < v) then g + v else g) = g + gr a v := by
  unfold gr
  by_cases h : a ≤ v
  · have h' : ¬ v < a := by omega
    simp only [h, h', decide_true, cond_true, if_false]
    omega
  · have h' : v < a := by omega
    by_cases h0 : 0 < v
    · simp only [h, h', h0, decide_true, decide_false, cond_true, cond_false, if_true]
      omega
    · simp only [h, h', h0, decide_false, cond_false, if_true]
      omega
set_option maxHeartbeats 1000000 in
set_option maxRecDepth 60000 in
theorem refOf_no (kind : Int) (a : Option Addr) (len cap : Nat) (ls : List Sm) (w : World) (h : SmsAt w a len cap ls) (hM : ¬ MayS ls) :
    Calls Try.prog 8 #[.int .i64 kind, .slice a len cap] w fun e w' => TotPost none w e w' := by
  have HC := Hid.mk9 (mayS_false h hM)
  clear h hM
  go_enter Try.func8, Try.ntmps8
  go_wp2_with (go_at_call 10; refine HC.out.mono ?_; rintro e w1 ⟨rfl, hb1⟩; have HB := Hid.mk9 hb1; clear hb1)
  go_returns
  exact tot_no rfl HB.out
set_option maxHeartbeats 1000000 in
set_option maxRecDepth 60000 in
theorem refOf_bad (kind : Int) (a : Option Addr) (len cap : Nat) (ls : List Sm) (w : World) (h : SmsAt w a len cap ls) (hM : MayS ls) (hk : kind < 1 ∨ 5 < kind) :
    Calls Try.prog 8 #[.int .i64 kind, .slice a len cap] w fun e w' => TotPost none w e w' := by
  have HC := Hid.mk9 (mayS_true h hM)
  clear h hM
  by_cases h1 : kind < 1
  · go_enter Try.func8, Try.ntmps8
    go_wp2_with (go_at_call 10; refine HC.out.mono ?_; rintro e w1 ⟨rfl, hb1⟩; have HB := Hid.mk9 hb1; clear hb1)
    go_returns
    exact tot_no rfl HB.out
  · have h5 : 5 < kind := by omega
    have d1 : decide (kind < 1) = false := decide_eq_false h1
    clear hk
    go_enter Try.func8, Try.ntmps8
    go_wp2_with (go_at_call 10; refine HC.out.mono ?_; rintro e w1 ⟨rfl, hb1⟩; have HB := Hid.mk9 hb1; clear hb1)
    go_returns
    exact tot_no rfl HB.out
set_option maxHeartbeats 4000000 in
set_option maxRecDepth 60000 in
theorem refOf_yes (kind : Int) (a : Option Addr) (len cap : Nat) (ls : List Sm) (w : World) (h : SmsAt w a len cap ls) (hM : MayS ls) (hk1 : 1 ≤ kind) (hk5 : kind ≤ 5) :
    Calls Try.prog 8 #[.int .i64 kind, .slice a len cap] w fun e w' => TotPost (totP kind ls) w e w' := by
  have hl : ls.length = len := h.1
  have h64 : ls.length ≤ 64 := hM.1
  have hm : (len : Int) ≤ 64 := by omega
  have HL := Hid.mk9 h
  have HM := Hid.mk9 hM
  have HC := Hid.mk9 (mayS_true h hM)
  have HI : Hid (∀ k, k < len → 0 ≤ growN ls k ∧ growN ls k ≤ 2199023255552 * (k : Int)) := fun k hk => growN_in hM k (by omega)
  have HV : Hid (∀ k, k < len → -1099511627776 ≤ vAt ls k ∧ vAt ls k ≤ 1099511627776) := fun k hk => vAt_in hM (by omega)
  have HS : Hid (∀ k, k ≤ len → -(1099511627776 * (k : Int)) ≤ sumN ls k ∧ sumN ls k ≤ 1099511627776 * (k : Int)) := fun k hk => sumN_in hM k (by omega)
  have d1 : decide (kind < 1) = false := decide_eq_false (by omega)
  have d5 : decide (5 < kind) = false := decide_eq_false (by omega)
  clear h hM h64
  go_enter Try.func8, Try.ntmps8
  go_wp2_with (go_at_call 10; refine HC.out.mono ?_; rintro e w1 ⟨rfl, hb1⟩; have HB := Hid.mk9 hb1; clear hb1)
  go_loopw [7, 8, 9, 10, 11] (fun s x y g i wr => ∃ (k : Nat) (sn xn yn gn : Int), k ≤ len ∧ i = .int .i64 k ∧ s = .int .i64 sn ∧ x = .int .i64 xn ∧ y = .int .i64 yn ∧ g = .int .i64 gn ∧ Hid (sn = sumN ls k) ∧ Hid (xn = minZ ls k) ∧ Hid (yn = maxZ ls k) ∧ Hid (gn = growN ls (k - 1)) ∧ Hid (Below w.heap.size w wr)) (fun _ _ _ _ i _ => len - (intOf i).toNat)
  case atStart => exact ⟨0, 0, 0, 0, 0, Nat.zero_le _, rfl, rfl, rfl, rfl, rfl, rfl, rfl, rfl, rfl, HB⟩
  case round =>
    obtain ⟨k, sn, xn, yn, gn, hk, rfl, rfl, rfl, rfl, rfl, hS, hX, hY, hG, hbel⟩ := hrel
    by_cases hlt : k < len
    · obtain ⟨b, off, rfl, hbs, hcell⟩ := (HL.out.below hbel.out).some (by omega)
      have hk1' : (k : Int) < (len : Int) := by omega
      have hk0' : (0 : Int) ≤ (k : Int) := by omega
      have HSN : Hid (sn + (ls.getD k sm0).2 = sumN ls (k + 1)) := by show _ = _; rw [hS.out]; rfl
      have hs := HS.out k (by omega)
      rw [← hS.out] at hs
      have hv : -1099511627776 ≤ (ls.getD k sm0).2 ∧ (ls.getD k sm0).2 ≤ 1099511627776 := HV.out k hlt
      obtain ⟨-, e1⟩ := hcell k hlt
      rcases Nat.eq_zero_or_pos k with h0 | h0
      · subst h0
        have HXN := Hid.mk9 (minZ_one ls)
        have HYN := Hid.mk9 (maxZ_one ls)
        have HGN : Hid (gn = growN ls (0 + 1 - 1)) := hG
        generalize (ls.getD 0 sm0).2 = v at *
        have hw : wrap64 (sn + v) = sn + v := w64_id (by omega) (by omega)
        clear hcell hs hv hS hX hY hG
        rw [Nat.zero_mul, Nat.add_zero] at e1
        go_wp2_with fail
        exact ⟨⟨0 + 1, sn + v, v, v, gn, by omega, by go_num, by rw [hw], rfl, rfl, rfl, HSN, HXN, HYN, HGN, hbel⟩, by simp [intOf]; omega⟩
      · obtain ⟨m, rfl⟩ : ∃ m, k = m + 1 := ⟨k - 1, by omega⟩
        obtain ⟨-, e0⟩ := hcell m (by omega)
        have hg := HI.out m (by omega)
        have HGE := hG.out
        rw [Nat.add_sub_cancel] at HGE
        rw [← HGE] at hg
        have qX := minZ_step ls m
        have qY := maxZ_step ls m
        rw [← hX.out] at qX
        rw [← hY.out] at qY
        have qG : (bif decide (vAt ls m ≤ vAt ls (m + 1)) then gn + vAt ls (m + 1) - vAt ls m else bif decide (0 < vAt ls (m + 1)) then gn + vAt ls (m + 1) else gn) = growN ls (m + 1 + 1 - 1) := by
          rw [gr_step, HGE, growN_step]
        obtain ⟨p, v, HXN, HYN, HGN, HSN', hv0, hv', e0', e1'⟩ : ∃ p v : Int, Hid ((bif decide (v < xn) then v else xn) = minZ ls (m + 1 + 1)) ∧ Hid ((bif decide (yn < v) then v else yn) = maxZ ls (m + 1 + 1)) ∧ Hid ((bif decide (p ≤ v) then gn + v - p else bif decide (0 < v) then gn + v else gn) = growN ls (m + 1 + 1 - 1)) ∧ Hid (sn + v = sumN ls (m + 1 + 1)) ∧ (-1099511627776 ≤ p ∧ p ≤ 1099511627776) ∧ (-1099511627776 ≤ v ∧ v ≤ 1099511627776) ∧ wr.cell? ⟨b, off + m * 2 + 1, none⟩ = some (.int .i64 p) ∧ wr.cell? ⟨b, off + (m + 1) * 2 + 1, none⟩ = some (.int .i64 v) := ⟨vAt ls m, vAt ls (m + 1), qX, qY, qG, HSN, HV.out m (by omega), hv, e0, e1⟩
        clear qX qY qG e0 e1 HSN hv
        have hm64 : (m : Int) ≤ 64 := by omega
        have hmk : (m : Int) < (len : Int) := by omega
        have hmk0 : (0 : Int) ≤ (m : Int) := by omega
        have hnz : ((m : Int) + 1 == 0) = false := by first | (simp; done) | (simp; omega)
        have hnp : decide ((0 : Int) < (m : Int) + 1) = true := by first | (simp; done) | (simp; omega)
        have hlt2 : m + 1 + 1 ≤ len := by omega
        have HW : Hid (wrap64 (sn + v) = sn + v) := w64_id (by omega) (by omega)
        have HWG := Hid.mk9 (grow_w hg hv0 hv' hm64)
        clear hcell hs hS hX hY hG HGE hg hv0 hv' h0
        cases hd1 : decide (v < xn) <;> cases hd2 : decide (yn < v) <;> cases hd3 : decide (p ≤ v) <;> cases hd4 : decide (0 < v) <;>
          (rw [hd1] at HXN; rw [hd2] at HYN; rw [hd3, hd4] at HGN
           simp only [cond_true, cond_false] at HXN HYN HGN
           go_wp2_with fail
           exact ⟨⟨m + 1 + 1, _, _, _, _, hlt2, by go_num, by rw [HW.out], rfl, rfl, by first | rfl | (rw [HWG.out.1, HWG.out.2.1]; done) | rw [HWG.out.1], HSN', HXN, HYN, HGN, hbel⟩, by simp [intOf]; omega⟩)
    · obtain rfl : k = len := by omega
      rcases (show kind = 1 ∨ kind = 4 ∨ kind = 2 ∨ kind = 3 ∨ kind = 5 from by omega) with rfl | rfl | rfl | rfl | rfl
      · have HT : Hid (totP 1 ls = some sn) := by show _ = _; unfold totP; rw [if_pos rfl, hS.out, hl]
        clear hS hX hY hG HL HI HV HS HM
        go_wp2_with fail
        go_returns
        exact tot_yes HT.out hbel.out
      · have HT : Hid (totP 4 ls = some (k : Int)) := by show _ = _; unfold totP; rw [hl]; simp
        clear hS hX hY hG HL HI HV HS HM
        go_wp2_with fail
        go_returns
        exact tot_yes HT.out hbel.out
      · by_cases h0 : k = 0
        · have HT : Hid (totP 2 ls = none) := by show _ = _; unfold totP; rw [hl]; simp [h0]
          have HX0 : xn = 0 := by have := hX.out; rw [this]; unfold minZ; rw [if_pos h0]
          subst HX0
          have hz : decide (0 < k) = false := by simp [h0]
          clear hS hX hY hG HL HI HV HS HM h0
          go_wp2_with fail
          go_returns
          exact tot_no HT.out hbel.out
        · have HT : Hid (totP 2 ls = some xn) := by show _ = _; unfold totP; rw [hl, hX.out]; simp [h0, minZ]
          have hz : decide (0 < k) = true := by simp; omega
          clear hS hX hY hG HL HI HV HS HM h0
          go_wp2_with fail
          go_returns
          exact tot_yes HT.out hbel.out
      · by_cases h0 : k = 0
        · have HT : Hid (totP 3 ls = none) := by show _ = _; unfold totP; rw [hl]; simp [h0]
          have HX0 : yn = 0 := by have := hY.out; rw [this]; unfold maxZ; rw [if_pos h0]
          subst HX0
          have hz : decide (0 < k) = false := by simp [h0]
          clear hS hX hY hG HL HI HV HS HM h0
          go_wp2_with fail
          go_returns
          exact tot_no HT.out hbel.out
        · have HT : Hid (totP 3 ls = some yn) := by show _ = _; unfold totP; rw [hl, hY.out]; simp [h0, maxZ]
          have hz : decide (0 < k) = true := by simp; omega
          clear hS hX hY hG HL HI HV HS HM h0
          go_wp2_with fail
          go_returns
          exact tot_yes HT.out hbel.out
      · by_cases h0 : k < 2
        · have HT : Hid (totP 5 ls = none) := by show _ = _; unfold totP; rw [hl]; simp [h0]
          have hz : decide ((k : Int) < 2) = true := by simp; omega
          clear hS hX hY hG HL HI HV HS HM h0
          go_wp2_with fail
          go_returns
          exact tot_no HT.out hbel.out
        · have HT : Hid (totP 5 ls = some (rateP ls)) := by show _ = _; unfold totP; rw [hl]; simp [h0]
          have HRT : Hid (rateP ls = IntKind.i64.wrap (Int.tdiv (growN ls (k - 1) * 60) ((ls.getD (k - 1) sm0).1 - (ls.getD 0 sm0).1))) := by show _ = _; unfold rateP; rw [hl]
          generalize rateP ls = rt at *
          obtain ⟨b, off, rfl, hbs, hcell⟩ := (HL.out.below hbel.out).some (by omega)
          obtain ⟨e0, -⟩ := hcell 0 (by omega)
          obtain ⟨e1, -⟩ := hcell (k - 1) (by omega)
          clear hcell
          rw [Nat.zero_mul, Nat.add_zero] at e0
          have hx := HI.out (k - 1) (by omega)
          rw [← hG.out] at hx
          have HEE := HRT.out
          rw [← hG.out] at HEE
          replace HEE := Hid.mk9 HEE
          have ht : (ls.getD 0 sm0).1 < (ls.getD (k - 1) sm0).1 := by
            have := sorted_ends HM.out (k - 2) (by omega)
            rwa [show k - 2 + 1 = k - 1 from by omega] at this
          have hi0 : 0 ≤ (ls.getD 0 sm0).1 := ((HM.out.2 0 (by omega)).1).1
          have hi1 : (ls.getD (k - 1) sm0).1 ≤ 1099511627776 := ((HM.out.2 (k - 1) (by omega)).1).2.1
          obtain ⟨m, hmk⟩ : ∃ m, k - 1 = m := ⟨_, rfl⟩
          rw [hmk] at e1 hx ht hi1 HEE
          obtain ⟨p, q, e0', e1', HEE', hpq, hi0', hi1'⟩ : ∃ p q : Int, wr.cell? ⟨b, off, none⟩ = some (.int .i64 p) ∧ wr.cell? ⟨b, off + m * 2, none⟩ = some (.int .i64 q) ∧ Hid (rt = IntKind.i64.wrap (Int.tdiv (gn * 60) (q - p))) ∧ p < q ∧ 0 ≤ p ∧ q ≤ 1099511627776 := ⟨_, _, e0, e1, HEE, ht, hi0, hi1⟩
          have hk64 : (m : Int) ≤ 64 := by omega
          have hk2 : (m : Int) < (k : Int) := by omega
          have hk3 : (0 : Int) ≤ (m : Int) := by omega
          have hl0 : 0 < k := by omega
          have hz : decide ((k : Int) < 2) = false := by simp; omega
          have w0 : ¬ q - p = 0 := by omega
          obtain ⟨w1, w2, hkl⟩ := rate_w hx hk64 hpq hi0' hi1' (show (k : Int) - 1 = m from by omega)
          have y0 := cell_grown (a := ⟨b, off, none⟩) hbs e0'
          have y1 := cell_grown (a := ⟨b, off + m * 2, none⟩) hbs e1'
          have HBG : Hid (∀ n os, Below w.heap.size w (Go.Sort.grow (wr.drewN n) os)) := fun n os => below2 hbel.out (below_grow _ _ _)
          clear hS hX hY hG HL HI HV HS HM HRT e0 e1 e0' e1' HEE hx ht hi0 hi1 hpq hi0' hi1' hmk h0
          go_wp2_with fail
          refine wp_region_QW mixed5 (by kernel_rfl) ?_
          repeat (refine QW_step (fun K hK => ?_); go_simp; refine hK _ ?_; clear hK K)
          refine QW_nil ?_
          intro _ hw9
          obtain ⟨⟨nq, osq⟩, hw8⟩ := hw9
          subst hw8
          have hb := HBG.out nq osq
          go_wp2_with fail
          go_returns
          exact tot_yes (by rw [HT.out, HEE'.out]) hb
end Go.Proofs.Ythdeemaanndggaa.Bk
