/-
  The law of turns.
-/
import Derived.Test.YtpolehfkjpbofaaTaK
namespace Go.Proofs.Ytpolehfkjpbofaa.Ta
open Go.ChangeShapes Go.WideShapes Go.ChangeAt Go.RowKit
open Go.Conc (G solo rcase scase)
set_option maxHeartbeats 4000000 in
set_option maxRecDepth 60000 in
theorem tapFair_any (u : Nat) (hu : u ≤ 255) (a : Option Addr) (len cap : Nat) (w : World) (hrow : TurnAt w a len) : Calls Try.prog 4 #[.int .u8 u, .slice a len cap] w fun e w' => e = .returned (.bool true) ∧ Below w.heap.size w w' := by
  have u1 : (u : Int) ≤ 255 := by omega
  have hmax : (len : Int) ≤ 9223372036854775807 := by have := hrow.1; unfold maxLen at this; omega
  have HRow := Hid.mk9 hrow
  clear hu hrow
  go_enter Try.func4, Try.ntmps4
  go_upto_region 2 with fail
  have e1 : 1 + (u : Int) % 8 = ((1 + u % 8 : Nat) : Int) := by omega
  have k1 : 1 ≤ 1 + u % 8 ∧ 1 + u % 8 ≤ 8 := by omega
  rw [e1]
  generalize (u : Int) % 8 = x1
  clear e1
  generalize 1 + u % 8 = k at *
  have HN := Hid.mk9 (new_any k 64 w k1 ⟨by omega, by omega⟩)
  have HK := Hid.mk9 k1
  have hk1 : (1 : Int) ≤ (k : Int) := by omega
  have hk2 : (k : Int) ≤ 8 := by omega
  clear k1
  go_upto_region 5 with (go_at_call 7; refine HN.out.mono ?_; rintro e w1 ⟨p, rfl, hT, hB⟩; have HT := Hid.mk9 hT; have HB := Hid.mk9 hB; clear hT hB)
  clear HN
  generalize hq : w.heap.size = q at *
  have hmk := makeI k (by omega) w1
  have HT1 : Hid (TapAt q (w1.alloc (.cells (intsV (List.replicate k 0)).toArray 3)) p (List.replicate k []) 64 0) := ⟨HT.out.below ((Below.refl _ _).alloc (Nat.le_refl _) _)⟩
  have HB1 : Hid (Below q w (w1.alloc (.cells (intsV (List.replicate k 0)).toArray 3))) := ⟨HB.out.alloc HT.out.base _⟩
  have HR1 : Hid (Rw (w1.alloc (.cells (intsV (List.replicate k 0)).toArray 3)) w1.heap.size 3 (intsV (List.replicate k 0))) := ⟨Rw.new _ _ _⟩
  have HG : Hid (q ≤ w1.heap.size) := ⟨HT.out.base⟩
  clear HT HB
  generalize World.alloc _ _ = W9 at *
  generalize w1.heap.size = gw at *
  go_wp2_with fail
  go_loopw [9] (fun i wr => ∃ (n : Nat) (P : List (List Int)) (t : Nat) (ws : List Int), n ≤ len ∧ n ≤ 200 ∧ i = .int .i64 n ∧ Hid (TapAt q wr p P 64 t) ∧ Hid (P.length = k ∧ t < k ∧ Fair ws t k) ∧ Hid (Rw wr gw 3 (intsV ws)) ∧ Hid (Below q w wr)) (fun i _ => 200 - (intOf i).toNat)
  case atStart => exact ⟨0, _, 0, _, Nat.zero_le _, Nat.zero_le _, rfl, HT1, ⟨by simp, HK.out.1, fair_zero k⟩, HR1, HB1⟩
  case round =>
    clear HT1 HR1 HB1 hmk
    obtain ⟨n, P, t, ws, hn, hn2, rfl, HT, HI, HR, HB⟩ := hrel
    by_cases hlt : n < len ∧ n < 200
    · obtain ⟨hlt, hl2⟩ := hlt
      have n1 : (n : Int) < (len : Int) := by omega
      have n2 : (n : Int) < 200 := by omega
      rcases HRow.out.2 with h0 | ⟨b, off, f, rfl, hbq, hcell⟩
      · omega
      obtain ⟨h1, h2⟩ := hcell n hlt
      rw [hq] at hbq
      have h3 : wr.cell? ⟨b, off + n, none⟩ = some (.int .u8 (f n : Int)) := by rw [cell_block (HB.out.block b hbq)]; exact h1
      have h4 : ((f n : Nat) : Int) ≤ 255 := by omega
      generalize f n = x at *
      clear h1 hcell
      by_cases hev : x % 2 = 0
      · have hev1 : ((x : Nat) : Int) % 2 = 0 := by omega
        have hpi : ((x : Int) / 2) % (k : Int) = (((x / 2) % k : Nat) : Int) := by simp
        have HP := Hid.mk9 (put_any HT.out (by rw [HI.out.1]; exact HK.out.2) (((x / 2) % k : Nat) : Int) (n : Int))
        have HI' : Hid ((putS P 64 (((x / 2) % k : Nat) : Int) (n : Int)).1.length = k ∧ t < k ∧ Fair ws t k) := ⟨by rw [putS_len]; exact HI.out.1, HI.out.2⟩
        have HGP := Hid.mk9 (HT.out.apart HR.out (by decide))
        generalize (x / 2) % k = y at *
        generalize putS P 64 (y : Int) (n : Int) = PP at *
        clear HT HI hev
        go_wp2_with (go_at_call 9; refine HP.out.mono ?_; rintro e w2 ⟨rfl, hT, hB, hK, _⟩; have HT := Hid.mk9 hT; replace HB := Hid.mk9 (HB.out.trans hB); replace HR := Hid.mk9 (hK.rw HGP.out HR.out); clear hT hB hK)
        exact ⟨⟨n + 1, _, _, _, by omega, by omega, by go_num, HT, HI', HR, HB⟩, by simp [intOf]; omega⟩
      · have hev1 : ((x : Nat) : Int) % 2 = 1 := by omega
        have HC := Hid.mk9 (counts_any q p 64 t k P wr HT.out HI.out.1 HK.out.2)
        have hcl : (cntsP P).length = k := by rw [cntsP_len]; exact HI.out.1
        have HCL := Hid.mk9 hcl
        clear hev hcl
        go_upto_region 12 with (go_at_call 18; refine HC.out.mono ?_; rintro e w2 ⟨a2, rfl, ⟨ha, hfr⟩, hb⟩; rw [HCL.out])
        obtain ⟨b2, rfl, hb2, hcc⟩ := ha.some (by rw [HCL.out]; exact HK.out.1)
        have hfr2 := hfr b2 rfl
        have HT2 := Hid.mk9 (HT.out.below hb)
        have HR2 := Hid.mk9 (HR.out.below hb)
        have HB2 := Hid.mk9 (HB.out.trans (hb.mono HT.out.base))
        have HX := Hid.mk9 (next_any HT2.out (by rw [HI.out.1]; exact HK.out.2) (by rw [HI.out.1]; exact HI.out.2.1))
        have HGP := Hid.mk9 (HT2.out.apart HR2.out (by decide))
        have HBP : Hid (b2 ≠ p) := ⟨by obtain ⟨_, _, hx⟩ := HT.out; have := hx.box.lt; omega⟩
        have HBG : Hid (b2 ≠ gw) := ⟨by have := HR.out.lt; omega⟩
        have HF : Hid (Fair (newW ws (cntsP P) (nextS P t).2.2.1 k) (nextS P t).2.1 k ∧ (nextS P t).1.length = k ∧ (nextS P t).2.1 < k ∧ ∀ j, j < k → 0 < (cntsP P).getD j 0 → (nextS P t).2.2.2.2 = 0) := ⟨fair_step HI.out.2.2 HI.out.1 HI.out.2.1, by rw [nextS_len]; exact HI.out.1, by have := nextS_turn (P := P) (t := t) (by rw [HI.out.1]; exact HI.out.2.1); rwa [HI.out.1] at this, fun j hj h => nextS_ok (j := j) (by rw [HI.out.1]; exact HI.out.2.1) (by rw [HI.out.1]; exact hj) h⟩
        have HCC := Hid.mk9 hcc
        have HWL := Hid.mk9 HI.out.2.2.1
        have HW0 : Hid (∀ j, j < k → 0 ≤ ws.getD j 0 ∧ ws.getD j 0 < (k : Int)) := ⟨fun j hj => ⟨(HI.out.2.2.2 j hj).1, HI.out.2.2.lt HI.out.2.1 hj⟩⟩
        clear ha hfr hb hcc HC HT HR HB HI hfr2 hb2
        generalize nextS P t = NX at *
        obtain ⟨P3, t3, pt, x3, er⟩ := NX
        generalize cntsP P = cs at *
        simp only at HX HF
        go_wp2_with (go_at_call 13; refine HX.out.mono ?_; rintro e w3 ⟨rfl, hT, hB, hK, _⟩; have HT3 := Hid.mk9 hT; have HB3 := Hid.mk9 (HB2.out.trans hB); have HR3 := Hid.mk9 (hK.rw HGP.out HR2.out); have HC3 : Hid (∀ j, j < k → w3.cell? ⟨b2, j, none⟩ = some (.int .i64 (cs.getD j 0))) := ⟨fun j hj => hK.cell HBP.out (HCC.out j (by rw [HCL.out]; exact hj))⟩; clear hT hB hK HX)
        clear HT2 HR2 HB2 HCC HBP
        obtain ⟨nw, hnw⟩ : ∃ nw, newW ws cs pt k = nw := ⟨_, rfl⟩
        have HNL : Hid (nw.length = k) := ⟨by rw [← hnw, newW_len]⟩
        have HNG : Hid (∀ j, j < k → nw.getD j 0 = if 0 < cs.getD j 0 ∧ (j : Int) ≠ pt then ws.getD j 0 + 1 else 0) := ⟨fun j hj => by rw [← hnw, newW_get hj]⟩
        rw [hnw] at HF
        have HNK : Hid (∀ j, j < k → nw.getD j 0 < (k : Int)) := ⟨fun j hj => HF.out.1.lt HF.out.2.2.1 hj⟩
        clear hnw
        go_loopw [14] (fun i wr2 => ∃ m : Nat, m ≤ k ∧ i = .int .i64 m ∧ Hid (Only gw w3 wr2) ∧ Hid (Rw wr2 gw 3 (intsV (mix2 nw ws m)))) (fun i _ => k - (intOf i).toNat)
        case atStart => exact ⟨0, Nat.zero_le _, rfl, ⟨Only.refl _ _⟩, by rw [mix2_zero]; exact HR3⟩
        case round =>
          obtain ⟨m, hm, rfl, HO, HRm⟩ := hrel
          by_cases hmk : m < k
          · have m1 : (m : Int) < (k : Int) := by omega
            have c1 : wr.cell? ⟨b2, m, none⟩ = some (.int .i64 (cs.getD m 0)) := by rw [cell_block (HO.out.block b2 HBG.out)]; exact HC3.out m hmk
            have c2 : wr.cell? ⟨gw, m, none⟩ = some (.int .i64 (ws.getD m 0)) := HRm.out.cell (by simp only [intsV, List.getElem?_map]; rw [mix2_get (by rw [HNL.out, HWL.out]) (by rw [HNL.out]; exact hmk)]; rfl)
            have c3 : wr.frozen? ⟨gw, m, none⟩ = false := HRm.out.fz m
            obtain ⟨w0, w1⟩ := HW0.out m hmk
            have hg := HNG.out m hmk
            have hlt2 := HNK.out m hmk
            have her := HF.out.2.2.2 m hmk
            have HRn : Hid (Rw (wr.setCell ⟨gw, m, none⟩ (.int .i64 (nw.getD m 0))) gw 3 (intsV (mix2 nw ws (m + 1)))) := ⟨by rw [← mix2_set (by rw [HNL.out, HWL.out]) (by rw [HNL.out]; exact hmk)]; exact rw_set HRm.out m _⟩
            have HOn : Hid (Only gw w3 (wr.setCell ⟨gw, m, none⟩ (.int .i64 (nw.getD m 0)))) := ⟨HO.out.set _⟩
            have c4 : (wr.setCell ⟨gw, m, none⟩ (.int .i64 (nw.getD m 0))).cell? ⟨b2, m, none⟩ = some (.int .i64 (cs.getD m 0)) := by rw [cell_block (HOn.out.block b2 HBG.out)]; exact HC3.out m hmk
            have hbg := HBG.out
            clear HO HRm HNG HNK HF HW0
            generalize nw.getD m 0 = y at *
            generalize cs.getD m 0 = z at *
            generalize ws.getD m 0 = v at *
            by_cases hz : 0 < z
            · have her0 := her hz
              subst her0
              by_cases hp : (m : Int) = pt
              · rw [if_neg (fun h => h.2 hp)] at hg
                subst hg
                subst hp
                go_wp2_with fail
                exact ⟨⟨m + 1, by omega, by go_num, HOn, HRn⟩, by simp [intOf]; omega⟩
              · rw [if_pos ⟨hz, hp⟩] at hg
                subst hg
                go_wp2_with fail
                exact ⟨⟨m + 1, by omega, by go_num, HOn, HRn⟩, by simp [intOf]; omega⟩
            · rw [if_neg (fun h => hz h.1)] at hg
              subst hg
              clear her
              go_wp2_with fail
              exact ⟨⟨m + 1, by omega, by go_num, HOn, HRn⟩, by simp [intOf]; omega⟩
          · obtain rfl : m = k := by omega
            have HT4 := Hid.mk9 (HT3.out.only HR3.out HO.out)
            have HR4 : Hid (Rw wr gw 3 (intsV nw)) := ⟨by have := HRm.out; rwa [show m = nw.length by rw [HNL.out], mix2_all _ _ (by rw [HNL.out, HWL.out])] at this⟩
            have HB4 := Hid.mk9 (HB3.out.trans (HO.out.below HG.out))
            have HI4 : Hid (P3.length = m ∧ t3 < m ∧ Fair nw t3 m) := ⟨HF.out.2.1, HF.out.2.2.1, HF.out.1⟩
            clear HT3 HR3 HB3 HO HRm HF HC3 HNG HNK HW0
            go_wp2_with fail
            exact ⟨⟨n + 1, _, _, _, by omega, by omega, by go_num, HT4, HI4, HR4, HB4⟩, by simp [intOf]; omega⟩
    · have HS : Hid (q ≤ wr.heap.size) := ⟨HT.out.base⟩
      have hor : (len : Int) ≤ (n : Int) ∨ ((n : Int) < (len : Int) ∧ (200 : Int) ≤ (n : Int)) := by omega
      clear HT HI HR
      clear hlt
      rcases hor with hor | ⟨hor, hor2⟩
      all_goals
        go_wp2_with (go_at_call 8; refine (awake_any _).mono ?_; rintro e w2 ⟨rfl, hb⟩; replace HB := Hid.mk9 (HB.out.trans (hb.mono HS.out)); clear hb)
        go_ret
        exact ⟨rfl, by rw [hq]; exact HB.out⟩
end Go.Proofs.Ytpolehfkjpbofaa.Ta
