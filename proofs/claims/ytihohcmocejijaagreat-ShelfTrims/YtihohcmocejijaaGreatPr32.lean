/-
  doEntry: an entry done to a shelf of one's own.
  What may be stays so, plainly.
-/
import Derived.Test.YtihohcmocejijaaGreatPr31
namespace Go.Proofs.YtihohcmocejijaaGreat.Bk
open Go.ChangeShapes Go.WideShapes Go.ChangeAt Go.RowKit
theorem writeS_ds (s : Shf) (n : ByteArray) (x : Sm) : (writeS s n x).1.ds = s.ds := by
  unfold writeS
  by_cases h : x.1 < s.fl
  · rw [if_pos h]
  · rw [if_neg h]
    cases findL s.ls n with
    | none =>
      simp only
      by_cases h : 16 ≤ s.ls.length
      · rw [if_pos h]
      · rw [if_neg h]
    | some xs =>
      simp only
      by_cases h : putE xs x = 0
      · rw [if_pos h]
      · rw [if_neg h]
        by_cases h : putE xs x = 7
        · rw [if_pos h]
        · rw [if_neg h]
theorem trimS_ds (s : Shf) (f : Int) : (trimS s f).1.ds = s.ds := by
  unfold trimS
  by_cases h : f < s.fl
  · rw [if_pos h]
  · rw [if_neg h]
theorem opS_ds (s : Shf) (o : Opp) : (opS s o).1.ds = s.ds := by
  unfold opS
  by_cases h : o.k = 1
  · rw [if_pos h]; exact writeS_ds ..
  · rw [if_neg h]
    by_cases h : o.k = 2
    · rw [if_pos h]; exact trimS_ds ..
    · rw [if_neg h]
      by_cases h : o.k = 3
      · rw [if_pos h]
      · rw [if_neg h]
theorem applyS_ds (s : Shf) (o : Opp) : (applyS s o).1.ds = s.ds := by
  unfold applyS
  by_cases h : OpMay o
  · rw [if_pos h]; exact opS_ds ..
  · rw [if_neg h]
theorem LvA.dcell {B p : Nat} {la : Option Addr} {lc : Nat} {X : List LX} {da : Option Addr} {dc : Nat} {ds : List Dn} {fl : Int} {w : World} (h : LvA B p la lc X da dc ds fl w) {k : Nat} (hk : k < ds.length) : ∃ g, da = some ⟨g, 0, none⟩ ∧ DnCells w g (k * 5) (ds.getD k dn0) := by
  obtain ⟨g, cp, eg, hgl⟩ := own_some h.2.2.2.2 (by omega)
  injection eg with e1 e2 e3
  subst e1 e3
  have hO := h.2.2.2.2
  have q := cellsD_at ds k hk
  exact ⟨g, rfl, (hO.cellAt (k * 5) (by omega)).trans (q 0 (by omega)), (hO.cellAt (k * 5 + 1) (by omega)).trans (q 1 (by omega)), (hO.cellAt (k * 5 + 2) (by omega)).trans (q 2 (by omega)), (hO.cellAt (k * 5 + 3) (by omega)).trans (q 3 (by omega)), (hO.cellAt (k * 5 + 4) (by omega)).trans (q 4 (by omega))⟩
set_option maxHeartbeats 4000000 in
set_option maxRecDepth 60000 in
theorem doEntry_any {B p : Nat} {la : Option Addr} {lc : Nat} {X : List LX} {da : Option Addr} {dc : Nat} {ds : List Dn} {fl : Int} {w : World} (h : LvA B p la lc X da dc ds fl w) (hM : LnsMay (lnsX X) fl) (hD : DnsMay ds) (e : Ent) :
    Calls Tryz.prog 27 #[.pointer (some ⟨p, 0, none⟩), entV e] w fun x w' => TnPost B p (doS ⟨lnsX X, ds, fl⟩ e) w x w' := by
  have HB0 : Hid (B ≤ w.heap.size) := Hid.mk9 (Nat.le_trans h.2.1 (Nat.le_of_lt h.lt))
  have HPL : Hid (p < w.heap.size) := Hid.mk9 h.lt
  have HM := Hid.mk9 hM
  have HD := Hid.mk9 hD
  obtain ⟨s0, hs0⟩ : ∃ s0, s0 = (⟨lnsX X, ds, fl⟩ : Shf) := ⟨_, rfl⟩
  have HZ : Hid (e.cl = 0 → doS s0 e = applyS s0 e.op) := Hid.mk9 (fun h => by unfold doS; rw [if_pos h])
  have HA1 : Hid (∀ d, ¬ e.cl = 0 → findD s0.ds e.cl = some d → e.id ≤ d.id → doS s0 e = (s0, againA d e.id)) := Hid.mk9 (fun d h hf hi => by unfold doS; rw [if_neg h, hf]; simp only; rw [if_pos hi]; rfl)
  have HA2 : Hid (∀ d, ¬ e.cl = 0 → findD s0.ds e.cl = some d → ¬ e.id ≤ d.id → doS s0 e = doneS s0 e) := Hid.mk9 (fun d h hf hi => by unfold doS; rw [if_neg h, hf]; simp only; rw [if_neg hi])
  have HA3 : Hid (¬ e.cl = 0 → findD s0.ds e.cl = none → doS s0 e = doneS s0 e) := Hid.mk9 (fun h hf => by unfold doS; rw [if_neg h, hf])
  have HDS : Hid (doneS s0 e = (⟨(applyS s0 e.op).1.ls, noteD (applyS s0 e.op).1.ds ⟨e.cl, e.id, (applyS s0 e.op).2⟩, (applyS s0 e.op).1.fl⟩, (applyS s0 e.op).2)) := Hid.mk9 rfl
  have HADS := Hid.mk9 (applyS_ds s0 e.op)
  have HOP : Hid (∀ W, LvA B p la lc X da dc ds fl W → Calls Tryz.prog 36 #[.pointer (some ⟨p, 0, none⟩), opV e.op] W fun x w' => TnPost B p (applyS s0 e.op) W x w') := Hid.mk9 (fun W hW => by rw [hs0]; exact doOp_any hW hM e.op)
  have HS0 : Hid (s0.ds = ds) := Hid.mk9 (by rw [hs0])
  have HSL : Hid (∀ W, LvA B p la lc X da dc ds fl W → LvS B p s0 W) := Hid.mk9 (fun W hW => by rw [hs0]; exact ⟨_, _, _, _, _, hW, rfl⟩)
  rw [← hs0]
  clear hs0
  obtain ⟨⟨S', e0, e1, e2⟩, hr⟩ : ∃ r, applyS s0 e.op = r := ⟨_, rfl⟩
  rw [hr] at HZ HDS HADS HOP
  obtain ⟨R, hR⟩ : ∃ R, doS s0 e = R := ⟨_, rfl⟩
  rw [hR] at HZ HA1 HA2 HA3 ⊢
  clear hr hR
  obtain ⟨ep, cl, id, ok, os, ot, ov, of, ou, om⟩ := e
  simp only [entV, opV] at HOP ⊢
  simp only at HZ HA1 HA2 HA3 HDS
  have b0 := below2 (below_alloc w (.cells #[.int .i64 ep, .int .i64 cl, .int .i64 id, .int .i64 ok, .string os, .int .i64 ot, .int .i64 ov, .int .i64 of, .int .i64 ou, .int .i64 om] 31)) (below_alloc _ (.cells #[.int .i64 0, .bool false, .int .i64 0] 37))
  have HX := Hid.mk9 ((Bx10.new w 31 (.int .i64 ep) (.int .i64 cl) (.int .i64 id) (.int .i64 ok) (.string os) (.int .i64 ot) (.int .i64 ov) (.int .i64 of) (.int .i64 ou) (.int .i64 om)).below (below_alloc _ (.cells #[.int .i64 0, .bool false, .int .i64 0] 37)))
  have HR : Hid (Bx3 ((w.alloc (.cells #[.int .i64 ep, .int .i64 cl, .int .i64 id, .int .i64 ok, .string os, .int .i64 ot, .int .i64 ov, .int .i64 of, .int .i64 ou, .int .i64 om] 31)).alloc (.cells #[.int .i64 0, .bool false, .int .i64 0] 37)) (w.heap.size + 1) 37 (.int .i64 0) (.bool false) (.int .i64 0)) := by
    have := Bx3.new (w.alloc (.cells #[.int .i64 ep, .int .i64 cl, .int .i64 id, .int .i64 ok, .string os, .int .i64 ot, .int .i64 ov, .int .i64 of, .int .i64 ou, .int .i64 om] 31)) 37 (.int .i64 0) (.bool false) (.int .i64 0)
    rw [show (w.alloc (.cells #[.int .i64 ep, .int .i64 cl, .int .i64 id, .int .i64 ok, .string os, .int .i64 ot, .int .i64 ov, .int .i64 of, .int .i64 ou, .int .i64 om] 31)).heap.size = w.heap.size + 1 from by simp] at this
    exact this
  have HA := Hid.mk9 (h.below b0)
  have HB := Hid.mk9 b0
  clear h b0 hM hD
  go_enter Tryz.func27, Tryz.ntmps27
  go_upto_region 1 with fail
  generalize ((w.alloc (.cells #[.int .i64 ep, .int .i64 cl, .int .i64 id, .int .i64 ok, .string os, .int .i64 ot, .int .i64 ov, .int .i64 of, .int .i64 ou, .int .i64 om] 31)).alloc (.cells #[.int .i64 0, .bool false, .int .i64 0] 37)) = wA at *
  by_cases hc : cl = 0
  · subst hc
    obtain ⟨x0, x1, x2, x3, x4, x5, x6, x7, x8, x9⟩ := HX.out.cells
    have HC := Hid.mk9 (HOP.out wA HA.out)
    have HW := Hid.mk9 (HZ.out rfl)
    clear HZ HA1 HA2 HA3 HDS HADS HOP
    go_wp2_with (go_at_call 36; refine HC.out.mono ?_; rintro e wC ⟨rfl, hL, hb, hk⟩; (have HL := Hid.mk9 hL); (have HBC := Hid.mk9 hb); (have HK := Hid.mk9 hk); (have HRc := Hid.mk9 (HR.out.kp hk (by have := HPL.out; omega) (by decide) (by decide))); clear hL hb hk; (obtain ⟨r0, r1, r2⟩ := HRc.out.cells); (obtain ⟨g0, g1, g2⟩ := HRc.out.frz); simp only [anV])
    refine bodyPost_ret (retA rfl _ _ (w.heap.size + 1) (.int .i64 e0) (.bool e1) (.int .i64 e2) rfl (HRc.out.set _ _ _)) rfl ?_
    have hF := TnPost.fin (R := (S', ⟨e0, e1, e2⟩)) HB0.out (show w.heap.size ≤ w.heap.size + 1 by omega) HB.out HL.out HBC.out HK.out HRc.out
    rw [HW.out]
    exact hF
  · have hc' : (cl == 0) = false := by simpa using hc
    have HC := Hid.mk9 (done_any HA.out HD.out cl)
    have HNC := Hid.mk9 hc
    obtain ⟨-, x1, -, -, -, -, -, -, -, -⟩ := HX.out.cells
    clear hc HZ
    go_upto_region 4 with (go_at_call 46; refine HC.out.mono ?_; rintro e wB ⟨hbB, k, q, hP, hq, rfl⟩)
    replace HA := Hid.mk9 (HA.out.below hbB)
    replace HR := Hid.mk9 (HR.out.below hbB)
    replace HX := Hid.mk9 (HX.out.below hbB)
    replace HB := Hid.mk9 (below2 HB.out hbB)
    clear hbB HC x1 hc'
    cases q with
    | true =>
      obtain ⟨hk, he⟩ := hq.1 rfl
      have HF := Hid.mk9 (findD_yes HD.out hk he)
      obtain ⟨g, rfl, hcd⟩ := HA.out.dcell hk
      have c1 := HA.out.c1
      have hk0 : (0 : Int) ≤ (k : Int) := by omega
      have hk1 : (k : Int) < (ds.length : Int) := by omega
      obtain ⟨d, hd⟩ : ∃ d, ds.getD k dn0 = d := ⟨_, rfl⟩
      rw [hd] at HF hcd
      have HCD := Hid.mk9 hcd
      rw [← HS0.out] at HF
      clear hP hq he hd
      have hcd1 := hcd.2.1
      refine en_4t _ _ _ _ _ _ _ _ _ _ _ _ _ _ _ _ _ _ _ _ _ _ _ _ _ _ _ _ _ _ _ _ _ _ _ _ _ _ _ _ _ _ _ _ _ _ _ _ _ _ _ _ _ _ _ p w.heap.size g k ds.length dc d.id ep cl id ok ot ov of ou om os wB _ c1 HX.out hcd1 hk0 hk1 (Hid.mk9 (fun u22 u23 u24 u25 u26 u27 u28 u29 u30 u31 u32 u33 u34 wD hbD => ?_))
      have HCD2 := Hid.mk9 (hcd.below hbD)
      replace HA := Hid.mk9 (HA.out.below hbD)
      replace HR := Hid.mk9 (HR.out.below hbD)
      replace HX := Hid.mk9 (HX.out.below hbD)
      replace HB := Hid.mk9 (below2 HB.out hbD)
      clear hcd hcd1 HCD hbD c1
      by_cases hi : id ≤ d.id
      · have HW := Hid.mk9 (HA1.out d HNC.out HF.out hi)
        rw [decide_eq_true hi]
        clear hi HA1 HA2 HA3 HDS HADS HOP
        have c1 := HA.out.c1
        have HLS := Hid.mk9 (HSL.out wD HA.out)
        go_upto_region 5 with fail
        refine en_5 _ _ _ _ _ _ _ _ _ _ _ _ _ _ _ _ _ _ _ _ _ _ _ _ _ _ _ _ _ _ _ _ _ _ _ _ _ _ _ _ _ _ _ _ _ _ _ _ _ _ _ _ _ _ _ p w.heap.size (w.heap.size + 1) g k ds.length dc d _ _ _ ep cl id ok ot ov of ou om os wD _ c1 HX.out HCD2.out HR.out hk0 hk1 (Hid.mk9 (fun u36 u37 u38 u39 u40 u41 u42 u43 u44 u45 w2 wC hb2 hr2 hwC => ?_))
        have HRs := Hid.mk9 (hr2.set (.int .i64 (againA d id).cd) (.bool (againA d id).hs) (.int .i64 (againA d id).nn))
        have hF := TnPost.fin (R := (s0, againA d id)) HB0.out (show w.heap.size ≤ w.heap.size + 1 by omega) HB.out (HLS.out.below hb2) (hb2.mono (Nat.le_trans HB0.out HB.out.size)) (KpS.of_below hb2) hr2
        simp only at hF
        rw [← hwC] at HRs hF
        rw [← HW.out] at hF
        have HFF := Hid.mk9 hF
        clear hF hb2 hr2 hwC
        go_wp2_with fail
        exact bodyPost_ret (retA rfl _ _ (w.heap.size + 1) _ _ _ rfl HRs.out) rfl HFF.out
      · have HWD := Hid.mk9 (HA2.out d HNC.out HF.out (by omega))
        rw [decide_eq_false hi]
        clear hi
        have HW : Hid (R = _) := Hid.mk9 ((HWD.out).trans HDS.out)
        have HC := Hid.mk9 (HOP.out wD HA.out)
        obtain ⟨x0, x1, x2, x3, x4, x5, x6, x7, x8, x9⟩ := HX.out.cells
        clear HA1 HA2 HA3 HDS HOP
        go_upto_region 7 with (go_at_call 36; refine HC.out.mono ?_; rintro e wC ⟨rfl, ⟨la2, lc2, X2, da2, dc2, hL, hLx⟩, hb, hk⟩; simp only [anV])
        have b1 := below_alloc wC (.cells #[.int .i64 e0, .bool e1, .int .i64 e2] 37)
        have HL := Hid.mk9 (hL.below b1)
        have HLX := Hid.mk9 hLx
        have HBD := Hid.mk9 (hb.trans (b1.mono (Nat.le_trans (Nat.le_trans HB0.out HB.out.size) hb.size)))
        have HKD := Hid.mk9 (hk.trans (KpS.of_below b1))
        have HXD := Hid.mk9 ((HX.out.kp hk (by have := HPL.out; omega) (by decide) (by decide)).below b1)
        have HRD := Hid.mk9 ((HR.out.kp hk (by have := HPL.out; omega) (by decide) (by decide)).below b1)
        have HAB := Hid.mk9 (Bx3.new wC 37 (.int .i64 e0) (.bool e1) (.int .i64 e2))
        have HPC : Hid (p < wC.heap.size) := Hid.mk9 hL.lt
        have HRW : Hid (w.heap.size + 1 < wC.heap.size) := Hid.mk9 (HR.out.kp hk (by have := HPL.out; omega) (by decide) (by decide)).lt
        clear hL hLx hb hk b1 HX HR HA HC x0 x1 x2 x3 x4 x5 x6 x7 x8 x9
        generalize (wC.alloc (.cells #[.int .i64 e0, .bool e1, .int .i64 e2] 37)) = wD at *
        have HC := Hid.mk9 (remember_any HL.out (by have := HADS.out; rw [this, HS0.out]; exact HD.out) ⟨cl, id, e0, e1, e2⟩)
        simp only [dnV] at HC
        obtain ⟨-, x1, x2, -, -, -, -, -, -, -⟩ := HXD.out.cells
        obtain ⟨a0, a1, a2⟩ := HAB.out.cells
        go_upto_region 8 with (go_at_call 48; refine HC.out.mono ?_; rintro e wE ⟨rfl, ⟨da3, dc3, hL3⟩, hb3, hk3⟩)
        have HL3 := Hid.mk9 hL3
        have HB3 := Hid.mk9 (HBD.out.trans hb3)
        have HK3 := Hid.mk9 (HKD.out.trans hk3)
        have HA3 := Hid.mk9 (HAB.out.kp hk3 (by have := HPC.out; omega) (by decide) (by decide))
        have HR3 := Hid.mk9 (HRD.out.kp hk3 (by have := HPL.out; omega) (by decide) (by decide))
        clear hL3 hb3 hk3 HAB HRD HXD HBD HKD HL HC x1 x2 a0 a1 a2
        obtain ⟨a0, a1, a2⟩ := HA3.out.cells
        obtain ⟨r0, r1, r2⟩ := HR3.out.cells
        obtain ⟨g0, g1, g2⟩ := HR3.out.frz
        go_wp2_with fail
        refine bodyPost_ret (retA rfl _ _ (w.heap.size + 1) (.int .i64 e0) (.bool e1) (.int .i64 e2) rfl (HR3.out.set _ _ _)) rfl ?_
        have hF := TnPost.fin (R := (⟨S'.ls, noteD S'.ds ⟨cl, id, e0, e1, e2⟩, S'.fl⟩, ⟨e0, e1, e2⟩)) HB0.out (show w.heap.size ≤ w.heap.size + 1 by omega) HB.out ⟨_, _, _, _, _, HL3.out, HLX.out⟩ HB3.out HK3.out HR3.out
        rw [HW.out]
        exact hF
    | false =>
      have HF := Hid.mk9 (findD_no hP HD.out (fun h => absurd (hq.2 h) (by decide)))
      rw [← HS0.out] at HF
      clear hP hq
      refine en_4f _ _ _ _ _ _ _ _ _ _ _ _ _ _ _ _ _ _ _ _ _ _ _ _ _ _ _ _ _ _ _ _ _ _ _ _ _ _ _ _ _ _ _ _ _ _ _ _ _ _ _ _ _ _ _ p w.heap.size k wB _ (Hid.mk9 (fun u22 u23 u24 u25 u26 u27 u28 u29 u30 u31 u32 u33 u34 wD hbD => ?_))
      replace HA := Hid.mk9 (HA.out.below hbD)
      replace HR := Hid.mk9 (HR.out.below hbD)
      replace HX := Hid.mk9 (HX.out.below hbD)
      replace HB := Hid.mk9 (below2 HB.out hbD)
      clear hbD
      have HWD := Hid.mk9 (HA3.out HNC.out HF.out)
      have HW : Hid (R = _) := Hid.mk9 ((HWD.out).trans HDS.out)
      have HC := Hid.mk9 (HOP.out wD HA.out)
      obtain ⟨x0, x1, x2, x3, x4, x5, x6, x7, x8, x9⟩ := HX.out.cells
      clear HA1 HA2 HA3 HDS HOP
      go_upto_region 7 with (go_at_call 36; refine HC.out.mono ?_; rintro e wC ⟨rfl, ⟨la2, lc2, X2, da2, dc2, hL, hLx⟩, hb, hk⟩; simp only [anV])
      have b1 := below_alloc wC (.cells #[.int .i64 e0, .bool e1, .int .i64 e2] 37)
      have HL := Hid.mk9 (hL.below b1)
      have HLX := Hid.mk9 hLx
      have HBD := Hid.mk9 (hb.trans (b1.mono (Nat.le_trans (Nat.le_trans HB0.out HB.out.size) hb.size)))
      have HKD := Hid.mk9 (hk.trans (KpS.of_below b1))
      have HXD := Hid.mk9 ((HX.out.kp hk (by have := HPL.out; omega) (by decide) (by decide)).below b1)
      have HRD := Hid.mk9 ((HR.out.kp hk (by have := HPL.out; omega) (by decide) (by decide)).below b1)
      have HAB := Hid.mk9 (Bx3.new wC 37 (.int .i64 e0) (.bool e1) (.int .i64 e2))
      have HPC : Hid (p < wC.heap.size) := Hid.mk9 hL.lt
      have HRW : Hid (w.heap.size + 1 < wC.heap.size) := Hid.mk9 (HR.out.kp hk (by have := HPL.out; omega) (by decide) (by decide)).lt
      clear hL hLx hb hk b1 HX HR HA HC x0 x1 x2 x3 x4 x5 x6 x7 x8 x9
      generalize (wC.alloc (.cells #[.int .i64 e0, .bool e1, .int .i64 e2] 37)) = wD at *
      have HC := Hid.mk9 (remember_any HL.out (by have := HADS.out; rw [this, HS0.out]; exact HD.out) ⟨cl, id, e0, e1, e2⟩)
      simp only [dnV] at HC
      obtain ⟨-, x1, x2, -, -, -, -, -, -, -⟩ := HXD.out.cells
      obtain ⟨a0, a1, a2⟩ := HAB.out.cells
      go_upto_region 8 with (go_at_call 48; refine HC.out.mono ?_; rintro e wE ⟨rfl, ⟨da3, dc3, hL3⟩, hb3, hk3⟩)
      have HL3 := Hid.mk9 hL3
      have HB3 := Hid.mk9 (HBD.out.trans hb3)
      have HK3 := Hid.mk9 (HKD.out.trans hk3)
      have HA3 := Hid.mk9 (HAB.out.kp hk3 (by have := HPC.out; omega) (by decide) (by decide))
      have HR3 := Hid.mk9 (HRD.out.kp hk3 (by have := HPL.out; omega) (by decide) (by decide))
      clear hL3 hb3 hk3 HAB HRD HXD HBD HKD HL HC x1 x2 a0 a1 a2
      obtain ⟨a0, a1, a2⟩ := HA3.out.cells
      obtain ⟨r0, r1, r2⟩ := HR3.out.cells
      obtain ⟨g0, g1, g2⟩ := HR3.out.frz
      go_wp2_with fail
      refine bodyPost_ret (retA rfl _ _ (w.heap.size + 1) (.int .i64 e0) (.bool e1) (.int .i64 e2) rfl (HR3.out.set _ _ _)) rfl ?_
      have hF := TnPost.fin (R := (⟨S'.ls, noteD S'.ds ⟨cl, id, e0, e1, e2⟩, S'.fl⟩, ⟨e0, e1, e2⟩)) HB0.out (show w.heap.size ≤ w.heap.size + 1 by omega) HB.out ⟨_, _, _, _, _, HL3.out, HLX.out⟩ HB3.out HK3.out HR3.out
      rw [HW.out]
      exact hF
end Go.Proofs.YtihohcmocejijaaGreat.Bk
namespace Go.Proofs.YtihohcmocejijaaGreat.Bk
open Go.ChangeShapes Go.WideShapes Go.ChangeAt Go.RowKit
def LnGood (fl : Int) (l : Ln) : Prop := IsSer l.1 ∧ l.2 ≠ [] ∧ MayS l.2 ∧ ∀ x ∈ l.2, fl ≤ x.1
theorem first_all {ls : List Sm} {fl : Int} (hs : Sorted ls) (h : fl ≤ (ls.getD 0 sm0).1) : ∀ x ∈ ls, fl ≤ x.1 := by
  cases ls with
  | nil => intro x hx; simp at hx
  | cons y l =>
    intro x hx
    rcases List.mem_cons.1 hx with rfl | hx
    · exact h
    · have := (List.pairwise_cons.1 hs).1 x hx
      have h0 : fl ≤ y.1 := h
      omega
theorem lns_iff (ls : List Ln) (fl : Int) : LnsMay ls fl ↔ ls.length ≤ 16 ∧ (∀ l ∈ ls, LnGood fl l) ∧ ls.Pairwise fun a b => Lb.ltB a.1 b.1 = true := by
  constructor
  · intro h
    refine ⟨h.1, fun d hd => ?_, ?_⟩
    · obtain ⟨i, hi, rfl⟩ := List.getElem_of_mem hd
      obtain ⟨-, h1, h2, h3, h4⟩ := h.2 i hi
      rw [getDn hi] at h1 h2 h3 h4
      exact ⟨h1, h2, h3, first_all ((may_iff _).1 h3).2.2 h4⟩
    · rw [List.pairwise_iff_getElem]
      intro i j hi hj hij
      have := lns_lt h i j hij hj
      rw [getDn hi, getDn hj] at this
      exact this
  · rintro ⟨h1, h2, h3⟩
    refine ⟨h1, fun i hi => ⟨fun h0 => ?_, ?_⟩⟩
    · rw [getDn (show i - 1 < ls.length by omega), getDn hi]
      exact List.pairwise_iff_getElem.1 h3 (i - 1) i (by omega) hi (by omega)
    · rw [getDn hi]
      obtain ⟨a, b, c, d⟩ := h2 _ (List.getElem_mem hi)
      refine ⟨a, b, c, ?_⟩
      cases e : ls[i].2 with
      | nil => exact absurd e b
      | cons y l => exact d y (by rw [e]; exact List.mem_cons_self ..)
theorem two_filters {α : Type} (p q : α → Bool) (h : ∀ x, p x = true → q x = false) (l : List α) : (l.filter p).length + (l.filter q).length ≤ l.length := by
  induction l with
  | nil => simp
  | cons x l ih =>
    by_cases hp : p x = true
    · rw [List.filter_cons_of_pos hp, List.filter_cons_of_neg (by simp [h x hp])]
      simp only [List.length_cons]
      omega
    · rw [List.filter_cons_of_neg hp]
      by_cases hq : q x = true
      · rw [List.filter_cons_of_pos hq]; simp only [List.length_cons]; omega
      · rw [List.filter_cons_of_neg hq]; simp only [List.length_cons]; omega
theorem putLn_len (ls : List Ln) (n : ByteArray) (x : List Sm) : (putLn ls n x).length ≤ ls.length + 1 := by
  have := two_filters (fun l : Ln => Lb.ltB l.1 n) (fun l : Ln => Lb.ltB n l.1) (fun l h => Lb.ltB_asymm h) ls
  unfold putLn
  rw [List.length_append, List.length_cons]
  exact Nat.add_le_add_right this 1
theorem putLn_good {ls : List Ln} {fl : Int} {n : ByteArray} {x : List Sm} (h : ∀ l ∈ ls, LnGood fl l) (hx : LnGood fl (n, x)) : ∀ l ∈ putLn ls n x, LnGood fl l := by
  intro l hl
  unfold putLn at hl
  rcases List.mem_append.1 hl with h1 | h1
  · exact h l (List.mem_filter.1 h1).1
  · rcases List.mem_cons.1 h1 with rfl | h1
    · exact hx
    · exact h l (List.mem_filter.1 h1).1
theorem putLn_rise {ls : List Ln} {n : ByteArray} {x : List Sm} (h : ls.Pairwise fun a b => Lb.ltB a.1 b.1 = true) : (putLn ls n x).Pairwise fun a b => Lb.ltB a.1 b.1 = true := by
  unfold putLn
  rw [List.pairwise_append]
  refine ⟨h.sublist List.filter_sublist, List.pairwise_cons.2 ⟨fun l hl => (List.mem_filter.1 hl).2, h.sublist List.filter_sublist⟩, fun a ha b hb => ?_⟩
  have h1 : Lb.ltB a.1 n = true := (List.mem_filter.1 ha).2
  rcases List.mem_cons.1 hb with rfl | hb
  · exact h1
  · exact Lb.ltB_trans h1 (List.mem_filter.1 hb).2
theorem findL_mem {ls : List Ln} {n : ByteArray} {xs : List Sm} (h : findL ls n = some xs) : ∃ k, k < ls.length ∧ ls.getD k ln0 = (n, xs) := by
  unfold findL at h
  rw [Option.map_eq_some_iff] at h
  obtain ⟨a, h1, h2⟩ := h
  have h3 := List.find?_some h1
  obtain ⟨k, hk, e⟩ := lns_mem (List.mem_of_find?_eq_some h1)
  refine ⟨k, hk, ?_⟩
  rw [e]
  have h4 : a.1 = n := by simpa using h3
  rw [← h4, ← h2]
theorem writeS_may {s : Shf} (h : ShMay s) {n : ByteArray} {x : Sm} (hn : IsSer n) (hx : InS x) : ShMay (writeS s n x).1 := by
  obtain ⟨hf, hl, hd⟩ := h
  obtain ⟨h1, h2, h3⟩ := (lns_iff _ _).1 hl
  unfold writeS
  by_cases h0 : x.1 < s.fl
  · rw [if_pos h0]; exact ⟨hf, hl, hd⟩
  · rw [if_neg h0]
    cases hF : findL s.ls n with
    | none =>
      simp only
      by_cases h16 : 16 ≤ s.ls.length
      · rw [if_pos h16]; exact ⟨hf, hl, hd⟩
      · rw [if_neg h16]
        refine ⟨hf, (lns_iff _ _).2 ⟨?_, putLn_good h2 ⟨hn, by simp, (may_one x).2 hx, fun y hy => ?_⟩, putLn_rise h3⟩, hd⟩
        · have := putLn_len s.ls n [x]; simp only; omega
        · obtain rfl := List.mem_singleton.1 hy; simp only; omega
    | some xs =>
      simp only
      by_cases hE : putE xs x = 0
      · rw [if_pos hE]
        obtain ⟨k, hk, e⟩ := findL_mem hF
        have hg : LnGood s.fl (n, xs) := by
          rw [← e, getDn hk]; exact h2 _ (List.getElem_mem hk)
        refine ⟨hf, (lns_iff _ _).2 ⟨?_, putLn_good h2 ⟨hn, ?_, putL_may hg.2.2.1, fun y hy => ?_⟩, putLn_rise h3⟩, hd⟩
        · rw [putLn_set hl hk (by rw [e]), List.length_set]; exact h1
        · rw [putL_yes hE]
          intro h9
          have := wth_length xs x
          rw [show wth xs x = [] from h9] at this
          simp at this
        · simp only at hy
          rw [putL_yes hE] at hy
          rcases wth_mem.1 hy with rfl | hy
          · simp only; omega
          · exact hg.2.2.2 y hy
      · rw [if_neg hE]
        by_cases h7 : putE xs x = 7
        · rw [if_pos h7]; exact ⟨hf, hl, hd⟩
        · rw [if_neg h7]; exact ⟨hf, hl, hd⟩
theorem trimS_may {s : Shf} (h : ShMay s) {f : Int} (h0 : 0 ≤ f) (h1 : f ≤ 1099511627776) : ShMay (trimS s f).1 := by
  unfold trimS
  by_cases hf : f < s.fl
  · rw [if_pos hf]; exact h
  · rw [if_neg hf]
    obtain ⟨a1, a2, a3⟩ := (lns_iff _ _).1 h.2.1
    refine ⟨⟨h0, h1⟩, (lns_iff _ _).2 ⟨?_, ?_, ?_⟩, h.2.2⟩
    · have := List.length_filter_le (fun l : Ln => decide (l.2 ≠ [])) (s.ls.map fun l => (l.1, trimP l.2 f))
      simp only [trimL, List.length_map] at this ⊢
      omega
    · intro l hl
      obtain ⟨b1, b2⟩ := List.mem_filter.1 hl
      obtain ⟨y, hy, rfl⟩ := List.mem_map.1 b1
      obtain ⟨c1, c2, c3, c4⟩ := a2 y hy
      exact ⟨c1, by simpa using b2, trim_may f c3, fun x hx => by simpa using (List.mem_filter.1 hx).2⟩
    · refine List.Pairwise.filter _ ?_
      rw [List.pairwise_map]
      exact a3
theorem applyS_may {s : Shf} (h : ShMay s) (o : Opp) : ShMay (applyS s o).1 := by
  unfold applyS
  by_cases hO : OpMay o
  · rw [if_pos hO]
    unfold opS
    by_cases h1 : o.k = 1
    · rw [if_pos h1]
      unfold OpMay at hO
      rcases hO with hO | hO | hO | hO
      · exact writeS_may h hO.2.1 hO.2.2.1
      all_goals (exfalso; have := hO.1; omega)
    · rw [if_neg h1]
      by_cases h2 : o.k = 2
      · rw [if_pos h2]
        unfold OpMay at hO
        rcases hO with hO | hO | hO | hO
        · exfalso; have := hO.1; omega
        · exact trimS_may h hO.2.2.2.2.2.2.1 hO.2.2.2.2.2.2.2
        all_goals (exfalso; have := hO.1; omega)
      · rw [if_neg h2]
        by_cases h3 : o.k = 3
        · rw [if_pos h3]; exact h
        · rw [if_neg h3]; exact h
  · rw [if_neg hO]; exact h
theorem putD_len (ds : List Dn) (d : Dn) : (putD ds d).length ≤ ds.length + 1 := by
  have := two_filters (fun x : Dn => decide (x.cl < d.cl)) (fun x : Dn => decide (d.cl < x.cl)) (fun l h => by have := of_decide_eq_true h; exact decide_eq_false (by omega)) ds
  unfold putD
  simp only [List.length_append, List.length_cons]
  omega
theorem noteD_may {ds : List Dn} {d : Dn} (h : DnsMay ds) (h1 : Count d.cl) (h2 : Count d.id) : DnsMay (noteD ds d) := by
  have hput : ∀ es : List Dn, DnsMay es → (putD es d).length ≤ 8 → DnsMay (putD es d) := fun es he hl => by
    obtain ⟨a1, a2, a3⟩ := (dns_iff _).1 he
    refine (dns_iff _).2 ⟨hl, fun x hx => ?_, ?_⟩
    · unfold putD at hx
      rcases List.mem_append.1 hx with h3 | h3
      · exact a2 x (List.mem_filter.1 h3).1
      · rcases List.mem_cons.1 h3 with rfl | h3
        · exact ⟨h1, h2⟩
        · exact a2 x (List.mem_filter.1 h3).1
    · unfold putD
      rw [List.pairwise_append]
      refine ⟨a3.sublist List.filter_sublist, List.pairwise_cons.2 ⟨fun l hl => of_decide_eq_true (List.mem_filter.1 hl).2, a3.sublist List.filter_sublist⟩, fun a ha b hb => ?_⟩
      have h4 := of_decide_eq_true (List.mem_filter.1 ha).2
      rcases List.mem_cons.1 hb with rfl | hb
      · exact h4
      · have h5 := of_decide_eq_true (List.mem_filter.1 hb).2
        omega
  rw [noteD_eq]
  unfold roomD
  have h8 := h.1
  cases hF : findD ds d.cl with
  | some y =>
    rw [if_pos (by rfl)]
    refine hput ds h ?_
    unfold findD at hF
    have h3 := List.find?_some hF
    obtain ⟨k, hk, e⟩ := List.getElem_of_mem (List.mem_of_find?_eq_some hF)
    rw [putD_set h hk (by rw [getDn hk, e]; simpa using h3), List.length_set]
    exact h8
  | none =>
    rw [if_neg (by simp)]
    by_cases hl : 8 ≤ ds.length
    · rw [if_pos hl]
      refine hput _ (erase_may h _) ?_
      have := putD_len (ds.eraseIdx (leastD ds)) d
      rw [List.length_eraseIdx, if_pos (leastD_lt (by omega))] at this
      omega
    · rw [if_neg hl]
      have := putD_len ds d
      exact hput _ h (by omega)
theorem doS_may {s : Shf} (h : ShMay s) {e : Ent} (he : EntMay e) : ShMay (doS s e).1 := by
  have hd : e.cl ≠ 0 → ShMay (doneS s e).1 := fun hc => by
    have ha := applyS_may h e.op
    unfold doneS
    exact ⟨ha.1, ha.2.1, noteD_may ha.2.2 ⟨by have := he.1.1; simp only; omega, he.1.2⟩ he.2⟩
  unfold doS
  by_cases hc : e.cl = 0
  · rw [if_pos hc]; exact applyS_may h e.op
  · rw [if_neg hc]
    cases findD s.ds e.cl with
    | none => exact hd hc
    | some d =>
      simp only
      by_cases hi : e.id ≤ d.id
      · rw [if_pos hi]; exact h
      · rw [if_neg hi]; exact hd hc
theorem shf0_may : ShMay shf0 := ⟨⟨by decide, by decide⟩, ⟨by decide, fun i hi => absurd hi (Nat.not_lt_zero _)⟩, ⟨by decide, fun i hi => absurd hi (Nat.not_lt_zero _)⟩⟩
theorem stepS_may {s : Shf} (h : ShMay s) (e : Ent) : ShMay (stepS s e) := by
  unfold stepS
  by_cases he : EntMay e
  · rw [if_pos he]; exact doS_may h he
  · rw [if_neg he]; exact h
theorem fold_mayS (es : List Ent) (s : Shf) (h : ShMay s) : ShMay (es.foldl stepS s) := by
  induction es generalizing s with
  | nil => exact h
  | cons e l ih => exact ih _ (stepS_may h e)
theorem foldS_may (es : List Ent) : ShMay (foldS es) := fold_mayS es shf0 shf0_may
end Go.Proofs.YtihohcmocejijaaGreat.Bk
