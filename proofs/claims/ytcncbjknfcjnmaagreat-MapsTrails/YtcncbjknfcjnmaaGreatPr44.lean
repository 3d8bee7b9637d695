/-
  The contract of the answer's pasts.
-/
import Derived.Test.YtcncbjknfcjnmaaGreatPr21
import Derived.Test.YtcncbjknfcjnmaaGreatPr43
import Derived.Test.YtcncbjknfcjnmaaGreatPr17
namespace Go.Proofs.YtcncbjknfcjnmaaGreat.Tp
open Go.ChangeShapes Go.WideShapes Go.ChangeAt Go.RowKit
def SpansTo (mn sz since : Int) (past : List Tm) (k : Nat) : Prop := ∀ i,i < k -> (0 <= (past.getD i tm0).g /\ (past.getD i tm0).g < since) /\ SpanOk mn sz (past.getD i tm0).ns /\ ∀ j,j < i -> (past.getD j tm0).g < (past.getD i tm0).g /\ (past.getD j tm0).ns ≠ (past.getD i tm0).ns
theorem spans_past {mn sz since : Int} {past : List Tm} {k : Nat} : SpansTo mn sz since past k ↔ PastTo mn sz since past k := by
 constructor
 ·intro h i hi
  obtain ⟨h1,h2,h3⟩ := h i hi
  exact ⟨h1,fun h0 => (h3 (i - 1) (by omega)).1,h2,fun j hj => (h3 j hj).2⟩
 ·intro h i hi
  obtain ⟨h1,h2,h3,h4⟩ := h i hi
  have hr : ∀ d j,j + d + 1 <= i -> (past.getD j tm0).g < (past.getD (j + d + 1) tm0).g := by
   intro d
   induction d with
   | zero => intro j hj; exact (h (j + 1) (by omega)).2.1 (by omega)
   | succ d ih =>
    intro j hj
    have a1 := ih j (by omega)
    have a2 := (h (j + (d + 1) + 1) (by omega)).2.1 (by omega)
    exact Int.lt_trans a1 a2
  refine ⟨h1,h3,fun j hj => ⟨?_,h4 j hj⟩⟩
  have := hr (i - j - 1) j (by omega)
  rwa [show j + (i - j - 1) + 1 = i by omega] at this
theorem spans_next {mn sz since : Int} {past : List Tm} {k : Nat} (h : SpansTo mn sz since past k) (h1 : 0 <= (past.getD k tm0).g /\ (past.getD k tm0).g < since) (h2 : SpanOk mn sz (past.getD k tm0).ns) (h3 : ∀ j,j < k -> (past.getD j tm0).g < (past.getD k tm0).g /\ (past.getD j tm0).ns ≠ (past.getD k tm0).ns) : SpansTo mn sz since past (k + 1) := fun i hi => by
 by_cases e : i = k
 ·subst e; exact ⟨h1,h2,h3⟩
 ·exact h i (by omega)
set_option maxHeartbeats 4000000 in
set_option maxRecDepth 60000 in
theorem refPasts_any {m : Mp} {s : MV} (hc : CountOk m.size m.mn m.gr) (w : World) (h : MapAt w m s) : Calls Tryz.prog 35 #[.agg (mapCells m s).toArray] w fun e w' => BoolPost (TrailsOk m) w e w' := by
 rw [map_split]
 have hl : m.trs.length = s.lR := h.trs.1
 have hmx : s.lR <= maxLen := Nat.le_trans h.trs.2.1 h.trs.2.2.1
 unfold maxLen at hmx
 have HT : Hid (TrsAt w s.aR s.lR s.cR m.trs) := h.trs
 have HYES : Hid (TrailsTo m s.lR -> (s.lR : Int) = m.gr -> TrailsOk m) := fun h1 h2 => ⟨by rw [hl]; exact h2,by rw [hl]; exact h1⟩
 have HNG : Hid ((s.lR : Int) ≠ m.gr -> ¬ TrailsOk m) := fun h1 h2 => h1 (by have := h2.1; rw [hl] at this; exact this)
 have HNO : Hid (∀ k,k < s.lR -> ¬ ((0 <= (m.trs.getD k tr0).since /\ (m.trs.getD k tr0).since <= m.ep) /\ PastTo m.mn m.size (m.trs.getD k tr0).since (m.trs.getD k tr0).past (m.trs.getD k tr0).past.length) -> ¬ TrailsOk m) := fun k hk h1 h2 => h1 (h2.2 k (by omega))
 have HTN : Hid (∀ k,TrailsTo m k -> ((0 <= (m.trs.getD k tr0).since /\ (m.trs.getD k tr0).since <= m.ep) /\ PastTo m.mn m.size (m.trs.getD k tr0).since (m.trs.getD k tr0).past (m.trs.getD k tr0).past.length) -> TrailsTo m (k + 1)) := fun k h1 h2 => trails_next h1 h2
 have HZT : Hid (TrailsTo m 0) := fun i hi => absurd hi (Nat.not_lt_zero _)
 clear h hl
 obtain ⟨aN,lN,cN,aT,lT,cT,aR,lR,cR⟩ := s
 simp only at *
 have hb1 := below_alloc w (.cells #[.int .i64 m.ep,.int .i64 m.size,.int .i64 m.mn,.int .i64 m.gr,.slice aN lN cN,.slice aT lT cT,.slice aR lR cR] 26)
 have HBX : Hid (Box7 (w.alloc (.cells #[.int .i64 m.ep,.int .i64 m.size,.int .i64 m.mn,.int .i64 m.gr,.slice aN lN cN,.slice aT lT cT,.slice aR lR cR] 26)) w.heap.size (.int .i64 m.ep) (.int .i64 m.size) (.int .i64 m.mn) (.int .i64 m.gr) (.slice aN lN cN) (.slice aT lT cT) (.slice aR lR cR)) := Box7.new w _ _ _ _ _ _ _ _
 obtain ⟨hc1,hc2⟩ := hc.1
 clear hc
 go_enter Tryz.func35,Tryz.ntmps35
 go_wp2_with fail
 generalize w.alloc (.cells #[.int .i64 m.ep,.int .i64 m.size,.int .i64 m.mn,.int .i64 m.gr,.slice aN lN cN,.slice aT lT cT,.slice aR lR cR] 26) = w1 at *
 go_loopw [3] (fun i wr => ∃ k : Nat,k <= lR /\ i = .int .i64 k /\ Hid (TrailsTo m k) /\ Below w1.heap.size w1 wr) (fun i _ => lR - (intOf i).toNat)
 case atStart => exact ⟨0,Nat.zero_le _,rfl,HZT,Below.refl _ _⟩
 case round =>
  obtain ⟨k,hk,rfl,hTk,hbel⟩ := hrel
  generalize wr = wA at *
  have hbw := below2 hb1 hbel
  obtain ⟨⟨c0,c1,c2,c3,c4,c5,c6⟩,-⟩ := HBX.out.below hbel
  have hlw : w.heap.size < wA.heap.size := (HBX.out.below hbel).lt
  by_cases hlt : k < lR
  ·have hk1 : (k : Int) < (lR : Int) := by omega
   have hk0 : (0 : Int) <= (k : Int) := by omega
   obtain ⟨b,off,hae,hbs,hcell⟩ := (HT.out.below hbw).some (by omega)
   subst hae
   obtain ⟨e0,aq,lq,cq,e1,hpast⟩ := hcell k hlt
   have hpl : (m.trs.getD k tr0).past.length = lq := hpast.1
   have hqx : lq <= maxLen := Nat.le_trans hpast.2.1 hpast.2.2.1
   unfold maxLen at hqx
   have HPT : Hid (TmsAt wA aq lq cq (m.trs.getD k tr0).past) := hpast
   have HBAD := HNO.out k hlt
   have HNXT := HTN.out k hTk.out
   rw [hpl] at HBAD HNXT
   have HB2 := show Hid _ from HBAD
   have HN2 := show Hid _ from HNXT
   clear hcell hpast hTk HBAD HNXT hpl
   generalize (m.trs.getD k tr0).past = past at *
   generalize (m.trs.getD k tr0).since = sn at *
   have hba := below_alloc wA (.cells #[.int .i64 sn,.slice aq lq cq] 53)
   by_cases g1 : sn < 0
   ·have HF : Hid (¬ TrailsOk m) := HB2.out fun h => by have := h.1; omega
    clear HB2 HN2
    go_wp2_with fail
    go_ret
    exact bool_no (below2 hbw hba) HF.out
   ·have g1d : decide (sn < 0) = false := by simpa using g1
    by_cases g2 : m.ep < sn
    ·have HF : Hid (¬ TrailsOk m) := HB2.out fun h => by have := h.1; omega
     clear HB2 HN2
     go_wp2_with fail
     go_ret
     exact bool_no (below2 hbw hba) HF.out
    ·have g2d : decide (m.ep < sn) = false := by simpa using g2
     have HB3 : Hid (¬ SpansTo m.mn m.size sn past lq -> ¬ TrailsOk m) := fun h => HB2.out fun h' => h (spans_past.2 h'.2)
     have HN3 : Hid (SpansTo m.mn m.size sn past lq -> TrailsTo m (k + 1)) := fun h => HN2.out ⟨by omega,spans_past.1 h⟩
     have HZS : Hid (SpansTo m.mn m.size sn past 0) := fun i hi => absurd hi (Nat.not_lt_zero _)
     have t0 : (wA.alloc (.cells #[.int .i64 sn,.slice aq lq cq] 53)).cell? ⟨wA.heap.size,0,none⟩ = some (.int .i64 sn) := by simp
     have t1 : (wA.alloc (.cells #[.int .i64 sn,.slice aq lq cq] 53)).cell? ⟨wA.heap.size,1,none⟩ = some (.slice aq lq cq) := by simp
     have hlt1 : wA.heap.size < (wA.alloc (.cells #[.int .i64 sn,.slice aq lq cq] 53)).heap.size := by simp
     have HPT2 : Hid (TmsAt (wA.alloc (.cells #[.int .i64 sn,.slice aq lq cq] 53)) aq lq cq past) := HPT.out.below hba
     have hbB : Below w1.heap.size w1 (wA.alloc (.cells #[.int .i64 sn,.slice aq lq cq] 53)) := below2 hbel hba
     clear HB2 HN2 HPT
     go_wp2_with fail
     generalize hwt : wA.alloc (.cells #[.int .i64 sn,.slice aq lq cq] 53) = wt at *
     clear hwt hba
     go_loopw [5] (fun i wr => ∃ i' : Nat,i' <= lq /\ i = .int .i64 i' /\ Hid (SpansTo m.mn m.size sn past i') /\ Below wt.heap.size wt wr) (fun i _ => lq - (intOf i).toNat)
     case atStart => exact ⟨0,Nat.zero_le _,rfl,HZS,Below.refl _ _⟩
     case round =>
      obtain ⟨i,hi,rfl,hSi,hbt⟩ := hrel
      generalize wr = wC at *
      have hbC : Below w1.heap.size w1 wC := below2 hbB hbt
      have hbwC := below2 hb1 hbC
      clear c0 c1 c2 c3 c4 c5 c6
      obtain ⟨⟨c0,c1,c2,c3,c4,c5,c6⟩,-⟩ := HBX.out.below hbC
      have hlwC : w.heap.size < wC.heap.size := (HBX.out.below hbC).lt
      have u0 := (hbt.cell (p := ⟨wA.heap.size,0,none⟩) hlt1).trans t0
      have u1 := (hbt.cell (p := ⟨wA.heap.size,1,none⟩) hlt1).trans t1
      have hltC : wA.heap.size < wC.heap.size := Nat.lt_of_lt_of_le hlt1 hbt.size
      by_cases hil : i < lq
      ·obtain ⟨b2,off2,hae2,hbs2,hcell2⟩ := (HPT2.out.below hbt).some (by omega)
       subst hae2
       obtain ⟨v0,ar,lr,cr,v1,hrow⟩ := hcell2 i hil
       have hi1 : (i : Int) < (lq : Int) := by omega
       have hi0 : (0 : Int) <= (i : Int) := by omega
       have hnl : (past.getD i tm0).ns.length = lr := hrow.1
       have hrx : lr <= maxLen := Nat.le_trans hrow.2.1 hrow.2.2.1
       unfold maxLen at hrx
       have HROW : Hid (RowI wC ar lr cr (past.getD i tm0).ns) := hrow
       have HSB : Hid (¬ ((0 <= (past.getD i tm0).g /\ (past.getD i tm0).g < sn) /\ SpanOk m.mn m.size (past.getD i tm0).ns /\ ∀ j,j < i -> (past.getD j tm0).g < (past.getD i tm0).g /\ (past.getD j tm0).ns ≠ (past.getD i tm0).ns) -> ¬ TrailsOk m) := fun h => HB3.out fun h' => h (h' i hil)
       have HSN : Hid ((0 <= (past.getD i tm0).g /\ (past.getD i tm0).g < sn) -> SpanOk m.mn m.size (past.getD i tm0).ns -> (∀ j,j < i -> (past.getD j tm0).g < (past.getD i tm0).g /\ (past.getD j tm0).ns ≠ (past.getD i tm0).ns) -> SpansTo m.mn m.size sn past (i + 1)) := fun h1 h2 h3 => spans_next hSi.out h1 h2 h3
       have HNL : Hid ((past.getD i tm0).ns.length = lr) := hnl
       clear hcell2 hrow hSi hnl
       generalize (past.getD i tm0).ns = ns at *
       generalize (past.getD i tm0).g = f at *
       have hbs' := below_alloc wC (.cells #[.int .i64 f,.slice ar lr cr] 55)
       by_cases q1 : f < 0
       ·have HF : Hid (¬ TrailsOk m) := HSB.out fun h => by have := h.1; omega
        clear HSB HSN HB3 HN3
        go_wp2_with fail
        go_ret
        exact bool_no (below2 hbwC hbs') HF.out
       have q1d : decide (f < 0) = false := by simpa using q1
       by_cases q2 : sn <= f
       ·have HF : Hid (¬ TrailsOk m) := HSB.out fun h => by have := h.1; omega
        clear HSB HSN HB3 HN3
        go_wp2_with fail
        go_ret
        exact bool_no (below2 hbwC hbs') HF.out
       have q2d : decide (sn <= f) = false := by simpa using q2
       by_cases q3 : (lr : Int) < m.mn
       ·have HF : Hid (¬ TrailsOk m) := HSB.out fun h => by have := h.2.1.1; have := HNL.out; omega
        clear HSB HSN HB3 HN3
        go_wp2_with fail
        go_ret
        exact bool_no (below2 hbwC hbs') HF.out
       have q3d : decide ((lr : Int) < m.mn) = false := by simpa using q3
       by_cases q4 : m.size < (lr : Int)
       ·have HF : Hid (¬ TrailsOk m) := HSB.out fun h => by have := h.2.1.1; have := HNL.out; omega
        clear HSB HSN HB3 HN3
        go_wp2_with fail
        go_ret
        exact bool_no (below2 hbwC hbs') HF.out
       have q4d : decide (m.size < (lr : Int)) = false := by simpa using q4
       have HSI : Hid (¬ IdsTo ns lr -> ¬ TrailsOk m) := fun h => HSB.out fun h' => h (by have := h'.2.1.2; rw [HNL.out] at this; exact this)
       have HSJ : Hid (IdsTo ns lr -> ¬ (∀ j,j < i -> (past.getD j tm0).g < f /\ (past.getD j tm0).ns ≠ ns) -> ¬ TrailsOk m) := fun h1 h => HSB.out fun h' => h h'.2.2
       have HSK : Hid (IdsTo ns lr -> (∀ j,j < i -> (past.getD j tm0).g < f /\ (past.getD j tm0).ns ≠ ns) -> SpansTo m.mn m.size sn past (i + 1)) := fun h1 h2 => HSN.out (by omega) ⟨by have := HNL.out; omega,by rw [HNL.out]; exact h1⟩ h2
       have hr3 : (lr : Int) <= 3 := by omega
       have z0 : (wC.alloc (.cells #[.int .i64 f,.slice ar lr cr] 55)).cell? ⟨wC.heap.size,0,none⟩ = some (.int .i64 f) := by simp
       have z1 : (wC.alloc (.cells #[.int .i64 f,.slice ar lr cr] 55)).cell? ⟨wC.heap.size,1,none⟩ = some (.slice ar lr cr) := by simp
       have hlz : wC.heap.size < (wC.alloc (.cells #[.int .i64 f,.slice ar lr cr] 55)).heap.size := by simp
       have HROW2 : Hid (RowI (wC.alloc (.cells #[.int .i64 f,.slice ar lr cr] 55)) ar lr cr ns) := HROW.out.below hbs'
       have hbS : Below wt.heap.size wt (wC.alloc (.cells #[.int .i64 f,.slice ar lr cr] 55)) := below2 hbt hbs'
       clear HSB HSN HROW
       go_wp2_with fail
       generalize hws : wC.alloc (.cells #[.int .i64 f,.slice ar lr cr] 55) = ws at *
       clear hws hbs'
       go_loopw [7] (fun kk wr => ∃ p : Nat,p <= lr /\ kk = .int .i64 p /\ Hid (IdsTo ns p) /\ Below ws.heap.size ws wr) (fun kk _ => lr - (intOf kk).toNat)
       case atStart => exact ⟨0,Nat.zero_le _,rfl,(fun i hi => absurd hi (Nat.not_lt_zero _)),Below.refl _ _⟩
       case round =>
        obtain ⟨p,hp,rfl,hIp,hbq⟩ := hrel
        generalize wr = wD at *
        have hbD : Below wt.heap.size wt wD := below2 hbS hbq
        have hbwD : Below w.heap.size w wD := below2 hb1 (below2 hbB hbD)
        have y0 := (hbq.cell (p := ⟨wC.heap.size,0,none⟩) hlz).trans z0
        have y1 := (hbq.cell (p := ⟨wC.heap.size,1,none⟩) hlz).trans z1
        have hlD : wC.heap.size < wD.heap.size := Nat.lt_of_lt_of_le hlz hbq.size
        by_cases hpl : p < lr
        ·have hp1 : (p : Int) < (lr : Int) := by omega
         have hp0 : (0 : Int) <= (p : Int) := by omega
         obtain ⟨nb,no,hne,hnb,hncell⟩ := (HROW2.out.below hbq).some (by omega)
         subst hne
         have x0 := hncell p hpl
         have HPV : Hid (0 < p -> wD.cell? ⟨nb,no + (p - 1),none⟩ = some (.int .i64 (ns.getD (p - 1) 0))) := fun h => hncell (p - 1) (by omega)
         have HIN : Hid ((1 <= ns.getD p 0 /\ ns.getD p 0 <= 999) -> (0 < p -> ns.getD (p - 1) 0 < ns.getD p 0) -> IdsTo ns (p + 1)) := fun h1 h2 i hi => by
          by_cases e : i = p
          ·subst e; exact ⟨h1,h2⟩
          ·exact hIp.out i (by omega)
         have HIB : Hid (¬ ((1 <= ns.getD p 0 /\ ns.getD p 0 <= 999) /\ (0 < p -> ns.getD (p - 1) 0 < ns.getD p 0)) -> ¬ TrailsOk m) := fun h => HSI.out fun h' => h (h' p hpl)
         clear hncell hIp
         generalize ns.getD p 0 = y at *
         have k1 := cell_grown (w := wD) (a := ⟨wC.heap.size,1,none⟩) hlD y1
         have k2 := cell_grown (w := wD) (a := ⟨nb,no + p,none⟩) hnb x0
         have HBG : Hid (∀ n os,Below w.heap.size w (Go.Sort.grow (wD.drewN n) os)) := fun n os => below2 hbwD (below_grow _ _ _)
         have HBS : Hid (∀ n os,Below ws.heap.size ws (Go.Sort.grow (wD.drewN n) os)) := fun n os => below2 hbq (below_grow _ _ _)
         by_cases r1 : y < 1
         ·have HF : Hid (¬ TrailsOk m) := HIB.out fun h => by have := h.1; omega
          clear HIN HIB HPV
          go_wp2_with fail
          refine wp_region_QW mixed5 (by kernel_rfl) ?_
          repeat (refine QW_step (fun K hK => ?_); go_simp; first | (refine hK _ ?_; clear hK K) | (apply Exists.intro; refine ⟨fun _ => ?_,hK _ ?_⟩; fail; clear hK K))
          refine QW_nil ?_
          intro _ hw9
          obtain ⟨⟨nq,osq⟩,hw8⟩ := hw9
          subst hw8
          have hbf := HBG.out nq osq
          go_wp2_with fail
          go_ret
          exact bool_no hbf HF.out
         ·have r1d : decide (y < 1) = false := by simpa using r1
          by_cases r2 : 999 < y
          ·have HF : Hid (¬ TrailsOk m) := HIB.out fun h => by have := h.1; omega
           clear HIN HIB HPV
           go_wp2_with fail
           refine wp_region_QW mixed5 (by kernel_rfl) ?_
           repeat (refine QW_step (fun K hK => ?_); go_simp; first | (refine hK _ ?_; clear hK K) | (apply Exists.intro; refine ⟨fun _ => ?_,hK _ ?_⟩; fail; clear hK K))
           refine QW_nil ?_
           intro _ hw9
           obtain ⟨⟨nq,osq⟩,hw8⟩ := hw9
           subst hw8
           have hbf := HBG.out nq osq
           go_wp2_with fail
           go_ret
           exact bool_no hbf HF.out
          ·have r2d : decide (999 < y) = false := by simpa using r2
           by_cases r3 : p = 0
           ·have HI2 : Hid (IdsTo ns (p + 1)) := HIN.out (by omega) (fun h => by omega)
            have r3d : decide (0 < p) = false := by simp; omega
            have r3e : decide ((0 : Int) < (p : Int)) = false := by simp; omega
            clear HIN HIB HPV r3
            go_wp2_with fail
            refine wp_region_QW mixed5 (by kernel_rfl) ?_
            repeat (refine QW_step (fun K hK => ?_); go_simp; first | (refine hK _ ?_; clear hK K) | (apply Exists.intro; refine ⟨fun _ => ?_,hK _ ?_⟩; fail; clear hK K))
            refine QW_nil ?_
            intro _ hw9
            obtain ⟨⟨nq,osq⟩,hw8⟩ := hw9
            subst hw8
            have hbf := HBS.out nq osq
            go_wp2_with fail
            exact ⟨⟨p + 1,by omega,by go_num,HI2,hbf⟩,by simp [intOf]; omega⟩
           ·obtain ⟨p',hpe⟩ : ∃ p',p = p' + 1 := ⟨p - 1,by omega⟩
            have x1 : wD.cell? ⟨nb,no + p',none⟩ = some (.int .i64 (ns.getD p' 0)) := by have := HPV.out (by omega); rw [hpe] at this; exact this
            rw [show p - 1 = p' by omega] at HIN HIB
            have em : IntKind.i64.wrap ((p : Int) - 1) = (p' : Int) := by
             rw [show (p : Int) - 1 = (p' : Int) from by omega]; simp [IntKind.wrap,IntKind.bits,IntKind.signed]; omega
            have em0 : (0 : Int) <= (p' : Int) := by omega
            have em1 : (p' : Int) < (lr : Int) := by omega
            have ek0 : decide (0 < p) = true := by simp; omega
            clear HPV hpe
            generalize ns.getD p' 0 = x at *
            have k3 := cell_grown (w := wD) (a := ⟨nb,no + p',none⟩) hnb x1
            by_cases r4 : y <= x
            ·have HF : Hid (¬ TrailsOk m) := HIB.out fun h => by have := h.2 (by omega); omega
             clear HIN HIB
             go_wp2_with fail
             refine wp_region_QW mixed5 (by kernel_rfl) ?_
             repeat (refine QW_step (fun K hK => ?_); go_simp; first | (refine hK _ ?_; clear hK K) | (apply Exists.intro; refine ⟨fun _ => ?_,hK _ ?_⟩; fail; clear hK K))
             refine QW_nil ?_
             intro _ hw9
             obtain ⟨⟨nq,osq⟩,hw8⟩ := hw9
             subst hw8
             have hbf := HBG.out nq osq
             go_wp2_with fail
             go_ret
             exact bool_no hbf HF.out
            ·have r4d : decide (y <= x) = false := by simpa using r4
             have HI2 : Hid (IdsTo ns (p + 1)) := HIN.out (by omega) (fun _ => by omega)
             clear HIN HIB
             go_wp2_with fail
             refine wp_region_QW mixed5 (by kernel_rfl) ?_
             repeat (refine QW_step (fun K hK => ?_); go_simp; first | (refine hK _ ?_; clear hK K) | (apply Exists.intro; refine ⟨fun _ => ?_,hK _ ?_⟩; fail; clear hK K))
             refine QW_nil ?_
             intro _ hw9
             obtain ⟨⟨nq,osq⟩,hw8⟩ := hw9
             subst hw8
             have hbf := HBS.out nq osq
             go_wp2_with fail
             exact ⟨⟨p + 1,by omega,by go_num,HI2,hbf⟩,by simp [intOf]; omega⟩
        ·obtain rfl : p = lr := by omega
         have HSJ2 : Hid (¬ (∀ j,j < i -> (past.getD j tm0).g < f /\ (past.getD j tm0).ns ≠ ns) -> ¬ TrailsOk m) := HSJ.out hIp.out
         have HSK2 : Hid ((∀ j,j < i -> (past.getD j tm0).g < f /\ (past.getD j tm0).ns ≠ ns) -> SpansTo m.mn m.size sn past (i + 1)) := HSK.out hIp.out
         clear hIp HSI HSJ HSK
         go_wp2_with fail
         go_loopw [8] (fun kk wr => ∃ j : Nat,j <= i /\ kk = .int .i64 j /\ Hid (∀ t,t < j -> (past.getD t tm0).g < f /\ (past.getD t tm0).ns ≠ ns) /\ Below wD.heap.size wD wr) (fun kk _ => i - (intOf kk).toNat)
         case atStart => exact ⟨0,Nat.zero_le _,rfl,(fun t ht => absurd ht (Nat.not_lt_zero _)),Below.refl _ _⟩
         case round =>
          obtain ⟨j,hj,rfl,hJ,hbr⟩ := hrel
          generalize wr = wE at *
          have hbE : Below wt.heap.size wt wE := below2 hbD hbr
          have hbwE : Below w.heap.size w wE := below2 hbwD hbr
          by_cases hji : j < i
          ·have hj1 : (j : Int) < (i : Int) := by omega
           have hjq : (j : Int) < (lq : Int) := by omega
           have hj0 : (0 : Int) <= (j : Int) := by omega
           obtain ⟨b3,off3,hae3,hbs3,hcell3⟩ := (HPT2.out.below hbE).some (by omega)
           injection hae3 with hae3
           injection hae3 with hb3 ho3
           subst hb3 ho3
           obtain ⟨o0,aj,lj,cj,o1,hrowj⟩ := hcell3 j (by omega)
           have s0 := (hbr.cell (p := ⟨wC.heap.size,0,none⟩) hlD).trans y0
           have s1 := (hbr.cell (p := ⟨wC.heap.size,1,none⟩) hlD).trans y1
           have hlE : wC.heap.size < wE.heap.size := Nat.lt_of_lt_of_le hlD hbr.size
           have d1 := (hbE.cell (p := ⟨wA.heap.size,1,none⟩) hlt1).trans t1
           have hlEA : wA.heap.size < wE.heap.size := Nat.lt_of_lt_of_le hlt1 hbE.size
           have HRJ : Hid (RowI wE aj lj cj (past.getD j tm0).ns) := hrowj
           have HRN : Hid (RowI wE _ _ _ ns) := (HROW2.out.below hbq).below hbr
           have HJB : Hid (¬ ((past.getD j tm0).g < f /\ (past.getD j tm0).ns ≠ ns) -> ¬ TrailsOk m) := fun h => HSJ2.out fun h' => h (h' j hji)
           have HJN : Hid ((past.getD j tm0).g < f /\ (past.getD j tm0).ns ≠ ns -> ∀ t,t < j + 1 -> (past.getD t tm0).g < f /\ (past.getD t tm0).ns ≠ ns) := fun h t ht => by
            by_cases e : t = j
            ·rw [e]; exact h
            ·exact hJ.out t (by omega)
           clear hcell3 hrowj hJ
           generalize (past.getD j tm0).ns = nj at *
           generalize (past.getD j tm0).g = fj at *
           have HC : Hid (∀ W,Grown wE W -> Calls Tryz.prog 22 #[.slice aj lj cj,.slice ar _ cr] W fun e w' => e = .returned (.bool (decide (nj = ns))) /\ Grown W w') := fun W hW => refInts aj ar lj cj _ cr nj ns W (HRJ.out.below (grown_below hW)) (HRN.out.below (grown_below hW))
           have HGW : Hid (∀ n os,Grown wE (Go.Sort.grow (wE.drewN n) os)) := fun n os => ⟨n,os,rfl⟩
           have k1 := cell_grown (w := wE) (a := ⟨wC.heap.size,0,none⟩) hlE s0
           have k2 := cell_grown (w := wE) (a := ⟨wC.heap.size,1,none⟩) hlE s1
           have k3 := cell_grown (w := wE) (a := ⟨b2,off2 + j * 2,none⟩) hbs3 o0
           have k4 := cell_grown (w := wE) (a := ⟨b2,off2 + j * 2 + 1,none⟩) hbs3 o1
           have k5 := cell_grown (w := wE) (a := ⟨wA.heap.size,1,none⟩) hlEA d1
           have HBG : Hid (∀ n os,Below w.heap.size w (Go.Sort.grow (wE.drewN n) os)) := fun n os => below2 hbwE (below_grow _ _ _)
           have HBS : Hid (∀ n os,Below wD.heap.size wD (Go.Sort.grow (wE.drewN n) os)) := fun n os => below2 hbr (below_grow _ _ _)
           by_cases r1 : f <= fj
           ·have HF : Hid (¬ TrailsOk m) := HJB.out fun h => by omega
            clear HJB HJN
            go_wp2_with fail
            refine wp_region_QW mixed5 (by kernel_rfl) ?_
            repeat (refine QW_step (fun K hK => ?_); go_simp; first | (refine hK _ ?_; clear hK K) | (apply Exists.intro; refine ⟨fun _ => ?_,hK _ ?_⟩; (go_at_call 22; refine Calls.grown_of (HC.out _ (HGW.out _ _))); clear hK K))
            refine QW_nil ?_
            intro _ hw9
            obtain ⟨⟨nq,osq⟩,hw8⟩ := hw9
            subst hw8
            have hbf := HBG.out nq osq
            go_wp2_with fail
            go_ret
            exact bool_no hbf HF.out
           ·have r1d : decide (f <= fj) = false := by simpa using r1
            by_cases r2 : nj = ns
            ·have r2d : decide (nj = ns) = true := by simpa using r2
             rw [r2d] at HC
             have HF : Hid (¬ TrailsOk m) := HJB.out fun h => h.2 r2
             clear HJB HJN r2 r2d
             go_wp2_with fail
             refine wp_region_QW mixed5 (by kernel_rfl) ?_
             repeat (refine QW_step (fun K hK => ?_); go_simp; first | (refine hK _ ?_; clear hK K) | (apply Exists.intro; refine ⟨fun _ => ?_,hK _ ?_⟩; (go_at_call 22; refine Calls.grown_of (HC.out _ (HGW.out _ _))); clear hK K))
             refine QW_nil ?_
             intro _ hw9
             obtain ⟨⟨nq,osq⟩,hw8⟩ := hw9
             subst hw8
             have hbf := HBG.out nq osq
             go_wp2_with fail
             go_ret
             exact bool_no hbf HF.out
            ·have r2d : decide (nj = ns) = false := by simpa using r2
             rw [r2d] at HC
             have HJ2 : Hid (∀ t,t < j + 1 -> (past.getD t tm0).g < f /\ (past.getD t tm0).ns ≠ ns) := HJN.out ⟨by omega,r2⟩
             clear HJB HJN r2 r2d
             go_wp2_with fail
             refine wp_region_QW mixed5 (by kernel_rfl) ?_
             repeat (refine QW_step (fun K hK => ?_); go_simp; first | (refine hK _ ?_; clear hK K) | (apply Exists.intro; refine ⟨fun _ => ?_,hK _ ?_⟩; (go_at_call 22; refine Calls.grown_of (HC.out _ (HGW.out _ _))); clear hK K))
             refine QW_nil ?_
             intro _ hw9
             obtain ⟨⟨nq,osq⟩,hw8⟩ := hw9
             subst hw8
             have hbf := HBS.out nq osq
             go_wp2_with fail
             exact ⟨⟨j + 1,by omega,by go_num,HJ2,hbf⟩,by simp [intOf]; omega⟩
          ·have hje : j = i := by omega
           subst hje
           have HS2 : Hid (SpansTo m.mn m.size sn past (j + 1)) := HSK2.out hJ.out
           clear hJ HSK2 HSJ2
           go_wp2_with fail
           exact ⟨⟨j + 1,by omega,by go_num,HS2,hbE⟩,by simp [intOf]; omega⟩
      ·obtain rfl : i = lq := by omega
       have HT2 : Hid (TrailsTo m (k + 1)) := HN3.out hSi.out
       clear hSi
       go_wp2_with fail
       exact ⟨⟨k + 1,by omega,by go_num,HT2,hbC⟩,by simp [intOf]; omega⟩
  ·obtain rfl : k = lR := by omega
   by_cases hg : (k : Int) = m.gr
   ·have hgd : ((k : Int) == m.gr) = true := by simpa using hg
    have HOK : Hid (TrailsOk m) := HYES.out hTk.out hg
    clear hTk hg
    go_wp2_with fail
    go_ret
    exact bool_yes hbw HOK.out
   ·have hgd : ((k : Int) == m.gr) = false := by simpa using hg
    have HF : Hid (¬ TrailsOk m) := HNG.out hg
    clear hTk
    go_wp2_with fail
    go_ret
    exact bool_no hbw HF.out
end Go.Proofs.YtcncbjknfcjnmaaGreat.Tp
