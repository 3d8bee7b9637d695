/-
  The contract of the answer's May.
-/
import Derived.Test.YtcncbjknfcjnmaaGreatPr44
import Derived.Test.YtcncbjknfcjnmaaGreatPr45
namespace Go.Proofs.YtcncbjknfcjnmaaGreat.Tp
open Go.ChangeShapes Go.WideShapes Go.ChangeAt Go.RowKit
theorem temps_next {m : Mp} {k : Nat} (h : TempsTo m k) (h1 : 0 <= (m.tms.getD k tm0).g /\ (m.tms.getD k tm0).g < m.gr) (h2 : 0 < k -> (m.tms.getD (k - 1) tm0).g < (m.tms.getD k tm0).g) (h3 : 1 <= ((m.tms.getD k tm0).ns.length : Int) /\ ((m.tms.getD k tm0).ns.length : Int) <= m.size) (h4 : ApartP m.nds (m.tms.getD k tm0).ns) : TempsTo m (k + 1) := fun i hi => by
 by_cases e : i = k
 ·subst e; exact ⟨h1,h2,h3,h4⟩
 ·exact h i (by omega)
set_option maxHeartbeats 4000000 in
set_option maxRecDepth 60000 in
theorem refMayTemps {m : Mp} {s : MV} (he : 0 <= m.ep /\ m.ep <= 2147483647) (hc : CountOk m.size m.mn m.gr) (hM : MayN m.nds) (w : World) (h : MapAt w m s) : Calls Tryz.prog 13 #[.agg (mapCells m s).toArray] w fun e w' => BoolPost (MayM m) w e w' := by
 have HP : Hid (∀ W,Below w.heap.size w W -> Calls Tryz.prog 35 #[.agg #[.int .i64 m.ep,.int .i64 m.size,.int .i64 m.mn,.int .i64 m.gr,.slice s.aN s.lN s.cN,.slice s.aT s.lT s.cT,.slice s.aR s.lR s.cR]] W fun e w' => BoolPost (TrailsOk m) W e w') := fun W hb => refPasts_any hc W (h.below hb)
 have HN : Hid (∀ W,Below w.heap.size w W -> Calls Tryz.prog 33 #[.slice s.aN s.lN s.cN] W fun e w' => e = .returned (.bool true) /\ Below W.heap.size W w') := fun W hb => refMay_yes (h.nds.below hb) hM
 have HT : Hid (TmsAt w s.aT s.lT s.cT m.tms) := h.tms
 have HND : Hid (NdsAt w s.aN s.lN s.cN m.nds) := h.nds
 have hl : m.tms.length = s.lT := h.tms.1
 have hmx : s.lT <= maxLen := Nat.le_trans h.tms.2.1 h.tms.2.2.1
 unfold maxLen at hmx
 have HYES : Hid (TempsTo m s.lT -> TrailsOk m -> MayM m) := fun h1 h2 => ⟨he,hc,hM,by rw [hl]; exact h1,h2⟩
 have HNT : Hid (¬ TrailsOk m -> ¬ MayM m) := fun h1 h2 => h1 h2.trs
 have HNO : Hid (∀ k,k < s.lT -> ¬ ((0 <= (m.tms.getD k tm0).g /\ (m.tms.getD k tm0).g < m.gr) /\ (0 < k -> (m.tms.getD (k - 1) tm0).g < (m.tms.getD k tm0).g) /\ (1 <= ((m.tms.getD k tm0).ns.length : Int) /\ ((m.tms.getD k tm0).ns.length : Int) <= m.size) /\ ApartP m.nds (m.tms.getD k tm0).ns) -> ¬ MayM m) := fun k hk h1 h2 => h1 (h2.tms k (by omega))
 have HTN : Hid (∀ k,TempsTo m k -> (0 <= (m.tms.getD k tm0).g /\ (m.tms.getD k tm0).g < m.gr) -> (0 < k -> (m.tms.getD (k - 1) tm0).g < (m.tms.getD k tm0).g) -> (1 <= ((m.tms.getD k tm0).ns.length : Int) /\ ((m.tms.getD k tm0).ns.length : Int) <= m.size) -> ApartP m.nds (m.tms.getD k tm0).ns -> TempsTo m (k + 1)) := fun k => temps_next
 have HZT : Hid (TempsTo m 0) := fun i hi => absurd hi (Nat.not_lt_zero _)
 rw [map_split]
 clear h hl hM
 obtain ⟨k1,k2⟩ := he
 obtain ⟨⟨k3,k4⟩,⟨k5,k6⟩,k7,k8⟩ := hc
 obtain ⟨aN,lN,cN,aT,lT,cT,aR,lR,cR⟩ := s
 simp only at *
 have x0 : decide (m.ep < 0) = false := by simp; omega
 have x1 : decide (2147483648 <= m.ep) = false := by simp; omega
 have x2 : decide (m.size < 1) = false := by simp; omega
 have x3 : decide (3 < m.size) = false := by simp; omega
 have x4 : decide (m.mn < 1) = false := by simp; omega
 have x5 : decide (m.size < m.mn) = false := by simp; omega
 have x6 : decide (m.gr < 1) = false := by simp; omega
 have x7 : decide (8 < m.gr) = false := by simp; omega
 have hb1 := below_alloc w (.cells #[.int .i64 m.ep,.int .i64 m.size,.int .i64 m.mn,.int .i64 m.gr,.slice aN lN cN,.slice aT lT cT,.slice aR lR cR] 26)
 have HBX : Hid (Box7 (w.alloc (.cells #[.int .i64 m.ep,.int .i64 m.size,.int .i64 m.mn,.int .i64 m.gr,.slice aN lN cN,.slice aT lT cT,.slice aR lR cR] 26)) w.heap.size (.int .i64 m.ep) (.int .i64 m.size) (.int .i64 m.mn) (.int .i64 m.gr) (.slice aN lN cN) (.slice aT lT cT) (.slice aR lR cR)) := Box7.new w _ _ _ _ _ _ _ _
 go_enter Tryz.func13,Tryz.ntmps13
 go_wp2_with (go_at_call 33; refine (HN.out _ hb1).mono ?_; rintro e w2 ⟨rfl,hb2⟩; obtain ⟨⟨c0,c1,c2,c3,c4,c5,c6⟩,-⟩ := HBX.out.below hb2)
 clear x0 x1 x2 x3 x4 x5 x6 x7 c0 c1 c2 c3 c4 c5 c6 HN
 have HBX2 : Hid (Box7 w2 w.heap.size (.int .i64 m.ep) (.int .i64 m.size) (.int .i64 m.mn) (.int .i64 m.gr) (.slice aN lN cN) (.slice aT lT cT) (.slice aR lR cR)) := HBX.out.below hb2
 have hbw2 := below2 hb1 hb2
 clear HBX hb1 hb2
 go_loopw [3] (fun i wr => ∃ k : Nat,k <= lT /\ i = .int .i64 k /\ Hid (TempsTo m k) /\ Below w2.heap.size w2 wr) (fun i _ => lT - (intOf i).toNat)
 case atStart => exact ⟨0,Nat.zero_le _,rfl,HZT,Below.refl _ _⟩
 case round =>
  obtain ⟨k,hk,rfl,hTk,hbel⟩ := hrel
  have hbw := below2 hbw2 hbel
  obtain ⟨⟨c0,c1,c2,c3,c4,c5,c6⟩,-⟩ := HBX2.out.below hbel
  have hlw : w.heap.size < wr.heap.size := (HBX2.out.below hbel).lt
  by_cases hlt : k < lT
  ·have hk1 : (k : Int) < (lT : Int) := by omega
   have hk0 : (0 : Int) <= (k : Int) := by omega
   obtain ⟨b,off,hae,hbs,hcell⟩ := (HT.out.below hbw).some (by omega)
   subst hae
   obtain ⟨e0,aq,lq,cq,e1,hrow⟩ := hcell k hlt
   have hql : (m.tms.getD k tm0).ns.length = lq := hrow.1
   have HPV : Hid (0 < k -> wr.cell? ⟨b,off + (k - 1) * 2,none⟩ = some (.int .i64 (m.tms.getD (k - 1) tm0).g)) := fun h => (hcell (k - 1) (by omega)).1
   have hba := below_alloc wr (.cells #[.int .i64 (m.tms.getD k tm0).g,.slice aq lq cq] 59)
   have HCA : Hid (∀ q : Bool,(q = true ↔ ApartP m.nds (m.tms.getD k tm0).ns) -> ∀ W,Grown (wr.alloc (.cells #[.int .i64 (m.tms.getD k tm0).g,.slice aq lq cq] 59)) W -> Calls Tryz.prog 34 #[.slice aN lN cN,.slice aq lq cq] W fun e w' => e = .returned (.bool q) /\ Grown W w') := fun q hq W hg => refApart_g aN lN cN m.nds aq lq cq _ q hq W (HND.out.below (below2 hbw (below2 hba (grown_below hg)))) (hrow.below (below2 hba (grown_below hg)))
   have HB1 := HNO.out k hlt
   have HN1 := HTN.out k hTk.out
   rw [hql] at HB1 HN1
   have HB2 := show Hid _ from HB1
   have HN2 := show Hid _ from HN1
   clear HB1 HN1 hcell hrow hTk hql
   generalize ApartP m.nds (m.tms.getD k tm0).ns = PA at *
   generalize (m.tms.getD k tm0).g = y at *
   have t0 : (wr.alloc (.cells #[.int .i64 y,.slice aq lq cq] 59)).cell? ⟨wr.heap.size,0,none⟩ = some (.int .i64 y) := by simp
   have t1 : (wr.alloc (.cells #[.int .i64 y,.slice aq lq cq] 59)).cell? ⟨wr.heap.size,1,none⟩ = some (.slice aq lq cq) := by simp
   have hlt1 : wr.heap.size < (wr.alloc (.cells #[.int .i64 y,.slice aq lq cq] 59)).heap.size := by simp
   have HXS : Hid (Box7 (wr.alloc (.cells #[.int .i64 y,.slice aq lq cq] 59)) w.heap.size (.int .i64 m.ep) (.int .i64 m.size) (.int .i64 m.mn) (.int .i64 m.gr) (.slice aN lN cN) (.slice (some ⟨b,off,none⟩) lT cT) (.slice aR lR cR)) := (HBX2.out.below hbel).below hba
   have HPV2 : Hid (0 < k -> (wr.alloc (.cells #[.int .i64 y,.slice aq lq cq] 59)).cell? ⟨b,off + (k - 1) * 2,none⟩ = some (.int .i64 (m.tms.getD (k - 1) tm0).g)) := fun h => (hba.cell (p := ⟨b,off + (k - 1) * 2,none⟩) hbs).trans (HPV.out h)
   have hbs2 : b < (wr.alloc (.cells #[.int .i64 y,.slice aq lq cq] 59)).heap.size := Nat.lt_of_lt_of_le hbs hba.size
   have hbS2 : Below w2.heap.size w2 (wr.alloc (.cells #[.int .i64 y,.slice aq lq cq] 59)) := below2 hbel hba
   have hlw2 : w.heap.size < (wr.alloc (.cells #[.int .i64 y,.slice aq lq cq] 59)).heap.size := HXS.out.lt
   go_upto_region 7 with fail
   clear c0 c1 c2 c3 c4 c5 c6 e0 e1 HPV
   generalize wr.heap.size = tb at *
   generalize wr.alloc (.cells #[.int .i64 y,.slice aq lq cq] 59) = wS at *
   obtain ⟨⟨c0,c1,c2,c3,c4,c5,c6⟩,-⟩ := HXS.out
   have a1 := cell_grown (w := wS) (a := ⟨w.heap.size,1,none⟩) hlw2 c1
   have a3 := cell_grown (w := wS) (a := ⟨w.heap.size,3,none⟩) hlw2 c3
   have a4 := cell_grown (w := wS) (a := ⟨w.heap.size,4,none⟩) hlw2 c4
   have a5 := cell_grown (w := wS) (a := ⟨w.heap.size,5,none⟩) hlw2 c5
   have b0 := cell_grown (w := wS) (a := ⟨tb,0,none⟩) hlt1 t0
   have b1 := cell_grown (w := wS) (a := ⟨tb,1,none⟩) hlt1 t1
   have HGW : Hid (∀ n os,Grown wS (Go.Sort.grow (wS.drewN n) os)) := fun n os => ⟨n,os,rfl⟩
   have HBG : Hid (∀ n os,Below w.heap.size w (Go.Sort.grow (wS.drewN n) os)) := fun n os => below2 (below2 hbw2 hbS2) (below_grow _ _ _)
   have HBS : Hid (∀ n os,Below w2.heap.size w2 (Go.Sort.grow (wS.drewN n) os)) := fun n os => below2 hbS2 (below_grow _ _ _)
   clear c0 c1 c2 c3 c4 c5 c6 t0 t1
   by_cases r1 : y < 0
   ·have HF : Hid (¬ MayM m) := HB2.out fun h => by have := h.1; omega
    clear HB2 HN2 HPV2
    go_wp2_with fail
    refine wp_region_QW mixed5 (by kernel_rfl) ?_
    repeat (refine QW_step (fun K hK => ?_); go_simp; first | (refine hK _ ?_; clear hK K) | (apply Exists.intro; refine ⟨fun _ => ?_,hK _ ?_⟩; fail; clear hK K))
    refine QW_nil ?_
    intro _ hw9
    obtain ⟨⟨nq,osq⟩,hw8⟩ := hw9
    subst hw8
    have hbf := HBG.out nq osq
    go_wp2_with fail
    go_ret
    exact bool_no hbf HF.out
   ·have r1d : decide (y < 0) = false := by simpa using r1
    by_cases r2 : m.gr <= y
    ·have HF : Hid (¬ MayM m) := HB2.out fun h => by have := h.1; omega
     clear HB2 HN2 HPV2
     go_wp2_with fail
     refine wp_region_QW mixed5 (by kernel_rfl) ?_
     repeat (refine QW_step (fun K hK => ?_); go_simp; first | (refine hK _ ?_; clear hK K) | (apply Exists.intro; refine ⟨fun _ => ?_,hK _ ?_⟩; fail; clear hK K))
     refine QW_nil ?_
     intro _ hw9
     obtain ⟨⟨nq,osq⟩,hw8⟩ := hw9
     subst hw8
     have hbf := HBG.out nq osq
     go_wp2_with fail
     go_ret
     exact bool_no hbf HF.out
    ·have r2d : decide (m.gr <= y) = false := by simpa using r2
     by_cases r3 : k = 0
     ·subst r3
      have r3d : decide ((0 : Int) < ((0 : Nat) : Int)) = false := by simp
      clear HPV2
      by_cases r4 : (lq : Int) < 1
      ·have HF : Hid (¬ MayM m) := HB2.out fun h => by have := h.2.2.1; omega
       clear HB2 HN2
       go_wp2_with fail
       refine wp_region_QW mixed5 (by kernel_rfl) ?_
       repeat (refine QW_step (fun K hK => ?_); go_simp; first | (refine hK _ ?_; clear hK K) | (apply Exists.intro; refine ⟨fun _ => ?_,hK _ ?_⟩; (go_at_call 34; refine Calls.grown_of (HC.out _ (HGW.out _ _))); clear hK K))
       refine QW_nil ?_
       intro _ hw9
       obtain ⟨⟨nq,osq⟩,hw8⟩ := hw9
       subst hw8
       have hbf := HBG.out nq osq
       go_wp2_with fail
       go_ret
       exact bool_no hbf HF.out
      ·have r4d : decide ((lq : Int) < 1) = false := by simpa using r4
       by_cases r5 : m.size < (lq : Int)
       ·have HF : Hid (¬ MayM m) := HB2.out fun h => by have := h.2.2.1; omega
        clear HB2 HN2
        go_wp2_with fail
        refine wp_region_QW mixed5 (by kernel_rfl) ?_
        repeat (refine QW_step (fun K hK => ?_); go_simp; first | (refine hK _ ?_; clear hK K) | (apply Exists.intro; refine ⟨fun _ => ?_,hK _ ?_⟩; (go_at_call 34; refine Calls.grown_of (HC.out _ (HGW.out _ _))); clear hK K))
        refine QW_nil ?_
        intro _ hw9
        obtain ⟨⟨nq,osq⟩,hw8⟩ := hw9
        subst hw8
        have hbf := HBG.out nq osq
        go_wp2_with fail
        go_ret
        exact bool_no hbf HF.out
       ·have r5d : decide (m.size < (lq : Int)) = false := by simpa using r5
        by_cases r6 : PA
        ·have HC : Hid (∀ W,Grown wS W -> Calls Tryz.prog 34 #[.slice aN lN cN,.slice aq lq cq] W fun e w' => e = .returned (.bool true) /\ Grown W w') := HCA.out true (by simp [r6])
         have HT2 : Hid (TempsTo m (0 + 1)) := HN2.out (by omega) (fun h => by omega) (by omega) r6
         clear HB2 HN2 r6 HCA
         go_wp2_with fail
         refine wp_region_QW mixed5 (by kernel_rfl) ?_
         repeat (refine QW_step (fun K hK => ?_); go_simp; first | (refine hK _ ?_; clear hK K) | (apply Exists.intro; refine ⟨fun _ => ?_,hK _ ?_⟩; (go_at_call 34; refine Calls.grown_of (HC.out _ (HGW.out _ _))); clear hK K))
         refine QW_nil ?_
         intro _ hw9
         obtain ⟨⟨nq,osq⟩,hw8⟩ := hw9
         subst hw8
         have hbf := HBS.out nq osq
         go_wp2_with fail
         exact ⟨⟨0 + 1,by omega,by go_num,HT2,hbf⟩,by simp [intOf]; omega⟩
        ·have HC : Hid (∀ W,Grown wS W -> Calls Tryz.prog 34 #[.slice aN lN cN,.slice aq lq cq] W fun e w' => e = .returned (.bool false) /\ Grown W w') := HCA.out false (by simp [r6])
         have HF : Hid (¬ MayM m) := HB2.out fun h => r6 h.2.2.2
         clear HB2 HN2 r6 HCA
         go_wp2_with fail
         refine wp_region_QW mixed5 (by kernel_rfl) ?_
         repeat (refine QW_step (fun K hK => ?_); go_simp; first | (refine hK _ ?_; clear hK K) | (apply Exists.intro; refine ⟨fun _ => ?_,hK _ ?_⟩; (go_at_call 34; refine Calls.grown_of (HC.out _ (HGW.out _ _))); clear hK K))
         refine QW_nil ?_
         intro _ hw9
         obtain ⟨⟨nq,osq⟩,hw8⟩ := hw9
         subst hw8
         have hbf := HBG.out nq osq
         go_wp2_with fail
         go_ret
         exact bool_no hbf HF.out
     ·obtain ⟨k',hke⟩ : ∃ k',k = k' + 1 := ⟨k - 1,by omega⟩
      have x1 : wS.cell? ⟨b,off + k' * 2,none⟩ = some (.int .i64 (m.tms.getD k' tm0).g) := by have := HPV2.out (by omega); rw [hke] at this; exact this
      rw [show k - 1 = k' by omega] at HB2 HN2
      have em : IntKind.i64.wrap ((k : Int) - 1) = (k' : Int) := by
       rw [show (k : Int) - 1 = (k' : Int) from by omega]; simp [IntKind.wrap,IntKind.bits,IntKind.signed]; omega
      have em0 : (0 : Int) <= (k' : Int) := by omega
      have em1 : (k' : Int) < (lT : Int) := by omega
      have ek0 : decide (0 < k) = true := by simp; omega
      have hkp : 0 < k := by omega
      clear HPV2 hke
      generalize (m.tms.getD k' tm0).g = x at *
      have b2 := cell_grown (w := wS) (a := ⟨b,off + k' * 2,none⟩) hbs2 x1
      by_cases r7 : y <= x
      ·have HF : Hid (¬ MayM m) := HB2.out fun h => by have := h.2.1 (by omega); omega
       clear HB2 HN2
       go_wp2_with fail
       refine wp_region_QW mixed5 (by kernel_rfl) ?_
       repeat (refine QW_step (fun K hK => ?_); go_simp; first | (refine hK _ ?_; clear hK K) | (apply Exists.intro; refine ⟨fun _ => ?_,hK _ ?_⟩; fail; clear hK K))
       refine QW_nil ?_
       intro _ hw9
       obtain ⟨⟨nq,osq⟩,hw8⟩ := hw9
       subst hw8
       have hbf := HBG.out nq osq
       go_wp2_with fail
       go_ret
       exact bool_no hbf HF.out
      ·have r7d : decide (y <= x) = false := by simpa using r7
       by_cases r4 : (lq : Int) < 1
       ·have HF : Hid (¬ MayM m) := HB2.out fun h => by have := h.2.2.1; omega
        clear HB2 HN2
        go_wp2_with fail
        refine wp_region_QW mixed5 (by kernel_rfl) ?_
        repeat (refine QW_step (fun K hK => ?_); go_simp; first | (refine hK _ ?_; clear hK K) | (apply Exists.intro; refine ⟨fun _ => ?_,hK _ ?_⟩; (go_at_call 34; refine Calls.grown_of (HC.out _ (HGW.out _ _))); clear hK K))
        refine QW_nil ?_
        intro _ hw9
        obtain ⟨⟨nq,osq⟩,hw8⟩ := hw9
        subst hw8
        have hbf := HBG.out nq osq
        go_wp2_with fail
        go_ret
        exact bool_no hbf HF.out
       ·have r4d : decide ((lq : Int) < 1) = false := by simpa using r4
        by_cases r5 : m.size < (lq : Int)
        ·have HF : Hid (¬ MayM m) := HB2.out fun h => by have := h.2.2.1; omega
         clear HB2 HN2
         go_wp2_with fail
         refine wp_region_QW mixed5 (by kernel_rfl) ?_
         repeat (refine QW_step (fun K hK => ?_); go_simp; first | (refine hK _ ?_; clear hK K) | (apply Exists.intro; refine ⟨fun _ => ?_,hK _ ?_⟩; (go_at_call 34; refine Calls.grown_of (HC.out _ (HGW.out _ _))); clear hK K))
         refine QW_nil ?_
         intro _ hw9
         obtain ⟨⟨nq,osq⟩,hw8⟩ := hw9
         subst hw8
         have hbf := HBG.out nq osq
         go_wp2_with fail
         go_ret
         exact bool_no hbf HF.out
        ·have r5d : decide (m.size < (lq : Int)) = false := by simpa using r5
         by_cases r6 : PA
         ·have HC : Hid (∀ W,Grown wS W -> Calls Tryz.prog 34 #[.slice aN lN cN,.slice aq lq cq] W fun e w' => e = .returned (.bool true) /\ Grown W w') := HCA.out true (by simp [r6])
          have HT2 : Hid (TempsTo m (k + 1)) := HN2.out (by omega) (fun _ => by omega) (by omega) r6
          clear HB2 HN2 r6 HCA
          go_wp2_with fail
          refine wp_region_QW mixed5 (by kernel_rfl) ?_
          repeat (refine QW_step (fun K hK => ?_); go_simp; first | (refine hK _ ?_; clear hK K) | (apply Exists.intro; refine ⟨fun _ => ?_,hK _ ?_⟩; (go_at_call 34; refine Calls.grown_of (HC.out _ (HGW.out _ _))); clear hK K))
          refine QW_nil ?_
          intro _ hw9
          obtain ⟨⟨nq,osq⟩,hw8⟩ := hw9
          subst hw8
          have hbf := HBS.out nq osq
          go_wp2_with fail
          exact ⟨⟨k + 1,by omega,by go_num,HT2,hbf⟩,by simp [intOf]; omega⟩
         ·have HC : Hid (∀ W,Grown wS W -> Calls Tryz.prog 34 #[.slice aN lN cN,.slice aq lq cq] W fun e w' => e = .returned (.bool false) /\ Grown W w') := HCA.out false (by simp [r6])
          have HF : Hid (¬ MayM m) := HB2.out fun h => r6 h.2.2.2
          clear HB2 HN2 r6 HCA
          go_wp2_with fail
          refine wp_region_QW mixed5 (by kernel_rfl) ?_
          repeat (refine QW_step (fun K hK => ?_); go_simp; first | (refine hK _ ?_; clear hK K) | (apply Exists.intro; refine ⟨fun _ => ?_,hK _ ?_⟩; (go_at_call 34; refine Calls.grown_of (HC.out _ (HGW.out _ _))); clear hK K))
          refine QW_nil ?_
          intro _ hw9
          obtain ⟨⟨nq,osq⟩,hw8⟩ := hw9
          subst hw8
          have hbf := HBG.out nq osq
          go_wp2_with fail
          go_ret
          exact bool_no hbf HF.out
  ·obtain rfl : k = lT := by omega
   have HOK : Hid (TrailsOk m -> MayM m) := HYES.out hTk.out
   clear hTk
   by_cases hp : TrailsOk m
   ·have HP2 := show Hid _ from fun W (hb : Below w.heap.size w W) => bool_is (HP.out W hb) hp
    have HY2 : Hid (MayM m) := HOK.out hp
    clear hp HOK
    go_wp2_with (go_at_call 35; refine (HP2.out _ hbw).mono ?_; rintro e w3 ⟨rfl,hb3⟩)
    go_ret
    exact bool_yes (below2 hbw hb3) HY2.out
   ·have HP2 := show Hid _ from fun W (hb : Below w.heap.size w W) => bool_isnt (HP.out W hb) hp
    have HF : Hid (¬ MayM m) := HNT.out hp
    clear hp HOK
    go_wp2_with (go_at_call 35; refine (HP2.out _ hbw).mono ?_; rintro e w3 ⟨rfl,hb3⟩)
    go_ret
    exact bool_no (below2 hbw hb3) HF.out
end Go.Proofs.YtcncbjknfcjnmaaGreat.Tp
