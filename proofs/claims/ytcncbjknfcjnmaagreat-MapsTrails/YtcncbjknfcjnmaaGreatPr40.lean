/-
  The contract of the law's Light: where it tells yes, no past is long.
-/
import Derived.Test.YtcncbjknfcjnmaaGreatPr02
namespace Go.Proofs.YtcncbjknfcjnmaaGreat.Tp
open Go.ChangeShapes Go.WideShapes Go.ChangeAt Go.RowKit
def LightPost (m : Mp) (w : World) (e : Ending) (w' : World) : Prop := ∃ q,e = .returned (.bool q) /\ (q = true -> ∀ i,i < m.trs.length -> (m.trs.getD i tr0).past.length <= 20) /\ Below w.heap.size w w'
def LightAll (m : Mp) (w : World) (e : Ending) (w' : World) : Prop := ∃ q,e = .returned (.bool q) /\ (q = true -> m.trs.length <= 20 -> ∀ i,i < m.trs.length -> (m.trs.getD i tr0).past.length <= 20) /\ Below w.heap.size w w'
set_option maxHeartbeats 4000000 in
set_option maxRecDepth 60000 in
theorem light_all {m : Mp} {s : MV} (w : World) (h : MapAt w m s) : Calls Tryz.prog 14 #[.agg (mapCells m s).toArray] w fun e w' => LightAll m w e w' := by
 rw [map_split]
 have hb1 := below_alloc w (.cells (mapCells m s).toArray 26)
 have HT : Hid (TmsAt (w.alloc (.cells (mapCells m s).toArray 26)) s.aT s.lT s.cT m.tms) := h.tms.below hb1
 have HR : Hid (TrsAt (w.alloc (.cells (mapCells m s).toArray 26)) s.aR s.lR s.cR m.trs) := h.trs.below hb1
 have hmT : s.lT <= maxLen := Nat.le_trans h.tms.2.1 h.tms.2.2.1
 have hmR : s.lR <= maxLen := Nat.le_trans h.trs.2.1 h.trs.2.2.1
 have hmN : s.lN <= maxLen := Nat.le_trans h.nds.2.1 h.nds.2.2.1
 unfold maxLen at hmT hmR hmN
 have HRL : Hid (m.trs.length = s.lR) := h.trs.1
 clear h
 obtain ⟨ep,sz,mn,gr,nds,tms,trs⟩ := m
 obtain ⟨aN,lN,cN,aT,lT,cT,aR,lR,cR⟩ := s
 simp only [mapCells] at *
 have HBX : Hid (Box7 (w.alloc (.cells #[.int .i64 ep,.int .i64 sz,.int .i64 mn,.int .i64 gr,.slice aN lN cN,.slice aT lT cT,.slice aR lR cR] 26)) w.heap.size (.int .i64 ep) (.int .i64 sz) (.int .i64 mn) (.int .i64 gr) (.slice aN lN cN) (.slice aT lT cT) (.slice aR lR cR)) := Box7.new w _ _ _ _ _ _ _ _
 go_enter Tryz.func14,Tryz.ntmps14
 go_wp2_with fail
 generalize w.alloc (.cells #[.int .i64 ep,.int .i64 sz,.int .i64 mn,.int .i64 gr,.slice aN lN cN,.slice aT lT cT,.slice aR lR cR] 26) = w1 at *
 obtain ⟨⟨c0,c1,c2,c3,c4,c5,c6⟩,-⟩ := HBX.out
 clear HBX
 go_loopw [3] (fun i wr => ∃ k : Nat,k <= lT /\ i = .int .i64 k /\ Hid (wr = w1)) (fun i _ => lT - (intOf i).toNat)
 case atStart => exact ⟨0,Nat.zero_le _,rfl,rfl⟩
 case round =>
  obtain ⟨k0,hk,rfl,hwr⟩ := hrel
  obtain rfl := hwr.out
  clear hwr
  by_cases hlt : k0 < lT
  ·have hk1 : (k0 : Int) < (lT : Int) := by omega
   have hk0 : (0 : Int) <= (k0 : Int) := by omega
   by_cases h20 : (k0 : Int) < 20
   ·obtain ⟨b,off,hae,hbs,hcell⟩ := HT.out.some (by omega)
    subst hae
    obtain ⟨e0,aq,lq,cq,e1,-⟩ := hcell k0 hlt
    clear hcell
    by_cases hl20 : (20 : Int) < (lq : Int)
    ·go_wp2_with fail
     go_ret
     exact ⟨_,rfl,fun hq h20l i hi => (by first | exact absurd hq (by decide) | (have h1 := HRL.out; have h2 := h20l; simp only at h2; exact HFk.out i (by simp only at hi; omega))),hb1⟩
    ·have hl20' : decide ((20 : Int) < (lq : Int)) = false := by simpa using hl20
     go_wp2_with fail
     exact ⟨⟨k0 + 1,by omega,by go_num,by unfold Hid; trivial⟩,by simp [intOf]; omega⟩
   ·have h20' : decide ((k0 : Int) < 20) = false := by simpa using h20
    clear h20
    generalize hw1 : wr = w1 at *
    clear hw1
    go_wp2_with fail
    go_loopw [4] (fun i wr => ∃ k : Nat,k <= lR /\ i = .int .i64 k /\ Hid (∀ i,i < k -> (trs.getD i tr0).past.length <= 20) /\ Hid (wr = w1)) (fun i _ => lR - (intOf i).toNat)
    case atStart => exact ⟨0,Nat.zero_le _,rfl,(fun i hi => absurd hi (Nat.not_lt_zero _)),rfl⟩
    case round =>
     obtain ⟨k,hk,rfl,HFk,hwr⟩ := hrel
     obtain rfl := hwr.out
     clear hwr
     by_cases hlt : k < lR
     ·have hk1 : (k : Int) < (lR : Int) := by omega
      have hk0 : (0 : Int) <= (k : Int) := by omega
      by_cases h20 : (k : Int) < 20
      ·obtain ⟨b,off,hae,hbs,hcell⟩ := HR.out.some (by omega)
       subst hae
       obtain ⟨e0,ap,lp,cp,e1,hpast⟩ := hcell k hlt
       have HP : Hid (TmsAt wr ap lp cp (trs.getD k tr0).past) := hpast
       have hmp : lp <= maxLen := Nat.le_trans hpast.2.1 hpast.2.2.1
       unfold maxLen at hmp
       clear hcell hpast
       by_cases hl20 : (20 : Int) < (lp : Int)
       ·go_wp2_with fail
        go_ret
        exact ⟨_,rfl,fun hq h20l i hi => (by first | exact absurd hq (by decide) | (have h1 := HRL.out; have h2 := h20l; simp only at h2; exact HFk.out i (by simp only at hi; omega))),hb1⟩
       ·have hl20' : decide ((20 : Int) < (lp : Int)) = false := by simpa using hl20
        have HPL : Hid ((trs.getD k tr0).past.length <= 20) := by have := HP.out.1; show (trs.getD k tr0).past.length <= 20; omega
        go_wp2_with fail
        go_loopw [5] (fun i wq => ∃ j : Nat,j <= lp /\ i = .int .i64 j /\ Hid (wq = wr)) (fun i _ => lp - (intOf i).toNat)
        case atStart => exact ⟨0,Nat.zero_le _,rfl,rfl⟩
        case round =>
         obtain ⟨j,hj,rfl,hwq⟩ := hrel
         obtain rfl := hwq.out
         clear hwq
         by_cases hjl : j < lp
         ·have hj1 : (j : Int) < (lp : Int) := by omega
          have hj0 : (0 : Int) <= (j : Int) := by omega
          obtain ⟨pb,po,hpe,hps,hpc⟩ := HP.out.some (by omega)
          subst hpe
          obtain ⟨p0,ar,lr,cr,p1,-⟩ := hpc j hjl
          clear hpc
          by_cases hr20 : (20 : Int) < (lr : Int)
          ·go_wp2_with fail
           go_ret
           exact ⟨_,rfl,fun hq h20l i hi => (by first | exact absurd hq (by decide) | (have h1 := HRL.out; have h2 := h20l; simp only at h2; exact HFk.out i (by simp only at hi; omega))),hb1⟩
          ·have hr20' : decide ((20 : Int) < (lr : Int)) = false := by simpa using hr20
           go_wp2_with fail
           exact ⟨⟨j + 1,by omega,by go_num,by unfold Hid; trivial⟩,by simp [intOf]; omega⟩
         ·obtain rfl : j = lp := by omega
          go_wp2_with fail
          exact ⟨⟨k + 1,by omega,by go_num,(fun i hi => (Nat.lt_succ_iff_lt_or_eq.1 hi).elim (fun h => HFk.out i h) (fun h => by subst h; exact HPL.out)),by unfold Hid; trivial⟩,by simp [intOf]; omega⟩
      ·have h20' : decide ((k : Int) < 20) = false := by simpa using h20
       by_cases hN : (lN : Int) <= 30
       ·by_cases hT : (lT : Int) <= 20
        ·go_wp2_with fail
         go_ret
         exact ⟨_,rfl,fun hq h20l i hi => (by first | exact absurd hq (by decide) | (have h1 := HRL.out; have h2 := h20l; simp only at h2; exact HFk.out i (by simp only at hi; omega))),hb1⟩
        ·have hT' : decide ((lT : Int) <= 20) = false := by simpa using hT
         go_wp2_with fail
         go_ret
         exact ⟨_,rfl,fun hq h20l i hi => (by first | exact absurd hq (by decide) | (have h1 := HRL.out; have h2 := h20l; simp only at h2; exact HFk.out i (by simp only at hi; omega))),hb1⟩
       ·have hN' : decide ((lN : Int) <= 30) = false := by simpa using hN
        go_wp2_with fail
        go_ret
        exact ⟨_,rfl,fun hq h20l i hi => (by first | exact absurd hq (by decide) | (have h1 := HRL.out; have h2 := h20l; simp only at h2; exact HFk.out i (by simp only at hi; omega))),hb1⟩
     ·have hlt' : decide ((k : Int) < (lR : Int)) = false := by simp; omega
      by_cases hN : (lN : Int) <= 30
      ·by_cases hT : (lT : Int) <= 20
       ·go_wp2_with fail
        go_ret
        exact ⟨_,rfl,fun hq h20l i hi => (by first | exact absurd hq (by decide) | (have h1 := HRL.out; have h2 := h20l; simp only at h2; exact HFk.out i (by simp only at hi; omega))),hb1⟩
       ·have hT' : decide ((lT : Int) <= 20) = false := by simpa using hT
        go_wp2_with fail
        go_ret
        exact ⟨_,rfl,fun hq h20l i hi => (by first | exact absurd hq (by decide) | (have h1 := HRL.out; have h2 := h20l; simp only at h2; exact HFk.out i (by simp only at hi; omega))),hb1⟩
      ·have hN' : decide ((lN : Int) <= 30) = false := by simpa using hN
       go_wp2_with fail
       go_ret
       exact ⟨_,rfl,fun hq h20l i hi => (by first | exact absurd hq (by decide) | (have h1 := HRL.out; have h2 := h20l; simp only at h2; exact HFk.out i (by simp only at hi; omega))),hb1⟩
  ·have hlt' : decide ((k0 : Int) < (lT : Int)) = false := by simp; omega
   generalize hw1 : wr = w1 at *
   clear hw1
   go_wp2_with fail
   go_loopw [4] (fun i wr => ∃ k : Nat,k <= lR /\ i = .int .i64 k /\ Hid (∀ i,i < k -> (trs.getD i tr0).past.length <= 20) /\ Hid (wr = w1)) (fun i _ => lR - (intOf i).toNat)
   case atStart => exact ⟨0,Nat.zero_le _,rfl,(fun i hi => absurd hi (Nat.not_lt_zero _)),rfl⟩
   case round =>
    obtain ⟨k,hk,rfl,HFk,hwr⟩ := hrel
    obtain rfl := hwr.out
    clear hwr
    by_cases hlt : k < lR
    ·have hk1 : (k : Int) < (lR : Int) := by omega
     have hk0 : (0 : Int) <= (k : Int) := by omega
     by_cases h20 : (k : Int) < 20
     ·obtain ⟨b,off,hae,hbs,hcell⟩ := HR.out.some (by omega)
      subst hae
      obtain ⟨e0,ap,lp,cp,e1,hpast⟩ := hcell k hlt
      have HP : Hid (TmsAt wr ap lp cp (trs.getD k tr0).past) := hpast
      have hmp : lp <= maxLen := Nat.le_trans hpast.2.1 hpast.2.2.1
      unfold maxLen at hmp
      clear hcell hpast
      by_cases hl20 : (20 : Int) < (lp : Int)
      ·go_wp2_with fail
       go_ret
       exact ⟨_,rfl,fun hq h20l i hi => (by first | exact absurd hq (by decide) | (have h1 := HRL.out; have h2 := h20l; simp only at h2; exact HFk.out i (by simp only at hi; omega))),hb1⟩
      ·have hl20' : decide ((20 : Int) < (lp : Int)) = false := by simpa using hl20
       have HPL : Hid ((trs.getD k tr0).past.length <= 20) := by have := HP.out.1; show (trs.getD k tr0).past.length <= 20; omega
       go_wp2_with fail
       go_loopw [5] (fun i wq => ∃ j : Nat,j <= lp /\ i = .int .i64 j /\ Hid (wq = wr)) (fun i _ => lp - (intOf i).toNat)
       case atStart => exact ⟨0,Nat.zero_le _,rfl,rfl⟩
       case round =>
        obtain ⟨j,hj,rfl,hwq⟩ := hrel
        obtain rfl := hwq.out
        clear hwq
        by_cases hjl : j < lp
        ·have hj1 : (j : Int) < (lp : Int) := by omega
         have hj0 : (0 : Int) <= (j : Int) := by omega
         obtain ⟨pb,po,hpe,hps,hpc⟩ := HP.out.some (by omega)
         subst hpe
         obtain ⟨p0,ar,lr,cr,p1,-⟩ := hpc j hjl
         clear hpc
         by_cases hr20 : (20 : Int) < (lr : Int)
         ·go_wp2_with fail
          go_ret
          exact ⟨_,rfl,fun hq h20l i hi => (by first | exact absurd hq (by decide) | (have h1 := HRL.out; have h2 := h20l; simp only at h2; exact HFk.out i (by simp only at hi; omega))),hb1⟩
         ·have hr20' : decide ((20 : Int) < (lr : Int)) = false := by simpa using hr20
          go_wp2_with fail
          exact ⟨⟨j + 1,by omega,by go_num,by unfold Hid; trivial⟩,by simp [intOf]; omega⟩
        ·obtain rfl : j = lp := by omega
         go_wp2_with fail
         exact ⟨⟨k + 1,by omega,by go_num,(fun i hi => (Nat.lt_succ_iff_lt_or_eq.1 hi).elim (fun h => HFk.out i h) (fun h => by subst h; exact HPL.out)),by unfold Hid; trivial⟩,by simp [intOf]; omega⟩
     ·have h20' : decide ((k : Int) < 20) = false := by simpa using h20
      by_cases hN : (lN : Int) <= 30
      ·by_cases hT : (lT : Int) <= 20
       ·go_wp2_with fail
        go_ret
        exact ⟨_,rfl,fun hq h20l i hi => (by first | exact absurd hq (by decide) | (have h1 := HRL.out; have h2 := h20l; simp only at h2; exact HFk.out i (by simp only at hi; omega))),hb1⟩
       ·have hT' : decide ((lT : Int) <= 20) = false := by simpa using hT
        go_wp2_with fail
        go_ret
        exact ⟨_,rfl,fun hq h20l i hi => (by first | exact absurd hq (by decide) | (have h1 := HRL.out; have h2 := h20l; simp only at h2; exact HFk.out i (by simp only at hi; omega))),hb1⟩
      ·have hN' : decide ((lN : Int) <= 30) = false := by simpa using hN
       go_wp2_with fail
       go_ret
       exact ⟨_,rfl,fun hq h20l i hi => (by first | exact absurd hq (by decide) | (have h1 := HRL.out; have h2 := h20l; simp only at h2; exact HFk.out i (by simp only at hi; omega))),hb1⟩
    ·have hlt' : decide ((k : Int) < (lR : Int)) = false := by simp; omega
     by_cases hN : (lN : Int) <= 30
     ·by_cases hT : (lT : Int) <= 20
      ·go_wp2_with fail
       go_ret
       exact ⟨_,rfl,fun hq h20l i hi => (by first | exact absurd hq (by decide) | (have h1 := HRL.out; have h2 := h20l; simp only at h2; exact HFk.out i (by simp only at hi; omega))),hb1⟩
      ·have hT' : decide ((lT : Int) <= 20) = false := by simpa using hT
       go_wp2_with fail
       go_ret
       exact ⟨_,rfl,fun hq h20l i hi => (by first | exact absurd hq (by decide) | (have h1 := HRL.out; have h2 := h20l; simp only at h2; exact HFk.out i (by simp only at hi; omega))),hb1⟩
     ·have hN' : decide ((lN : Int) <= 30) = false := by simpa using hN
      go_wp2_with fail
      go_ret
      exact ⟨_,rfl,fun hq h20l i hi => (by first | exact absurd hq (by decide) | (have h1 := HRL.out; have h2 := h20l; simp only at h2; exact HFk.out i (by simp only at hi; omega))),hb1⟩
theorem light_few {m : Mp} {s : MV} (h20l : m.trs.length <= 20) (w : World) (h : MapAt w m s) : Calls Tryz.prog 14 #[.agg (mapCells m s).toArray] w fun e w' => LightPost m w e w' :=
 (light_all w h).mono fun _ _ ⟨q,he,hq,hb⟩ => ⟨q,he,fun h => hq h h20l,hb⟩
end Go.Proofs.YtcncbjknfcjnmaaGreat.Tp
