/-
  The contracts of the answer's Ints, of rows wherever they lie, and of its Temp.
  Maps that may be, plainly; the contracts of Raw and Acting, of whatever map and group.
  What refuses a delta: refusalToClean, refusalToAdd, refusalToPin.
-/
import Derived.Test.YtcncbjknfcjnmaaGreatPr17
import Derived.Test.YtcncbjknfcjnmaaGreatPr21
import Derived.Test.YtcncbjknfcjnmaaGreatPr20
import Derived.Test.YtcncbjknfcjnmaaGreatPr19
import Derived.Deep.Cut
namespace Go.Proofs.YtcncbjknfcjnmaaGreat.Tp
open Go.ChangeShapes Go.WideShapes Go.ChangeAt Go.RowKit
def RowL (w : World) (a : Option Addr) (len : Nat) (l : List Int) : Prop :=
 l.length = len /\ len <= maxLen /\ (len = 0 ∨ ∃ b off,a = some ⟨b,off,none⟩ /\ ∀ i,i < len -> w.cell? ⟨b,off + i,none⟩ = some (.int .i64 (l.getD i 0)))
theorem RowL.some {w : World} {a : Option Addr} {len : Nat} {l : List Int} (h : RowL w a len l) (h0 : 0 < len) :
  ∃ b off,a = Option.some ⟨b,off,none⟩ /\ b < w.heap.size /\ ∀ i,i < len -> w.cell? ⟨b,off + i,none⟩ = Option.some (.int .i64 (l.getD i 0)) := by
 rcases h.2.2 with h | ⟨b,off,e,h⟩
 ·omega
 ·exact ⟨b,off,e,World.block_lt_of_cell? w ⟨b,off + 0,none⟩ (h 0 h0),h⟩
theorem RowL.below {w w' : World} {a : Option Addr} {len : Nat} {l : List Int} (h : RowL w a len l) (hb : Below w.heap.size w w') : RowL w' a len l := by
 refine ⟨h.1,h.2.1,?_⟩
 rcases h.2.2 with h0 | ⟨b,off,e,hc⟩
 ·exact .inl h0
 ·refine .inr ⟨b,off,e,fun i hi => ?_⟩
  have hlt : b < w.heap.size := World.block_lt_of_cell? w ⟨b,off + i,none⟩ (hc i hi)
  exact (hb.cell (p := ⟨b,off + i,none⟩) hlt).trans (hc i hi)
theorem RowI.rowL {w : World} {a : Option Addr} {len cap : Nat} {l : List Int} (h : RowI w a len cap l) : RowL w a len l := ⟨h.1,Nat.le_trans h.2.1 h.2.2.1,h.2.2.2.2⟩
end Go.Proofs.YtcncbjknfcjnmaaGreat.Tp
namespace Go.Proofs.YtcncbjknfcjnmaaGreat.Tp
open Go.ChangeShapes Go.WideShapes Go.ChangeAt Go.RowKit
theorem temps_rise {m : Mp} {n : Nat} (h : TempsTo m n) : ∀ d i,i + d + 1 < n -> (m.tms.getD i tm0).g < (m.tms.getD (i + d + 1) tm0).g := by
 intro d
 induction d with
 | zero => intro i hi; exact (h (i + 1) hi).2.1 (by omega)
 | succ d ih =>
  intro i hi
  exact Int.lt_trans (ih i (by omega)) ((h (i + (d + 1) + 1) hi).2.1 (by omega))
theorem temps_ge {m : Mp} {n : Nat} (h : TempsTo m n) : ∀ i,i < n -> (i : Int) <= (m.tms.getD i tm0).g := by
 intro i
 induction i with
 | zero => intro hi; have := (h 0 hi).1.1; omega
 | succ i ih =>
  intro hi
  have h1 := ih (by omega)
  have h2 := (h (i + 1) hi).2.1 (by omega)
  rw [show i + 1 - 1 = i by omega] at h2
  omega
theorem MayM.stand {m : Mp} (h : MayM m) : StandOk m := by
 refine ⟨h.cnt.1,h.nds,?_,?_,?_⟩
 ·intro i j hij hj
  rw [List.length_map] at hj
  have := temps_rise h.tms (j - i - 1) i (by omega)
  rw [show i + (j - i - 1) + 1 = j by omega] at this
  simpa [List.getD_eq_getElem?_getD,hj,show i < m.tms.length by omega] using this
 ·by_cases h0 : m.tms.length = 0
  ·omega
  ·have h1 := temps_ge h.tms (m.tms.length - 1) (by omega)
   have h2 := (h.tms (m.tms.length - 1) (by omega)).1.2
   have h3 := h.cnt.2.2.2
   omega
 ·intro t ht
  obtain ⟨i,hi,rfl⟩ := List.getElem_of_mem ht
  have := (h.tms i hi).2.2.1.2
  rwa [show m.tms.getD i tm0 = m.tms[i] by simp [hi]] at this
theorem rawX_may {m : Mp} {s : MV} (hM : MayM m) {g : Int} (hg : 0 <= g /\ g < m.gr) (w : World) (h : MapAt w m s) : Calls Tryz.prog 23 #[.agg (mapCells m s).toArray,.int .i64 g] w fun e w' => IntsPost (rawP m g) w e w' :=
 rawX_yes hM.stand hg hM.cnt.2.2.2 w (fun W hb => (mcheck_any W (h.below hb)).mono fun e w' ⟨hb,hh⟩ => by
  rcases hh with ⟨he,_⟩ | ⟨_,hn⟩
  ·exact ⟨he,hb⟩
  ·exact absurd hM hn) h.nds h.tms
theorem actX_may {m : Mp} {s : MV} (hM : MayM m) {g : Int} (hg : 0 <= g /\ g < m.gr) (w : World) (h : MapAt w m s) : Calls Tryz.prog 25 #[.agg (mapCells m s).toArray,.int .i64 g] w fun e w' => IntsPost (actP m g) w e w' :=
 actX_yes hM.stand hg hM.cnt.2.2.2 w (fun W hb => (mcheck_any W (h.below hb)).mono fun e w' ⟨hb,hh⟩ => by
  rcases hh with ⟨he,_⟩ | ⟨_,hn⟩
  ·exact ⟨he,hb⟩
  ·exact absurd hM hn) h.nds h.tms
end Go.Proofs.YtcncbjknfcjnmaaGreat.Tp
namespace Go.Proofs.YtcncbjknfcjnmaaGreat.Tp
open Go.ChangeShapes Go.WideShapes Go.ChangeAt Go.RowKit
def refClean (m : Mp) (g wt : Int) : Int := if ¬ (0 <= g /\ g < m.gr) then 1 else if (m.trs.getD g.toNat tr0).since ≠ wt then 5 else if (m.trs.getD g.toNat tr0).past.length = 0 then 7 else 0
theorem inB_yes {x lo hi : Int} (h : lo <= x /\ x <= hi) : inB x lo hi = true := by simp [inB,h.1,h.2]
theorem inB_no {x lo hi : Int} (h : ¬ (lo <= x /\ x <= hi)) : inB x lo hi = false := by
 simp [inB]
 omega
set_option maxHeartbeats 2000000 in
set_option maxRecDepth 60000 in
theorem refuseClean_any {m : Mp} {s : MV} (hgr : 1 <= m.gr /\ m.gr <= 8) (htl : (m.trs.length : Int) = m.gr) (k id z r wt g : Int) (a : Option Addr) (len cap : Nat) (w : World) (h : TrsAt w s.aR s.lR s.cR m.trs) :
  Calls Tryz.prog 67 #[.agg (mapCells m s).toArray,.agg #[.int .i64 k,.int .i64 id,.int .i64 z,.int .i64 r,.int .i64 wt,.int .i64 g,.slice a len cap]] w fun e w' => e = .returned (.int .i64 (refClean m g wt)) /\ Below w.heap.size w w' := by
 have HT : Hid (TrsAt w s.aR s.lR s.cR m.trs) := h
 have hlR : (s.lR : Int) = m.gr := by rw [<- htl,h.1]
 have HHG : Hid (∀ W,Calls Tryz.prog 52 #[.agg (mapCells m s).toArray,.int .i64 g] W fun e w' => e = .returned (.bool (inB g 0 (m.gr - 1))) /\ Below W.heap.size W w') := fun W => hasGroup_any m s g hgr W
 rw [map_split] at HHG
 rw [map_split]
 obtain ⟨aN,lN,cN,aT,lT,cT,aR,lR,cR⟩ := s
 simp only at *
 clear h htl
 by_cases hg : 0 <= g /\ g < m.gr
 ·rw [inB_yes ⟨hg.1,by omega⟩] at HHG
  obtain ⟨gi,rfl⟩ : ∃ gi : Nat,g = gi := ⟨g.toNat,by omega⟩
  have hgi : gi < lR := by omega
  have HE : Hid (refClean m (gi : Int) wt = if (m.trs.getD gi tr0).since ≠ wt then 5 else if (m.trs.getD gi tr0).past.length = 0 then 7 else 0) := by
   show _ = _
   unfold refClean
   rw [if_neg (by omega)]
   rfl
  obtain ⟨w1,hw1⟩ : ∃ w1,w1 = ((w.alloc (.cells #[.int .i64 m.ep,.int .i64 m.size,.int .i64 m.mn,.int .i64 m.gr,.slice aN lN cN,.slice aT lT cT,.slice aR lR cR] 26)).alloc (.cells #[.int .i64 k,.int .i64 id,.int .i64 z,.int .i64 r,.int .i64 wt,.int .i64 (gi : Int),.slice a len cap] 37)) := ⟨_,rfl⟩
  have hb1 : Below w.heap.size w w1 := by rw [hw1]; exact below2 (below_alloc _ _) (below_alloc _ _)
  have HBA : Hid (Box7 w1 w.heap.size (.int .i64 m.ep) (.int .i64 m.size) (.int .i64 m.mn) (.int .i64 m.gr) (.slice aN lN cN) (.slice aT lT cT) (.slice aR lR cR)) := by
   rw [hw1]
   exact (Box7.new w _ _ _ _ _ _ _ _).below (below_alloc _ _)
  have HBD : Hid (Box7 w1 (w.heap.size + 1) (.int .i64 k) (.int .i64 id) (.int .i64 z) (.int .i64 r) (.int .i64 wt) (.int .i64 (gi : Int)) (.slice a len cap)) := by
   rw [hw1]
   have := Box7.new (w.alloc (.cells #[.int .i64 m.ep,.int .i64 m.size,.int .i64 m.mn,.int .i64 m.gr,.slice aN lN cN,.slice aT lT cT,.slice aR lR cR] 26)) (.int .i64 k) (.int .i64 id) (.int .i64 z) (.int .i64 r) (.int .i64 wt) (.int .i64 (gi : Int)) (.slice a len cap) 37
   rwa [show (w.alloc (.cells #[.int .i64 m.ep,.int .i64 m.size,.int .i64 m.mn,.int .i64 m.gr,.slice aN lN cN,.slice aT lT cT,.slice aR lR cR] 26)).heap.size = w.heap.size + 1 by simp] at this
  have HB1 : Hid (Below w.heap.size w w1) := hb1
  have HW1 : Hid (w1 = ((w.alloc (.cells #[.int .i64 m.ep,.int .i64 m.size,.int .i64 m.mn,.int .i64 m.gr,.slice aN lN cN,.slice aT lT cT,.slice aR lR cR] 26)).alloc (.cells #[.int .i64 k,.int .i64 id,.int .i64 z,.int .i64 r,.int .i64 wt,.int .i64 (gi : Int),.slice a len cap] 37))) := hw1
  clear hw1 hb1
  obtain ⟨b,off,rfl,hbs,hcell⟩ := HT.out.some (by omega)
  obtain ⟨e0,aq,lq,cq,e1,hpast⟩ := hcell gi hgi
  have HLQ : Hid ((m.trs.getD gi tr0).past.length = lq) := hpast.1
  have HCE : Hid (∀ W,Below w.heap.size w W -> W.cell? ⟨b,off + gi * 2,none⟩ = some (.int .i64 (m.trs.getD gi tr0).since) /\ W.cell? ⟨b,off + gi * 2 + 1,none⟩ = some (.slice aq lq cq)) := fun W hW => ⟨(hW.cell (p := ⟨b,off + gi * 2,none⟩) hbs).trans e0,(hW.cell (p := ⟨b,off + gi * 2 + 1,none⟩) hbs).trans e1⟩
  have hgi1 : (gi : Int) < (lR : Int) := by omega
  clear hcell hpast e0 e1 HT hg hlR hgr
  generalize (m.trs.getD gi tr0).since = sn at *
  by_cases h1 : sn = wt
  ·have b1 : (sn != wt) = false := by simp [h1]
   by_cases h2 : lq = 0
   ·have HR : Hid (refClean m (gi : Int) wt = 7) := by
     show _ = _
     rw [HE.out,if_neg (by simp [h1]),if_pos (by rw [HLQ.out]; exact h2)]
    have b2 : ((lq : Int) == 0) = true := by simp [h2]
    rw [HR.out]
    go_enter Tryz.func67,Tryz.ntmps67
    go_upto_region 1 with fail
    rw [<- HW1.out]
    obtain ⟨⟨c0,c1,c2,c3,c4,c5,c6⟩,-⟩ := HBA.out.below (Below.refl _ _); obtain ⟨⟨d0,d1,d2,d3,d4,d5,d6⟩,-⟩ := HBD.out.below (Below.refl _ _); have hlD : w.heap.size + 1 < w1.heap.size := (HBD.out.below (Below.refl _ _)).lt; have hlA : w.heap.size < w1.heap.size := (HBA.out.below (Below.refl _ _)).lt
    go_wp2_with (go_at_call 52; refine (HHG.out _).mono ?_; rintro e w2 ⟨rfl,hb2⟩; obtain ⟨⟨c0',c1',c2',c3',c4',c5',c6'⟩,-⟩ := HBA.out.below hb2; obtain ⟨⟨d0',d1',d2',d3',d4',d5',d6'⟩,-⟩ := HBD.out.below hb2; have hlD' : w.heap.size + 1 < w2.heap.size := (HBD.out.below hb2).lt; have hlA' : w.heap.size < w2.heap.size := (HBA.out.below hb2).lt; obtain ⟨q0,q1⟩ := HCE.out w2 (below2 HB1.out hb2))
    go_ret
    exact ⟨rfl,below2 HB1.out (below2 hb2 (by go_grown))⟩
   ·have HR : Hid (refClean m (gi : Int) wt = 0) := by
     show _ = _
     rw [HE.out,if_neg (by simp [h1]),if_neg (by rw [HLQ.out]; exact h2)]
    have b2 : ((lq : Int) == 0) = false := by simp [h2]
    rw [HR.out]
    go_enter Tryz.func67,Tryz.ntmps67
    go_upto_region 1 with fail
    rw [<- HW1.out]
    obtain ⟨⟨c0,c1,c2,c3,c4,c5,c6⟩,-⟩ := HBA.out.below (Below.refl _ _); obtain ⟨⟨d0,d1,d2,d3,d4,d5,d6⟩,-⟩ := HBD.out.below (Below.refl _ _); have hlD : w.heap.size + 1 < w1.heap.size := (HBD.out.below (Below.refl _ _)).lt; have hlA : w.heap.size < w1.heap.size := (HBA.out.below (Below.refl _ _)).lt
    go_wp2_with (go_at_call 52; refine (HHG.out _).mono ?_; rintro e w2 ⟨rfl,hb2⟩; obtain ⟨⟨c0',c1',c2',c3',c4',c5',c6'⟩,-⟩ := HBA.out.below hb2; obtain ⟨⟨d0',d1',d2',d3',d4',d5',d6'⟩,-⟩ := HBD.out.below hb2; have hlD' : w.heap.size + 1 < w2.heap.size := (HBD.out.below hb2).lt; have hlA' : w.heap.size < w2.heap.size := (HBA.out.below hb2).lt; obtain ⟨q0,q1⟩ := HCE.out w2 (below2 HB1.out hb2))
    go_ret
    exact ⟨rfl,below2 HB1.out (below2 hb2 (by go_grown))⟩
  ·have HR : Hid (refClean m (gi : Int) wt = 5) := by
    show _ = _
    rw [HE.out,if_pos h1]
   have b1 : (sn != wt) = true := by simpa using h1
   rw [HR.out]
   go_enter Tryz.func67,Tryz.ntmps67
   go_upto_region 1 with fail
   rw [<- HW1.out]
   obtain ⟨⟨c0,c1,c2,c3,c4,c5,c6⟩,-⟩ := HBA.out.below (Below.refl _ _); obtain ⟨⟨d0,d1,d2,d3,d4,d5,d6⟩,-⟩ := HBD.out.below (Below.refl _ _); have hlD : w.heap.size + 1 < w1.heap.size := (HBD.out.below (Below.refl _ _)).lt; have hlA : w.heap.size < w1.heap.size := (HBA.out.below (Below.refl _ _)).lt
   go_wp2_with (go_at_call 52; refine (HHG.out _).mono ?_; rintro e w2 ⟨rfl,hb2⟩; obtain ⟨⟨c0',c1',c2',c3',c4',c5',c6'⟩,-⟩ := HBA.out.below hb2; obtain ⟨⟨d0',d1',d2',d3',d4',d5',d6'⟩,-⟩ := HBD.out.below hb2; have hlD' : w.heap.size + 1 < w2.heap.size := (HBD.out.below hb2).lt; have hlA' : w.heap.size < w2.heap.size := (HBA.out.below hb2).lt; obtain ⟨q0,q1⟩ := HCE.out w2 (below2 HB1.out hb2))
   go_ret
   exact ⟨rfl,below2 HB1.out (below2 hb2 (by go_grown))⟩
 ·rw [inB_no (by omega)] at HHG
  have HR : Hid (refClean m g wt = 1) := by
   show _ = _
   unfold refClean
   rw [if_pos hg]
  obtain ⟨w1,hw1⟩ : ∃ w1,w1 = ((w.alloc (.cells #[.int .i64 m.ep,.int .i64 m.size,.int .i64 m.mn,.int .i64 m.gr,.slice aN lN cN,.slice aT lT cT,.slice aR lR cR] 26)).alloc (.cells #[.int .i64 k,.int .i64 id,.int .i64 z,.int .i64 r,.int .i64 wt,.int .i64 g,.slice a len cap] 37)) := ⟨_,rfl⟩
  have hb1 : Below w.heap.size w w1 := by rw [hw1]; exact below2 (below_alloc _ _) (below_alloc _ _)
  have HBA : Hid (Box7 w1 w.heap.size (.int .i64 m.ep) (.int .i64 m.size) (.int .i64 m.mn) (.int .i64 m.gr) (.slice aN lN cN) (.slice aT lT cT) (.slice aR lR cR)) := by
   rw [hw1]
   exact (Box7.new w _ _ _ _ _ _ _ _).below (below_alloc _ _)
  have HBD : Hid (Box7 w1 (w.heap.size + 1) (.int .i64 k) (.int .i64 id) (.int .i64 z) (.int .i64 r) (.int .i64 wt) (.int .i64 g) (.slice a len cap)) := by
   rw [hw1]
   have := Box7.new (w.alloc (.cells #[.int .i64 m.ep,.int .i64 m.size,.int .i64 m.mn,.int .i64 m.gr,.slice aN lN cN,.slice aT lT cT,.slice aR lR cR] 26)) (.int .i64 k) (.int .i64 id) (.int .i64 z) (.int .i64 r) (.int .i64 wt) (.int .i64 g) (.slice a len cap) 37
   rwa [show (w.alloc (.cells #[.int .i64 m.ep,.int .i64 m.size,.int .i64 m.mn,.int .i64 m.gr,.slice aN lN cN,.slice aT lT cT,.slice aR lR cR] 26)).heap.size = w.heap.size + 1 by simp] at this
  have HB1 : Hid (Below w.heap.size w w1) := hb1
  have HW1 : Hid (w1 = ((w.alloc (.cells #[.int .i64 m.ep,.int .i64 m.size,.int .i64 m.mn,.int .i64 m.gr,.slice aN lN cN,.slice aT lT cT,.slice aR lR cR] 26)).alloc (.cells #[.int .i64 k,.int .i64 id,.int .i64 z,.int .i64 r,.int .i64 wt,.int .i64 g,.slice a len cap] 37))) := hw1
  clear hw1 hb1
  rw [HR.out]
  go_enter Tryz.func67,Tryz.ntmps67
  go_upto_region 1 with fail
  rw [<- HW1.out]
  obtain ⟨⟨c0,c1,c2,c3,c4,c5,c6⟩,-⟩ := HBA.out.below (Below.refl _ _); obtain ⟨⟨d0,d1,d2,d3,d4,d5,d6⟩,-⟩ := HBD.out.below (Below.refl _ _); have hlD : w.heap.size + 1 < w1.heap.size := (HBD.out.below (Below.refl _ _)).lt; have hlA : w.heap.size < w1.heap.size := (HBA.out.below (Below.refl _ _)).lt
  go_wp2_with (go_at_call 52; refine (HHG.out _).mono ?_; rintro e w2 ⟨rfl,hb2⟩)
  go_ret
  exact ⟨rfl,below2 HB1.out hb2⟩
end Go.Proofs.YtcncbjknfcjnmaaGreat.Tp
