/-
  What refuses a delta: refusalToAdd, refusalToPin.
-/
import Derived.Test.YtcncbjknfcjnmaaGreatPr22
namespace Go.Proofs.YtcncbjknfcjnmaaGreat.Tp
open Go.ChangeShapes Go.WideShapes Go.ChangeAt Go.RowKit
instance (x : Nd) : Decidable (InN x) := by unfold InN; infer_instance
noncomputable instance (ls : List Nd) (ids : List Int) : Decidable (ApartP ls ids) := Classical.propDecidable _
def refAdd (m : Mp) (id z r wt : Int) : Int := if (findN m.nds id).isSome = true then 7 else if m.nds.length = 12 then 6 else if InN ⟨id,z,r,wt,false,true⟩ then 0 else 1
theorem one_in {x : Nd} (h : MayN [x]) : InN x := (h.2 0 (by simp)).1
theorem node_find (m : Mp) (s : MV) (id : Int) (w : World) (hN : NdsAt w s.aN s.lN s.cN m.nds) (hM : MayN m.nds) : Calls Tryz.prog 68 #[.agg (mapCells m s).toArray,.int .i64 id] w fun e w' => ∃ p : Nat,e = .returned (.tuple #[.int .i64 (p : Int),.bool (findN m.nds id).isSome]) /\ Below w.heap.size w w' /\ SrchIs (m.nds.map (·.id)) id p (findN m.nds id).isSome := by
 refine (node_any m s id w hN hM).mono fun e w' ⟨hb,p,t,he,hI⟩ => ?_
 have hu := srch_up hM hI
 have ht : (findN m.nds id).isSome = t := by
  cases t
  ·rw [(hu.2 rfl).2]; rfl
  ·rw [(hu.1 rfl).2.2]; rfl
 rw [ht]
 exact ⟨p,he,hb,hI⟩
set_option maxHeartbeats 2000000 in
set_option maxRecDepth 60000 in
theorem refuseAdd_any {m : Mp} {s : MV} (hM : MayN m.nds) (k id z r wt g : Int) (a : Option Addr) (len cap : Nat) (w : World) (hN : NdsAt w s.aN s.lN s.cN m.nds) :
  Calls Tryz.prog 65 #[.agg (mapCells m s).toArray,.agg #[.int .i64 k,.int .i64 id,.int .i64 z,.int .i64 r,.int .i64 wt,.int .i64 g,.slice a len cap]] w fun e w' => e = .returned (.int .i64 (refAdd m id z r wt)) /\ Below w.heap.size w w' := by
 have HC : Hid (∀ W,Below w.heap.size w W -> Calls Tryz.prog 68 #[.agg (mapCells m s).toArray,.int .i64 id] W fun e w' => ∃ p : Nat,e = .returned (.tuple #[.int .i64 (p : Int),.bool (findN m.nds id).isSome]) /\ Below W.heap.size W w') := fun W hb => (node_find m s id W (hN.below hb) hM).mono fun _ _ ⟨p,he,hb,_⟩ => ⟨p,he,hb⟩
 have HL : Hid (m.nds.length = s.lN) := hN.1
 have hl12 : (s.lN : Int) <= 12 := by have := hM.1; rw [<- hN.1]; omega
 have HA : Hid (∀ W,Calls Tryz.prog 88 #[.agg #[.int .i64 k,.int .i64 id,.int .i64 z,.int .i64 r,.int .i64 wt,.int .i64 g,.slice a len cap]] W fun e w' => e = .returned (.agg #[.int .i64 id,.int .i64 z,.int .i64 r,.int .i64 wt,.bool false,.bool true]) /\ Below W.heap.size W w') := fun W => (added_any k id z r wt g a len cap W).mono fun e w' ⟨he,hg⟩ => ⟨he,grown_below hg⟩
 have HKY : Hid (InN ⟨id,z,r,wt,false,true⟩ -> ∀ W : World,Calls Tryz.prog 40 #[.slice (some ⟨W.heap.size,0,none⟩) 1 1] (W.alloc (.cells #[.int .i64 id,.int .i64 z,.int .i64 r,.int .i64 wt,.bool false,.bool true] 72)) fun e w' => e = .returned (.int .i64 0) /\ Below (W.alloc (.cells #[.int .i64 id,.int .i64 z,.int .i64 r,.int .i64 wt,.bool false,.bool true] 72)).heap.size (W.alloc (.cells #[.int .i64 id,.int .i64 z,.int .i64 r,.int .i64 wt,.bool false,.bool true] 72)) w') := fun hx W => (check_any _ 1 1 [⟨id,z,r,wt,false,true⟩] _ (one_at W ⟨id,z,r,wt,false,true⟩)).mono fun e w' ⟨hb,hh⟩ => by
  rcases hh with ⟨he,_⟩ | ⟨_,hno⟩
  ·exact ⟨he,hb⟩
  ·exact absurd (one_may hx) hno
 have HKN : Hid (¬ InN ⟨id,z,r,wt,false,true⟩ -> ∀ W : World,Calls Tryz.prog 40 #[.slice (some ⟨W.heap.size,0,none⟩) 1 1] (W.alloc (.cells #[.int .i64 id,.int .i64 z,.int .i64 r,.int .i64 wt,.bool false,.bool true] 72)) fun e w' => e = .returned (.int .i64 1) /\ Below (W.alloc (.cells #[.int .i64 id,.int .i64 z,.int .i64 r,.int .i64 wt,.bool false,.bool true] 72)).heap.size (W.alloc (.cells #[.int .i64 id,.int .i64 z,.int .i64 r,.int .i64 wt,.bool false,.bool true] 72)) w') := fun hx W => (check_any _ 1 1 [⟨id,z,r,wt,false,true⟩] _ (one_at W ⟨id,z,r,wt,false,true⟩)).mono fun e w' ⟨hb,hh⟩ => by
  rcases hh with ⟨_,hy⟩ | ⟨he,_⟩
  ·exact absurd (one_in hy) hx
  ·exact ⟨he,hb⟩
 have HE : Hid (refAdd m id z r wt = if (findN m.nds id).isSome = true then 7 else if m.nds.length = 12 then 6 else if InN ⟨id,z,r,wt,false,true⟩ then 0 else 1) := rfl
 rw [map_split] at HC
 rw [map_split]
 obtain ⟨aN,lN,cN,aT,lT,cT,aR,lR,cR⟩ := s
 simp only at *
 clear hN hM
 obtain ⟨w1,hw1⟩ : ∃ w1,w1 = ((w.alloc (.cells #[.int .i64 m.ep,.int .i64 m.size,.int .i64 m.mn,.int .i64 m.gr,.slice aN lN cN,.slice aT lT cT,.slice aR lR cR] 26)).alloc (.cells #[.int .i64 k,.int .i64 id,.int .i64 z,.int .i64 r,.int .i64 wt,.int .i64 g,.slice a len cap] 37)) := ⟨_,rfl⟩
 have hb1 : Below w.heap.size w w1 := by rw [hw1]; exact below2 (below_alloc _ _) (below_alloc _ _)
 have HBA : Hid (Box7 w1 w.heap.size (.int .i64 m.ep) (.int .i64 m.size) (.int .i64 m.mn) (.int .i64 m.gr) (.slice aN lN cN) (.slice aT lT cT) (.slice aR lR cR)) := by
  rw [hw1]
  exact (Box7.new w _ _ _ _ _ _ _ _).below (below_alloc _ _)
 have HBD : Hid (Box7 w1 (w.heap.size + 1) (.int .i64 k) (.int .i64 id) (.int .i64 z) (.int .i64 r) (.int .i64 wt) (.int .i64 g) (.slice a len cap)) := by
  rw [hw1]
  have := Box7.new (w.alloc (.cells #[.int .i64 m.ep,.int .i64 m.size,.int .i64 m.mn,.int .i64 m.gr,.slice aN lN cN,.slice aT lT cT,.slice aR lR cR] 26)) (.int .i64 k) (.int .i64 id) (.int .i64 z) (.int .i64 r) (.int .i64 wt) (.int .i64 g) (.slice a len cap) 37
  rwa [show (w.alloc (.cells #[.int .i64 m.ep,.int .i64 m.size,.int .i64 m.mn,.int .i64 m.gr,.slice aN lN cN,.slice aT lT cT,.slice aR lR cR] 26)).heap.size = w.heap.size + 1 by simp] at this
 have HB1 : Hid (Below w.heap.size w w1) := hb1
 have HW1 : Hid (w1 = ((w.alloc (.cells #[.int .i64 m.ep,.int .i64 m.size,.int .i64 m.mn,.int .i64 m.gr,.slice aN lN cN,.slice aT lT cT,.slice aR lR cR] 26)).alloc (.cells #[.int .i64 k,.int .i64 id,.int .i64 z,.int .i64 r,.int .i64 wt,.int .i64 g,.slice a len cap] 37))) := hw1
 clear hw1 hb1
 by_cases h1 : (findN m.nds id).isSome = true
 ·have HR : Hid (refAdd m id z r wt = 7) := by
   show _ = _
   rw [HE.out,if_pos h1]
  rw [h1] at HC
  rw [HR.out]
  clear HE h1 HKY HKN
  go_enter Tryz.func65,Tryz.ntmps65
  go_upto_region 1 with fail
  rw [<- HW1.out]
  obtain ⟨⟨c0,c1,c2,c3,c4,c5,c6⟩,-⟩ := HBA.out.below (Below.refl _ _); obtain ⟨⟨d0,d1,d2,d3,d4,d5,d6⟩,-⟩ := HBD.out.below (Below.refl _ _); have hlD : w.heap.size + 1 < w1.heap.size := (HBD.out.below (Below.refl _ _)).lt; have hlA : w.heap.size < w1.heap.size := (HBA.out.below (Below.refl _ _)).lt
  go_wp2_with (go_at_call 68; refine (HC.out _ HB1.out).mono ?_; rintro e w2 ⟨p,rfl,hb2⟩)
  go_ret
  exact ⟨rfl,below2 HB1.out hb2⟩
 ·rw [Bool.not_eq_true] at h1
  rw [h1] at HC
  by_cases h2 : lN = 12
  ·have HR : Hid (refAdd m id z r wt = 6) := by
    show _ = _
    rw [HE.out,if_neg (by rw [h1]; simp),if_pos (by rw [HL.out]; exact h2)]
   have b2 : ((lN : Int) == 12) = true := by simp [h2]
   rw [HR.out]
   clear HE h1 HKY HKN h2
   go_enter Tryz.func65,Tryz.ntmps65
   go_upto_region 1 with fail
   rw [<- HW1.out]
   obtain ⟨⟨c0,c1,c2,c3,c4,c5,c6⟩,-⟩ := HBA.out.below (Below.refl _ _); obtain ⟨⟨d0,d1,d2,d3,d4,d5,d6⟩,-⟩ := HBD.out.below (Below.refl _ _); have hlD : w.heap.size + 1 < w1.heap.size := (HBD.out.below (Below.refl _ _)).lt; have hlA : w.heap.size < w1.heap.size := (HBA.out.below (Below.refl _ _)).lt
   go_wp2_with (go_at_call 68; refine (HC.out _ HB1.out).mono ?_; rintro e w2 ⟨p,rfl,hb2⟩; obtain ⟨⟨c0',c1',c2',c3',c4',c5',c6'⟩,-⟩ := HBA.out.below hb2; obtain ⟨⟨d0',d1',d2',d3',d4',d5',d6'⟩,-⟩ := HBD.out.below hb2; have hlD' : w.heap.size + 1 < w2.heap.size := (HBD.out.below hb2).lt; have hlA' : w.heap.size < w2.heap.size := (HBA.out.below hb2).lt)
   go_ret
   exact ⟨rfl,below2 HB1.out hb2⟩
  ·have b2 : ((lN : Int) == 12) = false := by simp; omega
   by_cases h3 : InN ⟨id,z,r,wt,false,true⟩
   ·have HR : Hid (refAdd m id z r wt = 0) := by
     show _ = _
     rw [HE.out,if_neg (by rw [h1]; simp),if_neg (by rw [HL.out]; exact h2),if_pos h3]
    have HK := HKY.out h3
    rw [HR.out]
    clear HE h1 HKY HKN h2 h3
    go_enter Tryz.func65,Tryz.ntmps65
    go_upto_region 1 with fail
    rw [<- HW1.out]
    obtain ⟨⟨c0,c1,c2,c3,c4,c5,c6⟩,-⟩ := HBA.out.below (Below.refl _ _); obtain ⟨⟨d0,d1,d2,d3,d4,d5,d6⟩,-⟩ := HBD.out.below (Below.refl _ _); have hlD : w.heap.size + 1 < w1.heap.size := (HBD.out.below (Below.refl _ _)).lt; have hlA : w.heap.size < w1.heap.size := (HBA.out.below (Below.refl _ _)).lt
    go_wp2_with (first | (go_at_call 68; refine (HC.out _ HB1.out).mono ?_; rintro e w2 ⟨p,rfl,hb2⟩; obtain ⟨⟨c0',c1',c2',c3',c4',c5',c6'⟩,-⟩ := HBA.out.below hb2; obtain ⟨⟨d0',d1',d2',d3',d4',d5',d6'⟩,-⟩ := HBD.out.below hb2; have hlD' : w.heap.size + 1 < w2.heap.size := (HBD.out.below hb2).lt; have hlA' : w.heap.size < w2.heap.size := (HBA.out.below hb2).lt) | (go_at_call 88; refine (HA.out _).mono ?_; rintro e w3 ⟨rfl,hb3⟩) | (go_at_call 40; refine (HK _).mono ?_; rintro e w4 ⟨rfl,hb4⟩))
    go_ret
    exact ⟨rfl,below2 HB1.out (below2 hb2 (below2 hb3 (below2 (below_alloc _ _) hb4)))⟩
   ·have HR : Hid (refAdd m id z r wt = 1) := by
     show _ = _
     rw [HE.out,if_neg (by rw [h1]; simp),if_neg (by rw [HL.out]; exact h2),if_neg h3]
    have HK := HKN.out h3
    rw [HR.out]
    clear HE h1 HKY HKN h2 h3
    go_enter Tryz.func65,Tryz.ntmps65
    go_upto_region 1 with fail
    rw [<- HW1.out]
    obtain ⟨⟨c0,c1,c2,c3,c4,c5,c6⟩,-⟩ := HBA.out.below (Below.refl _ _); obtain ⟨⟨d0,d1,d2,d3,d4,d5,d6⟩,-⟩ := HBD.out.below (Below.refl _ _); have hlD : w.heap.size + 1 < w1.heap.size := (HBD.out.below (Below.refl _ _)).lt; have hlA : w.heap.size < w1.heap.size := (HBA.out.below (Below.refl _ _)).lt
    go_wp2_with (first | (go_at_call 68; refine (HC.out _ HB1.out).mono ?_; rintro e w2 ⟨p,rfl,hb2⟩; obtain ⟨⟨c0',c1',c2',c3',c4',c5',c6'⟩,-⟩ := HBA.out.below hb2; obtain ⟨⟨d0',d1',d2',d3',d4',d5',d6'⟩,-⟩ := HBD.out.below hb2; have hlD' : w.heap.size + 1 < w2.heap.size := (HBD.out.below hb2).lt; have hlA' : w.heap.size < w2.heap.size := (HBA.out.below hb2).lt) | (go_at_call 88; refine (HA.out _).mono ?_; rintro e w3 ⟨rfl,hb3⟩) | (go_at_call 40; refine (HK _).mono ?_; rintro e w4 ⟨rfl,hb4⟩))
    go_ret
    exact ⟨rfl,below2 HB1.out (below2 hb2 (below2 hb3 (below2 (below_alloc _ _) hb4)))⟩
def standsP (m : Mp) (g : Int) : List Int := match m.tms.find? (fun t => t.g == g) with | some t => t.ns | none => []
noncomputable def refPin (m : Mp) (g : Int) (ns : List Int) : Int := if ¬ (0 <= g /\ g < m.gr) ∨ m.size < (ns.length : Int) then 1 else if standsP m g = ns then 7 else if ApartP m.nds ns then 0 else 12
set_option maxHeartbeats 4000000 in
set_option maxRecDepth 60000 in
theorem refusePin_any {m : Mp} {s : MV} (hS : StandOk m) (hgr : 1 <= m.gr /\ m.gr <= 8) (k id z r wt g : Int) (a : Option Addr) (len cap : Nat) (ns : List Int) (w : World) (hN : NdsAt w s.aN s.lN s.cN m.nds) (hT : TmsAt w s.aT s.lT s.cT m.tms) (hD : RowI w a len cap ns) :
  Calls Tryz.prog 66 #[.agg (mapCells m s).toArray,.agg #[.int .i64 k,.int .i64 id,.int .i64 z,.int .i64 r,.int .i64 wt,.int .i64 g,.slice a len cap]] w fun e w' => e = .returned (.int .i64 (refPin m g ns)) /\ Below w.heap.size w w' := by
 have HHG : Hid (∀ W,Calls Tryz.prog 52 #[.agg (mapCells m s).toArray,.int .i64 g] W fun e w' => e = .returned (.bool (inB g 0 (m.gr - 1))) /\ Below W.heap.size W w') := fun W => hasGroup_any m s g hgr W
 have HTM : Hid (∀ W,Below w.heap.size w W -> Calls Tryz.prog 82 #[.agg (mapCells m s).toArray,.int .i64 g] W fun e w' => Below W.heap.size W w' /\ ((∃ p : Nat,e = .returned (.tuple #[.int .i64 (p : Int),.bool true]) /\ p < s.lT /\ (m.tms.getD p tm0).ns = standsP m g) ∨ (∃ p : Nat,e = .returned (.tuple #[.int .i64 (p : Int),.bool false]) /\ standsP m g = []))) := fun W hb => (temp_any m s g W (hT.below hb) hS.rise hS.few).mono fun e w' ⟨hb,p,t,he,hI⟩ => by
  have hf := srch_find hS.rise hI
  refine ⟨hb,?_⟩
  cases t
  ·exact .inr ⟨p,he,by unfold standsP; rw [hf.2 rfl]⟩
  ·exact .inl ⟨p,he,by rw [<- hT.1]; exact (hf.1 rfl).1,by unfold standsP; rw [(hf.1 rfl).2]⟩
 have HEQ : Hid (∀ W b n c l,RowI W b n c l -> Below w.heap.size w W -> Calls Tryz.prog 72 #[.slice b n c,.slice a len cap] W fun e w' => e = .returned (.bool (decide (l = ns))) /\ Below W.heap.size W w') := fun W b n c l hl hb => (eqInts b a n c len cap l ns W hl (hD.below hb)).mono fun _ _ ⟨he,hg⟩ => ⟨he,grown_below hg⟩
 have HAP : Hid (∀ W,Below w.heap.size w W -> Calls Tryz.prog 75 #[.slice s.aN s.lN s.cN,.slice a len cap] W fun e w' => BoolPost (ApartP m.nds ns) W e w') := fun W hb => apart_any hS.nds a len cap ns W (hN.below hb) (hD.below hb)
 have HT : Hid (TmsAt w s.aT s.lT s.cT m.tms) := hT
 have hlen : ns.length = len := hD.1
 have HE : Hid (refPin m g ns = if ¬ (0 <= g /\ g < m.gr) ∨ m.size < (ns.length : Int) then 1 else if standsP m g = ns then 7 else if ApartP m.nds ns then 0 else 12) := rfl
 rw [hlen] at HE
 rw [map_split] at HHG HTM
 rw [map_split]
 obtain ⟨aN,lN,cN,aT,lT,cT,aR,lR,cR⟩ := s
 simp only at *
 clear hN hT hD hlen
 obtain ⟨w1,hw1⟩ : ∃ w1,w1 = ((w.alloc (.cells #[.int .i64 m.ep,.int .i64 m.size,.int .i64 m.mn,.int .i64 m.gr,.slice aN lN cN,.slice aT lT cT,.slice aR lR cR] 26)).alloc (.cells #[.int .i64 k,.int .i64 id,.int .i64 z,.int .i64 r,.int .i64 wt,.int .i64 g,.slice a len cap] 37)) := ⟨_,rfl⟩
 have hb1 : Below w.heap.size w w1 := by rw [hw1]; exact below2 (below_alloc _ _) (below_alloc _ _)
 have HBA : Hid (Box7 w1 w.heap.size (.int .i64 m.ep) (.int .i64 m.size) (.int .i64 m.mn) (.int .i64 m.gr) (.slice aN lN cN) (.slice aT lT cT) (.slice aR lR cR)) := by
  rw [hw1]
  exact (Box7.new w _ _ _ _ _ _ _ _).below (below_alloc _ _)
 have HBD : Hid (Box7 w1 (w.heap.size + 1) (.int .i64 k) (.int .i64 id) (.int .i64 z) (.int .i64 r) (.int .i64 wt) (.int .i64 g) (.slice a len cap)) := by
  rw [hw1]
  have := Box7.new (w.alloc (.cells #[.int .i64 m.ep,.int .i64 m.size,.int .i64 m.mn,.int .i64 m.gr,.slice aN lN cN,.slice aT lT cT,.slice aR lR cR] 26)) (.int .i64 k) (.int .i64 id) (.int .i64 z) (.int .i64 r) (.int .i64 wt) (.int .i64 g) (.slice a len cap) 37
  rwa [show (w.alloc (.cells #[.int .i64 m.ep,.int .i64 m.size,.int .i64 m.mn,.int .i64 m.gr,.slice aN lN cN,.slice aT lT cT,.slice aR lR cR] 26)).heap.size = w.heap.size + 1 by simp] at this
 have HB1 : Hid (Below w.heap.size w w1) := hb1
 have HW1 : Hid (w1 = ((w.alloc (.cells #[.int .i64 m.ep,.int .i64 m.size,.int .i64 m.mn,.int .i64 m.gr,.slice aN lN cN,.slice aT lT cT,.slice aR lR cR] 26)).alloc (.cells #[.int .i64 k,.int .i64 id,.int .i64 z,.int .i64 r,.int .i64 wt,.int .i64 g,.slice a len cap] 37))) := hw1
 clear hw1 hb1
 by_cases hg : 0 <= g /\ g < m.gr
 ·rw [inB_yes ⟨hg.1,by omega⟩] at HHG
  by_cases hsz : m.size < (len : Int)
  ·have HR : Hid (refPin m g ns = 1) := by
    show _ = _
    rw [HE.out,if_pos (.inr hsz)]
   have bs : decide (m.size < (len : Int)) = true := by simpa using hsz
   rw [HR.out]
   clear HE HTM HEQ HAP
   go_enter Tryz.func66,Tryz.ntmps66
   go_upto_region 1 with fail
   rw [<- HW1.out]
   obtain ⟨⟨c0,c1,c2,c3,c4,c5,c6⟩,-⟩ := HBA.out.below (Below.refl _ _); obtain ⟨⟨d0,d1,d2,d3,d4,d5,d6⟩,-⟩ := HBD.out.below (Below.refl _ _); have hlD : w.heap.size + 1 < w1.heap.size := (HBD.out.below (Below.refl _ _)).lt; have hlA : w.heap.size < w1.heap.size := (HBA.out.below (Below.refl _ _)).lt
   go_wp2_with (go_at_call 52; refine (HHG.out _).mono ?_; rintro e w2 ⟨rfl,hb2⟩; obtain ⟨⟨c0',c1',c2',c3',c4',c5',c6'⟩,-⟩ := HBA.out.below hb2; obtain ⟨⟨d0',d1',d2',d3',d4',d5',d6'⟩,-⟩ := HBD.out.below hb2; have hlD' : w.heap.size + 1 < w2.heap.size := (HBD.out.below hb2).lt; have hlA' : w.heap.size < w2.heap.size := (HBA.out.below hb2).lt)
   go_ret
   exact ⟨rfl,below2 HB1.out hb2⟩
  ·have bs : decide (m.size < (len : Int)) = false := by simpa using hsz
   have HE2 : Hid (refPin m g ns = if standsP m g = ns then 7 else if ApartP m.nds ns then 0 else 12) := by
    show _ = _
    rw [HE.out,if_neg (by omega)]
   clear HE hg hgr
   go_enter Tryz.func66,Tryz.ntmps66
   go_upto_region 1 with fail
   rw [<- HW1.out]
   obtain ⟨⟨c0,c1,c2,c3,c4,c5,c6⟩,-⟩ := HBA.out.below (Below.refl _ _); obtain ⟨⟨d0,d1,d2,d3,d4,d5,d6⟩,-⟩ := HBD.out.below (Below.refl _ _); have hlD : w.heap.size + 1 < w1.heap.size := (HBD.out.below (Below.refl _ _)).lt; have hlA : w.heap.size < w1.heap.size := (HBA.out.below (Below.refl _ _)).lt
   go_upto_region 4 with (go_at_call 52; refine (HHG.out _).mono ?_; rintro e w2 ⟨rfl,hb2⟩; obtain ⟨⟨c0',c1',c2',c3',c4',c5',c6'⟩,-⟩ := HBA.out.below hb2; obtain ⟨⟨d0',d1',d2',d3',d4',d5',d6'⟩,-⟩ := HBD.out.below hb2; have hlD' : w.heap.size + 1 < w2.heap.size := (HBD.out.below hb2).lt; have hlA' : w.heap.size < w2.heap.size := (HBA.out.below hb2).lt)
   have HB2 : Hid (Below w.heap.size w w2) := below2 HB1.out hb2
   go_wp2_with fail
   refine (HTM.out _ HB2.out).mono ?_
   rintro e w3 ⟨hb3,hcase⟩
   obtain ⟨⟨c0q,c1q,c2q,c3q,c4q,c5q,c6q⟩,-⟩ := HBA.out.below (below2 hb2 hb3); obtain ⟨⟨d0q,d1q,d2q,d3q,d4q,d5q,d6q⟩,-⟩ := HBD.out.below (below2 hb2 hb3); have hlDq : w.heap.size + 1 < w3.heap.size := (HBD.out.below (below2 hb2 hb3)).lt; have hlAq : w.heap.size < w3.heap.size := (HBA.out.below (below2 hb2 hb3)).lt
   have HB3 : Hid (Below w.heap.size w w3) := below2 HB2.out hb3
   have HBA3 : Hid (Box7 w3 w.heap.size (.int .i64 m.ep) (.int .i64 m.size) (.int .i64 m.mn) (.int .i64 m.gr) (.slice aN lN cN) (.slice aT lT cT) (.slice aR lR cR)) := HBA.out.below (below2 hb2 hb3)
   have HBD3 : Hid (Box7 w3 (w.heap.size + 1) (.int .i64 k) (.int .i64 id) (.int .i64 z) (.int .i64 r) (.int .i64 wt) (.int .i64 g) (.slice a len cap)) := HBD.out.below (below2 hb2 hb3)
   clear c0 c1 c2 c3 c4 c5 c6 d0 d1 d2 d3 d4 d5 d6 c0' c1' c2' c3' c4' c5' c6' d0' d1' d2' d3' d4' d5' d6' hlA hlD hlA' hlD' hb2 hb3 HTM
   rcases hcase with ⟨p,rfl,hp,hst⟩ | ⟨p,rfl,hst⟩
   ·obtain ⟨b,off,rfl,hbs,hcell⟩ := (HT.out.below HB3.out).some (by omega)
    obtain ⟨e0,aq,lq,cq,e1,hrow⟩ := hcell p hp
    rw [hst] at hrow
    have HE3 := HEQ.out w3 aq lq cq _ hrow HB3.out
    have hp1 : (p : Int) < (lT : Int) := by omega
    clear hcell hrow e0 HT HEQ hst
    by_cases heq : standsP m g = ns
    ·rw [decide_eq_true heq] at HE3
     have HR : Hid (refPin m g ns = 7) := by
      show _ = _
      rw [HE2.out,if_pos heq]
     clear HE2 heq HAP
     go_wp2_with (go_at_call 72; refine HE3.mono ?_; rintro e w4 ⟨rfl,hb4⟩)
     go_ret
     exact ⟨by rw [HR.out]; rfl,below2 HB3.out hb4⟩
    ·rw [decide_eq_false heq] at HE3
     by_cases hap : ApartP m.nds ns
     ·have HR : Hid (refPin m g ns = 0) := by
       show _ = _
       rw [HE2.out,if_neg heq,if_pos hap]
      have HA4 : Hid (∀ W,Below w.heap.size w W -> Calls Tryz.prog 75 #[.slice aN lN cN,.slice a len cap] W fun e w' => e = .returned (.bool true) /\ Below W.heap.size W w') := fun W hb => bool_is (HAP.out W hb) hap
      clear HE2 heq HAP hap
      go_wp2_with (first | (go_at_call 72; refine HE3.mono ?_; rintro e w4 ⟨rfl,hb4⟩; obtain ⟨⟨c0r,c1r,c2r,c3r,c4r,c5r,c6r⟩,-⟩ := HBA3.out.below hb4; obtain ⟨⟨d0r,d1r,d2r,d3r,d4r,d5r,d6r⟩,-⟩ := HBD3.out.below hb4) | (go_at_call 75; refine (HA4.out _ (below2 HB3.out hb4)).mono ?_; rintro e w5 ⟨rfl,hb5⟩))
      go_ret
      exact ⟨by rw [HR.out]; rfl,below2 HB3.out (below2 hb4 hb5)⟩
     ·have HR : Hid (refPin m g ns = 12) := by
       show _ = _
       rw [HE2.out,if_neg heq,if_neg hap]
      have HA4 : Hid (∀ W,Below w.heap.size w W -> Calls Tryz.prog 75 #[.slice aN lN cN,.slice a len cap] W fun e w' => e = .returned (.bool false) /\ Below W.heap.size W w') := fun W hb => bool_isnt (HAP.out W hb) hap
      clear HE2 heq HAP hap
      go_wp2_with (first | (go_at_call 72; refine HE3.mono ?_; rintro e w4 ⟨rfl,hb4⟩; obtain ⟨⟨c0r,c1r,c2r,c3r,c4r,c5r,c6r⟩,-⟩ := HBA3.out.below hb4; obtain ⟨⟨d0r,d1r,d2r,d3r,d4r,d5r,d6r⟩,-⟩ := HBD3.out.below hb4) | (go_at_call 75; refine (HA4.out _ (below2 HB3.out hb4)).mono ?_; rintro e w5 ⟨rfl,hb5⟩))
      go_ret
      exact ⟨by rw [HR.out]; rfl,below2 HB3.out (below2 hb4 hb5)⟩
   ·have HE3 := HEQ.out w3 none 0 0 [] (RowI.nil w3) HB3.out
    clear HT HEQ
    by_cases heq : ([] : List Int) = ns
    ·rw [decide_eq_true heq] at HE3
     have HR : Hid (refPin m g ns = 7) := by
      show _ = _
      rw [HE2.out,if_pos (by rw [hst]; exact heq)]
     clear HE2 heq HAP
     go_wp2_with (go_at_call 72; refine HE3.mono ?_; rintro e w4 ⟨rfl,hb4⟩)
     go_ret
     exact ⟨by rw [HR.out]; rfl,below2 HB3.out hb4⟩
    ·rw [decide_eq_false heq] at HE3
     by_cases hap : ApartP m.nds ns
     ·have HR : Hid (refPin m g ns = 0) := by
       show _ = _
       rw [HE2.out,if_neg (by rw [hst]; exact heq),if_pos hap]
      have HA4 : Hid (∀ W,Below w.heap.size w W -> Calls Tryz.prog 75 #[.slice aN lN cN,.slice a len cap] W fun e w' => e = .returned (.bool true) /\ Below W.heap.size W w') := fun W hb => bool_is (HAP.out W hb) hap
      clear HE2 heq HAP hap
      go_wp2_with (first | (go_at_call 72; refine HE3.mono ?_; rintro e w4 ⟨rfl,hb4⟩; obtain ⟨⟨c0r,c1r,c2r,c3r,c4r,c5r,c6r⟩,-⟩ := HBA3.out.below hb4; obtain ⟨⟨d0r,d1r,d2r,d3r,d4r,d5r,d6r⟩,-⟩ := HBD3.out.below hb4) | (go_at_call 75; refine (HA4.out _ (below2 HB3.out hb4)).mono ?_; rintro e w5 ⟨rfl,hb5⟩))
      go_ret
      exact ⟨by rw [HR.out]; rfl,below2 HB3.out (below2 hb4 hb5)⟩
     ·have HR : Hid (refPin m g ns = 12) := by
       show _ = _
       rw [HE2.out,if_neg (by rw [hst]; exact heq),if_neg hap]
      have HA4 : Hid (∀ W,Below w.heap.size w W -> Calls Tryz.prog 75 #[.slice aN lN cN,.slice a len cap] W fun e w' => e = .returned (.bool false) /\ Below W.heap.size W w') := fun W hb => bool_isnt (HAP.out W hb) hap
      clear HE2 heq HAP hap
      go_wp2_with (first | (go_at_call 72; refine HE3.mono ?_; rintro e w4 ⟨rfl,hb4⟩; obtain ⟨⟨c0r,c1r,c2r,c3r,c4r,c5r,c6r⟩,-⟩ := HBA3.out.below hb4; obtain ⟨⟨d0r,d1r,d2r,d3r,d4r,d5r,d6r⟩,-⟩ := HBD3.out.below hb4) | (go_at_call 75; refine (HA4.out _ (below2 HB3.out hb4)).mono ?_; rintro e w5 ⟨rfl,hb5⟩))
      go_ret
      exact ⟨by rw [HR.out]; rfl,below2 HB3.out (below2 hb4 hb5)⟩
 ·rw [inB_no (by omega)] at HHG
  have HR : Hid (refPin m g ns = 1) := by
   show _ = _
   rw [HE.out,if_pos (.inl hg)]
  rw [HR.out]
  go_enter Tryz.func66,Tryz.ntmps66
  go_upto_region 1 with fail
  rw [<- HW1.out]
  obtain ⟨⟨c0,c1,c2,c3,c4,c5,c6⟩,-⟩ := HBA.out.below (Below.refl _ _); obtain ⟨⟨d0,d1,d2,d3,d4,d5,d6⟩,-⟩ := HBD.out.below (Below.refl _ _); have hlD : w.heap.size + 1 < w1.heap.size := (HBD.out.below (Below.refl _ _)).lt; have hlA : w.heap.size < w1.heap.size := (HBA.out.below (Below.refl _ _)).lt
  go_wp2_with (go_at_call 52; refine (HHG.out _).mono ?_; rintro e w2 ⟨rfl,hb2⟩)
  go_ret
  exact ⟨rfl,below2 HB1.out hb2⟩
end Go.Proofs.YtcncbjknfcjnmaaGreat.Tp
