/-
  Apply of whatever map, where the delta is taken.
  Apply of whatever map that may be, where nothing refuses the delta.
  Apply of a map that may not be, and where the delta is refused.
-/
import Derived.Test.YtcncbjknfcjnmaaGreatPr35
namespace Go.Proofs.YtcncbjknfcjnmaaGreat.Tp
open Go.ChangeShapes Go.WideShapes Go.ChangeAt Go.RowKit
variable {G : Nat -> Prop}
theorem own_low {w w' : World} {B s n b : Nat} {E : TypeId} {v : Value} {xs : List Value} (h : w.ownsRow B E s v n xs) (hg : w.grownBy w' (some b)) (hb : b < B) : w'.ownsRow B E s v n xs := own_else9 h hg fun e => by
 have := (h.lt b e).1
 omega
theorem TmRowG.low {w w' : World} {B b : Nat} {E : TypeId} {ts : List Tm} {v : Value} (h : TmRowG G B E ts v w) (hg : w.grownBy w' (some b)) (hb : b < B) : TmRowG G B E ts v w' := by
 obtain ⟨L,h1,h2⟩ := h
 exact ⟨L,own_low h1 hg hb,h2.map fun u l _ hu => own_low hu hg hb⟩
theorem OwnG.else {w w' : World} {B b : Nat} {m : Mp} {s : MV} (h : OwnG G w B m s) (hg : w.grownBy w' (some b)) (hb : b < B) : OwnG G w' B m s := ⟨own_low h.nds hg hb,h.ndl,h.tms.low hg hb,h.tml,h.trs.map (fun _ ho => own_low ho hg hb) fun _ _ hu => hu.low hg hb,h.trl⟩
def MapPostO (m : Mp) (n : Int) (w : World) (e : Ending) (w' : World) : Prop := Below w.heap.size w w' /\ ∃ s,e = .returned (.tuple #[.agg (mapCells m s).toArray,.int .i64 n]) /\ MapAt w' m s /\ ∃ (G' : Nat -> Prop) (N : Nat),w.heap.size <= N /\ OwnG G' w' N m s
set_option maxHeartbeats 4000000 in
set_option maxRecDepth 60000 in
theorem apply_take {m MT : Mp} {s : MV} (e0 e1 e2 e3 e4 e5 e6 : Value) (hM : MayM m) (hSm : Small m) (w : World)
  (hRef : ∀ W s',Below w.heap.size w W -> MapAt W m s' -> Calls Tryz.prog 37 #[.agg (mapCells m s').toArray,.agg #[e0,e1,e2,e3,e4,e5,e6]] W fun e w' => e = .returned (.int .i64 0) /\ Below W.heap.size W w')
  (hTu : ∀ pm N s' W,Below w.heap.size w W -> w.heap.size <= N -> LiveM (fun b => b < W.heap.size) W pm N m s' -> N <= W.heap.size -> Calls Tryz.prog 38 #[.pointer (some ⟨pm,0,none⟩),.agg #[e0,e1,e2,e3,e4,e5,e6]] W fun e w' => e = .returned (.tuple #[]) /\ (∃ G' s',LiveM G' w' pm N MT s') /\ Below N W w')
  (h : MapAt w m s) :
  Calls Tryz.prog 15 #[.agg (mapCells m s).toArray,.agg #[e0,e1,e2,e3,e4,e5,e6]] w fun e w' => MapPostO MT 0 w e w' := by
 obtain ⟨w1,hw1⟩ : ∃ w1,w1 = ((w.alloc (.cells (mapCells m s).toArray 26)).alloc (.cells #[e0,e1,e2,e3,e4,e5,e6] 37)).alloc (.cells #[.int .i64 0,.int .i64 0,.int .i64 0,.int .i64 0,.slice none 0 0,.slice none 0 0,.slice none 0 0] 26) := ⟨_,rfl⟩
 have hb1 : Below w.heap.size w w1 := by rw [hw1]; exact below2 (below2 (below_alloc _ _) (below_alloc _ _)) (below_alloc _ _)
 have HBM : Hid (Box7 w1 w.heap.size (.int .i64 m.ep) (.int .i64 m.size) (.int .i64 m.mn) (.int .i64 m.gr) (.slice s.aN s.lN s.cN) (.slice s.aT s.lT s.cT) (.slice s.aR s.lR s.cR)) := by
  rw [hw1]
  exact ((Box7.new w _ _ _ _ _ _ _ _).below (below_alloc _ _)).below (below_alloc _ _)
 have HBD : Hid (Box7 w1 (w.heap.size + 1) e0 e1 e2 e3 e4 e5 e6) := by
  rw [hw1]
  have := (Box7.new (w.alloc (.cells (mapCells m s).toArray 26)) e0 e1 e2 e3 e4 e5 e6 37).below (below_alloc _ (.cells #[.int .i64 0,.int .i64 0,.int .i64 0,.int .i64 0,.slice none 0 0,.slice none 0 0,.slice none 0 0] 26))
  rwa [show (w.alloc (.cells (mapCells m s).toArray 26)).heap.size = w.heap.size + 1 by simp] at this
 have HBR : Hid (Box7 w1 (w.heap.size + 1 + 1) (.int .i64 0) (.int .i64 0) (.int .i64 0) (.int .i64 0) (.slice none 0 0) (.slice none 0 0) (.slice none 0 0)) := by
  rw [hw1]
  have := Box7.new ((w.alloc (.cells (mapCells m s).toArray 26)).alloc (.cells #[e0,e1,e2,e3,e4,e5,e6] 37)) (.int .i64 0) (.int .i64 0) (.int .i64 0) (.int .i64 0) (.slice none 0 0) (.slice none 0 0) (.slice none 0 0) 26
  rwa [show ((w.alloc (.cells (mapCells m s).toArray 26)).alloc (.cells #[e0,e1,e2,e3,e4,e5,e6] 37)).heap.size = w.heap.size + 1 + 1 by simp] at this
 have HCK : Hid (∀ W,Below w.heap.size w W -> Calls Tryz.prog 17 #[.agg (mapCells m s).toArray] W fun e w' => e = .returned (.int .i64 0) /\ Below W.heap.size W w') := fun W hb => (mcheck_any W (h.below hb)).mono fun e w' ⟨hb',hp⟩ => by
  rcases hp with ⟨he,-⟩ | ⟨-,hn⟩
  ·exact ⟨he,hb'⟩
  ·exact absurd hM hn
 have HCL : Hid (∀ W,Below w.heap.size w W -> Calls Tryz.prog 36 #[.agg (mapCells m s).toArray] W fun e w' => Below W.heap.size W w' /\ ∃ s3,e = .returned (.agg #[.int .i64 m.ep,.int .i64 m.size,.int .i64 m.mn,.int .i64 m.gr,.slice s3.aN s3.lN s3.cN,.slice s3.aT s3.lT s3.cT,.slice s3.aR s3.lR s3.cR]) /\ OwnM w' W.heap.size m s3) := fun W hb => clone_any hSm W (h.below hb)
 have HRF := Hid.mk9 hRef
 have HTU := Hid.mk9 hTu
 clear hRef hTu h hM hSm
 rw [map_split] at *
 have hl1 := HBM.out.lt
 have hl2 := HBD.out.lt
 have hl3 := HBR.out.lt
 obtain ⟨⟨c0,c1,c2,c3,c4,c5,c6⟩,-⟩ := HBM.out
 go_enter Tryz.func15,Tryz.ntmps15
 go_upto_region 1 with fail
 rw [show ((w.alloc (.cells #[.int .i64 m.ep,.int .i64 m.size,.int .i64 m.mn,.int .i64 m.gr,.slice s.aN s.lN s.cN,.slice s.aT s.lT s.cT,.slice s.aR s.lR s.cR] 26)).alloc (.cells #[e0,e1,e2,e3,e4,e5,e6] 37)).alloc (.cells #[.int .i64 0,.int .i64 0,.int .i64 0,.int .i64 0,.slice none 0 0,.slice none 0 0,.slice none 0 0] 26) = w1 from hw1.symm]
 clear hw1
 go_upto_region 3 with (go_at_call 17; refine (HCK.out _ hb1).mono ?_; rintro e w2 ⟨rfl,hb2⟩)
 clear c0 c1 c2 c3 c4 c5 c6
 obtain ⟨⟨c0,c1,c2,c3,c4,c5,c6⟩,-⟩ := HBM.out.below hb2
 go_upto_region 4 with (go_at_call 36; refine (HCL.out _ (below2 hb1 hb2)).mono ?_; rintro e w3 ⟨hb3,s3,rfl,hO3⟩)
 have hb3w : Below w.heap.size w w3 := below2 hb1 (below2 hb2 hb3)
 have HLV : Hid (LiveM (fun b => b < w3.heap.size) (w3.alloc (.cells #[.int .i64 m.ep,.int .i64 m.size,.int .i64 m.mn,.int .i64 m.gr,.slice s3.aN s3.lN s3.cN,.slice s3.aT s3.lT s3.cT,.slice s3.aR s3.lR s3.cR] 26)) w3.heap.size w2.heap.size m s3) := ⟨Box7.new w3 _ _ _ _ _ _ _ _,BoxTy.new _ _ _,(hO3.toG fun b _ hb => hb).below9 (below_alloc _ _),hb3.size⟩
 have HBD4 : Hid (Box7 (w3.alloc (.cells #[.int .i64 m.ep,.int .i64 m.size,.int .i64 m.mn,.int .i64 m.gr,.slice s3.aN s3.lN s3.cN,.slice s3.aT s3.lT s3.cT,.slice s3.aR s3.lR s3.cR] 26)) (w.heap.size + 1) e0 e1 e2 e3 e4 e5 e6) := ((HBD.out.below hb2).below hb3).below (below_alloc _ _)
 have HBR2 : Hid (Box7 w2 (w.heap.size + 1 + 1) (.int .i64 0) (.int .i64 0) (.int .i64 0) (.int .i64 0) (.slice none 0 0) (.slice none 0 0) (.slice none 0 0)) := HBR.out.below hb2
 have hb24 : Below w2.heap.size w2 (w3.alloc (.cells #[.int .i64 m.ep,.int .i64 m.size,.int .i64 m.mn,.int .i64 m.gr,.slice s3.aN s3.lN s3.cN,.slice s3.aT s3.lT s3.cT,.slice s3.aR s3.lR s3.cR] 26)) := below2 hb3 (below_alloc _ _)
 have hbw2 : Below w.heap.size w w2 := below2 hb1 hb2
 have HRF4 : Hid (Calls Tryz.prog 37 #[.agg #[.int .i64 m.ep,.int .i64 m.size,.int .i64 m.mn,.int .i64 m.gr,.slice s3.aN s3.lN s3.cN,.slice s3.aT s3.lT s3.cT,.slice s3.aR s3.lR s3.cR],.agg #[e0,e1,e2,e3,e4,e5,e6]] (w3.alloc (.cells #[.int .i64 m.ep,.int .i64 m.size,.int .i64 m.mn,.int .i64 m.gr,.slice s3.aN s3.lN s3.cN,.slice s3.aT s3.lT s3.cT,.slice s3.aR s3.lR s3.cR] 26)) fun e w' => e = .returned (.int .i64 0) /\ Below (w3.alloc (.cells #[.int .i64 m.ep,.int .i64 m.size,.int .i64 m.mn,.int .i64 m.gr,.slice s3.aN s3.lN s3.cN,.slice s3.aT s3.lT s3.cT,.slice s3.aR s3.lR s3.cR] 26)).heap.size (w3.alloc (.cells #[.int .i64 m.ep,.int .i64 m.size,.int .i64 m.mn,.int .i64 m.gr,.slice s3.aN s3.lN s3.cN,.slice s3.aT s3.lT s3.cT,.slice s3.aR s3.lR s3.cR] 26)) w') := HRF.out _ s3 (below2 hb3w (below_alloc _ _)) HLV.out.own.map
 clear HCK HCL HRF hO3 c0 c1 c2 c3 c4 c5 c6 HBM HBD HBR hb1 hb2
 have hl4 : w3.heap.size < (w3.alloc (.cells #[.int .i64 m.ep,.int .i64 m.size,.int .i64 m.mn,.int .i64 m.gr,.slice s3.aN s3.lN s3.cN,.slice s3.aT s3.lT s3.cT,.slice s3.aR s3.lR s3.cR] 26)).heap.size := by simp
 generalize hw4 : w3.alloc (.cells #[.int .i64 m.ep,.int .i64 m.size,.int .i64 m.mn,.int .i64 m.gr,.slice s3.aN s3.lN s3.cN,.slice s3.aT s3.lT s3.cT,.slice s3.aR s3.lR s3.cR] 26) = w4 at *
 clear hw4
 obtain ⟨⟨c0,c1,c2,c3,c4,c5,c6⟩,-⟩ := HLV.out.box
 obtain ⟨⟨d0,d1,d2,d3,d4,d5,d6⟩,-⟩ := HBD4.out
 go_upto_region 6 with (go_at_call 37; refine HRF4.out.mono ?_; rintro e w5 ⟨rfl,hb5⟩)
 have hb25 : Below w2.heap.size w2 w5 := below2 hb24 hb5
 have HL5 : Hid (LiveM (fun b => b < w5.heap.size) w5 w3.heap.size w2.heap.size m s3) := (HLV.out.below hb5).weak fun b hb => by
  have := hb5.size
  omega
 clear c0 c1 c2 c3 c4 c5 c6 d0 d1 d2 d3 d4 d5 d6
 obtain ⟨⟨d0,d1,d2,d3,d4,d5,d6⟩,-⟩ := HBD4.out.below hb5
 have HTU5 := Hid.mk9 (HTU.out w3.heap.size w2.heap.size s3 w5 (below2 hbw2 hb25) hbw2.size HL5.out hb25.size)
 clear HTU HRF4 HLV HBD4 hb24 hb5 hl4 HL5
 go_upto_region 7 with (go_at_call 38; refine HTU5.out.mono ?_; rintro e w6 ⟨rfl,⟨G6,s6,hl6⟩,hb6⟩; have HL6 := Hid.mk9 hl6; clear hl6)
 have hb26 : Below w2.heap.size w2 w6 := hb25.trans hb6
 have HBR6 : Hid (Box7 w6 (w.heap.size + 1 + 1) (.int .i64 0) (.int .i64 0) (.int .i64 0) (.int .i64 0) (.slice none 0 0) (.slice none 0 0) (.slice none 0 0)) := HBR2.out.below hb26
 have hrl : w.heap.size + 1 + 1 < w2.heap.size := HBR2.out.lt
 have hbw6 : Below w.heap.size w w6 := below2 hbw2 hb26
 have HBW : Hid (Below w.heap.size w w2) := hbw2
 clear d0 d1 d2 d3 d4 d5 d6 HTU5 hb25 hb6
 obtain ⟨⟨c0,c1,c2,c3,c4,c5,c6⟩,-⟩ := HL6.out.box
 obtain ⟨⟨r0,r1,r2,r3,r4,r5,r6⟩,⟨f0,f1,f2,f3,f4,f5,f6⟩⟩ := HBR6.out
 have HFG : Hid (OwnG G6 (set7 w6 (w.heap.size + 1 + 1) (.int .i64 MT.ep) (.int .i64 MT.size) (.int .i64 MT.mn) (.int .i64 MT.gr) (.slice s6.aN s6.lN s6.cN) (.slice s6.aT s6.lT s6.cT) (.slice s6.aR s6.lR s6.cR)) w2.heap.size MT s6) := HL6.out.own.else (set7_grownBy _ _ _ _ _ _ _ _ _) hrl
 have HFO : Hid (MapAt (set7 w6 (w.heap.size + 1 + 1) (.int .i64 MT.ep) (.int .i64 MT.size) (.int .i64 MT.mn) (.int .i64 MT.gr) (.slice s6.aN s6.lN s6.cN) (.slice s6.aT s6.lT s6.cT) (.slice s6.aR s6.lR s6.cR)) MT s6) := (HL6.out.own.else (set7_grownBy _ _ _ _ _ _ _ _ _) hrl).map
 have HFB : Hid (Below w.heap.size w (set7 w6 (w.heap.size + 1 + 1) (.int .i64 MT.ep) (.int .i64 MT.size) (.int .i64 MT.mn) (.int .i64 MT.gr) (.slice s6.aN s6.lN s6.cN) (.slice s6.aT s6.lT s6.cT) (.slice s6.aR s6.lR s6.cR))) := set7_below hbw6 (by omega) _ _ _ _ _ _ _
 go_wp2_with fail
 refine bodyPost_ret (ret_maperr rfl _ _ (w.heap.size + 1 + 1) MT s6 _ rfl rfl (HBR6.out.set _ _ _ _ _ _ _).1.1 (HBR6.out.set _ _ _ _ _ _ _).1.2.1 (HBR6.out.set _ _ _ _ _ _ _).1.2.2.1 (HBR6.out.set _ _ _ _ _ _ _).1.2.2.2.1 (HBR6.out.set _ _ _ _ _ _ _).1.2.2.2.2.1 (HBR6.out.set _ _ _ _ _ _ _).1.2.2.2.2.2.1 (HBR6.out.set _ _ _ _ _ _ _).1.2.2.2.2.2.2) rfl ?_
 exact ⟨HFB.out,s6,rfl,HFO.out,G6,w2.heap.size,HBW.out.size,HFG.out⟩
end Go.Proofs.YtcncbjknfcjnmaaGreat.Tp
namespace Go.Proofs.YtcncbjknfcjnmaaGreat.Tp
open Go.ChangeShapes Go.WideShapes Go.ChangeAt Go.RowKit
theorem chM_same (m : Mp) (k id z r wt g : Int) (ns : List Int) : (chM m k id z r wt g ns).mn = m.mn /\ (chM m k id z r wt g ns).ep = m.ep /\ (chM m k id z r wt g ns).size = m.size /\ (chM m k id z r wt g ns).gr = m.gr /\ (chM m k id z r wt g ns).trs.length = m.trs.length := by
 unfold chM
 repeat' split
 all_goals simp [cleanT]
theorem chM_past (m : Mp) (k id z r wt g : Int) (ns : List Int) (i : Nat) : ((chM m k id z r wt g ns).trs.getD i tr0).past.length <= (m.trs.getD i tr0).past.length := by
 unfold chM
 repeat' split
 ·exact Nat.le_refl _
 ·exact Nat.le_refl _
 ·show ((m.trs.set g.toNat ⟨_,[]⟩).getD i tr0).past.length <= _
  by_cases e : g.toNat = i
  ·subst e
   by_cases hl : g.toNat < m.trs.length
   ·rw [trGetD_eq _ _ _ hl]
    exact Nat.zero_le _
   ·rw [List.set_eq_of_length_le (by omega)]
    exact Nat.le_refl _
  ·rw [List.getD_eq_getElem?_getD,List.getD_eq_getElem?_getD,List.getElem?_set_ne e]
   exact Nat.le_refl _
 ·exact Nat.le_refl _
def PastFew (m : Mp) : Prop := ∀ i,i < m.trs.length -> (m.trs.getD i tr0).past.length <= 100
theorem MayM.small {m : Mp} (h : MayM m) (hp : PastFew m) : Small m := by
 have hS := h.stand
 have hc := h.cnt
 refine ⟨h.nds.1,hS.few,?_,?_,?_,?_⟩
 ·have := h.trs.1
  have := hc.2.2.2
  omega
 ·intro i hi
  have := (h.tms i hi).2.2.1.2
  have := hc.1.2
  omega
 ·intro i hi
  have := hp i hi
  omega
 ·intro i hi j hj
  have := ((h.trs.2 i hi).2 j hj).2.2.1.1.2
  have := hc.1.2
  omega
theorem act_few {m : Mp} (h : MayM m) (g : Int) : (actP m g).length <= 3 := by
 have h1 := raw_len h.stand g
 have h2 := List.length_filter_le (upB m.nds) (rawP m g)
 have h3 := h.cnt.1.2
 unfold actP
 omega
noncomputable def tnM (m : Mp) (k id z r wt g : Int) (ns : List Int) : Mp := turnM9 m (chM m k id z r wt g ns) (fun j => concP k g (j : Int)) m.trs.length
theorem apply_yes {m : Mp} {s : MV} {k id z r wt g : Int} {ns : List Int} (hM : MayM m) (hp : PastFew m) (href : refP m k id z r wt g ns = 0) (ad : Option Addr) (ld cd : Nat) (w : World) (h : MapAt w m s) (hD : RowI w ad ld cd ns) :
  Calls Tryz.prog 15 #[.agg (mapCells m s).toArray,.agg #[.int .i64 k,.int .i64 id,.int .i64 z,.int .i64 r,.int .i64 wt,.int .i64 g,.slice ad ld cd]] w fun e w' => MapPostO (tnM m k id z r wt g ns) 0 w e w' := by
 obtain ⟨hc1,hc2,-,-,hc5⟩ := chM_same m k id z r wt g ns
 have hM0 := hM
 have hcnt := hM.cnt
 have hep := hM.ep
 have hre := (ref_may href).2.1
 have ht := hM.trs.1
 refine apply_take _ _ _ _ _ _ _ hM (hM.small hp) w ?_ ?_ h
 ·intro W s' hb hm
  refine (refusal_any hM k id z r wt g ad ld cd ns W hm (hD.below hb)).mono fun e w' he => ?_
  rw [href] at he
  exact he
 ·intro pm N s' W hb hN hL hNW
  refine turn_any _ _ _ _ _ _ _ (fun j => concP k g (j : Int)) hM.stand (stand_ch hM href) ht.symm ?_ hc5 ⟨hep.1,by omega⟩ ⟨hcnt.2.1.1,by have := hcnt.2.1.2; have := hcnt.1.2; omega⟩ ⟨hc1,hc2⟩ ?_ ?_ W ?_ ?_ hL hNW
  ·have := hcnt.2.2.2
   omega
  ·intro i hi
   exact Nat.le_trans (chM_past m k id z r wt g ns i) (hp i hi)
  ·intro i _
   have := act_few hM (i : Int)
   omega
  ·intro W1 j
   exact concerns_any k id z r wt g (j : Int) ad ld cd W1
  ·intro G1 W1 hb1 hl1 hn1 hg1
   exact change_any hM href ad ld cd W1 hl1 hn1 (fun W2 hb2 => hD.below (hb.trans ((hb1.trans hb2).mono hN))) hg1
end Go.Proofs.YtcncbjknfcjnmaaGreat.Tp
namespace Go.Proofs.YtcncbjknfcjnmaaGreat.Tp
open Go.ChangeShapes Go.WideShapes Go.ChangeAt Go.RowKit
set_option maxHeartbeats 4000000 in
set_option maxRecDepth 60000 in
theorem apply_noO {m : Mp} {s : MV} {n : Int} (e0 e1 e2 e3 e4 e5 e6 : Value) (hM : MayM m) (hSm : Small m) (w : World) (hn0 : n ≠ 0)
  (hRef : ∀ W s',Below w.heap.size w W -> MapAt W m s' -> Calls Tryz.prog 37 #[.agg (mapCells m s').toArray,.agg #[e0,e1,e2,e3,e4,e5,e6]] W fun e w' => e = .returned (.int .i64 n) /\ Below W.heap.size W w')
  (h : MapAt w m s) :
  Calls Tryz.prog 15 #[.agg (mapCells m s).toArray,.agg #[e0,e1,e2,e3,e4,e5,e6]] w fun e w' => MapPostO m n w e w' := by
 obtain ⟨w1,hw1⟩ : ∃ w1,w1 = ((w.alloc (.cells (mapCells m s).toArray 26)).alloc (.cells #[e0,e1,e2,e3,e4,e5,e6] 37)).alloc (.cells #[.int .i64 0,.int .i64 0,.int .i64 0,.int .i64 0,.slice none 0 0,.slice none 0 0,.slice none 0 0] 26) := ⟨_,rfl⟩
 have hb1 : Below w.heap.size w w1 := by rw [hw1]; exact below2 (below2 (below_alloc _ _) (below_alloc _ _)) (below_alloc _ _)
 have HBM : Hid (Box7 w1 w.heap.size (.int .i64 m.ep) (.int .i64 m.size) (.int .i64 m.mn) (.int .i64 m.gr) (.slice s.aN s.lN s.cN) (.slice s.aT s.lT s.cT) (.slice s.aR s.lR s.cR)) := by
  rw [hw1]
  exact ((Box7.new w _ _ _ _ _ _ _ _).below (below_alloc _ _)).below (below_alloc _ _)
 have HBD : Hid (Box7 w1 (w.heap.size + 1) e0 e1 e2 e3 e4 e5 e6) := by
  rw [hw1]
  have := (Box7.new (w.alloc (.cells (mapCells m s).toArray 26)) e0 e1 e2 e3 e4 e5 e6 37).below (below_alloc _ (.cells #[.int .i64 0,.int .i64 0,.int .i64 0,.int .i64 0,.slice none 0 0,.slice none 0 0,.slice none 0 0] 26))
  rwa [show (w.alloc (.cells (mapCells m s).toArray 26)).heap.size = w.heap.size + 1 by simp] at this
 have HBR : Hid (Box7 w1 (w.heap.size + 1 + 1) (.int .i64 0) (.int .i64 0) (.int .i64 0) (.int .i64 0) (.slice none 0 0) (.slice none 0 0) (.slice none 0 0)) := by
  rw [hw1]
  have := Box7.new ((w.alloc (.cells (mapCells m s).toArray 26)).alloc (.cells #[e0,e1,e2,e3,e4,e5,e6] 37)) (.int .i64 0) (.int .i64 0) (.int .i64 0) (.int .i64 0) (.slice none 0 0) (.slice none 0 0) (.slice none 0 0) 26
  rwa [show ((w.alloc (.cells (mapCells m s).toArray 26)).alloc (.cells #[e0,e1,e2,e3,e4,e5,e6] 37)).heap.size = w.heap.size + 1 + 1 by simp] at this
 have HCK : Hid (∀ W,Below w.heap.size w W -> Calls Tryz.prog 17 #[.agg (mapCells m s).toArray] W fun e w' => e = .returned (.int .i64 0) /\ Below W.heap.size W w') := fun W hb => (mcheck_any W (h.below hb)).mono fun e w' ⟨hb',hp⟩ => by
  rcases hp with ⟨he,-⟩ | ⟨-,hn⟩
  ·exact ⟨he,hb'⟩
  ·exact absurd hM hn
 have HCL : Hid (∀ W,Below w.heap.size w W -> Calls Tryz.prog 36 #[.agg (mapCells m s).toArray] W fun e w' => Below W.heap.size W w' /\ ∃ s3,e = .returned (.agg #[.int .i64 m.ep,.int .i64 m.size,.int .i64 m.mn,.int .i64 m.gr,.slice s3.aN s3.lN s3.cN,.slice s3.aT s3.lT s3.cT,.slice s3.aR s3.lR s3.cR]) /\ OwnM w' W.heap.size m s3) := fun W hb => clone_any hSm W (h.below hb)
 have HRF := Hid.mk9 hRef
 clear hRef h hM hSm
 rw [map_split] at *
 have hl1 := HBM.out.lt
 have hl2 := HBD.out.lt
 have hl3 := HBR.out.lt
 obtain ⟨⟨c0,c1,c2,c3,c4,c5,c6⟩,-⟩ := HBM.out
 go_enter Tryz.func15,Tryz.ntmps15
 go_upto_region 1 with fail
 rw [show ((w.alloc (.cells #[.int .i64 m.ep,.int .i64 m.size,.int .i64 m.mn,.int .i64 m.gr,.slice s.aN s.lN s.cN,.slice s.aT s.lT s.cT,.slice s.aR s.lR s.cR] 26)).alloc (.cells #[e0,e1,e2,e3,e4,e5,e6] 37)).alloc (.cells #[.int .i64 0,.int .i64 0,.int .i64 0,.int .i64 0,.slice none 0 0,.slice none 0 0,.slice none 0 0] 26) = w1 from hw1.symm]
 clear hw1
 go_upto_region 3 with (go_at_call 17; refine (HCK.out _ hb1).mono ?_; rintro e w2 ⟨rfl,hb2⟩)
 clear c0 c1 c2 c3 c4 c5 c6
 obtain ⟨⟨c0,c1,c2,c3,c4,c5,c6⟩,-⟩ := HBM.out.below hb2
 go_upto_region 4 with (go_at_call 36; refine (HCL.out _ (below2 hb1 hb2)).mono ?_; rintro e w3 ⟨hb3,s3,rfl,hO3⟩)
 have hb3w : Below w.heap.size w w3 := below2 hb1 (below2 hb2 hb3)
 have HLV : Hid (LiveM (fun b => b < w3.heap.size) (w3.alloc (.cells #[.int .i64 m.ep,.int .i64 m.size,.int .i64 m.mn,.int .i64 m.gr,.slice s3.aN s3.lN s3.cN,.slice s3.aT s3.lT s3.cT,.slice s3.aR s3.lR s3.cR] 26)) w3.heap.size w2.heap.size m s3) := ⟨Box7.new w3 _ _ _ _ _ _ _ _,BoxTy.new _ _ _,(hO3.toG fun b _ hb => hb).below9 (below_alloc _ _),hb3.size⟩
 have HBD4 : Hid (Box7 (w3.alloc (.cells #[.int .i64 m.ep,.int .i64 m.size,.int .i64 m.mn,.int .i64 m.gr,.slice s3.aN s3.lN s3.cN,.slice s3.aT s3.lT s3.cT,.slice s3.aR s3.lR s3.cR] 26)) (w.heap.size + 1) e0 e1 e2 e3 e4 e5 e6) := ((HBD.out.below hb2).below hb3).below (below_alloc _ _)
 have HBR2 : Hid (Box7 w2 (w.heap.size + 1 + 1) (.int .i64 0) (.int .i64 0) (.int .i64 0) (.int .i64 0) (.slice none 0 0) (.slice none 0 0) (.slice none 0 0)) := HBR.out.below hb2
 have hb24 : Below w2.heap.size w2 (w3.alloc (.cells #[.int .i64 m.ep,.int .i64 m.size,.int .i64 m.mn,.int .i64 m.gr,.slice s3.aN s3.lN s3.cN,.slice s3.aT s3.lT s3.cT,.slice s3.aR s3.lR s3.cR] 26)) := below2 hb3 (below_alloc _ _)
 have hbw2 : Below w.heap.size w w2 := below2 hb1 hb2
 have HRF4 : Hid (Calls Tryz.prog 37 #[.agg #[.int .i64 m.ep,.int .i64 m.size,.int .i64 m.mn,.int .i64 m.gr,.slice s3.aN s3.lN s3.cN,.slice s3.aT s3.lT s3.cT,.slice s3.aR s3.lR s3.cR],.agg #[e0,e1,e2,e3,e4,e5,e6]] (w3.alloc (.cells #[.int .i64 m.ep,.int .i64 m.size,.int .i64 m.mn,.int .i64 m.gr,.slice s3.aN s3.lN s3.cN,.slice s3.aT s3.lT s3.cT,.slice s3.aR s3.lR s3.cR] 26)) fun e w' => e = .returned (.int .i64 n) /\ Below (w3.alloc (.cells #[.int .i64 m.ep,.int .i64 m.size,.int .i64 m.mn,.int .i64 m.gr,.slice s3.aN s3.lN s3.cN,.slice s3.aT s3.lT s3.cT,.slice s3.aR s3.lR s3.cR] 26)).heap.size (w3.alloc (.cells #[.int .i64 m.ep,.int .i64 m.size,.int .i64 m.mn,.int .i64 m.gr,.slice s3.aN s3.lN s3.cN,.slice s3.aT s3.lT s3.cT,.slice s3.aR s3.lR s3.cR] 26)) w') := HRF.out _ s3 (below2 hb3w (below_alloc _ _)) HLV.out.own.map
 clear HCK HCL HRF hO3 c0 c1 c2 c3 c4 c5 c6 HBM HBD HBR hb1 hb2
 have hl4 : w3.heap.size < (w3.alloc (.cells #[.int .i64 m.ep,.int .i64 m.size,.int .i64 m.mn,.int .i64 m.gr,.slice s3.aN s3.lN s3.cN,.slice s3.aT s3.lT s3.cT,.slice s3.aR s3.lR s3.cR] 26)).heap.size := by simp
 generalize hw4 : w3.alloc (.cells #[.int .i64 m.ep,.int .i64 m.size,.int .i64 m.mn,.int .i64 m.gr,.slice s3.aN s3.lN s3.cN,.slice s3.aT s3.lT s3.cT,.slice s3.aR s3.lR s3.cR] 26) = w4 at *
 clear hw4
 obtain ⟨⟨c0,c1,c2,c3,c4,c5,c6⟩,-⟩ := HLV.out.box
 obtain ⟨⟨d0,d1,d2,d3,d4,d5,d6⟩,-⟩ := HBD4.out
 have hnb : ((n == (0 : Int)) : Bool) = false := beq_false_of_ne hn0
 go_upto_region 7 with (go_at_call 37; refine HRF4.out.mono ?_; rintro e w6 ⟨rfl,hb5⟩)
 have hb26 : Below w2.heap.size w2 w6 := below2 hb24 hb5
 have HL6 : Hid (LiveM (fun b => b < w3.heap.size) w6 w3.heap.size w2.heap.size m s3) := HLV.out.below hb5
 have HBR6 : Hid (Box7 w6 (w.heap.size + 1 + 1) (.int .i64 0) (.int .i64 0) (.int .i64 0) (.int .i64 0) (.slice none 0 0) (.slice none 0 0) (.slice none 0 0)) := HBR2.out.below hb26
 have hrl : w.heap.size + 1 + 1 < w2.heap.size := HBR2.out.lt
 have hbw6 : Below w.heap.size w w6 := below2 hbw2 hb26
 clear c0 c1 c2 c3 c4 c5 c6 d0 d1 d2 d3 d4 d5 d6 HRF4 HLV HBD4 hb24 hb5 hl4
 obtain ⟨⟨c0,c1,c2,c3,c4,c5,c6⟩,-⟩ := HL6.out.box
 obtain ⟨⟨r0,r1,r2,r3,r4,r5,r6⟩,⟨f0,f1,f2,f3,f4,f5,f6⟩⟩ := HBR6.out
 have HFO : Hid (OwnG (fun b => b < w3.heap.size) (set7 w6 (w.heap.size + 1 + 1) (.int .i64 m.ep) (.int .i64 m.size) (.int .i64 m.mn) (.int .i64 m.gr) (.slice s3.aN s3.lN s3.cN) (.slice s3.aT s3.lT s3.cT) (.slice s3.aR s3.lR s3.cR)) w2.heap.size m s3) := HL6.out.own.else (set7_grownBy _ _ _ _ _ _ _ _ _) hrl
 have HFB : Hid (Below w.heap.size w (set7 w6 (w.heap.size + 1 + 1) (.int .i64 m.ep) (.int .i64 m.size) (.int .i64 m.mn) (.int .i64 m.gr) (.slice s3.aN s3.lN s3.cN) (.slice s3.aT s3.lT s3.cT) (.slice s3.aR s3.lR s3.cR))) := set7_below hbw6 (by omega) _ _ _ _ _ _ _
 go_wp2_with fail
 refine bodyPost_ret (ret_maperr rfl _ _ (w.heap.size + 1 + 1) m s3 _ rfl rfl (HBR6.out.set _ _ _ _ _ _ _).1.1 (HBR6.out.set _ _ _ _ _ _ _).1.2.1 (HBR6.out.set _ _ _ _ _ _ _).1.2.2.1 (HBR6.out.set _ _ _ _ _ _ _).1.2.2.2.1 (HBR6.out.set _ _ _ _ _ _ _).1.2.2.2.2.1 (HBR6.out.set _ _ _ _ _ _ _).1.2.2.2.2.2.1 (HBR6.out.set _ _ _ _ _ _ _).1.2.2.2.2.2.2) rfl ?_
 exact ⟨HFB.out,s3,rfl,HFO.out.map,_,_,hbw2.size,HFO.out⟩
noncomputable def apM (m : Mp) (k id z r wt g : Int) (ns : List Int) : Mp := by
 classical exact if MayM m then (if refP m k id z r wt g ns = 0 then tnM m k id z r wt g ns else m) else mp0
noncomputable def apE (m : Mp) (k id z r wt g : Int) (ns : List Int) : Int := by
 classical exact if MayM m then refP m k id z r wt g ns else 1
theorem apply_anyO {m : Mp} {s : MV} {k id z r wt g : Int} {ns : List Int} (hM : MayM m) (hp : PastFew m) (ad : Option Addr) (ld cd : Nat) (w : World) (h : MapAt w m s) (hD : RowI w ad ld cd ns) :
  Calls Tryz.prog 15 #[.agg (mapCells m s).toArray,.agg #[.int .i64 k,.int .i64 id,.int .i64 z,.int .i64 r,.int .i64 wt,.int .i64 g,.slice ad ld cd]] w fun e w' => MapPostO (apM m k id z r wt g ns) (apE m k id z r wt g ns) w e w' := by
 unfold apM apE
 rw [if_pos hM,if_pos hM]
 by_cases href : refP m k id z r wt g ns = 0
 ·rw [if_pos href,href]
  exact apply_yes hM hp href ad ld cd w h hD
 ·rw [if_neg href]
  exact apply_noO _ _ _ _ _ _ _ hM (hM.small hp) w href (fun W s' hb hm => refusal_any hM k id z r wt g ad ld cd ns W hm (hD.below hb)) h
end Go.Proofs.YtcncbjknfcjnmaaGreat.Tp
