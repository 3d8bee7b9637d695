/-
  The contract of awake, by Apply of whatever map.
-/
import Derived.Test.YtcncbjknfcjnmaaGreatPr37
import Derived.Test.YtcncbjknfcjnmaaGreatPr20
namespace Go.Proofs.YtcncbjknfcjnmaaGreat.Tp
open Go.ChangeShapes Go.WideShapes Go.ChangeAt Go.RowKit
def OwnW (w : World) (B : Nat) (m : Mp) (s : MV) : Prop := ∃ (G' : Nat -> Prop) (N : Nat),B <= N /\ OwnG G' w N m s
theorem OwnW.else {w w' : World} {B b : Nat} {m : Mp} {s : MV} (h : OwnW w B m s) (hg : w.grownBy w' (some b)) (hb : b < B) : MapAt w' m s := by
 obtain ⟨G',N,hN,ho⟩ := h
 exact (ho.else hg (by omega)).map
theorem OwnW.map {w : World} {B : Nat} {m : Mp} {s : MV} (h : OwnW w B m s) : MapAt w m s := by
 obtain ⟨G',N,hN,ho⟩ := h
 exact ho.map
noncomputable def x1 : Mp := tnM aw0 1 5 1 1 3 0 []
noncomputable def x2 : Mp := tnM x1 3 5 0 0 0 0 []
theorem aw0_tr (i : Nat) : aw0.trs.getD i tr0 = tr0 := by
 rw [show aw0.trs = List.replicate 4 tr0 from rfl,List.getD_eq_getElem?_getD,List.getElem?_replicate]
 split <;> rfl
theorem aw0_may : MayM aw0 := by
 refine ⟨by decide,by unfold CountOk; decide,⟨by decide,fun i hi => absurd hi (by simp [aw0,newM])⟩,fun i hi => absurd hi (by simp [aw0,newM]),by decide,fun i hi => ?_⟩
 rw [aw0_tr]
 exact ⟨by decide,fun j hj => absurd hj (by simp [tr0])⟩
theorem x1_nds : x1.nds = [n5] := rfl
theorem x1_tms : x1.tms = [] := rfl
theorem x2_tms : x2.tms = [] := rfl
theorem x1_same : x1.size = 3 /\ x1.mn = 2 /\ x1.gr = 4 /\ x1.ep = 1 := by
 obtain ⟨h1,-,h3,h4,-⟩ := chM_same aw0 1 5 1 1 3 0 []
 exact ⟨h3,h1,h4,rfl⟩
theorem x2_same : x2.size = 3 /\ x2.mn = 2 /\ x2.gr = 4 /\ x2.ep = 2 := by
 obtain ⟨h1,-,h3,h4,-⟩ := chM_same x1 3 5 0 0 0 0 []
 exact ⟨h3.trans x1_same.1,h1.trans x1_same.2.1,h4.trans x1_same.2.2.1,by show x1.ep + 1 = 2; rw [x1_same.2.2.2]; rfl⟩
theorem x2_nds : x2.nds = [n5u] := rfl
theorem ref_one : refP aw0 1 5 1 1 3 0 [] = 0 := by
 unfold refP
 rw [if_neg (by unfold MayK; decide),if_neg (by decide),if_neg (by decide),if_pos rfl]
 rfl
theorem ref_two : refP x1 3 5 0 0 0 0 [] = 0 := by
 unfold refP
 rw [if_neg (by unfold MayK; decide),if_neg (by rw [x1_same.2.2.2]; decide),if_neg (by decide),if_neg (by decide),if_neg (by decide),if_neg (by decide),x1_nds]
 rfl
theorem x1_may : MayM x1 := tn_may aw0_may ref_one
theorem x2_may : MayM x2 := tn_may x1_may ref_two
theorem x1_gr : (0 : Int) <= 0 /\ 0 < x1.gr := by rw [x1_same.2.2.1]; decide
theorem x2_gr : (0 : Int) <= 0 /\ 0 < x2.gr := by rw [x2_same.2.2.1]; decide
theorem x1_cells (s : MV) : Value.agg (mapCells x1 s).toArray = .agg #[.int .i64 1,.int .i64 3,.int .i64 2,.int .i64 4,.slice s.aN s.lN s.cN,.slice s.aT s.lT s.cT,.slice s.aR s.lR s.cR] := by
 rw [map_split,x1_same.1,x1_same.2.1,x1_same.2.2.1,x1_same.2.2.2]
theorem x2_cells (s : MV) : Value.agg (mapCells x2 s).toArray = .agg #[.int .i64 2,.int .i64 3,.int .i64 2,.int .i64 4,.slice s.aN s.lN s.cN,.slice s.aT s.lT s.cT,.slice s.aR s.lR s.cR] := by
 rw [map_split,x2_same.1,x2_same.2.1,x2_same.2.2.1,x2_same.2.2.2]
theorem x_raw1 : rawP x1 0 = [5] := by
 rw [raw_eq x1_tms,x1_nds,x1_same.1,show (3 : Int).toNat = 2 + 1 from rfl,of_n5]
theorem x_act1 : actP x1 0 = [] := by
 rw [act_eq x1_tms,x1_nds,x1_same.1,show (3 : Int).toNat = 2 + 1 from rfl,of_n5]
 rfl
theorem x_act2 : actP x2 0 = [5] := by
 rw [act_eq x2_tms,x2_nds,x2_same.1,show (3 : Int).toNat = 2 + 1 from rfl,of_n5u]
 rfl
theorem aw0_past : PastFew aw0 := fun i _ => by
 rw [aw0_tr]
 decide
theorem x1_past : PastFew x1 := fun i _ => by
 have h1 : x1.trs = turnTrs9 aw0 (chM aw0 1 5 1 1 3 0 []) (fun j => concP 1 0 (j : Int)) aw0.trs.length := by
  unfold x1 tnM turnM9
  dsimp only
 have h2 : ∀ k i,((turnTrs9 aw0 (chM aw0 1 5 1 1 3 0 []) (fun j => concP 1 0 (j : Int)) k).getD i tr0).past = [] := fun k => by
  induction k with
  | zero => exact fun i => by rw [show turnTrs9 aw0 (chM aw0 1 5 1 1 3 0 []) (fun j => concP 1 0 (j : Int)) 0 = aw0.trs from rfl,aw0_tr]; rfl
  | succ k ih =>
   intro i
   unfold turnTrs9
   split
   ·split
    ·rename_i hl
     rw [act0] at hl
     exact absurd hl (by decide)
    ·unfold sinceT
     by_cases e : k = i
     ·subst e
      by_cases hk : k < (turnTrs9 aw0 (chM aw0 1 5 1 1 3 0 []) (fun j => concP 1 0 (j : Int)) k).length
      ·rw [trGetD_eq _ _ _ hk]
       exact ih k
      ·rw [List.set_eq_of_length_le (by omega)]
       exact ih k
     ·rw [trSet_ne _ _ _ _ e]
      exact ih i
   ·exact ih i
 rw [h1,h2]
 decide
theorem nil_row (w : World) : RowI w none 0 0 [] := ⟨rfl,Nat.le_refl _,Nat.zero_le _,fun _ => rfl,.inl rfl⟩
theorem awake_one {s : MV} (w : World) (h : MapAt w aw0 s) : Calls Tryz.prog 15 #[.agg (mapCells aw0 s).toArray,.agg #[.int .i64 1,.int .i64 5,.int .i64 1,.int .i64 1,.int .i64 3,.int .i64 0,.slice none 0 0]] w fun e w' => MapPostO x1 0 w e w' := apply_yes aw0_may aw0_past ref_one none 0 0 w h (nil_row w)
theorem awake_two {s : MV} (w : World) (h : MapAt w x1 s) : Calls Tryz.prog 15 #[.agg (mapCells x1 s).toArray,.agg #[.int .i64 3,.int .i64 5,.int .i64 0,.int .i64 0,.int .i64 0,.int .i64 0,.slice none 0 0]] w fun e w' => MapPostO x2 0 w e w' := apply_yes x1_may x1_past ref_two none 0 0 w h (nil_row w)
set_option maxHeartbeats 2000000 in
set_option maxRecDepth 60000 in
theorem awake9 (w : World) : Calls Tryz.prog 11 #[] w fun e w' => TruePost w e w' := by
 have HNEW : Hid (∀ W,Calls Tryz.prog 9 #[.int .i64 3,.int .i64 2,.int .i64 4] W fun e w' => ∃ s0 : MV,e = .returned (.tuple #[.agg #[.int .i64 0,.int .i64 3,.int .i64 2,.int .i64 4,.slice s0.aN s0.lN s0.cN,.slice s0.aT s0.lT s0.cT,.slice s0.aR s0.lR s0.cR],.int .i64 0]) /\ MapAt w' aw0 s0 /\ Below W.heap.size W w') := fun W =>
  (new_yes (s := 3) (l := 2) (n := 4) (by unfold CountOk; decide) W).mono fun e w' ⟨hb,p,he,ho⟩ => ⟨_,he,(bare_new (n := 4) 3 2 (by decide) ho).map,hb⟩
 have HAP1 : Hid (∀ W s0,MapAt W aw0 s0 -> Calls Tryz.prog 15 #[.agg #[.int .i64 0,.int .i64 3,.int .i64 2,.int .i64 4,.slice s0.aN s0.lN s0.cN,.slice s0.aT s0.lT s0.cT,.slice s0.aR s0.lR s0.cR],.agg #[.int .i64 1,.int .i64 5,.int .i64 1,.int .i64 1,.int .i64 3,.int .i64 0,.slice none 0 0]] W fun e w' => ∃ s1 : MV,e = .returned (.tuple #[.agg #[.int .i64 1,.int .i64 3,.int .i64 2,.int .i64 4,.slice s1.aN s1.lN s1.cN,.slice s1.aT s1.lT s1.cT,.slice s1.aR s1.lR s1.cR],.int .i64 0]) /\ OwnW w' W.heap.size x1 s1 /\ Below W.heap.size W w') := fun W s0 h => by
  have := awake_one W h
  refine Calls.mono this fun e w' ⟨hb,s,he,_,G',N,hN,ho⟩ => ⟨s,?_,⟨G',N,hN,ho⟩,hb⟩
  rw [he,x1_cells]
 have HAP2 : Hid (∀ W s1,MapAt W x1 s1 -> Calls Tryz.prog 15 #[.agg #[.int .i64 1,.int .i64 3,.int .i64 2,.int .i64 4,.slice s1.aN s1.lN s1.cN,.slice s1.aT s1.lT s1.cT,.slice s1.aR s1.lR s1.cR],.agg #[.int .i64 3,.int .i64 5,.int .i64 0,.int .i64 0,.int .i64 0,.int .i64 0,.slice none 0 0]] W fun e w' => ∃ s2 : MV,e = .returned (.tuple #[.agg #[.int .i64 2,.int .i64 3,.int .i64 2,.int .i64 4,.slice s2.aN s2.lN s2.cN,.slice s2.aT s2.lT s2.cT,.slice s2.aR s2.lR s2.cR],.int .i64 0]) /\ OwnW w' W.heap.size x2 s2 /\ Below W.heap.size W w') := fun W s1 h => by
  have := awake_two W h
  rw [x1_cells] at this
  refine this.mono fun e w' ⟨hb,s,he,_,G',N,hN,ho⟩ => ⟨s,?_,⟨G',N,hN,ho⟩,hb⟩
  rw [he,x2_cells]
 have HRAW : Hid (∀ W s1,MapAt W x1 s1 -> Calls Tryz.prog 23 #[.agg #[.int .i64 1,.int .i64 3,.int .i64 2,.int .i64 4,.slice s1.aN s1.lN s1.cN,.slice s1.aT s1.lT s1.cT,.slice s1.aR s1.lR s1.cR],.int .i64 0] W fun e w' => ∃ a c,e = .returned (.slice a 1 c) /\ RowI w' a 1 c [5] /\ Below W.heap.size W w') := fun W s1 h => by
  have := rawX_may x1_may (g := 0) x1_gr W h
  rw [x1_cells] at this
  refine this.mono fun e w' ⟨hb,a,c,he,hO⟩ => ?_
  rw [x_raw1] at he hO
  exact ⟨a,c,he,ints_row hO,hb⟩
 have HAC1 : Hid (∀ W s1,MapAt W x1 s1 -> Calls Tryz.prog 25 #[.agg #[.int .i64 1,.int .i64 3,.int .i64 2,.int .i64 4,.slice s1.aN s1.lN s1.cN,.slice s1.aT s1.lT s1.cT,.slice s1.aR s1.lR s1.cR],.int .i64 0] W fun e w' => ∃ a c,e = .returned (.slice a 0 c) /\ Below W.heap.size W w') := fun W s1 h => by
  have := actX_may x1_may (g := 0) x1_gr W h
  rw [x1_cells] at this
  refine this.mono fun e w' ⟨hb,a,c,he,hO⟩ => ?_
  rw [x_act1] at he
  exact ⟨a,c,he,hb⟩
 have HAC2 : Hid (∀ W s2,MapAt W x2 s2 -> Calls Tryz.prog 25 #[.agg #[.int .i64 2,.int .i64 3,.int .i64 2,.int .i64 4,.slice s2.aN s2.lN s2.cN,.slice s2.aT s2.lT s2.cT,.slice s2.aR s2.lR s2.cR],.int .i64 0] W fun e w' => ∃ a c,e = .returned (.slice a 1 c) /\ RowI w' a 1 c [5] /\ Below W.heap.size W w') := fun W s2 h => by
  have := actX_may x2_may (g := 0) x2_gr W h
  rw [x2_cells] at this
  refine this.mono fun e w' ⟨hb,a,c,he,hO⟩ => ?_
  rw [x_act2] at he hO
  exact ⟨a,c,he,ints_row hO,hb⟩
 have HIN : Hid (∀ (W : World) a c,RowI W a 1 c [5] -> Calls Tryz.prog 22 #[.slice a 1 c,.slice (some ⟨W.heap.size,0,none⟩) 1 1] (W.alloc (.cells #[.int .i64 5] 3)) fun e w' => e = .returned (.bool true) /\ Below W.heap.size W w') := fun W a c h => (refInts a _ 1 c 1 1 [5] [5] _ (h.below (below_alloc _ _)) (five_row W)).mono fun e w' ⟨he,hg⟩ => ⟨by rw [he]; rfl,below2 (below_alloc _ _) (grown_below hg)⟩
 go_enter Tryz.func11,Tryz.ntmps11
 go_upto_region 2 with (go_at_call 9; refine (HNEW.out _).mono ?_; rintro e w1 ⟨s0,rfl,hB0,hb1⟩; have HB0 := show Hid (MapAt w1 aw0 s0) from hB0; clear hB0)
 have HX1 : Hid (Box7 (w1.alloc (.cells #[.int .i64 0,.int .i64 3,.int .i64 2,.int .i64 4,.slice s0.aN s0.lN s0.cN,.slice s0.aT s0.lT s0.cT,.slice s0.aR s0.lR s0.cR] 26)) w1.heap.size (.int .i64 0) (.int .i64 3) (.int .i64 2) (.int .i64 4) (.slice s0.aN s0.lN s0.cN) (.slice s0.aT s0.lT s0.cT) (.slice s0.aR s0.lR s0.cR)) := Box7.new w1 _ _ _ _ _ _ _ _
 have HB1 : Hid (MapAt (w1.alloc (.cells #[.int .i64 0,.int .i64 3,.int .i64 2,.int .i64 4,.slice s0.aN s0.lN s0.cN,.slice s0.aT s0.lT s0.cT,.slice s0.aR s0.lR s0.cR] 26)) aw0 s0) := HB0.out.below (below_alloc _ _)
 have hbw1 : Below w.heap.size w (w1.alloc (.cells #[.int .i64 0,.int .i64 3,.int .i64 2,.int .i64 4,.slice s0.aN s0.lN s0.cN,.slice s0.aT s0.lT s0.cT,.slice s0.aR s0.lR s0.cR] 26)) := below2 hb1 (below_alloc _ _)
 have hs1 : w.heap.size <= w1.heap.size := hb1.size
 clear HB0 HNEW hb1
 have hs1' := HX1.out.lt
 generalize hv1 : w1.alloc (.cells #[.int .i64 0,.int .i64 3,.int .i64 2,.int .i64 4,.slice s0.aN s0.lN s0.cN,.slice s0.aT s0.lT s0.cT,.slice s0.aR s0.lR s0.cR] 26) = v1 at *
 clear hv1
 obtain ⟨⟨c0,c1,c2,c3,c4,c5,c6⟩,-⟩ := HX1.out
 go_upto_region 3 with (go_at_call 15; refine (HAP1.out _ _ HB1.out).mono ?_; rintro e w2 ⟨s1,rfl,hO1,hb2⟩; have HO1 := show Hid (OwnW w2 v1.heap.size x1 s1) from hO1; clear hO1; obtain ⟨⟨d0,d1,d2,d3,d4,d5,d6⟩,⟨f0,f1,f2,f3,f4,f5,f6⟩⟩ := HX1.out.below hb2)
 have HX2 : Hid (Box7 (set7 w2 w1.heap.size (.int .i64 1) (.int .i64 3) (.int .i64 2) (.int .i64 4) (.slice s1.aN s1.lN s1.cN) (.slice s1.aT s1.lT s1.cT) (.slice s1.aR s1.lR s1.cR)) w1.heap.size (.int .i64 1) (.int .i64 3) (.int .i64 2) (.int .i64 4) (.slice s1.aN s1.lN s1.cN) (.slice s1.aT s1.lT s1.cT) (.slice s1.aR s1.lR s1.cR)) := (HX1.out.below hb2).set _ _ _ _ _ _ _
 have HB2 : Hid (MapAt (set7 w2 w1.heap.size (.int .i64 1) (.int .i64 3) (.int .i64 2) (.int .i64 4) (.slice s1.aN s1.lN s1.cN) (.slice s1.aT s1.lT s1.cT) (.slice s1.aR s1.lR s1.cR)) x1 s1) := HO1.out.else (set7_grownBy _ _ _ _ _ _ _ _ _) hs1'
 have hbw2 : Below w.heap.size w (set7 w2 w1.heap.size (.int .i64 1) (.int .i64 3) (.int .i64 2) (.int .i64 4) (.slice s1.aN s1.lN s1.cN) (.slice s1.aT s1.lT s1.cT) (.slice s1.aR s1.lR s1.cR)) := set7_below (below2 hbw1 hb2) hs1 _ _ _ _ _ _ _
 clear HX1 HB1 HO1 HAP1 hbw1 hb2 hs1' c0 c1 c2 c3 c4 c5 c6 d0 d1 d2 d3 d4 d5 d6 f0 f1 f2 f3 f4 f5 f6
 generalize hv2 : set7 w2 w1.heap.size (.int .i64 1) (.int .i64 3) (.int .i64 2) (.int .i64 4) (.slice s1.aN s1.lN s1.cN) (.slice s1.aT s1.lT s1.cT) (.slice s1.aR s1.lR s1.cR) = v2 at *
 unfold set7 at hv2
 rw [hv2]
 clear hv2
 obtain ⟨⟨c0,c1,c2,c3,c4,c5,c6⟩,-⟩ := HX2.out
 go_upto_region 4 with (go_at_call 15; refine (HAP2.out _ _ HB2.out).mono ?_; rintro e w3 ⟨s2,rfl,hO2,hb3⟩; have HO2 := show Hid (OwnW w3 v2.heap.size x2 s2) from hO2; clear hO2)
 have HX3 : Hid (Box7 (w3.alloc (.cells #[.int .i64 2,.int .i64 3,.int .i64 2,.int .i64 4,.slice s2.aN s2.lN s2.cN,.slice s2.aT s2.lT s2.cT,.slice s2.aR s2.lR s2.cR] 26)) w1.heap.size (.int .i64 1) (.int .i64 3) (.int .i64 2) (.int .i64 4) (.slice s1.aN s1.lN s1.cN) (.slice s1.aT s1.lT s1.cT) (.slice s1.aR s1.lR s1.cR)) := (HX2.out.below hb3).below (below_alloc _ _)
 have HY3 : Hid (Box7 (w3.alloc (.cells #[.int .i64 2,.int .i64 3,.int .i64 2,.int .i64 4,.slice s2.aN s2.lN s2.cN,.slice s2.aT s2.lT s2.cT,.slice s2.aR s2.lR s2.cR] 26)) w3.heap.size (.int .i64 2) (.int .i64 3) (.int .i64 2) (.int .i64 4) (.slice s2.aN s2.lN s2.cN) (.slice s2.aT s2.lT s2.cT) (.slice s2.aR s2.lR s2.cR)) := Box7.new w3 _ _ _ _ _ _ _ _
 have HB3 : Hid (MapAt (w3.alloc (.cells #[.int .i64 2,.int .i64 3,.int .i64 2,.int .i64 4,.slice s2.aN s2.lN s2.cN,.slice s2.aT s2.lT s2.cT,.slice s2.aR s2.lR s2.cR] 26)) x1 s1) := (HB2.out.below hb3).below (below_alloc _ _)
 have HC3 : Hid (MapAt (w3.alloc (.cells #[.int .i64 2,.int .i64 3,.int .i64 2,.int .i64 4,.slice s2.aN s2.lN s2.cN,.slice s2.aT s2.lT s2.cT,.slice s2.aR s2.lR s2.cR] 26)) x2 s2) := HO2.out.map.below (below_alloc _ _)
 have hbw3 : Below w.heap.size w (w3.alloc (.cells #[.int .i64 2,.int .i64 3,.int .i64 2,.int .i64 4,.slice s2.aN s2.lN s2.cN,.slice s2.aT s2.lT s2.cT,.slice s2.aR s2.lR s2.cR] 26)) := below2 hbw2 (below2 hb3 (below_alloc _ _))
 clear HX2 HB2 HO2 HAP2 hbw2 hb3 c0 c1 c2 c3 c4 c5 c6
 generalize hv3 : w3.alloc (.cells #[.int .i64 2,.int .i64 3,.int .i64 2,.int .i64 4,.slice s2.aN s2.lN s2.cN,.slice s2.aT s2.lT s2.cT,.slice s2.aR s2.lR s2.cR] 26) = v3 at *
 clear hv3
 obtain ⟨⟨c0,c1,c2,c3,c4,c5,c6⟩,-⟩ := HX3.out
 obtain ⟨⟨d0,d1,d2,d3,d4,d5,d6⟩,-⟩ := HY3.out
 go_wp2_with (first
  | (go_at_call 23; refine (HRAW.out _ _ HB3.out).mono ?_; rintro e w4 ⟨a4,cp4,rfl,hR4,hb4⟩; have HR4 := show Hid (RowI w4 a4 1 cp4 [5]) from hR4; clear hR4)
  | (go_at_call_of 22 a4; refine (HIN.out _ _ _ HR4.out).mono ?_; rintro e w5 ⟨rfl,hb5⟩; have hbv5 := below2 hb4 hb5; have HB5 := show Hid (MapAt w5 x1 s1) from HB3.out.below hbv5; obtain ⟨⟨p0,p1,p2,p3,p4,p5,p6⟩,-⟩ := HX3.out.below hbv5)
  | (go_at_call_of 25 s1.aN; refine (HAC1.out _ _ HB5.out).mono ?_; rintro e w6 ⟨a6,cp6,rfl,hb6⟩; have hbv6 := below2 hbv5 hb6; have HC6 := show Hid (MapAt w6 x2 s2) from HC3.out.below hbv6; obtain ⟨⟨q0,q1,q2,q3,q4,q5,q6⟩,-⟩ := HY3.out.below hbv6)
  | (go_at_call_of 25 s2.aN; refine (HAC2.out _ _ HC6.out).mono ?_; rintro e w7 ⟨a7,cp7,rfl,hR7,hb7⟩; have HR7 := show Hid (RowI w7 a7 1 cp7 [5]) from hR7; clear hR7)
  | (go_at_call_of 22 a7; refine (HIN.out _ _ _ HR7.out).mono ?_; rintro e w8 ⟨rfl,hb8⟩))
 go_ret
 exact ⟨rfl,below2 hbw3 (below2 hbv6 (below2 hb7 hb8))⟩
end Go.Proofs.YtcncbjknfcjnmaaGreat.Tp
