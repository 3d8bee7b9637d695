/-
  refusal: why a map that may be has none behind a delta.
  refusal: why a map that may be has none behind a delta.
  Maps all of whose lists are one's own: Temps, Spans and Trails in rows of one's own.
-/
import Derived.Test.YtcncbjknfcjnmaaGreatPr24
namespace Go.Proofs.YtcncbjknfcjnmaaGreat.Tp
open Go.ChangeShapes Go.WideShapes Go.ChangeAt Go.RowKit
noncomputable instance (m : Mp) (id : Int) : Decidable (NeedP m id) := Classical.propDecidable _
noncomputable def refNode (m : Mp) (x : Nd) (k wt : Int) : Int :=
 if k = 7 then (if x.up = true then 11 else if x.inn = true /\ 0 < x.weight then 11 else if NeedP m x.id then 11 else 0)
 else if k = 2 then (if ¬ (0 <= wt /\ wt <= 65536) then 1 else if wt = x.weight then 7 else 0)
 else if k = 3 then (if x.up = true then 7 else 0)
 else if k = 4 then (if x.up = true then 0 else 7)
 else if k = 5 then (if x.inn = true then 0 else 7)
 else (if x.inn = true then 7 else 0)
theorem refuseNode_any (m : Mp) (s : MV) (x : Nd) (k id z r wt g : Int) (hk : 2 <= k /\ k <= 7) (a : Option Addr) (len cap : Nat) (w : World) (h : MapAt w m s) : Calls Tryz.prog 69 #[.agg (mapCells m s).toArray,.agg (ndCells x).toArray,.agg #[.int .i64 k,.int .i64 id,.int .i64 z,.int .i64 r,.int .i64 wt,.int .i64 g,.slice a len cap]] w fun e w' => e = .returned (.int .i64 (refNode m x k wt)) /\ Below w.heap.size w w' := by
 obtain ⟨c1,c2,c3,c4,c5,c6⟩ := x
 have h6 : k = 2 ∨ k = 3 ∨ k = 4 ∨ k = 5 ∨ k = 6 ∨ k = 7 := by omega
 rcases h6 with rfl | rfl | rfl | rfl | rfl | rfl
 ·by_cases hw : 0 <= wt /\ wt <= 65536
  ·by_cases he : wt = c4
   ·subst he
    refine (refuseNode_2s m s c1 c2 c3 c5 c6 id z r wt g hw a len cap w).mono fun e w' ⟨h1,h2⟩ => ⟨?_,grown_below h2⟩
    rw [h1]
    simp [refNode,hw]
   ·refine (refuseNode_2d m s c1 c2 c3 c4 c5 c6 id z r wt g hw he a len cap w).mono fun e w' ⟨h1,h2⟩ => ⟨?_,grown_below h2⟩
    rw [h1]
    simp [refNode,hw,he]
  ·refine (refuseNode_2w m s c1 c2 c3 c4 c5 c6 id z r wt g hw a len cap w).mono fun e w' ⟨h1,h2⟩ => ⟨?_,h2⟩
   rw [h1]
   simp [refNode,hw]
 ·cases c5
  ·refine (refuseNode_3d m s c1 c2 c3 c4 c6 id z r wt g a len cap w).mono fun e w' ⟨h1,h2⟩ => ⟨?_,grown_below h2⟩
   rw [h1]
   simp [refNode]
  ·refine (refuseNode_3s m s c1 c2 c3 c4 c6 id z r wt g a len cap w).mono fun e w' ⟨h1,h2⟩ => ⟨?_,grown_below h2⟩
   rw [h1]
   simp [refNode]
 ·cases c5
  ·refine (refuseNode_4s m s c1 c2 c3 c4 c6 id z r wt g a len cap w).mono fun e w' ⟨h1,h2⟩ => ⟨?_,grown_below h2⟩
   rw [h1]
   simp [refNode]
  ·refine (refuseNode_4d m s c1 c2 c3 c4 c6 id z r wt g a len cap w).mono fun e w' ⟨h1,h2⟩ => ⟨?_,grown_below h2⟩
   rw [h1]
   simp [refNode]
 ·cases c6
  ·refine (refuseNode_5s m s c1 c2 c3 c4 c5 id z r wt g a len cap w).mono fun e w' ⟨h1,h2⟩ => ⟨?_,grown_below h2⟩
   rw [h1]
   simp [refNode]
  ·refine (refuseNode_5d m s c1 c2 c3 c4 c5 id z r wt g a len cap w).mono fun e w' ⟨h1,h2⟩ => ⟨?_,grown_below h2⟩
   rw [h1]
   simp [refNode]
 ·cases c6
  ·refine (refuseNode_6d m s c1 c2 c3 c4 c5 id z r wt g a len cap w).mono fun e w' ⟨h1,h2⟩ => ⟨?_,grown_below h2⟩
   rw [h1]
   simp [refNode]
  ·refine (refuseNode_6s m s c1 c2 c3 c4 c5 id z r wt g a len cap w).mono fun e w' ⟨h1,h2⟩ => ⟨?_,grown_below h2⟩
   rw [h1]
   simp [refNode]
 ·cases c5
  ·cases c6
   ·refine (refuseNode_7n m s c1 c2 c3 c4 id z r wt g a len cap w h).mono fun e w' ⟨h1,h2⟩ => ⟨?_,h2⟩
    rcases h1 with ⟨hn,h1⟩ | ⟨hn,h1⟩ <;> (rw [h1]; simp [refNode,hn])
   ·by_cases h0 : 0 < c4
    ·refine (refuseNode_7w m s c1 c2 c3 c4 id z r wt g h0 a len cap w).mono fun e w' ⟨h1,h2⟩ => ⟨?_,h2⟩
     rw [h1]
     simp [refNode,h0]
    ·refine (refuseNode_7m m s c1 c2 c3 c4 id z r wt g h0 a len cap w h).mono fun e w' ⟨h1,h2⟩ => ⟨?_,h2⟩
     rcases h1 with ⟨hn,h1⟩ | ⟨hn,h1⟩ <;> (rw [h1]; simp [refNode,hn,h0])
  ·refine (refuseNode_7u m s c1 c2 c3 c4 c6 id z r wt g a len cap w).mono fun e w' ⟨h1,h2⟩ => ⟨?_,h2⟩
   rw [h1]
   simp [refNode]
theorem mayBe_any (k id z r wt g : Int) (a : Option Addr) (len cap : Nat) (w : World) : Calls Tryz.prog 64 #[.agg #[.int .i64 k,.int .i64 id,.int .i64 z,.int .i64 r,.int .i64 wt,.int .i64 g,.slice a len cap]] w fun e w' => e = .returned (.bool (decide (MayK k id z r wt g len))) /\ Below w.heap.size w w' := by
 by_cases hk : k < 1 ∨ 10 < k
 ·refine (mayBe_else k id z r wt g hk a len cap w).mono fun e w' ⟨h1,h2⟩ => ⟨?_,h2⟩
  rw [h1,decide_eq_false (by unfold MayK; omega)]
 ·have h10 : k = 1 ∨ k = 2 ∨ k = 3 ∨ k = 4 ∨ k = 5 ∨ k = 6 ∨ k = 7 ∨ k = 8 ∨ k = 9 ∨ k = 10 := by omega
  rcases h10 with rfl | rfl | rfl | rfl | rfl | rfl | rfl | rfl | rfl | rfl
  ·refine (mayBe_1 id z r wt g a len cap w).mono fun e w' ⟨h1,h2⟩ => ⟨?_,h2⟩
   rw [h1]
   congr 2
   rw [decide_eq_decide]
   unfold MayK
   simp
  ·refine (mayBe_2 id z r wt g a len cap w).mono fun e w' ⟨h1,h2⟩ => ⟨?_,h2⟩
   rw [h1]
   congr 2
   rw [decide_eq_decide]
   unfold MayK
   simp
  ·refine (mayBe_3 id z r wt g a len cap w).mono fun e w' ⟨h1,h2⟩ => ⟨?_,h2⟩
   rw [h1]
   congr 2
   rw [decide_eq_decide]
   unfold MayK
   simp
  ·refine (mayBe_4 id z r wt g a len cap w).mono fun e w' ⟨h1,h2⟩ => ⟨?_,h2⟩
   rw [h1]
   congr 2
   rw [decide_eq_decide]
   unfold MayK
   simp
  ·refine (mayBe_5 id z r wt g a len cap w).mono fun e w' ⟨h1,h2⟩ => ⟨?_,h2⟩
   rw [h1]
   congr 2
   rw [decide_eq_decide]
   unfold MayK
   simp
  ·refine (mayBe_6 id z r wt g a len cap w).mono fun e w' ⟨h1,h2⟩ => ⟨?_,h2⟩
   rw [h1]
   congr 2
   rw [decide_eq_decide]
   unfold MayK
   simp
  ·refine (mayBe_7 id z r wt g a len cap w).mono fun e w' ⟨h1,h2⟩ => ⟨?_,h2⟩
   rw [h1]
   congr 2
   rw [decide_eq_decide]
   unfold MayK
   simp
  ·refine (mayBe_8 id z r wt g a len cap w).mono fun e w' ⟨h1,h2⟩ => ⟨?_,h2⟩
   rw [h1]
   congr 2
   rw [decide_eq_decide]
   unfold MayK
   simp
  ·refine (mayBe_9 id z r wt g a len cap w).mono fun e w' ⟨h1,h2⟩ => ⟨?_,h2⟩
   rw [h1]
   congr 2
   rw [decide_eq_decide]
   unfold MayK
   simp
  ·refine (mayBe_10 id z r wt g a len cap w).mono fun e w' ⟨h1,h2⟩ => ⟨?_,h2⟩
   rw [h1]
   congr 2
   rw [decide_eq_decide]
   unfold MayK
   simp
end Go.Proofs.YtcncbjknfcjnmaaGreat.Tp
namespace Go.Proofs.YtcncbjknfcjnmaaGreat.Tp
open Go.ChangeShapes Go.WideShapes Go.ChangeAt Go.RowKit
set_option maxHeartbeats 4000000 in
set_option maxRecDepth 60000 in
theorem ref_put (t0 t1 t4 t6 t7 t8 t9 t10 t11 t12 t13 t14 t15 t16 t17 t18 t19 t20 t21 t22 t23 t24 t25 t26 t27 t28 t29 t30 t31 t32 t33 t34 t35 t36 t37 t38 t39 t40 t41 t42 t43 t44 t45 t46 t47 t48 : Value) (pm pd p b off : Nat) (m : Mp) (lN cN : Nat) (aT : Option Addr) (lT cT : Nat) (aR : Option Addr) (lR cR : Nat) (k id z r wt g : Int) (a : Option Addr) (len cap : Nat) (w1 : World) (Q : Exit -> Act -> World -> Prop) (hp : (p : Int) < (lN : Int))
  (hA : Box7 w1 pm (.int .i64 m.ep) (.int .i64 m.size) (.int .i64 m.mn) (.int .i64 m.gr) (.slice (some ⟨b,off,none⟩) lN cN) (.slice aT lT cT) (.slice aR lR cR)) (hD : Box7 w1 pd (.int .i64 k) (.int .i64 id) (.int .i64 z) (.int .i64 r) (.int .i64 wt) (.int .i64 g) (.slice a len cap)) (hN : NdAt w1 b (off + p * 6) (m.nds.getD p nd0))
  (hC : Hid (∀ W,Below w1.heap.size w1 W -> Calls Tryz.prog 69 #[.agg #[.int .i64 m.ep,.int .i64 m.size,.int .i64 m.mn,.int .i64 m.gr,.slice (some ⟨b,off,none⟩) lN cN,.slice aT lT cT,.slice aR lR cR],.agg #[.int .i64 (m.nds.getD p nd0).id,.int .i64 (m.nds.getD p nd0).zone,.int .i64 (m.nds.getD p nd0).rack,.int .i64 (m.nds.getD p nd0).weight,.bool (m.nds.getD p nd0).up,.bool (m.nds.getD p nd0).inn],.agg #[.int .i64 k,.int .i64 id,.int .i64 z,.int .i64 r,.int .i64 wt,.int .i64 g,.slice a len cap]] W fun e w' => e = .returned (.int .i64 (refNode m (m.nds.getD p nd0) k wt)) /\ Below W.heap.size W w'))
  (hQ : Hid (∀ (u41 u42 u43 u44 u45 u46 u47 u48 : Value) (wC : World),Below w1.heap.size w1 wC -> Q .normal ⟨#[t0,t1,.pointer (some ⟨pm,0,none⟩),.pointer (some ⟨pd,0,none⟩),.int .i64 (refNode m (m.nds.getD p nd0) k wt),.int .i64 (p : Int),t6,t7,t8,t9,t10,t11,t12,t13,t14,t15,t16,t17,t18,t19,t20,t21,t22,t23,t24,t25,t26,t27,t28,t29,t30,t31,t32,t33,t34,t35,t36,t37,t38,t39,t40,u41,u42,u43,u44,u45,u46,u47,u48],[]⟩ wC)) :
  Code.wp Tryz.prog ((Tryz.f37.body.bind (regionOf 17)).getD .skip) Q ⟨#[t0,t1,.pointer (some ⟨pm,0,none⟩),.pointer (some ⟨pd,0,none⟩),t4,.int .i64 (p : Int),t6,t7,t8,t9,t10,t11,t12,t13,t14,t15,t16,t17,t18,t19,t20,t21,t22,t23,t24,t25,t26,t27,t28,t29,t30,t31,t32,t33,t34,t35,t36,t37,t38,t39,t40,t41,t42,t43,t44,t45,t46,t47,t48],[]⟩ w1 := by
 have HBA : Hid (Box7 w1 pm (.int .i64 m.ep) (.int .i64 m.size) (.int .i64 m.mn) (.int .i64 m.gr) (.slice (some ⟨b,off,none⟩) lN cN) (.slice aT lT cT) (.slice aR lR cR)) := hA
 have HBD : Hid (Box7 w1 pd (.int .i64 k) (.int .i64 id) (.int .i64 z) (.int .i64 r) (.int .i64 wt) (.int .i64 g) (.slice a len cap)) := hD
 have HND : Hid (NdAt w1 b (off + p * 6) (m.nds.getD p nd0)) := hN
 clear hA hD hN
 have hS := below_drew w1
 conv => arg 2; whnf
 refine held_start (S := fun w' => Below w1.heap.size w1 w') mixed5 ?_
 refine held_take (i := 0) (v := .agg #[.int .i64 m.ep,.int .i64 m.size,.int .i64 m.mn,.int .i64 m.gr,.slice (some ⟨b,off,none⟩) lN cN,.slice aT lT cT,.slice aR lR cR]) rfl (by kernel_rfl) (fun _ _ _ h => h) (.inl ⟨rfl,fun w hS => ?_⟩) hS ?_
 ·obtain ⟨⟨c0,c1,c2,c3,c4,c5,c6⟩,-⟩ := HBA.out.below hS
  obtain ⟨⟨d0,d1,d2,d3,d4,d5,d6⟩,-⟩ := HBD.out.below hS
  obtain ⟨n0,n1,n2,n3,n4,n5⟩ := HND.out.below hS
  go_simp
 simp only [Act.put,List.setIfInBounds_toArray,List.set_cons_zero,List.set_cons_succ]
 refine held_take (i := 1) (v := .pointer (some ⟨pm,4,none⟩)) rfl (by kernel_rfl) (fun _ _ _ h => h) (.inl ⟨rfl,fun w hS => ?_⟩) hS ?_
 ·obtain ⟨⟨c0,c1,c2,c3,c4,c5,c6⟩,-⟩ := HBA.out.below hS
  obtain ⟨⟨d0,d1,d2,d3,d4,d5,d6⟩,-⟩ := HBD.out.below hS
  obtain ⟨n0,n1,n2,n3,n4,n5⟩ := HND.out.below hS
  go_simp
 simp only [Act.put,List.setIfInBounds_toArray,List.set_cons_zero,List.set_cons_succ]
 refine held_take (i := 2) (v := .slice (some ⟨b,off,none⟩) lN cN) rfl (by kernel_rfl) (fun _ _ _ h => h) (.inl ⟨rfl,fun w hS => ?_⟩) hS ?_
 ·obtain ⟨⟨c0,c1,c2,c3,c4,c5,c6⟩,-⟩ := HBA.out.below hS
  obtain ⟨⟨d0,d1,d2,d3,d4,d5,d6⟩,-⟩ := HBD.out.below hS
  obtain ⟨n0,n1,n2,n3,n4,n5⟩ := HND.out.below hS
  go_simp
 simp only [Act.put,List.setIfInBounds_toArray,List.set_cons_zero,List.set_cons_succ]
 refine held_take (i := 3) (v := .int .i64 (p : Int)) rfl (by kernel_rfl) (fun _ _ _ h => h) (.inl ⟨rfl,fun w hS => ?_⟩) hS ?_
 ·obtain ⟨⟨c0,c1,c2,c3,c4,c5,c6⟩,-⟩ := HBA.out.below hS
  obtain ⟨⟨d0,d1,d2,d3,d4,d5,d6⟩,-⟩ := HBD.out.below hS
  obtain ⟨n0,n1,n2,n3,n4,n5⟩ := HND.out.below hS
  go_simp
 simp only [Act.put,List.setIfInBounds_toArray,List.set_cons_zero,List.set_cons_succ]
 refine held_take (i := 4) (v := .pointer (some ⟨b,off + p * 6,none⟩)) rfl (by kernel_rfl) (fun _ _ _ h => h) (.inl ⟨rfl,fun w hS => ?_⟩) hS ?_
 ·obtain ⟨⟨c0,c1,c2,c3,c4,c5,c6⟩,-⟩ := HBA.out.below hS
  obtain ⟨⟨d0,d1,d2,d3,d4,d5,d6⟩,-⟩ := HBD.out.below hS
  obtain ⟨n0,n1,n2,n3,n4,n5⟩ := HND.out.below hS
  go_simp
 simp only [Act.put,List.setIfInBounds_toArray,List.set_cons_zero,List.set_cons_succ]
 refine held_take (i := 5) (v := .agg #[.int .i64 (m.nds.getD p nd0).id,.int .i64 (m.nds.getD p nd0).zone,.int .i64 (m.nds.getD p nd0).rack,.int .i64 (m.nds.getD p nd0).weight,.bool (m.nds.getD p nd0).up,.bool (m.nds.getD p nd0).inn]) rfl (by kernel_rfl) (fun _ _ _ h => h) (.inl ⟨rfl,fun w hS => ?_⟩) hS ?_
 ·obtain ⟨⟨c0,c1,c2,c3,c4,c5,c6⟩,-⟩ := HBA.out.below hS
  obtain ⟨⟨d0,d1,d2,d3,d4,d5,d6⟩,-⟩ := HBD.out.below hS
  obtain ⟨n0,n1,n2,n3,n4,n5⟩ := HND.out.below hS
  go_simp
 simp only [Act.put,List.setIfInBounds_toArray,List.set_cons_zero,List.set_cons_succ]
 refine held_take (i := 6) (v := .agg #[.int .i64 k,.int .i64 id,.int .i64 z,.int .i64 r,.int .i64 wt,.int .i64 g,.slice a len cap]) rfl (by kernel_rfl) (fun _ _ _ h => h) (.inl ⟨rfl,fun w hS => ?_⟩) hS ?_
 ·obtain ⟨⟨c0,c1,c2,c3,c4,c5,c6⟩,-⟩ := HBA.out.below hS
  obtain ⟨⟨d0,d1,d2,d3,d4,d5,d6⟩,-⟩ := HBD.out.below hS
  obtain ⟨n0,n1,n2,n3,n4,n5⟩ := HND.out.below hS
  go_simp
 simp only [Act.put,List.setIfInBounds_toArray,List.set_cons_zero,List.set_cons_succ]
 refine held_one (i := 7) (by kernel_rfl) rfl rfl ?_
 intro K hK
 go_simp
 go_at_call 69
 refine (hC.out _ hS).mono ?_
 rintro en w3 ⟨rfl,hb3⟩
 have hS3 : Below w1.heap.size w1 w3 := below2 (below_drew w1) hb3
 refine hK.out _ _ hS3 ?_
 clear hK hS
 have hS := hS3
 try simp only [Act.put,List.setIfInBounds_toArray,List.set_cons_zero,List.set_cons_succ]
 refine held_take (i := 8) (v := .int .i64 (refNode m (m.nds.getD p nd0) k wt)) rfl (by kernel_rfl) (fun _ _ _ h => h) (.inl ⟨rfl,fun w hS => ?_⟩) hS ?_
 ·obtain ⟨⟨c0,c1,c2,c3,c4,c5,c6⟩,-⟩ := HBA.out.below hS
  obtain ⟨⟨d0,d1,d2,d3,d4,d5,d6⟩,-⟩ := HBD.out.below hS
  obtain ⟨n0,n1,n2,n3,n4,n5⟩ := HND.out.below hS
  go_simp
 simp only [Act.put,List.setIfInBounds_toArray,List.set_cons_zero,List.set_cons_succ]
 refine wpAnyH_done (by kernel_rfl) ?_ _
 refine NoPanic.normal ?_
 exact hQ.out _ _ _ _ _ _ _ _ _ hS3
noncomputable def refP (m : Mp) (k id z r wt g : Int) (ns : List Int) : Int :=
 if ¬ MayK k id z r wt g ns.length then 1 else if m.ep = 2147483647 then 6 else if k = 9 then 0 else if k = 1 then refAdd m id z r wt else if k = 8 then refPin m g ns else if k = 10 then refClean m g wt
 else match findN m.nds id with | none => 5 | some x => refNode m x k wt
def ErrIs (n : Int) (w : World) (e : Ending) (w' : World) : Prop := e = .returned (.int .i64 n) /\ Below w.heap.size w w'
set_option maxHeartbeats 4000000 in
set_option maxRecDepth 60000 in
theorem refusal_any {m : Mp} {s : MV} (hM : MayM m) (k id z r wt g : Int) (a : Option Addr) (len cap : Nat) (ns : List Int) (w : World) (h : MapAt w m s) (hD : RowI w a len cap ns) :
  Calls Tryz.prog 37 #[.agg (mapCells m s).toArray,.agg #[.int .i64 k,.int .i64 id,.int .i64 z,.int .i64 r,.int .i64 wt,.int .i64 g,.slice a len cap]] w fun e w' => ErrIs (refP m k id z r wt g ns) w e w' := by
 have hS := hM.stand
 have HMB : Hid (∀ W,Calls Tryz.prog 64 #[.agg #[.int .i64 k,.int .i64 id,.int .i64 z,.int .i64 r,.int .i64 wt,.int .i64 g,.slice a len cap]] W fun e w' => e = .returned (.bool (decide (MayK k id z r wt g len))) /\ Below W.heap.size W w') := fun W => mayBe_any k id z r wt g a len cap W
 have HR1 : Hid (∀ W,Below w.heap.size w W -> Calls Tryz.prog 65 #[.agg (mapCells m s).toArray,.agg #[.int .i64 k,.int .i64 id,.int .i64 z,.int .i64 r,.int .i64 wt,.int .i64 g,.slice a len cap]] W fun e w' => e = .returned (.int .i64 (refAdd m id z r wt)) /\ Below W.heap.size W w') := fun W hb => refuseAdd_any hS.nds k id z r wt g a len cap W (h.nds.below hb)
 have HR8 : Hid (∀ W,Below w.heap.size w W -> Calls Tryz.prog 66 #[.agg (mapCells m s).toArray,.agg #[.int .i64 k,.int .i64 id,.int .i64 z,.int .i64 r,.int .i64 wt,.int .i64 g,.slice a len cap]] W fun e w' => e = .returned (.int .i64 (refPin m g ns)) /\ Below W.heap.size W w') := fun W hb => refusePin_any hS hM.cnt.2.2 k id z r wt g a len cap ns W (h.nds.below hb) (h.tms.below hb) (hD.below hb)
 have HR10 : Hid (∀ W,Below w.heap.size w W -> Calls Tryz.prog 67 #[.agg (mapCells m s).toArray,.agg #[.int .i64 k,.int .i64 id,.int .i64 z,.int .i64 r,.int .i64 wt,.int .i64 g,.slice a len cap]] W fun e w' => e = .returned (.int .i64 (refClean m g wt)) /\ Below W.heap.size W w') := fun W hb => refuseClean_any hM.cnt.2.2 hM.trs.1 k id z r wt g a len cap W (h.trs.below hb)
 have HND : Hid (∀ W,Below w.heap.size w W -> Calls Tryz.prog 68 #[.agg (mapCells m s).toArray,.int .i64 id] W fun e w' => Below W.heap.size W w' /\ ((findN m.nds id = none /\ ∃ p : Nat,e = .returned (.tuple #[.int .i64 (p : Int),.bool false])) ∨ ∃ p : Nat,e = .returned (.tuple #[.int .i64 (p : Int),.bool true]) /\ p < s.lN /\ findN m.nds id = some (m.nds.getD p nd0))) := fun W hb => (node_any m s id W (h.nds.below hb) hS.nds).mono fun e w' ⟨hb,p,t,he,hI⟩ => by
  have hu := srch_up hS.nds hI
  refine ⟨hb,?_⟩
  cases t
  ·exact .inl ⟨(hu.2 rfl).2,p,he⟩
  ·exact .inr ⟨p,he,by rw [<- h.nds.1]; exact (hu.1 rfl).1,(hu.1 rfl).2.2⟩
 have HRN : Hid (∀ x W,2 <= k /\ k <= 7 -> Below w.heap.size w W -> Calls Tryz.prog 69 #[.agg (mapCells m s).toArray,.agg (ndCells x).toArray,.agg #[.int .i64 k,.int .i64 id,.int .i64 z,.int .i64 r,.int .i64 wt,.int .i64 g,.slice a len cap]] W fun e w' => e = .returned (.int .i64 (refNode m x k wt)) /\ Below W.heap.size W w') := fun x W hk hb => refuseNode_any m s x k id z r wt g hk a len cap W (h.below hb)
 have HNS : Hid (NdsAt w s.aN s.lN s.cN m.nds) := h.nds
 have HP : Hid (refP m k id z r wt g ns = if ¬ MayK k id z r wt g len then 1 else if m.ep = 2147483647 then 6 else if k = 9 then 0 else if k = 1 then refAdd m id z r wt else if k = 8 then refPin m g ns else if k = 10 then refClean m g wt else match findN m.nds id with | none => 5 | some x => refNode m x k wt) := by
  show _ = _
  unfold refP
  rw [hD.1]
 rw [map_split] at HR1 HR8 HR10 HND HRN
 rw [map_split]
 obtain ⟨aN,lN,cN,aT,lT,cT,aR,lR,cR⟩ := s
 simp only at *
 clear h hD hM hS
 obtain ⟨w1,hw1⟩ : ∃ w1,w1 = ((w.alloc (.cells #[.int .i64 m.ep,.int .i64 m.size,.int .i64 m.mn,.int .i64 m.gr,.slice aN lN cN,.slice aT lT cT,.slice aR lR cR] 26)).alloc (.cells #[.int .i64 k,.int .i64 id,.int .i64 z,.int .i64 r,.int .i64 wt,.int .i64 g,.slice a len cap] 37)) := ⟨_,rfl⟩
 have hb1 : Below w.heap.size w w1 := by rw [hw1]; exact below2 (below_alloc _ _) (below_alloc _ _)
 have HBA : Hid (Box7 w1 w.heap.size (.int .i64 m.ep) (.int .i64 m.size) (.int .i64 m.mn) (.int .i64 m.gr) (.slice aN lN cN) (.slice aT lT cT) (.slice aR lR cR)) := by
  rw [hw1]
  exact (Box7.new w _ _ _ _ _ _ _ _).below (below_alloc _ _)
 have HBD : Hid (Box7 w1 (w.heap.size + 1) (.int .i64 k) (.int .i64 id) (.int .i64 z) (.int .i64 r) (.int .i64 wt) (.int .i64 g) (.slice a len cap)) := by
  rw [hw1]
  have := Box7.new (w.alloc (.cells #[.int .i64 m.ep,.int .i64 m.size,.int .i64 m.mn,.int .i64 m.gr,.slice aN lN cN,.slice aT lT cT,.slice aR lR cR] 26)) (.int .i64 k) (.int .i64 id) (.int .i64 z) (.int .i64 r) (.int .i64 wt) (.int .i64 g) (.slice a len cap) 37
  rwa [show (w.alloc (.cells #[.int .i64 m.ep,.int .i64 m.size,.int .i64 m.mn,.int .i64 m.gr,.slice aN lN cN,.slice aT lT cT,.slice aR lR cR] 26)).heap.size = w.heap.size + 1 by simp] at this
 have HB1 : Hid (Below w.heap.size w w1) := hb1
 have HW1 : Hid (w1 = ((w.alloc (.cells #[.int .i64 m.ep,.int .i64 m.size,.int .i64 m.mn,.int .i64 m.gr,.slice aN lN cN,.slice aT lT cT,.slice aR lR cR] 26)).alloc (.cells #[.int .i64 k,.int .i64 id,.int .i64 z,.int .i64 r,.int .i64 wt,.int .i64 g,.slice a len cap] 37))) := hw1
 clear hw1 hb1
 by_cases hmb : MayK k id z r wt g len
 ·rw [decide_eq_true hmb] at HMB
  by_cases hep : m.ep = 2147483647
  ·have HR : Hid (refP m k id z r wt g ns = 6) := by
    show _ = _
    rw [HP.out,if_neg (fun h => h hmb),if_pos hep]
   have bep : (m.ep == 2147483647) = true := by simpa using hep
   rw [HR.out]
   clear HP hmb hep HR
   go_enter Tryz.func37,Tryz.ntmps37
   go_upto_region 1 with fail
   rw [<- HW1.out]
   obtain ⟨⟨c0,c1,c2,c3,c4,c5,c6⟩,-⟩ := HBA.out.below (Below.refl _ _); obtain ⟨⟨d0,d1,d2,d3,d4,d5,d6⟩,-⟩ := HBD.out.below (Below.refl _ _); have hlD : w.heap.size + 1 < w1.heap.size := (HBD.out.below (Below.refl _ _)).lt; have hlA : w.heap.size < w1.heap.size := (HBA.out.below (Below.refl _ _)).lt
   go_wp2_with (go_at_call 64; refine (HMB.out _).mono ?_; rintro e w2 ⟨rfl,hb2⟩; obtain ⟨⟨c0',c1',c2',c3',c4',c5',c6'⟩,-⟩ := HBA.out.below hb2; obtain ⟨⟨d0',d1',d2',d3',d4',d5',d6'⟩,-⟩ := HBD.out.below hb2; have hlD' : w.heap.size + 1 < w2.heap.size := (HBD.out.below hb2).lt; have hlA' : w.heap.size < w2.heap.size := (HBA.out.below hb2).lt)
   go_ret
   exact ⟨rfl,below2 HB1.out hb2⟩
  ·have bep : (m.ep == 2147483647) = false := by simpa using hep
   have hk10 : k = 9 ∨ k = 1 ∨ k = 8 ∨ k = 10 ∨ (2 <= k /\ k <= 7) := by
    unfold MayK at hmb
    omega
   rcases hk10 with rfl | rfl | rfl | rfl | hk
   ·have HR : Hid (refP m 9 id z r wt g ns = 0) := by
     show _ = _
     rw [HP.out,if_neg (fun h => h hmb),if_neg hep]
     rfl
    rw [HR.out]
    clear HP hmb hep HR
    go_enter Tryz.func37,Tryz.ntmps37
    go_upto_region 1 with fail
    rw [<- HW1.out]
    obtain ⟨⟨c0,c1,c2,c3,c4,c5,c6⟩,-⟩ := HBA.out.below (Below.refl _ _); obtain ⟨⟨d0,d1,d2,d3,d4,d5,d6⟩,-⟩ := HBD.out.below (Below.refl _ _); have hlD : w.heap.size + 1 < w1.heap.size := (HBD.out.below (Below.refl _ _)).lt; have hlA : w.heap.size < w1.heap.size := (HBA.out.below (Below.refl _ _)).lt
    go_wp2_with (go_at_call 64; refine (HMB.out _).mono ?_; rintro e w2 ⟨rfl,hb2⟩; obtain ⟨⟨c0',c1',c2',c3',c4',c5',c6'⟩,-⟩ := HBA.out.below hb2; obtain ⟨⟨d0',d1',d2',d3',d4',d5',d6'⟩,-⟩ := HBD.out.below hb2; have hlD' : w.heap.size + 1 < w2.heap.size := (HBD.out.below hb2).lt; have hlA' : w.heap.size < w2.heap.size := (HBA.out.below hb2).lt)
    go_ret
    exact ⟨rfl,below2 HB1.out hb2⟩
   ·have HR : Hid (refP m 1 id z r wt g ns = refAdd m id z r wt) := by
     show _ = _
     rw [HP.out,if_neg (fun h => h hmb),if_neg hep]
     rfl
    rw [HR.out]
    clear HP hmb hep HR
    go_enter Tryz.func37,Tryz.ntmps37
    go_upto_region 1 with fail
    rw [<- HW1.out]
    obtain ⟨⟨c0,c1,c2,c3,c4,c5,c6⟩,-⟩ := HBA.out.below (Below.refl _ _); obtain ⟨⟨d0,d1,d2,d3,d4,d5,d6⟩,-⟩ := HBD.out.below (Below.refl _ _); have hlD : w.heap.size + 1 < w1.heap.size := (HBD.out.below (Below.refl _ _)).lt; have hlA : w.heap.size < w1.heap.size := (HBA.out.below (Below.refl _ _)).lt
    go_wp2_with (first | (go_at_call 64; refine (HMB.out _).mono ?_; rintro e w2 ⟨rfl,hb2⟩; obtain ⟨⟨c0',c1',c2',c3',c4',c5',c6'⟩,-⟩ := HBA.out.below hb2; obtain ⟨⟨d0',d1',d2',d3',d4',d5',d6'⟩,-⟩ := HBD.out.below hb2; have hlD' : w.heap.size + 1 < w2.heap.size := (HBD.out.below hb2).lt; have hlA' : w.heap.size < w2.heap.size := (HBA.out.below hb2).lt) | (go_at_call 65; refine (HR1.out _ (below2 HB1.out hb2)).mono ?_; rintro e w3 ⟨rfl,hb3⟩))
    go_ret
    exact ⟨rfl,below2 HB1.out (below2 hb2 hb3)⟩
   ·have HR : Hid (refP m 8 id z r wt g ns = refPin m g ns) := by
     show _ = _
     rw [HP.out,if_neg (fun h => h hmb),if_neg hep]
     rfl
    rw [HR.out]
    clear HP hmb hep HR
    go_enter Tryz.func37,Tryz.ntmps37
    go_upto_region 1 with fail
    rw [<- HW1.out]
    obtain ⟨⟨c0,c1,c2,c3,c4,c5,c6⟩,-⟩ := HBA.out.below (Below.refl _ _); obtain ⟨⟨d0,d1,d2,d3,d4,d5,d6⟩,-⟩ := HBD.out.below (Below.refl _ _); have hlD : w.heap.size + 1 < w1.heap.size := (HBD.out.below (Below.refl _ _)).lt; have hlA : w.heap.size < w1.heap.size := (HBA.out.below (Below.refl _ _)).lt
    go_wp2_with (first | (go_at_call 64; refine (HMB.out _).mono ?_; rintro e w2 ⟨rfl,hb2⟩; obtain ⟨⟨c0',c1',c2',c3',c4',c5',c6'⟩,-⟩ := HBA.out.below hb2; obtain ⟨⟨d0',d1',d2',d3',d4',d5',d6'⟩,-⟩ := HBD.out.below hb2; have hlD' : w.heap.size + 1 < w2.heap.size := (HBD.out.below hb2).lt; have hlA' : w.heap.size < w2.heap.size := (HBA.out.below hb2).lt) | (go_at_call 66; refine (HR8.out _ (below2 HB1.out hb2)).mono ?_; rintro e w3 ⟨rfl,hb3⟩))
    go_ret
    exact ⟨rfl,below2 HB1.out (below2 hb2 hb3)⟩
   ·have HR : Hid (refP m 10 id z r wt g ns = refClean m g wt) := by
     show _ = _
     rw [HP.out,if_neg (fun h => h hmb),if_neg hep]
     rfl
    rw [HR.out]
    clear HP hmb hep HR
    go_enter Tryz.func37,Tryz.ntmps37
    go_upto_region 1 with fail
    rw [<- HW1.out]
    obtain ⟨⟨c0,c1,c2,c3,c4,c5,c6⟩,-⟩ := HBA.out.below (Below.refl _ _); obtain ⟨⟨d0,d1,d2,d3,d4,d5,d6⟩,-⟩ := HBD.out.below (Below.refl _ _); have hlD : w.heap.size + 1 < w1.heap.size := (HBD.out.below (Below.refl _ _)).lt; have hlA : w.heap.size < w1.heap.size := (HBA.out.below (Below.refl _ _)).lt
    go_wp2_with (first | (go_at_call 64; refine (HMB.out _).mono ?_; rintro e w2 ⟨rfl,hb2⟩; obtain ⟨⟨c0',c1',c2',c3',c4',c5',c6'⟩,-⟩ := HBA.out.below hb2; obtain ⟨⟨d0',d1',d2',d3',d4',d5',d6'⟩,-⟩ := HBD.out.below hb2; have hlD' : w.heap.size + 1 < w2.heap.size := (HBD.out.below hb2).lt; have hlA' : w.heap.size < w2.heap.size := (HBA.out.below hb2).lt) | (go_at_call 67; refine (HR10.out _ (below2 HB1.out hb2)).mono ?_; rintro e w3 ⟨rfl,hb3⟩))
    go_ret
    exact ⟨rfl,below2 HB1.out (below2 hb2 hb3)⟩
   ·have HR : Hid (refP m k id z r wt g ns = match findN m.nds id with | none => 5 | some x => refNode m x k wt) := by
     show _ = _
     rw [HP.out,if_neg (fun h => h hmb),if_neg hep,if_neg (by omega),if_neg (by omega),if_neg (by omega),if_neg (by omega)]
    have b9 : (k == 9) = false := by simp; omega
    have b1 : (k == 1) = false := by simp; omega
    have b8 : (k == 8) = false := by simp; omega
    have b10 : (k == 10) = false := by simp; omega
    clear HP hmb hep HR1 HR8 HR10
    go_enter Tryz.func37,Tryz.ntmps37
    go_upto_region 1 with fail
    rw [<- HW1.out]
    obtain ⟨⟨c0,c1,c2,c3,c4,c5,c6⟩,-⟩ := HBA.out.below (Below.refl _ _); obtain ⟨⟨d0,d1,d2,d3,d4,d5,d6⟩,-⟩ := HBD.out.below (Below.refl _ _); have hlD : w.heap.size + 1 < w1.heap.size := (HBD.out.below (Below.refl _ _)).lt; have hlA : w.heap.size < w1.heap.size := (HBA.out.below (Below.refl _ _)).lt
    go_upto_region 14 with (go_at_call 64; refine (HMB.out _).mono ?_; rintro e w2 ⟨rfl,hb2⟩; obtain ⟨⟨c0',c1',c2',c3',c4',c5',c6'⟩,-⟩ := HBA.out.below hb2; obtain ⟨⟨d0',d1',d2',d3',d4',d5',d6'⟩,-⟩ := HBD.out.below hb2; have hlD' : w.heap.size + 1 < w2.heap.size := (HBD.out.below hb2).lt; have hlA' : w.heap.size < w2.heap.size := (HBA.out.below hb2).lt)
    have HB2 : Hid (Below w.heap.size w w2) := below2 HB1.out hb2
    go_wp2_with fail
    refine (HND.out _ HB2.out).mono ?_
    rintro e w3 ⟨hb3,hcase⟩
    have HB3 : Hid (Below w.heap.size w w3) := below2 HB2.out hb3
    have HBA3 : Hid (Box7 w3 w.heap.size (.int .i64 m.ep) (.int .i64 m.size) (.int .i64 m.mn) (.int .i64 m.gr) (.slice aN lN cN) (.slice aT lT cT) (.slice aR lR cR)) := HBA.out.below (below2 hb2 hb3)
    have HBD3 : Hid (Box7 w3 (w.heap.size + 1) (.int .i64 k) (.int .i64 id) (.int .i64 z) (.int .i64 r) (.int .i64 wt) (.int .i64 g) (.slice a len cap)) := HBD.out.below (below2 hb2 hb3)
    clear c0 c1 c2 c3 c4 c5 c6 d0 d1 d2 d3 d4 d5 d6 c0' c1' c2' c3' c4' c5' c6' d0' d1' d2' d3' d4' d5' d6' hlA hlD hlA' hlD' hb2 hb3
    rcases hcase with ⟨hf,p,rfl⟩ | ⟨p,rfl,hp,hf⟩
    ·go_wp2_with fail
     go_ret
     exact ⟨by rw [HR.out,hf]; rfl,HB3.out⟩
    ·obtain ⟨b,off,rfl,hbs,hcell⟩ := (HNS.out.below HB3.out).some (by omega)
     have HNDp : Hid (NdAt w3 b (off + p * 6) (m.nds.getD p nd0)) := hcell p hp
     have hp1 : (p : Int) < (lN : Int) := by omega
     clear hcell
     go_upto_region 17 with fail
     refine ref_put _ _ _ _ _ _ _ _ _ _ _ _ _ _ _ _ _ _ _ _ _ _ _ _ _ _ _ _ _ _ _ _ _ _ _ _ _ _ _ _ _ _ _ _ _ _ w.heap.size (w.heap.size + 1) p b off m lN cN aT lT cT aR lR cR k id z r wt g a len cap w3 _ hp1 HBA3.out HBD3.out HNDp.out (fun W hW => HRN.out (m.nds.getD p nd0) W hk (below2 HB3.out hW)) (fun u41 u42 u43 u44 u45 u46 u47 u48 wC hC => ?_)
     have HRR : Hid (refP m k id z r wt g ns = refNode m (m.nds.getD p nd0) k wt) := by
      show _ = _
      rw [HR.out,hf]
     have HBC : Hid (Below w.heap.size w wC) := below2 HB3.out hC
     clear hC HR hf
     first | go_wp2_with fail | skip
     go_ret
     exact ⟨by rw [HRR.out]; rfl,HBC.out⟩
 ·rw [decide_eq_false hmb] at HMB
  have HR : Hid (refP m k id z r wt g ns = 1) := by
   show _ = _
   rw [HP.out,if_pos hmb]
  rw [HR.out]
  clear HP hmb HR
  go_enter Tryz.func37,Tryz.ntmps37
  go_upto_region 1 with fail
  rw [<- HW1.out]
  obtain ⟨⟨c0,c1,c2,c3,c4,c5,c6⟩,-⟩ := HBA.out.below (Below.refl _ _); obtain ⟨⟨d0,d1,d2,d3,d4,d5,d6⟩,-⟩ := HBD.out.below (Below.refl _ _); have hlD : w.heap.size + 1 < w1.heap.size := (HBD.out.below (Below.refl _ _)).lt; have hlA : w.heap.size < w1.heap.size := (HBA.out.below (Below.refl _ _)).lt
  go_wp2_with (go_at_call 64; refine (HMB.out _).mono ?_; rintro e w2 ⟨rfl,hb2⟩; obtain ⟨⟨c0',c1',c2',c3',c4',c5',c6'⟩,-⟩ := HBA.out.below hb2; obtain ⟨⟨d0',d1',d2',d3',d4',d5',d6'⟩,-⟩ := HBD.out.below hb2; have hlD' : w.heap.size + 1 < w2.heap.size := (HBD.out.below hb2).lt; have hlA' : w.heap.size < w2.heap.size := (HBA.out.below hb2).lt)
  go_ret
  exact ⟨rfl,below2 HB1.out hb2⟩
end Go.Proofs.YtcncbjknfcjnmaaGreat.Tp
namespace Go.Proofs.YtcncbjknfcjnmaaGreat.Tp
open Go.ChangeShapes Go.WideShapes Go.ChangeAt Go.RowKit
abbrev nilP : Int × Value := (0,.slice none 0 0)
def IRow (w : World) (B : Nat) (v : Value) (l : List Int) : Prop := w.ownsRow B 3 1 v l.length (intCells l)
def TmPart (V : Nat -> Value) (B : Nat) (E : TypeId) (ts : List Tm) (k : Nat) (v : Value) (w : World) : Prop :=
 ∃ L : List (Int × Value),L.length = ts.length /\ w.ownsRow B E 2 v ts.length (pairCells L) /\ ∀ i,i < ts.length -> (L.getD i nilP).1 = (ts.getD i tm0).g /\ (i < k -> IRow w B (L.getD i nilP).2 (ts.getD i tm0).ns) /\ (k <= i -> (L.getD i nilP).2 = V i)
def TmRow (B : Nat) (E : TypeId) (ts : List Tm) (v : Value) (w : World) : Prop := TmPart (fun _ => .slice none 0 0) B E ts ts.length v w
theorem TmPart.below {V : Nat -> Value} {B : Nat} {E : TypeId} {ts : List Tm} {k : Nat} {v : Value} {w w' : World} (h : TmPart V B E ts k v w) (hb : Below w.heap.size w w') : TmPart V B E ts k v w' := by
 obtain ⟨L,h1,h2,h3⟩ := h
 exact ⟨L,h1,own_below h2 hb,fun i hi => ⟨(h3 i hi).1,fun hk => own_below ((h3 i hi).2.1 hk) hb,(h3 i hi).2.2⟩⟩
theorem TmPart.type {V : Nat -> Value} {B : Nat} {E : TypeId} {ts : List Tm} {k : Nat} {v : Value} {w w' : World} (h : TmPart V B E ts k v w) {b : Nat} {cb : Array Value} {tb : TypeId} {fz : Nat × Nat} (hg : w.grownBy w' (some b)) (hb : w.heap[b]? = some (.cells cb tb fz)) (hE : tb ≠ E) (h3 : tb ≠ 3) : TmPart V B E ts k v w' := by
 obtain ⟨L,h1,h2,h4⟩ := h
 exact ⟨L,h1,own_type h2 hg hb hE,fun i hi => ⟨(h4 i hi).1,fun hk => own_type ((h4 i hi).2.1 hk) hg hb h3,(h4 i hi).2.2⟩⟩
theorem TmPart.done {V : Nat -> Value} {B : Nat} {E : TypeId} {ts : List Tm} {v : Value} {w : World} (h : TmPart V B E ts ts.length v w) : TmRow B E ts v w := by
 obtain ⟨L,h1,h2,h3⟩ := h
 exact ⟨L,h1,h2,fun i hi => ⟨(h3 i hi).1,(h3 i hi).2.1,fun hk => absurd hi (by omega)⟩⟩
theorem getD_lt {L : List (Int × Value)} {k : Nat} (h : k < L.length) : L.getD k nilP = L[k] := by simp [h]
theorem TmPart.cells {V : Nat -> Value} {B : Nat} {E : TypeId} {ts : List Tm} {k : Nat} {g cap : Nat} {w : World} (h : TmPart V B E ts k (.slice (some ⟨g,0,none⟩) ts.length cap) w) (hk : k < ts.length) : w.cell? ⟨g,k * 2,none⟩ = some (.int .i64 (ts.getD k tm0).g) /\ w.cell? ⟨g,k * 2 + 1,none⟩ = some (V k) /\ w.frozen? ⟨g,k * 2 + 1,none⟩ = false := by
 obtain ⟨L,h1,h2,h3⟩ := h
 have hp := pairCells_get L k (by omega)
 have e := getD_lt (L := L) (k := k) (by omega)
 have h4 := h3 k hk
 rw [e] at h4
 refine ⟨?_,?_,h2.frozenAt _⟩
 ·rw [h2.cellAt (k * 2) (by omega),hp.1,h4.1]
 ·rw [h2.cellAt (k * 2 + 1) (by omega),hp.2,h4.2.2 (Nat.le_refl _)]
theorem getD_set_eq (L : List (Int × Value)) (k : Nat) (x : Int × Value) (h : k < L.length) : (L.set k x).getD k nilP = x := by simp [h]
theorem getD_set_ne (L : List (Int × Value)) (k i : Nat) (x : Int × Value) (h : i ≠ k) : (L.set k x).getD i nilP = L.getD i nilP := by
 simp [List.getD_eq_getElem?_getD,Ne.symm h]
theorem TmPart.step {V : Nat -> Value} {B : Nat} {E : TypeId} {ts : List Tm} {k : Nat} {g cap : Nat} {v : Value} {w : World} (h : TmPart V B E ts k (.slice (some ⟨g,0,none⟩) ts.length cap) w) (hk : k < ts.length) (hI : IRow w B v (ts.getD k tm0).ns) (hE : E ≠ 3) : TmPart V B E ts (k + 1) (.slice (some ⟨g,0,none⟩) ts.length cap) (w.setCell ⟨g,k * 2 + 1,none⟩ v) := by
 obtain ⟨L,h1,h2,h3⟩ := h
 obtain ⟨s1,s2⟩ := h2.stored (k * 2 + 1) v
 have hty : ∃ cur,w.heap[g]? = some (.cells cur E (0,0)) := by
  rcases h2.2 with ⟨e,_⟩ | ⟨g',cap',cur,e,_,hh,_⟩
  ·cases e
  ·injection e with e1 e2 e3
   injection e1 with e1
   injection e1 with e1
   subst e1
   exact ⟨cur,hh⟩
 obtain ⟨cur,hh⟩ := hty
 have hkp : ∀ (u : Value) (l : List Int),IRow w B u l -> IRow (w.setCell ⟨g,k * 2 + 1,none⟩ v) B u l := fun u l hu => own_type hu s2 hh hE
 rw [pairCells_set L k (by omega)] at s1
 refine ⟨L.set k ((L[k]).1,v),by simpa using h1,s1,fun i hi => ?_⟩
 by_cases e : i = k
 ·subst e
  rw [getD_set_eq _ _ _ (by omega)]
  have h4 := h3 i hi
  rw [getD_lt (by omega)] at h4
  exact ⟨h4.1,fun _ => hkp _ _ hI,fun h => by omega⟩
 ·rw [getD_set_ne _ _ _ _ e]
  exact ⟨(h3 i hi).1,fun h => hkp _ _ ((h3 i hi).2.1 (by omega)),fun h => (h3 i hi).2.2 (by omega)⟩
def mkP (f : Nat -> Int) (V : Nat -> Value) (n : Nat) : List (Int × Value) := (List.range n).map fun i => (f i,V i)
theorem mkP_len (f : Nat -> Int) (V : Nat -> Value) (n : Nat) : (mkP f V n).length = n := by simp [mkP]
theorem mkP_get (f : Nat -> Int) (V : Nat -> Value) (n i : Nat) (h : i < n) : (mkP f V n).getD i nilP = (f i,V i) := by simp [mkP,h]
theorem mkP_one (f : Nat -> Int) (V : Nat -> Value) (n : Nat) (h : ∀ i,i < n -> ∃ a l c,V i = .slice a l c) : ∀ u ∈ pairCells (mkP f V n),u.oneCell' = true := by
 intro u hu
 obtain ⟨x,hx,hu⟩ := List.mem_flatMap.1 hu
 obtain ⟨i,hi,rfl⟩ := List.mem_map.1 hx
 obtain ⟨a,l,c,e⟩ := h i (by simpa using hi)
 simp only [List.mem_cons,List.not_mem_nil,or_false] at hu
 rcases hu with rfl | rfl
 ·rfl
 ·rw [e]; rfl
theorem mkP_cell (f : Nat -> Int) (V : Nat -> Value) (n j : Nat) (u : Value) (h : (pairCells (mkP f V n))[j]? = some u) : ∃ i,i < n /\ ((j = i * 2 /\ u = .int .i64 (f i)) ∨ (j = i * 2 + 1 /\ u = V i)) := by
 have hj : j < (pairCells (mkP f V n)).length := (List.getElem?_eq_some_iff.1 h).1
 rw [pairCells_len,mkP_len] at hj
 have hi : j / 2 < n := by omega
 have hp := pairCells_get (mkP f V n) (j / 2) (by rw [mkP_len]; exact hi)
 have e : (mkP f V n)[j / 2]'(by rw [mkP_len]; exact hi) = (f (j / 2),V (j / 2)) := by simp [mkP]
 rw [e] at hp
 refine ⟨j / 2,hi,?_⟩
 by_cases h2 : j % 2 = 0
 ·have ej : j = j / 2 * 2 := by omega
  rw [ej,hp.1] at h
  exact .inl ⟨ej,(Option.some.inj h).symm⟩
 ·have ej : j = j / 2 * 2 + 1 := by omega
  rw [ej,hp.2] at h
  exact .inr ⟨ej,(Option.some.inj h).symm⟩
theorem TmsAt.pairs {w : World} {a : Option Addr} {len cap : Nat} {ts : List Tm} (h : TmsAt w a len cap ts) : ∃ V : Nat -> Value,(∀ i,i < len -> ∃ a l c,V i = .slice a l c /\ RowI w a l c (ts.getD i tm0).ns) /\ Lies w a len (pairCells (mkP (fun i => (ts.getD i tm0).g) V len)) := by
 by_cases h0 : len = 0
 ·exact ⟨fun _ => .slice none 0 0,fun i hi => by omega,.inl h0⟩
 ·obtain ⟨b,off,rfl,-,hc⟩ := h.some (by omega)
  have each : ∀ i,∃ v : Value,i < len -> (∃ a l c,v = .slice a l c /\ RowI w a l c (ts.getD i tm0).ns) /\ w.cell? ⟨b,off + i * 2 + 1,none⟩ = Option.some v := fun i => by
   by_cases hi : i < len
   ·obtain ⟨-,a,l,c,e1,hr⟩ := hc i hi
    exact ⟨_,fun _ => ⟨⟨a,l,c,rfl,hr⟩,e1⟩⟩
   ·exact ⟨.slice none 0 0,fun h => absurd h hi⟩
  obtain ⟨V,hV⟩ := Classical.axiomOfChoice each
  refine ⟨V,fun i hi => (hV i hi).1,.inr ⟨b,off,rfl,fun j u hj => ?_⟩⟩
  obtain ⟨i,hi,⟨rfl,rfl⟩ | ⟨rfl,rfl⟩⟩ := mkP_cell _ _ _ _ _ hj
  ·exact (hc i hi).1
  ·exact (hV i hi).2
theorem TrsAt.pairs {w : World} {a : Option Addr} {len cap : Nat} {ts : List Tr} (h : TrsAt w a len cap ts) : ∃ V : Nat -> Value,(∀ i,i < len -> ∃ a l c,V i = .slice a l c /\ TmsAt w a l c (ts.getD i tr0).past) /\ Lies w a len (pairCells (mkP (fun i => (ts.getD i tr0).since) V len)) := by
 by_cases h0 : len = 0
 ·exact ⟨fun _ => .slice none 0 0,fun i hi => by omega,.inl h0⟩
 ·obtain ⟨b,off,rfl,-,hc⟩ := h.some (by omega)
  have each : ∀ i,∃ v : Value,i < len -> (∃ a l c,v = .slice a l c /\ TmsAt w a l c (ts.getD i tr0).past) /\ w.cell? ⟨b,off + i * 2 + 1,none⟩ = Option.some v := fun i => by
   by_cases hi : i < len
   ·obtain ⟨-,a,l,c,e1,hr⟩ := hc i hi
    exact ⟨_,fun _ => ⟨⟨a,l,c,rfl,hr⟩,e1⟩⟩
   ·exact ⟨.slice none 0 0,fun h => absurd h hi⟩
  obtain ⟨V,hV⟩ := Classical.axiomOfChoice each
  refine ⟨V,fun i hi => (hV i hi).1,.inr ⟨b,off,rfl,fun j u hj => ?_⟩⟩
  obtain ⟨i,hi,⟨rfl,rfl⟩ | ⟨rfl,rfl⟩⟩ := mkP_cell _ _ _ _ _ hj
  ·exact (hc i hi).1
  ·exact (hV i hi).2
theorem TmPart.start {V : Nat -> Value} {B : Nat} {E : TypeId} {ts : List Tm} {v : Value} {w : World} {n : Nat} (hn : ts.length = n) (h : w.ownsRow B E 2 v n (pairCells (mkP (fun i => (ts.getD i tm0).g) V n))) : TmPart V B E ts 0 v w := by
 subst hn
 refine ⟨_,mkP_len _ _ _,h,fun i hi => ?_⟩
 rw [mkP_get _ _ _ _ hi]
 exact ⟨rfl,fun h => absurd h (Nat.not_lt_zero _),fun _ => rfl⟩
def TrPart (V : Nat -> Value) (B : Nat) (ts : List Tr) (k : Nat) (v : Value) (w : World) : Prop :=
 ∃ L : List (Int × Value),L.length = ts.length /\ w.ownsRow B 53 2 v ts.length (pairCells L) /\ (∀ i,i < ts.length -> (L.getD i nilP).1 = (ts.getD i tr0).since /\ (i < k -> TmRow B 55 (ts.getD i tr0).past (L.getD i nilP).2 w) /\ (k <= i -> (L.getD i nilP).2 = V i)) /\ ∀ i j,i < j -> j < k -> j < ts.length -> ∀ b,(L.getD i nilP).2.ownBlock = some b -> (L.getD j nilP).2.ownBlock ≠ some b
def TrRow (B : Nat) (ts : List Tr) (v : Value) (w : World) : Prop := TrPart (fun _ => .slice none 0 0) B ts ts.length v w
theorem TrPart.done {V : Nat -> Value} {B : Nat} {ts : List Tr} {v : Value} {w : World} (h : TrPart V B ts ts.length v w) : TrRow B ts v w := by
 obtain ⟨L,h1,h2,h3,h4⟩ := h
 exact ⟨L,h1,h2,fun i hi => ⟨(h3 i hi).1,(h3 i hi).2.1,fun hk => absurd hi (by omega)⟩,h4⟩
theorem TrPart.cells {V : Nat -> Value} {B : Nat} {ts : List Tr} {k : Nat} {g cap : Nat} {w : World} (h : TrPart V B ts k (.slice (some ⟨g,0,none⟩) ts.length cap) w) (hk : k < ts.length) : w.cell? ⟨g,k * 2,none⟩ = some (.int .i64 (ts.getD k tr0).since) /\ w.cell? ⟨g,k * 2 + 1,none⟩ = some (V k) /\ w.frozen? ⟨g,k * 2 + 1,none⟩ = false := by
 obtain ⟨L,h1,h2,h3,-⟩ := h
 have hp := pairCells_get L k (by omega)
 have e := getD_lt (L := L) (k := k) (by omega)
 have h4 := h3 k hk
 rw [e] at h4
 refine ⟨?_,?_,h2.frozenAt _⟩
 ·rw [h2.cellAt (k * 2) (by omega),hp.1,h4.1]
 ·rw [h2.cellAt (k * 2 + 1) (by omega),hp.2,h4.2.2 (Nat.le_refl _)]
theorem TrPart.start {V : Nat -> Value} {B : Nat} {ts : List Tr} {v : Value} {w : World} {n : Nat} (hn : ts.length = n) (h : w.ownsRow B 53 2 v n (pairCells (mkP (fun i => (ts.getD i tr0).since) V n))) : TrPart V B ts 0 v w := by
 subst hn
 refine ⟨_,mkP_len _ _ _,h,fun i hi => ?_,fun i j _ hj => absurd hj (Nat.not_lt_zero _)⟩
 rw [mkP_get _ _ _ _ hi]
 exact ⟨rfl,fun h => absurd h (Nat.not_lt_zero _),fun _ => rfl⟩
end Go.Proofs.YtcncbjknfcjnmaaGreat.Tp
