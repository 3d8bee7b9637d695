/-
  A map of one's own as a map; pin of whatever map.
  pin of whatever map.
  change of whatever map.
-/
import Derived.Test.YtcncbjknfcjnmaaGreatPr30
namespace Go.Proofs.YtcncbjknfcjnmaaGreat.Tp
open Go.ChangeShapes Go.WideShapes Go.ChangeAt Go.RowKit
variable {G : Nat -> Prop}
theorem IRow.row {w : World} {B : Nat} {v : Value} {l : List Int} (h : IRow w B v l) : ∃ a n c,v = .slice a n c /\ RowI w a n c l := by
 obtain ⟨a,c,rfl,-⟩ := own_slice h
 exact ⟨a,_,c,rfl,own_rowI h⟩
theorem tms_at {w : World} {B E n cap : Nat} {a : Option Addr} {L : List (Int × Value)} {ts : List Tm} (h : w.ownsRow B E 2 (.slice a n cap) n (pairCells L)) (hA : AllOk G w B L ts) : TmsAt w a n cap ts := by
 have hc := own_caps h
 have hL : L.length = n := by have := h.1; rw [pairCells_len] at this; omega
 have hl : ts.length = n := by rw [<- hA.len]; exact hL
 refine ⟨hl,hc.1,hc.2.1,hc.2.2,?_⟩
 by_cases h0 : n = 0
 ·exact .inl h0
 ·obtain ⟨g,c,e,-,-,-⟩ := own_some h (by omega)
  injection e with e1 e2 e3
  subst e1
  refine .inr ⟨g,0,rfl,fun i hi => ?_⟩
  have hp := pairCells_get L i (by omega)
  have ha := hA.at i (by omega)
  have e := getD_lt (L := L) (k := i) (by omega)
  rw [e] at ha
  obtain ⟨a2,n2,c2,hv,hr⟩ := ha.2.1.row
  refine ⟨?_,a2,n2,c2,?_,hr⟩
  ·rw [Nat.zero_add,h.cellAt (i * 2) (by omega),hp.1,ha.1]
  ·rw [Nat.zero_add,h.cellAt (i * 2 + 1) (by omega),hp.2,hv]
theorem TmRowG.at {w : World} {B E : Nat} {v : Value} {ts : List Tm} (h : TmRowG G B E ts v w) : ∃ a c,v = .slice a ts.length c /\ TmsAt w a ts.length c ts := by
 obtain ⟨L,ho,hA⟩ := h
 obtain ⟨a,c,rfl,-⟩ := own_slice ho
 exact ⟨a,c,rfl,tms_at ho hA⟩
theorem OwnG.map {w : World} {B : Nat} {m : Mp} {s : MV} (h : OwnG G w B m s) : MapAt w m s := by
 obtain ⟨h1,h2⟩ := nds_own h.nds h.ndl
 refine ⟨h1,h2,?_,?_⟩
 ·obtain ⟨L,ho,hA⟩ := h.tms
  rw [h.tml] at ho
  exact tms_at ho hA
 ·obtain ⟨L,hL,ho,hx,-⟩ := h.trs
  rw [h.trl] at ho
  refine trs_own ho h.trl (by rw [hL]; exact h.trl) fun i i1 i2 => ?_
  have hi := hx i i2
  have e := getD_lt (L := L) (k := i) i1
  rw [e] at hi
  have e2 : m.trs.getD i tr0 = m.trs[i] := by simp [i2]
  rw [e2] at hi
  obtain ⟨a,c,hv,ht⟩ := hi.2.at
  exact ⟨hi.1,a,_,c,hv,ht⟩
set_option maxHeartbeats 4000000 in
set_option maxRecDepth 60000 in
theorem pin_1 (t1 t2 t4 t5 t6 t7 t8 t9 t10 t11 t12 t13 t14 t15 t16 t17 t18 t19 t20 t21 t22 t23 t24 t25 t26 t27 t28 t29 t30 t31 t32 t33 t34 t35 t36 t37 t38 t39 t40 t41 t42 t43 t44 t45 t46 : Value) (pm pd p : Nat) (t : Bool) (k id z r wt gd ep sz mn gr : Int) (ad aT : Option Addr) (ld cd lT cT : Nat) (vN vR : Value) (w1 : World) (Q : Exit -> Act -> World -> Prop)
  (hA : Box7 w1 pm (.int .i64 ep) (.int .i64 sz) (.int .i64 mn) (.int .i64 gr) vN (.slice aT lT cT) vR) (hD : Box7 w1 pd (.int .i64 k) (.int .i64 id) (.int .i64 z) (.int .i64 r) (.int .i64 wt) (.int .i64 gd) (.slice ad ld cd))
  (HTP : Hid (∀ W,Below w1.heap.size w1 W -> Calls Tryz.prog 82 #[.agg #[.int .i64 ep,.int .i64 sz,.int .i64 mn,.int .i64 gr,vN,.slice aT lT cT,vR],.int .i64 gd] W fun e w' => e = .returned (.tuple #[.int .i64 (p : Int),.bool t]) /\ Below W.heap.size W w'))
  (hQ : Hid (∀ (u6 u7 u8 u9 u10 u11 u12 u13 u14 : Value) (W : World),Below w1.heap.size w1 W -> Q .normal ⟨#[.pointer (some ⟨pm,0,none⟩),t1,t2,.pointer (some ⟨pd,0,none⟩),.int .i64 (p : Int),.bool t,u6,u7,u8,u9,u10,u11,u12,u13,u14,t15,t16,t17,t18,t19,t20,t21,t22,t23,t24,t25,t26,t27,t28,t29,t30,t31,t32,t33,t34,t35,t36,t37,t38,t39,t40,t41,t42,t43,t44,t45,t46],[]⟩ W)) :
  Code.wp Tryz.prog ((Tryz.f94.body.bind (regionOf 1)).getD .skip) Q ⟨#[.pointer (some ⟨pm,0,none⟩),t1,t2,.pointer (some ⟨pd,0,none⟩),t4,t5,t6,t7,t8,t9,t10,t11,t12,t13,t14,t15,t16,t17,t18,t19,t20,t21,t22,t23,t24,t25,t26,t27,t28,t29,t30,t31,t32,t33,t34,t35,t36,t37,t38,t39,t40,t41,t42,t43,t44,t45,t46],[]⟩ w1 := by
 have HS : Hid (∀ w',Below w1.heap.size w1 w' -> (fun w' => Box7 w' pm (.int .i64 ep) (.int .i64 sz) (.int .i64 mn) (.int .i64 gr) vN (.slice aT lT cT) vR /\ Box7 w' pd (.int .i64 k) (.int .i64 id) (.int .i64 z) (.int .i64 r) (.int .i64 wt) (.int .i64 gd) (.slice ad ld cd)) w') := fun w' h => ⟨hA.below h,hD.below h⟩
 have hS := HS.out w1.drew (below_drew w1)
 clear hA hD
 conv => arg 2; whnf
 refine wp_region_but (S := (fun w' => Box7 w' pm (.int .i64 ep) (.int .i64 sz) (.int .i64 mn) (.int .i64 gr) vN (.slice aT lT cT) vR /\ Box7 w' pd (.int .i64 k) (.int .i64 id) (.int .i64 z) (.int .i64 r) (.int .i64 wt) (.int .i64 gd) (.slice ad ld cd))) (n := 10) mixed5 ?_
 refine but_take (i := 0) (v := .pointer (some ⟨pm,0,none⟩)) rfl (by kernel_rfl) (fun _ _ _ h => h) (.inl ⟨rfl,fun w hS => ?_⟩) hS ?_
 ·obtain ⟨⟨⟨s0,s1,s2,s3,s4,s5,s6⟩,⟨f0,f1,f2,f3,f4,f5,f6⟩⟩,⟨⟨d0,d1,d2,d3,d4,d5,d6⟩,-⟩⟩ := hS
  go_simp
 simp only [Act.put,List.setIfInBounds_toArray,List.set_cons_zero,List.set_cons_succ]
 refine but_take (i := 1) (v := .pointer (some ⟨pm,0,none⟩)) rfl (by kernel_rfl) (fun _ _ _ h => h) (.inl ⟨rfl,fun w hS => ?_⟩) hS ?_
 ·obtain ⟨⟨⟨s0,s1,s2,s3,s4,s5,s6⟩,⟨f0,f1,f2,f3,f4,f5,f6⟩⟩,⟨⟨d0,d1,d2,d3,d4,d5,d6⟩,-⟩⟩ := hS
  go_simp
 simp only [Act.put,List.setIfInBounds_toArray,List.set_cons_zero,List.set_cons_succ]
 refine but_take (i := 2) (v := .agg #[.int .i64 ep,.int .i64 sz,.int .i64 mn,.int .i64 gr,vN,.slice aT lT cT,vR]) rfl (by kernel_rfl) (fun _ _ _ h => h) (.inl ⟨rfl,fun w hS => ?_⟩) hS ?_
 ·obtain ⟨⟨⟨s0,s1,s2,s3,s4,s5,s6⟩,⟨f0,f1,f2,f3,f4,f5,f6⟩⟩,⟨⟨d0,d1,d2,d3,d4,d5,d6⟩,-⟩⟩ := hS
  go_simp
 simp only [Act.put,List.setIfInBounds_toArray,List.set_cons_zero,List.set_cons_succ]
 refine but_take (i := 3) (v := .pointer (some ⟨pd,5,none⟩)) rfl (by kernel_rfl) (fun _ _ _ h => h) (.inl ⟨rfl,fun w hS => ?_⟩) hS ?_
 ·obtain ⟨⟨⟨s0,s1,s2,s3,s4,s5,s6⟩,⟨f0,f1,f2,f3,f4,f5,f6⟩⟩,⟨⟨d0,d1,d2,d3,d4,d5,d6⟩,-⟩⟩ := hS
  go_simp
 simp only [Act.put,List.setIfInBounds_toArray,List.set_cons_zero,List.set_cons_succ]
 refine but_take (i := 4) (v := .int .i64 gd) rfl (by kernel_rfl) (fun _ _ _ h => h) (.inl ⟨rfl,fun w hS => ?_⟩) hS ?_
 ·obtain ⟨⟨⟨s0,s1,s2,s3,s4,s5,s6⟩,⟨f0,f1,f2,f3,f4,f5,f6⟩⟩,⟨⟨d0,d1,d2,d3,d4,d5,d6⟩,-⟩⟩ := hS
  go_simp
 simp only [Act.put,List.setIfInBounds_toArray,List.set_cons_zero,List.set_cons_succ]
 refine but_one (i := 5) (by kernel_rfl) rfl rfl ?_
 intro K hK
 go_simp
 go_at_call 82
 refine (HTP.out _ (below_drew w1)).mono ?_
 rintro en w3 ⟨rfl,hb3'⟩
 have hb3 : Below w1.heap.size w1 w3 := below2 (below_drew w1) hb3'
 clear hb3'
 refine hK.out _ _ (fun _ => HS.out w3 hb3) ?_
 clear hK hS
 have hS := HS.out w3 hb3
 try simp only [Act.put,List.setIfInBounds_toArray,List.set_cons_zero,List.set_cons_succ]
 refine but_take (i := 6) (v := .tuple #[.int .i64 (p : Int),.bool t]) rfl (by kernel_rfl) (fun _ _ _ h => h) (.inl ⟨rfl,fun w hS => ?_⟩) hS ?_
 ·obtain ⟨⟨⟨s0,s1,s2,s3,s4,s5,s6⟩,⟨f0,f1,f2,f3,f4,f5,f6⟩⟩,⟨⟨d0,d1,d2,d3,d4,d5,d6⟩,-⟩⟩ := hS
  go_simp
 simp only [Act.put,List.setIfInBounds_toArray,List.set_cons_zero,List.set_cons_succ]
 refine but_take (i := 7) (v := .int .i64 (p : Int)) rfl (by kernel_rfl) (fun _ _ _ h => h) (.inl ⟨rfl,fun w hS => ?_⟩) hS ?_
 ·obtain ⟨⟨⟨s0,s1,s2,s3,s4,s5,s6⟩,⟨f0,f1,f2,f3,f4,f5,f6⟩⟩,⟨⟨d0,d1,d2,d3,d4,d5,d6⟩,-⟩⟩ := hS
  go_simp
 simp only [Act.put,List.setIfInBounds_toArray,List.set_cons_zero,List.set_cons_succ]
 refine but_take (i := 8) (v := .bool t) rfl (by kernel_rfl) (fun _ _ _ h => h) (.inl ⟨rfl,fun w hS => ?_⟩) hS ?_
 ·obtain ⟨⟨⟨s0,s1,s2,s3,s4,s5,s6⟩,⟨f0,f1,f2,f3,f4,f5,f6⟩⟩,⟨⟨d0,d1,d2,d3,d4,d5,d6⟩,-⟩⟩ := hS
  go_simp
 simp only [Act.put,List.setIfInBounds_toArray,List.set_cons_zero,List.set_cons_succ]
 refine but_take (i := 9) (v := .int .i64 (p : Int)) rfl (by kernel_rfl) (fun _ _ _ h => h) (.inl ⟨rfl,fun w hS => ?_⟩) hS ?_
 ·obtain ⟨⟨⟨s0,s1,s2,s3,s4,s5,s6⟩,⟨f0,f1,f2,f3,f4,f5,f6⟩⟩,⟨⟨d0,d1,d2,d3,d4,d5,d6⟩,-⟩⟩ := hS
  go_simp
 simp only [Act.put,List.setIfInBounds_toArray,List.set_cons_zero,List.set_cons_succ]
 refine but_one (i := 10) (by kernel_rfl) rfl rfl ?_
 intro K hK
 obtain ⟨⟨⟨s0,s1,s2,s3,s4,s5,s6⟩,⟨f0,f1,f2,f3,f4,f5,f6⟩⟩,⟨⟨d0,d1,d2,d3,d4,d5,d6⟩,-⟩⟩ := hS
 go_simp
 refine hK.out _ _ (fun h => absurd rfl h) ?_
 clear hK
 try simp only [Act.put,List.setIfInBounds_toArray,List.set_cons_zero,List.set_cons_succ]
 refine AnyBut.done (by kernel_rfl) ?_ _
 refine NoPanic.normal ?_
 exact hQ.out _ _ _ _ _ _ _ _ _ w3 hb3
set_option maxHeartbeats 4000000 in
set_option maxRecDepth 60000 in
theorem pin_5 (t1 t2 t5 t6 t7 t8 t9 t10 t11 t12 t13 t14 t15 t16 t17 t18 t19 t20 t21 t22 t23 t24 t25 t26 t27 t28 t29 t30 t31 t32 t33 t34 t35 t36 t37 t38 t39 t40 t41 t42 t43 t44 t45 t46 : Value) (pm pd p n : Nat) (k id z r wt gd ep sz mn gr : Int) (ad aT : Option Addr) (ld cd lT cT : Nat) (vN vR : Value) (ns : List Int) (R : Nat -> Nat -> World -> Prop) (w1 : World) (Q : Exit -> Act -> World -> Prop)
  (hA : Box7 w1 pm (.int .i64 ep) (.int .i64 sz) (.int .i64 mn) (.int .i64 gr) vN (.slice aT lT cT) vR) (hD : Box7 w1 pd (.int .i64 k) (.int .i64 id) (.int .i64 z) (.int .i64 r) (.int .i64 wt) (.int .i64 gd) (.slice ad ld cd))
  (HCO : Hid (∀ W,Below w1.heap.size w1 W -> Calls Tryz.prog 61 #[.slice ad ld cd] W fun e w' => Below W.heap.size W w' /\ ∃ a c,e = .returned (.slice a ns.length c) /\ IRow w' w1.heap.size (.slice a ns.length c) ns))
  (HIN : Hid (∀ (W : World) (a : Option Addr) (c : Nat),Below w1.heap.size w1 W -> IRow W w1.heap.size (.slice a ns.length c) ns -> Calls Tryz.prog 114 #[.slice aT lT cT,.int .i64 (p : Int),.slice (some ⟨W.heap.size,0,none⟩) 1 1] (W.alloc (.cells #[.int .i64 gd,.slice a ns.length c] 59)) fun e w' => Ins5 (fun w' => Box7 w' pm (.int .i64 ep) (.int .i64 sz) (.int .i64 mn) (.int .i64 gr) vN (.slice aT lT cT) vR /\ Box7 w' pd (.int .i64 k) (.int .i64 id) (.int .i64 z) (.int .i64 r) (.int .i64 wt) (.int .i64 gd) (.slice ad ld cd)) R n e w'))
  (hQ : Hid (∀ (u31 u32 u33 u34 u35 u36 u37 u38 u39 u40 u41 u42 u43 u44 u45 u46 : Value) (g c : Nat) (W : World),R g c W -> Q .normal ⟨#[.pointer (some ⟨pm,0,none⟩),t1,t2,.pointer (some ⟨pd,0,none⟩),.int .i64 (p : Int),t5,t6,t7,t8,t9,t10,t11,t12,t13,t14,t15,t16,t17,t18,t19,t20,t21,t22,t23,t24,t25,t26,t27,t28,t29,t30,u31,u32,u33,u34,u35,u36,u37,u38,u39,u40,u41,u42,u43,u44,u45,u46],[]⟩ (W.setCell ⟨pm,5,none⟩ (.slice (some ⟨g,0,none⟩) n c)))) :
  Code.wp Tryz.prog ((Tryz.f94.body.bind (regionOf 5)).getD .skip) Q ⟨#[.pointer (some ⟨pm,0,none⟩),t1,t2,.pointer (some ⟨pd,0,none⟩),.int .i64 (p : Int),t5,t6,t7,t8,t9,t10,t11,t12,t13,t14,t15,t16,t17,t18,t19,t20,t21,t22,t23,t24,t25,t26,t27,t28,t29,t30,t31,t32,t33,t34,t35,t36,t37,t38,t39,t40,t41,t42,t43,t44,t45,t46],[]⟩ w1 := by
 have HS : Hid (∀ w',Below w1.heap.size w1 w' -> (fun w' => Box7 w' pm (.int .i64 ep) (.int .i64 sz) (.int .i64 mn) (.int .i64 gr) vN (.slice aT lT cT) vR /\ Box7 w' pd (.int .i64 k) (.int .i64 id) (.int .i64 z) (.int .i64 r) (.int .i64 wt) (.int .i64 gd) (.slice ad ld cd)) w') := fun w' h => ⟨hA.below h,hD.below h⟩
 have hS := HS.out w1.drew (below_drew w1)
 clear hA hD
 generalize hnl : ns.length = nl at *
 conv => arg 2; whnf
 refine wp_region_but (S := (fun w' => Box7 w' pm (.int .i64 ep) (.int .i64 sz) (.int .i64 mn) (.int .i64 gr) vN (.slice aT lT cT) vR /\ Box7 w' pd (.int .i64 k) (.int .i64 id) (.int .i64 z) (.int .i64 r) (.int .i64 wt) (.int .i64 gd) (.slice ad ld cd))) (n := 16) mixed5 ?_
 refine but_take (i := 0) (v := .pointer (some ⟨pm,0,none⟩)) rfl (by kernel_rfl) (fun _ _ _ h => h) (.inl ⟨rfl,fun w hS => ?_⟩) hS ?_
 ·obtain ⟨⟨⟨s0,s1,s2,s3,s4,s5,s6⟩,⟨f0,f1,f2,f3,f4,f5,f6⟩⟩,⟨⟨d0,d1,d2,d3,d4,d5,d6⟩,-⟩⟩ := hS
  go_simp
 simp only [Act.put,List.setIfInBounds_toArray,List.set_cons_zero,List.set_cons_succ]
 refine but_take (i := 1) (v := .pointer (some ⟨pm,0,none⟩)) rfl (by kernel_rfl) (fun _ _ _ h => h) (.inl ⟨rfl,fun w hS => ?_⟩) hS ?_
 ·obtain ⟨⟨⟨s0,s1,s2,s3,s4,s5,s6⟩,⟨f0,f1,f2,f3,f4,f5,f6⟩⟩,⟨⟨d0,d1,d2,d3,d4,d5,d6⟩,-⟩⟩ := hS
  go_simp
 simp only [Act.put,List.setIfInBounds_toArray,List.set_cons_zero,List.set_cons_succ]
 refine but_take (i := 2) (v := .pointer (some ⟨pm,0,none⟩)) rfl (by kernel_rfl) (fun _ _ _ h => h) (.inl ⟨rfl,fun w hS => ?_⟩) hS ?_
 ·obtain ⟨⟨⟨s0,s1,s2,s3,s4,s5,s6⟩,⟨f0,f1,f2,f3,f4,f5,f6⟩⟩,⟨⟨d0,d1,d2,d3,d4,d5,d6⟩,-⟩⟩ := hS
  go_simp
 simp only [Act.put,List.setIfInBounds_toArray,List.set_cons_zero,List.set_cons_succ]
 refine but_take (i := 3) (v := .pointer (some ⟨pm,5,none⟩)) rfl (by kernel_rfl) (fun _ _ _ h => h) (.inl ⟨rfl,fun w hS => ?_⟩) hS ?_
 ·obtain ⟨⟨⟨s0,s1,s2,s3,s4,s5,s6⟩,⟨f0,f1,f2,f3,f4,f5,f6⟩⟩,⟨⟨d0,d1,d2,d3,d4,d5,d6⟩,-⟩⟩ := hS
  go_simp
 simp only [Act.put,List.setIfInBounds_toArray,List.set_cons_zero,List.set_cons_succ]
 refine but_take (i := 4) (v := .slice aT lT cT) rfl (by kernel_rfl) (fun _ _ _ h => h) (.inl ⟨rfl,fun w hS => ?_⟩) hS ?_
 ·obtain ⟨⟨⟨s0,s1,s2,s3,s4,s5,s6⟩,⟨f0,f1,f2,f3,f4,f5,f6⟩⟩,⟨⟨d0,d1,d2,d3,d4,d5,d6⟩,-⟩⟩ := hS
  go_simp
 simp only [Act.put,List.setIfInBounds_toArray,List.set_cons_zero,List.set_cons_succ]
 refine but_take (i := 5) (v := .int .i64 (p : Int)) rfl (by kernel_rfl) (fun _ _ _ h => h) (.inl ⟨rfl,fun w hS => ?_⟩) hS ?_
 ·obtain ⟨⟨⟨s0,s1,s2,s3,s4,s5,s6⟩,⟨f0,f1,f2,f3,f4,f5,f6⟩⟩,⟨⟨d0,d1,d2,d3,d4,d5,d6⟩,-⟩⟩ := hS
  go_simp
 simp only [Act.put,List.setIfInBounds_toArray,List.set_cons_zero,List.set_cons_succ]
 refine but_take (i := 6) (v := .pointer (some ⟨pd,5,none⟩)) rfl (by kernel_rfl) (fun _ _ _ h => h) (.inl ⟨rfl,fun w hS => ?_⟩) hS ?_
 ·obtain ⟨⟨⟨s0,s1,s2,s3,s4,s5,s6⟩,⟨f0,f1,f2,f3,f4,f5,f6⟩⟩,⟨⟨d0,d1,d2,d3,d4,d5,d6⟩,-⟩⟩ := hS
  go_simp
 simp only [Act.put,List.setIfInBounds_toArray,List.set_cons_zero,List.set_cons_succ]
 refine but_take (i := 7) (v := .int .i64 gd) rfl (by kernel_rfl) (fun _ _ _ h => h) (.inl ⟨rfl,fun w hS => ?_⟩) hS ?_
 ·obtain ⟨⟨⟨s0,s1,s2,s3,s4,s5,s6⟩,⟨f0,f1,f2,f3,f4,f5,f6⟩⟩,⟨⟨d0,d1,d2,d3,d4,d5,d6⟩,-⟩⟩ := hS
  go_simp
 simp only [Act.put,List.setIfInBounds_toArray,List.set_cons_zero,List.set_cons_succ]
 refine but_take (i := 8) (v := .pointer (some ⟨pd,6,none⟩)) rfl (by kernel_rfl) (fun _ _ _ h => h) (.inl ⟨rfl,fun w hS => ?_⟩) hS ?_
 ·obtain ⟨⟨⟨s0,s1,s2,s3,s4,s5,s6⟩,⟨f0,f1,f2,f3,f4,f5,f6⟩⟩,⟨⟨d0,d1,d2,d3,d4,d5,d6⟩,-⟩⟩ := hS
  go_simp
 simp only [Act.put,List.setIfInBounds_toArray,List.set_cons_zero,List.set_cons_succ]
 refine but_take (i := 9) (v := .slice ad ld cd) rfl (by kernel_rfl) (fun _ _ _ h => h) (.inl ⟨rfl,fun w hS => ?_⟩) hS ?_
 ·obtain ⟨⟨⟨s0,s1,s2,s3,s4,s5,s6⟩,⟨f0,f1,f2,f3,f4,f5,f6⟩⟩,⟨⟨d0,d1,d2,d3,d4,d5,d6⟩,-⟩⟩ := hS
  go_simp
 simp only [Act.put,List.setIfInBounds_toArray,List.set_cons_zero,List.set_cons_succ]
 refine but_one (i := 10) (by kernel_rfl) rfl rfl ?_
 intro K hK
 go_simp
 go_at_call 61
 refine (HCO.out _ (below_drew w1)).mono ?_
 rintro en w3 ⟨hb3',a3,c3,rfl,hI3'⟩
 have HI3 : Hid (IRow w3 w1.heap.size (.slice a3 nl c3) ns) := hI3'
 have hb3 : Below w1.heap.size w1 w3 := below2 (below_drew w1) hb3'
 clear hb3' hI3'
 refine hK.out _ _ (fun _ => HS.out w3 hb3) ?_
 clear hK hS
 have hS := HS.out w3 hb3
 try simp only [Act.put,List.setIfInBounds_toArray,List.set_cons_zero,List.set_cons_succ]
 refine but_take (i := 11) (v := .agg #[.int .i64 gd,.slice a3 nl c3]) rfl (by kernel_rfl) (fun _ _ _ h => h) (.inl ⟨rfl,fun w hS => ?_⟩) hS ?_
 ·obtain ⟨⟨⟨s0,s1,s2,s3,s4,s5,s6⟩,⟨f0,f1,f2,f3,f4,f5,f6⟩⟩,⟨⟨d0,d1,d2,d3,d4,d5,d6⟩,-⟩⟩ := hS
  go_simp
 simp only [Act.put,List.setIfInBounds_toArray,List.set_cons_zero,List.set_cons_succ]
 refine but_one (i := 12) (by kernel_rfl) rfl rfl ?_
 intro K hK
 go_simp
 have hb4 : Below w1.heap.size w1 (w3.alloc (.cells #[.int .i64 gd,.slice a3 nl c3] 59)) := below2 hb3 (below_alloc _ _)
 refine hK.out _ _ (fun _ => HS.out _ hb4) ?_
 clear hK hS
 have hS := HS.out _ hb4
 try simp only [Act.put,List.setIfInBounds_toArray,List.set_cons_zero,List.set_cons_succ]
 refine but_one (i := 13) (by kernel_rfl) rfl rfl ?_
 intro K hK
 go_simp
 go_at_call 114
 refine (HIN.out _ _ _ hb3 HI3.out).mono ?_
 rintro en w5 ⟨g5,cp5,rfl,hS5,hR5⟩
 have HR5 : Hid (R g5 cp5 w5) := hR5
 clear hR5
 refine hK.out _ _ (fun _ => hS5) ?_
 clear hK hS
 have hS := hS5
 clear hS5
 try simp only [Act.put,List.setIfInBounds_toArray,List.set_cons_zero,List.set_cons_succ]
 refine but_take (i := 14) (v := .pointer (some ⟨pm,0,none⟩)) rfl (by kernel_rfl) (fun _ _ _ h => h) (.inl ⟨rfl,fun w hS => ?_⟩) hS ?_
 ·obtain ⟨⟨⟨s0,s1,s2,s3,s4,s5,s6⟩,⟨f0,f1,f2,f3,f4,f5,f6⟩⟩,⟨⟨d0,d1,d2,d3,d4,d5,d6⟩,-⟩⟩ := hS
  go_simp
 simp only [Act.put,List.setIfInBounds_toArray,List.set_cons_zero,List.set_cons_succ]
 refine but_take (i := 15) (v := .pointer (some ⟨pm,5,none⟩)) rfl (by kernel_rfl) (fun _ _ _ h => h) (.inl ⟨rfl,fun w hS => ?_⟩) hS ?_
 ·obtain ⟨⟨⟨s0,s1,s2,s3,s4,s5,s6⟩,⟨f0,f1,f2,f3,f4,f5,f6⟩⟩,⟨⟨d0,d1,d2,d3,d4,d5,d6⟩,-⟩⟩ := hS
  go_simp
 simp only [Act.put,List.setIfInBounds_toArray,List.set_cons_zero,List.set_cons_succ]
 refine but_one (i := 16) (by kernel_rfl) rfl rfl ?_
 intro K hK
 obtain ⟨⟨⟨s0,s1,s2,s3,s4,s5,s6⟩,⟨f0,f1,f2,f3,f4,f5,f6⟩⟩,⟨⟨d0,d1,d2,d3,d4,d5,d6⟩,-⟩⟩ := hS
 go_simp
 refine hK.out _ _ (fun h => absurd rfl h) ?_
 clear hK
 try simp only [Act.put,List.setIfInBounds_toArray,List.set_cons_zero,List.set_cons_succ]
 refine AnyBut.done (by kernel_rfl) ?_ _
 refine NoPanic.normal ?_
 exact hQ.out _ _ _ _ _ _ _ _ _ _ _ _ _ _ _ _ g5 cp5 w5 HR5.out
end Go.Proofs.YtcncbjknfcjnmaaGreat.Tp
namespace Go.Proofs.YtcncbjknfcjnmaaGreat.Tp
open Go.ChangeShapes Go.WideShapes Go.ChangeAt Go.RowKit
variable {G : Nat -> Prop}
noncomputable def pinT (ts : List Tm) (g : Int) (ns : List Int) : List Tm := ts.take (insPos (ts.map (·.g)) g) ++ ((if ns = [] then [] else [⟨g,ns⟩]) ++ ts.drop (if foundT ts g = true then insPos (ts.map (·.g)) g + 1 else insPos (ts.map (·.g)) g))
structure LiveD (G : Nat -> Prop) (w : World) (pm pd N : Nat) (m : Mp) (s : MV) (k id z r wt gd : Int) (ad : Option Addr) (ld cd : Nat) : Prop where
 live : LiveM G w pm N m s
 box : Box7 w pd (.int .i64 k) (.int .i64 id) (.int .i64 z) (.int .i64 r) (.int .i64 wt) (.int .i64 gd) (.slice ad ld cd)
 ty : BoxTy w pd 37
 sz : N <= w.heap.size
theorem LiveD.below {w w' : World} {pm pd N : Nat} {m : Mp} {s : MV} {k id z r wt gd : Int} {ad : Option Addr} {ld cd : Nat} (h : LiveD G w pm pd N m s k id z r wt gd ad ld cd) (hb : Below w.heap.size w w') : LiveD G w' pm pd N m s k id z r wt gd ad ld cd := ⟨h.live.below hb,h.box.below hb,h.ty.kp (kp_below hb),Nat.le_trans h.sz hb.size⟩
theorem insT_live {w1 : World} {pm pd N : Nat} {m : Mp} {s : MV} {k id z r wt gd : Int} {ad : Option Addr} {ld cd : Nat} (h : LiveD G w1 pm pd N m s k id z r wt gd ad ld cd) {p : Nat} (hp : p <= m.tms.length) (h8 : m.tms.length <= 8) (hG : ∀ b,w1.heap.size <= b -> G b) (ns : List Int) (W : World) (a : Option Addr) (c : Nat) (hb : Below w1.heap.size w1 W) (hI : IRow W w1.heap.size (.slice a ns.length c) ns) :
  Calls Tryz.prog 114 #[.slice s.aT s.lT s.cT,.int .i64 (p : Int),.slice (some ⟨W.heap.size,0,none⟩) 1 1] (W.alloc (.cells #[.int .i64 gd,.slice a ns.length c] 59)) fun e w' => Ins5 (fun w' => Box7 w' pm (.int .i64 m.ep) (.int .i64 m.size) (.int .i64 m.mn) (.int .i64 m.gr) (.slice s.aN s.lN s.cN) (.slice s.aT s.lT s.cT) (.slice s.aR s.lR s.cR) /\ Box7 w' pd (.int .i64 k) (.int .i64 id) (.int .i64 z) (.int .i64 r) (.int .i64 wt) (.int .i64 gd) (.slice ad ld cd)) (fun g c W => LiveM G (W.setCell ⟨pm,5,none⟩ (.slice (some ⟨g,0,none⟩) (s.lT + 1) c)) pm N { m with tms := (m.tms.take p ++ ⟨gd,ns⟩ :: m.tms.drop p) } { s with aT := some ⟨g,0,none⟩,lT := s.lT + 1,cT := c } /\ Kq w1 (W.setCell ⟨pm,5,none⟩ (.slice (some ⟨g,0,none⟩) (s.lT + 1) c)) /\ Below N w1 (W.setCell ⟨pm,5,none⟩ (.slice (some ⟨g,0,none⟩) (s.lT + 1) c))) (s.lT + 1) e w' := by
 have hba := below_alloc W (.cells #[.int .i64 gd,.slice a ns.length c] 59)
 have hbA := below2 hb hba
 have hl := h.below hbA
 obtain ⟨L,ho,hA⟩ := TmRowG.all hl.live.own.tms
 rw [hl.live.own.tml] at ho
 have hlt : ∀ q,(Value.slice s.aT s.lT s.cT).ownBlock = some q -> q < W.heap.size := fun q hq => by
  obtain ⟨L2,ho2,-⟩ := TmRowG.all (h.live.below hb).own.tms
  exact (ho2.lt q hq).2
 have htl := h.live.own.tml
 refine (insTm_any (vb := W.heap.size) (vs := [.int .i64 gd,.slice a ns.length c]) _ ho hl.sz p (by omega) (by omega) rfl (heap_alloc_new W _) (fun e => absurd (hlt _ e) (by omega)) (by intro u hu; simp at hu; rcases hu with rfl | rfl <;> rfl) hA.one).mono ?_
 rintro e w' ⟨g,c',rfl,ho2,hg⟩
 have hbx := box_own ho hg hl.live.box hl.live.ty (by decide)
 have hbd := box_own ho hg hl.box hl.ty (by decide)
 have hIA : IRow (W.alloc (.cells #[.int .i64 gd,.slice a ns.length c] 59)) N (.slice a ns.length c) ns := own_base (own_below hI hba) h.sz
 have hA2 : AllOk G w' N L m.tms := hA.map fun u l _ hu => irow_kept ho hg (by decide) hu
 have hI2 : IRow w' N (.slice a ns.length c) ns := irow_kept ho hg (by decide) hIA
 rw [pairCells_take,pairCells_drop] at ho2
 have ho3 : w'.ownsRow N 59 2 (.slice (some ⟨g,0,none⟩) (s.lT + 1) c') (s.lT + 1) (pairCells (L.take p ++ (gd,.slice a ns.length c) :: L.drop p)) := by
  rw [pairCells_app,pairCells_cons]
  exact ho2
 have hAA : AllOk G w' N (L.take p ++ (gd,.slice a ns.length c) :: L.drop p) (m.tms.take p ++ ⟨gd,ns⟩ :: m.tms.drop p) := (hA2.take p).app ⟨⟨rfl,hI2,fun b hb => hG b (hI.lt b hb).1⟩,hA2.drop p⟩
 have hnl : (m.tms.take p ++ ⟨gd,ns⟩ :: m.tms.drop p).length = s.lT + 1 := by simp; omega
 obtain ⟨k1,k2,k3⟩ := hl.live.putT hl.sz hg (tmRow_of ho3 hnl hAA) hnl
 exact ⟨g,c',rfl,⟨hbx.1,hbd.1⟩,k1,(kq_below hbA).trans k2,(hbA.mono h.sz).trans k3⟩
def DelT (G : Nat -> Prop) (w1 : World) (pm pd N : Nat) (m : Mp) (s : MV) (k id z r wt gd : Int) (ad : Option Addr) (ld cd p g l : Nat) (w' : World) : Prop := LiveD G (w'.setCell ⟨pm,5,none⟩ (.slice (some ⟨g,0,none⟩) l s.cT)) pm pd N { m with tms := m.tms.take p ++ m.tms.drop (p + 1) } { s with aT := some ⟨g,0,none⟩,lT := l } k id z r wt gd ad ld cd /\ Kq w1 (w'.setCell ⟨pm,5,none⟩ (.slice (some ⟨g,0,none⟩) l s.cT)) /\ Below N w1 (w'.setCell ⟨pm,5,none⟩ (.slice (some ⟨g,0,none⟩) l s.cT))
theorem delT_live {w1 : World} {pm pd N : Nat} {m : Mp} {s : MV} {k id z r wt gd : Int} {ad : Option Addr} {ld cd : Nat} (h : LiveD G w1 pm pd N m s k id z r wt gd ad ld cd) {p g l : Nat} (hp : p <= l) (h8 : m.tms.length <= 8) (hl : s.lT = l + 1) (hv : s.aT = some ⟨g,0,none⟩) :
  Calls Tryz.prog 113 #[.slice (some ⟨g,0,none⟩) (l + 1) s.cT,.int .i64 (p : Int),.int .i64 ((p : Int) + 1)] w1 fun e w' => e = .returned (.slice (some ⟨g,0,none⟩) l s.cT) /\ (Box7 w' pm (.int .i64 m.ep) (.int .i64 m.size) (.int .i64 m.mn) (.int .i64 m.gr) (.slice s.aN s.lN s.cN) (.slice s.aT s.lT s.cT) (.slice s.aR s.lR s.cR) /\ Box7 w' pd (.int .i64 k) (.int .i64 id) (.int .i64 z) (.int .i64 r) (.int .i64 wt) (.int .i64 gd) (.slice ad ld cd)) /\ DelT G w1 pm pd N m s k id z r wt gd ad ld cd p g l w' := by
 obtain ⟨L,ho,hA⟩ := TmRowG.all h.live.own.tms
 have htl := h.live.own.tml
 rw [htl] at ho
 have ho1 := ho
 rw [hv,hl] at ho1
 have hc := delTm_any w1 ho1 p (p + 1) (by omega) rfl (by omega) hA.one
 rw [show (((p + 1 : Nat)) : Int) = (p : Int) + 1 by omega] at hc
 refine hc.mono ?_
 rintro e w' ⟨rfl,ho2,hg0⟩
 have hg : w1.grownBy w' (Value.slice s.aT s.lT s.cT).ownBlock := by rw [hv]; exact hg0
 have hbx := box_own ho hg h.live.box h.live.ty (by decide)
 have hbd := box_own ho hg h.box h.ty (by decide)
 have hA2 : AllOk G w' N L m.tms := hA.map fun u l _ hu => irow_kept ho hg (by decide) hu
 rw [pairCells_take,pairCells_drop,<- pairCells_app] at ho2
 have hnl : (m.tms.take p ++ m.tms.drop (p + 1)).length = l := by simp; omega
 obtain ⟨k1,k2,k3⟩ := h.live.putT h.sz hg (tmRow_of ho2 hnl ((hA2.take p).app (hA2.drop (p + 1)))) hnl
 have hne : pd ≠ pm := boxTy_ne h.ty h.live.ty (by decide)
 refine ⟨rfl,⟨hbx.1,hbd.1⟩,⟨k1,hbd.1.else (set_grownBy _ _ _ _) hne,?_,?_⟩,k2,k3⟩
 ·obtain ⟨cur,hcur⟩ := hbd.2
  exact ⟨cur,((set_grownBy w' pm 5 _).block pd (lt_of_get hcur) (by simpa using hne)).trans hcur⟩
 ·exact Nat.le_trans h.sz k3.size
set_option maxHeartbeats 2000000 in
set_option maxRecDepth 60000 in
theorem pin_ff {pm N : Nat} {m : Mp} {s : MV} (hR : Rising (m.tms.map (·.g))) (h8 : m.tms.length <= 8) (k id z r wt gd : Int) (ad : Option Addr) (ld cd : Nat) (ns : List Int) (hf : foundT m.tms gd = false) (he : ns = []) (w : World) (hL : LiveM G w pm N m s) (hN : N <= w.heap.size) (hD : ∀ W,Below N w W -> RowI W ad ld cd ns) (hns : ns.length <= 1000)  :
  Calls Tryz.prog 94 #[.pointer (some ⟨pm,0,none⟩),.agg #[.int .i64 k,.int .i64 id,.int .i64 z,.int .i64 r,.int .i64 wt,.int .i64 gd,.slice ad ld cd]] w fun e w' => ChgPost G w pm N { m with tms := m.tms } e w' := by
 have hb1 := below_alloc w (.cells #[.int .i64 k,.int .i64 id,.int .i64 z,.int .i64 r,.int .i64 wt,.int .i64 gd,.slice ad ld cd] 37)
 have HL1 : Hid (LiveD G (w.alloc (.cells #[.int .i64 k,.int .i64 id,.int .i64 z,.int .i64 r,.int .i64 wt,.int .i64 gd,.slice ad ld cd] 37)) pm w.heap.size N m s k id z r wt gd ad ld cd) := ⟨hL.below hb1,Box7.new w _ _ _ _ _ _ _ _,BoxTy.new _ _ _,Nat.le_trans hN hb1.size⟩
 have HB1 : Hid (Below w.heap.size w (w.alloc (.cells #[.int .i64 k,.int .i64 id,.int .i64 z,.int .i64 r,.int .i64 wt,.int .i64 gd,.slice ad ld cd] 37))) := hb1
 have HNW : Hid (N <= w.heap.size) := hN
 have HD : Hid (∀ W,Below N w W -> RowI W ad ld cd ns) := hD
 have hld : ns.length = ld := (hD w (Below.refl _ _)).1
 have HNS : Hid (ns.length <= 1000) := hns
 generalize hw1 : w.alloc (.cells #[.int .i64 k,.int .i64 id,.int .i64 z,.int .i64 r,.int .i64 wt,.int .i64 gd,.slice ad ld cd] 37) = w1 at *
 have HTP : Hid (∀ W,Below w1.heap.size w1 W -> Calls Tryz.prog 82 #[.agg (mapCells m s).toArray,.int .i64 gd] W fun e w' => e = .returned (.tuple #[.int .i64 (insPos (m.tms.map (·.g)) gd : Int),.bool false]) /\ Below W.heap.size W w') := fun W hb => by
  have h := temp_pos m s gd W ((HL1.out.live.below hb).own.map.tms) hR h8
  rw [hf] at h
  exact h
 have hpa := insPos_all (m.tms.map (·.g)) gd
 rw [List.length_map] at hpa
 have hpl0 : insPos (m.tms.map (·.g)) gd <= m.tms.length := hpa.1
 have hl0 : ld = 0 := by rw [<- hld,he]; rfl
 subst hl0
 clear hld he hpa hpl0 HD HNS
 rw [map_split] at HTP
 have HLD := HL1
 obtain ⟨ep,sz,mn,gr,nds,tms,trs⟩ := m
 obtain ⟨aN,lN,cN,aT,lT,cT,aR,lR,cR⟩ := s
 simp only at *
 have HBX := Hid.mk9 HL1.out.live.box
 have HDX := Hid.mk9 HL1.out.box
 have hdl := HL1.out.box.lt
 have hpl := HL1.out.live.box.lt
 clear hL HL1 hb1 hf hR hN hD hns
 generalize insPos (tms.map (·.g)) gd = p at *
 go_enter Tryz.func94,Tryz.ntmps94
 go_upto_region 1 with fail
 clear hw1
 refine pin_1 _ _ _ _ _ _ _ _ _ _ _ _ _ _ _ _ _ _ _ _ _ _ _ _ _ _ _ _ _ _ _ _ _ _ _ _ _ _ _ _ _ _ _ _ _ pm w.heap.size p false k id z r wt gd ep sz mn gr ad aT 0 cd lT cT (.slice aN lN cN) (.slice aR lR cR) w1 _ HBX.out HDX.out HTP (fun u6 u7 u8 u9 u10 u11 u12 u13 u14 w5 hb5 => ?_)
 have HB5 : Hid (Below w.heap.size w w5) := below2 HB1.out hb5
 have HL5 := Hid.mk9 (HLD.out.below hb5)
 clear HTP HBX HDX HLD HB1 hdl hpl hb5
 obtain ⟨⟨c0,c1,c2,c3,c4,c5,c6⟩,⟨e0,e1,e2,e3,e4,e5,e6⟩⟩ := HL5.out.live.box
 obtain ⟨⟨d0,d1,d2,d3,d4,d5,d6⟩,-⟩ := HL5.out.box
 have hdl := HL5.out.box.lt
 have hpl := HL5.out.live.box.lt
 have hnep : pm ≠ w.heap.size := (boxTy_ne HL5.out.ty HL5.out.live.ty (by decide)).symm
 go_wp2_with fail
 go_returns
 exact ⟨rfl,⟨_,HL5.out.live⟩,kq_below HB5.out,HB5.out.mono HNW.out⟩
set_option maxHeartbeats 2000000 in
set_option maxRecDepth 60000 in
theorem pin_ft {pm N : Nat} {m : Mp} {s : MV} (hR : Rising (m.tms.map (·.g))) (h8 : m.tms.length <= 8) (k id z r wt gd : Int) (ad : Option Addr) (ld cd : Nat) (ns : List Int) (hf : foundT m.tms gd = false) (he : ns ≠ []) (w : World) (hL : LiveM G w pm N m s) (hN : N <= w.heap.size) (hD : ∀ W,Below N w W -> RowI W ad ld cd ns) (hns : ns.length <= 1000) (hG : ∀ b,w.heap.size <= b -> G b) :
  Calls Tryz.prog 94 #[.pointer (some ⟨pm,0,none⟩),.agg #[.int .i64 k,.int .i64 id,.int .i64 z,.int .i64 r,.int .i64 wt,.int .i64 gd,.slice ad ld cd]] w fun e w' => ChgPost G w pm N { m with tms := m.tms.take (insPos (m.tms.map (·.g)) gd) ++ ⟨gd,ns⟩ :: m.tms.drop (insPos (m.tms.map (·.g)) gd) } e w' := by
 have HGW := Hid.mk9 hG
 clear hG
 have hb1 := below_alloc w (.cells #[.int .i64 k,.int .i64 id,.int .i64 z,.int .i64 r,.int .i64 wt,.int .i64 gd,.slice ad ld cd] 37)
 have HL1 : Hid (LiveD G (w.alloc (.cells #[.int .i64 k,.int .i64 id,.int .i64 z,.int .i64 r,.int .i64 wt,.int .i64 gd,.slice ad ld cd] 37)) pm w.heap.size N m s k id z r wt gd ad ld cd) := ⟨hL.below hb1,Box7.new w _ _ _ _ _ _ _ _,BoxTy.new _ _ _,Nat.le_trans hN hb1.size⟩
 have HB1 : Hid (Below w.heap.size w (w.alloc (.cells #[.int .i64 k,.int .i64 id,.int .i64 z,.int .i64 r,.int .i64 wt,.int .i64 gd,.slice ad ld cd] 37))) := hb1
 have HNW : Hid (N <= w.heap.size) := hN
 have HD : Hid (∀ W,Below N w W -> RowI W ad ld cd ns) := hD
 have hld : ns.length = ld := (hD w (Below.refl _ _)).1
 have HNS : Hid (ns.length <= 1000) := hns
 generalize hw1 : w.alloc (.cells #[.int .i64 k,.int .i64 id,.int .i64 z,.int .i64 r,.int .i64 wt,.int .i64 gd,.slice ad ld cd] 37) = w1 at *
 have HTP : Hid (∀ W,Below w1.heap.size w1 W -> Calls Tryz.prog 82 #[.agg (mapCells m s).toArray,.int .i64 gd] W fun e w' => e = .returned (.tuple #[.int .i64 (insPos (m.tms.map (·.g)) gd : Int),.bool false]) /\ Below W.heap.size W w') := fun W hb => by
  have h := temp_pos m s gd W ((HL1.out.live.below hb).own.map.tms) hR h8
  rw [hf] at h
  exact h
 have hpa := insPos_all (m.tms.map (·.g)) gd
 rw [List.length_map] at hpa
 have hpl0 : insPos (m.tms.map (·.g)) gd <= m.tms.length := hpa.1
 have hl0 : (0 : Int) < (ld : Int) := by
  have : 0 < ns.length := List.length_pos_iff.2 he
  omega
 have HCO : Hid (∀ W0 W,Below N w W0 -> Below W0.heap.size W0 W -> N <= W0.heap.size -> Calls Tryz.prog 61 #[.slice ad ld cd] W fun e w' => Below W.heap.size W w' /\ ∃ a c,e = .returned (.slice a ns.length c) /\ IRow w' W0.heap.size (.slice a ns.length c) ns) := fun W0 W hb0 hb hN0 => by
  have hRI := HD.out W (hb0.trans (hb.mono hN0))
  refine (copiedInt ad ld cd (intCells ns) W (by simp [intCells,hld]) (by have := HNS.out; omega) hRI.lies hRI.2.2.2.1 (by intro u hu; simp [intCells] at hu; obtain ⟨x,-,rfl⟩ := hu; rfl)).mono ?_
  rintro e w' ⟨hbw,v,rfl,hown,-⟩
  rw [<- hld] at hown
  obtain ⟨a,c,rfl,-⟩ := own_slice hown
  exact ⟨hbw,a,c,rfl,own_base hown hb.size⟩
 clear hld he hpa HD HNS
 have HP0 := Hid.mk9 hpl0
 have H8 := Hid.mk9 h8
 clear hpl0 h8
 rw [map_split] at HTP
 have HLD := HL1
 obtain ⟨ep,sz,mn,gr,nds,tms,trs⟩ := m
 obtain ⟨aN,lN,cN,aT,lT,cT,aR,lR,cR⟩ := s
 simp only at *
 have HBX := Hid.mk9 HL1.out.live.box
 have HDX := Hid.mk9 HL1.out.box
 have hdl := HL1.out.box.lt
 have hpl := HL1.out.live.box.lt
 clear hL HL1 hb1 hf hR hN hD hns
 generalize insPos (tms.map (·.g)) gd = p at *
 go_enter Tryz.func94,Tryz.ntmps94
 go_upto_region 1 with fail
 clear hw1
 refine pin_1 _ _ _ _ _ _ _ _ _ _ _ _ _ _ _ _ _ _ _ _ _ _ _ _ _ _ _ _ _ _ _ _ _ _ _ _ _ _ _ _ _ _ _ _ _ pm w.heap.size p false k id z r wt gd ep sz mn gr ad aT ld cd lT cT (.slice aN lN cN) (.slice aR lR cR) w1 _ HBX.out HDX.out HTP (fun u6 u7 u8 u9 u10 u11 u12 u13 u14 w5 hb5 => ?_)
 have HB5 : Hid (Below w.heap.size w w5) := below2 HB1.out hb5
 have HL5 := Hid.mk9 (HLD.out.below hb5)
 clear HTP HBX HDX HLD HB1 hdl hpl hb5
 obtain ⟨⟨c0,c1,c2,c3,c4,c5,c6⟩,⟨e0,e1,e2,e3,e4,e5,e6⟩⟩ := HL5.out.live.box
 obtain ⟨⟨d0,d1,d2,d3,d4,d5,d6⟩,-⟩ := HL5.out.box
 have hdl := HL5.out.box.lt
 have hpl := HL5.out.live.box.lt
 have hnep : pm ≠ w.heap.size := (boxTy_ne HL5.out.ty HL5.out.live.ty (by decide)).symm
 go_upto_region 5 with fail
 refine pin_5 _ _ _ _ _ _ _ _ _ _ _ _ _ _ _ _ _ _ _ _ _ _ _ _ _ _ _ _ _ _ _ _ _ _ _ _ _ _ _ _ _ _ _ _ pm w.heap.size p (lT + 1) k id z r wt gd ep sz mn gr ad aT ld cd lT cT (.slice aN lN cN) (.slice aR lR cR) ns _ w5 _ HL5.out.live.box HL5.out.box (fun W hb => HCO.out w5 W (HB5.out.mono HNW.out) hb HL5.out.sz) (fun W a c hb hI => insT_live HL5.out HP0.out H8.out (fun b hb => HGW.out b (Nat.le_trans HB5.out.size hb)) ns W a c hb hI) (fun u31 u32 u33 u34 u35 u36 u37 u38 u39 u40 u41 u42 u43 u44 u45 u46 g c W hR => ?_)
 have HF1 := Hid.mk9 hR.1
 have HF2 := Hid.mk9 ((kq_below HB5.out).trans hR.2.1)
 have HF3 := Hid.mk9 ((HB5.out.mono HNW.out).trans hR.2.2)
 clear hR HCO HL5 HP0 H8 c0 c1 c2 c3 c4 c5 c6 d0 d1 d2 d3 d4 d5 d6 e0 e1 e2 e3 e4 e5 e6 HB5
 generalize W.setCell ⟨pm,5,none⟩ (.slice (some ⟨g,0,none⟩) (lT + 1) c) = wz at *
 go_wp2_with fail
 go_returns
 exact ⟨rfl,⟨_,HF1.out⟩,HF2.out,HF3.out⟩
set_option maxHeartbeats 2000000 in
set_option maxRecDepth 60000 in
theorem pin_tf {pm N : Nat} {m : Mp} {s : MV} (hR : Rising (m.tms.map (·.g))) (h8 : m.tms.length <= 8) (k id z r wt gd : Int) (ad : Option Addr) (ld cd : Nat) (ns : List Int) (hf : foundT m.tms gd = true) (he : ns = []) (w : World) (hL : LiveM G w pm N m s) (hN : N <= w.heap.size) (hD : ∀ W,Below N w W -> RowI W ad ld cd ns) (hns : ns.length <= 1000)  :
  Calls Tryz.prog 94 #[.pointer (some ⟨pm,0,none⟩),.agg #[.int .i64 k,.int .i64 id,.int .i64 z,.int .i64 r,.int .i64 wt,.int .i64 gd,.slice ad ld cd]] w fun e w' => ChgPost G w pm N { m with tms := m.tms.take (insPos (m.tms.map (·.g)) gd) ++ m.tms.drop (insPos (m.tms.map (·.g)) gd + 1) } e w' := by
 have hb1 := below_alloc w (.cells #[.int .i64 k,.int .i64 id,.int .i64 z,.int .i64 r,.int .i64 wt,.int .i64 gd,.slice ad ld cd] 37)
 have HL1 : Hid (LiveD G (w.alloc (.cells #[.int .i64 k,.int .i64 id,.int .i64 z,.int .i64 r,.int .i64 wt,.int .i64 gd,.slice ad ld cd] 37)) pm w.heap.size N m s k id z r wt gd ad ld cd) := ⟨hL.below hb1,Box7.new w _ _ _ _ _ _ _ _,BoxTy.new _ _ _,Nat.le_trans hN hb1.size⟩
 have HB1 : Hid (Below w.heap.size w (w.alloc (.cells #[.int .i64 k,.int .i64 id,.int .i64 z,.int .i64 r,.int .i64 wt,.int .i64 gd,.slice ad ld cd] 37))) := hb1
 have HNW : Hid (N <= w.heap.size) := hN
 have HD : Hid (∀ W,Below N w W -> RowI W ad ld cd ns) := hD
 have hld : ns.length = ld := (hD w (Below.refl _ _)).1
 have HNS : Hid (ns.length <= 1000) := hns
 generalize hw1 : w.alloc (.cells #[.int .i64 k,.int .i64 id,.int .i64 z,.int .i64 r,.int .i64 wt,.int .i64 gd,.slice ad ld cd] 37) = w1 at *
 have HTP : Hid (∀ W,Below w1.heap.size w1 W -> Calls Tryz.prog 82 #[.agg (mapCells m s).toArray,.int .i64 gd] W fun e w' => e = .returned (.tuple #[.int .i64 (insPos (m.tms.map (·.g)) gd : Int),.bool true]) /\ Below W.heap.size W w') := fun W hb => by
  have h := temp_pos m s gd W ((HL1.out.live.below hb).own.map.tms) hR h8
  rw [hf] at h
  exact h
 have hpa := insPos_all (m.tms.map (·.g)) gd
 rw [List.length_map] at hpa
 have hpl0 : insPos (m.tms.map (·.g)) gd <= m.tms.length := hpa.1
 have hl0 : ld = 0 := by rw [<- hld,he]; rfl
 subst hl0
 have hpn : insPos (m.tms.map (·.g)) gd < m.tms.length := by
  unfold foundT at hf
  rw [decide_eq_true_eq] at hf
  exact hf.1
 obtain ⟨L0,ho0,-⟩ := TmRowG.all hL.own.tms
 rw [hL.own.tml] at ho0
 obtain ⟨g,cg,hv,-,-,-⟩ := own_some ho0 (by have := hL.own.tml; omega)
 injection hv with hv1 hv2 hv3
 obtain ⟨l,hl⟩ : ∃ l,m.tms.length = l + 1 := ⟨m.tms.length - 1,by omega⟩
 have hlT : s.lT = l + 1 := by rw [<- hL.own.tml]; exact hl
 have hp8 : (insPos (m.tms.map (·.g)) gd : Int) <= 8 := by omega
 have HPL : Hid (insPos (m.tms.map (·.g)) gd <= l) := by show _ <= _; omega
 have H8 := Hid.mk9 h8
 have HLL := Hid.mk9 hl
 clear ho0 hv2 hv3 hpn h8 hl
 clear hld he hpa hpl0 HD HNS
 rw [map_split] at HTP
 have HLD := HL1
 obtain ⟨ep,sz,mn,gr,nds,tms,trs⟩ := m
 obtain ⟨aN,lN,cN,aT,lT,cT,aR,lR,cR⟩ := s
 simp only at *
 subst hv1 hlT
 have HBX := Hid.mk9 HL1.out.live.box
 have HDX := Hid.mk9 HL1.out.box
 have hdl := HL1.out.box.lt
 have hpl := HL1.out.live.box.lt
 clear hL HL1 hb1 hf hR hN hD hns
 generalize insPos (tms.map (·.g)) gd = p at *
 go_enter Tryz.func94,Tryz.ntmps94
 go_upto_region 1 with fail
 clear hw1
 refine pin_1 _ _ _ _ _ _ _ _ _ _ _ _ _ _ _ _ _ _ _ _ _ _ _ _ _ _ _ _ _ _ _ _ _ _ _ _ _ _ _ _ _ _ _ _ _ pm w.heap.size p true k id z r wt gd ep sz mn gr ad (some ⟨g,0,none⟩) 0 cd (l + 1) cT (.slice aN lN cN) (.slice aR lR cR) w1 _ HBX.out HDX.out HTP (fun u6 u7 u8 u9 u10 u11 u12 u13 u14 w5 hb5 => ?_)
 have HB5 : Hid (Below w.heap.size w w5) := below2 HB1.out hb5
 have HL5 := Hid.mk9 (HLD.out.below hb5)
 clear HTP HBX HDX HLD HB1 hdl hpl hb5
 obtain ⟨⟨c0,c1,c2,c3,c4,c5,c6⟩,⟨e0,e1,e2,e3,e4,e5,e6⟩⟩ := HL5.out.live.box
 obtain ⟨⟨d0,d1,d2,d3,d4,d5,d6⟩,-⟩ := HL5.out.box
 have hdl := HL5.out.box.lt
 have hpl := HL5.out.live.box.lt
 have hnep : pm ≠ w.heap.size := (boxTy_ne HL5.out.ty HL5.out.live.ty (by decide)).symm
 have HDE := Hid.mk9 (delT_live HL5.out HPL.out H8.out rfl rfl)
 clear HL5
 go_wp2_with (go_at_call 113; refine (HDE.out).mono ?_; rintro en w7 ⟨rfl,⟨⟨⟨s0,s1,s2,s3,s4,s5,s6⟩,⟨f0,f1,f2,f3,f4,f5,f6⟩⟩,⟨⟨q0,q1,q2,q3,q4,q5,q6⟩,-⟩⟩,hE⟩; have HE := Hid.mk9 hE; clear hE)
 go_returns
 exact ⟨rfl,⟨_,HE.out.1.live⟩,(kq_below HB5.out).trans HE.out.2.1,(HB5.out.mono HNW.out).trans HE.out.2.2⟩
set_option maxHeartbeats 2000000 in
set_option maxRecDepth 60000 in
theorem pin_tt {pm N : Nat} {m : Mp} {s : MV} (hR : Rising (m.tms.map (·.g))) (h8 : m.tms.length <= 8) (k id z r wt gd : Int) (ad : Option Addr) (ld cd : Nat) (ns : List Int) (hf : foundT m.tms gd = true) (he : ns ≠ []) (w : World) (hL : LiveM G w pm N m s) (hN : N <= w.heap.size) (hD : ∀ W,Below N w W -> RowI W ad ld cd ns) (hns : ns.length <= 1000) (hG : ∀ b,w.heap.size <= b -> G b) :
  Calls Tryz.prog 94 #[.pointer (some ⟨pm,0,none⟩),.agg #[.int .i64 k,.int .i64 id,.int .i64 z,.int .i64 r,.int .i64 wt,.int .i64 gd,.slice ad ld cd]] w fun e w' => ChgPost G w pm N { m with tms := m.tms.take (insPos (m.tms.map (·.g)) gd) ++ ⟨gd,ns⟩ :: m.tms.drop (insPos (m.tms.map (·.g)) gd + 1) } e w' := by
 have HGW := Hid.mk9 hG
 clear hG
 have hb1 := below_alloc w (.cells #[.int .i64 k,.int .i64 id,.int .i64 z,.int .i64 r,.int .i64 wt,.int .i64 gd,.slice ad ld cd] 37)
 have HL1 : Hid (LiveD G (w.alloc (.cells #[.int .i64 k,.int .i64 id,.int .i64 z,.int .i64 r,.int .i64 wt,.int .i64 gd,.slice ad ld cd] 37)) pm w.heap.size N m s k id z r wt gd ad ld cd) := ⟨hL.below hb1,Box7.new w _ _ _ _ _ _ _ _,BoxTy.new _ _ _,Nat.le_trans hN hb1.size⟩
 have HB1 : Hid (Below w.heap.size w (w.alloc (.cells #[.int .i64 k,.int .i64 id,.int .i64 z,.int .i64 r,.int .i64 wt,.int .i64 gd,.slice ad ld cd] 37))) := hb1
 have HNW : Hid (N <= w.heap.size) := hN
 have HD : Hid (∀ W,Below N w W -> RowI W ad ld cd ns) := hD
 have hld : ns.length = ld := (hD w (Below.refl _ _)).1
 have HNS : Hid (ns.length <= 1000) := hns
 generalize hw1 : w.alloc (.cells #[.int .i64 k,.int .i64 id,.int .i64 z,.int .i64 r,.int .i64 wt,.int .i64 gd,.slice ad ld cd] 37) = w1 at *
 have HTP : Hid (∀ W,Below w1.heap.size w1 W -> Calls Tryz.prog 82 #[.agg (mapCells m s).toArray,.int .i64 gd] W fun e w' => e = .returned (.tuple #[.int .i64 (insPos (m.tms.map (·.g)) gd : Int),.bool true]) /\ Below W.heap.size W w') := fun W hb => by
  have h := temp_pos m s gd W ((HL1.out.live.below hb).own.map.tms) hR h8
  rw [hf] at h
  exact h
 have hpa := insPos_all (m.tms.map (·.g)) gd
 rw [List.length_map] at hpa
 have hpl0 : insPos (m.tms.map (·.g)) gd <= m.tms.length := hpa.1
 have hl0 : (0 : Int) < (ld : Int) := by
  have : 0 < ns.length := List.length_pos_iff.2 he
  omega
 have hpn : insPos (m.tms.map (·.g)) gd < m.tms.length := by
  unfold foundT at hf
  rw [decide_eq_true_eq] at hf
  exact hf.1
 obtain ⟨L0,ho0,-⟩ := TmRowG.all hL.own.tms
 rw [hL.own.tml] at ho0
 obtain ⟨g,cg,hv,-,-,-⟩ := own_some ho0 (by have := hL.own.tml; omega)
 injection hv with hv1 hv2 hv3
 obtain ⟨l,hl⟩ : ∃ l,m.tms.length = l + 1 := ⟨m.tms.length - 1,by omega⟩
 have hlT : s.lT = l + 1 := by rw [<- hL.own.tml]; exact hl
 have hp8 : (insPos (m.tms.map (·.g)) gd : Int) <= 8 := by omega
 have HPL : Hid (insPos (m.tms.map (·.g)) gd <= l) := by show _ <= _; omega
 have H8 := Hid.mk9 h8
 have HLL := Hid.mk9 hl
 clear ho0 hv2 hv3 hpn h8 hl
 have HCO : Hid (∀ W0 W,Below N w W0 -> Below W0.heap.size W0 W -> N <= W0.heap.size -> Calls Tryz.prog 61 #[.slice ad ld cd] W fun e w' => Below W.heap.size W w' /\ ∃ a c,e = .returned (.slice a ns.length c) /\ IRow w' W0.heap.size (.slice a ns.length c) ns) := fun W0 W hb0 hb hN0 => by
  have hRI := HD.out W (hb0.trans (hb.mono hN0))
  refine (copiedInt ad ld cd (intCells ns) W (by simp [intCells,hld]) (by have := HNS.out; omega) hRI.lies hRI.2.2.2.1 (by intro u hu; simp [intCells] at hu; obtain ⟨x,-,rfl⟩ := hu; rfl)).mono ?_
  rintro e w' ⟨hbw,v,rfl,hown,-⟩
  rw [<- hld] at hown
  obtain ⟨a,c,rfl,-⟩ := own_slice hown
  exact ⟨hbw,a,c,rfl,own_base hown hb.size⟩
 clear hld he hpa hpl0 HD HNS
 rw [map_split] at HTP
 have HLD := HL1
 obtain ⟨ep,sz,mn,gr,nds,tms,trs⟩ := m
 obtain ⟨aN,lN,cN,aT,lT,cT,aR,lR,cR⟩ := s
 simp only at *
 subst hv1 hlT
 have HBX := Hid.mk9 HL1.out.live.box
 have HDX := Hid.mk9 HL1.out.box
 have hdl := HL1.out.box.lt
 have hpl := HL1.out.live.box.lt
 clear hL HL1 hb1 hf hR hN hD hns
 generalize insPos (tms.map (·.g)) gd = p at *
 go_enter Tryz.func94,Tryz.ntmps94
 go_upto_region 1 with fail
 clear hw1
 refine pin_1 _ _ _ _ _ _ _ _ _ _ _ _ _ _ _ _ _ _ _ _ _ _ _ _ _ _ _ _ _ _ _ _ _ _ _ _ _ _ _ _ _ _ _ _ _ pm w.heap.size p true k id z r wt gd ep sz mn gr ad (some ⟨g,0,none⟩) ld cd (l + 1) cT (.slice aN lN cN) (.slice aR lR cR) w1 _ HBX.out HDX.out HTP (fun u6 u7 u8 u9 u10 u11 u12 u13 u14 w5 hb5 => ?_)
 have HB5 : Hid (Below w.heap.size w w5) := below2 HB1.out hb5
 have HL5 := Hid.mk9 (HLD.out.below hb5)
 clear HTP HBX HDX HLD HB1 hdl hpl hb5
 obtain ⟨⟨c0,c1,c2,c3,c4,c5,c6⟩,⟨e0,e1,e2,e3,e4,e5,e6⟩⟩ := HL5.out.live.box
 obtain ⟨⟨d0,d1,d2,d3,d4,d5,d6⟩,-⟩ := HL5.out.box
 have hdl := HL5.out.box.lt
 have hpl := HL5.out.live.box.lt
 have hnep : pm ≠ w.heap.size := (boxTy_ne HL5.out.ty HL5.out.live.ty (by decide)).symm
 have HDE := Hid.mk9 (delT_live HL5.out HPL.out H8.out rfl rfl)
 clear HL5
 go_upto_region 5 with (go_at_call 113; refine (HDE.out).mono ?_; rintro en w7 ⟨rfl,⟨⟨⟨s0,s1,s2,s3,s4,s5,s6⟩,⟨f0,f1,f2,f3,f4,f5,f6⟩⟩,⟨⟨q0,q1,q2,q3,q4,q5,q6⟩,-⟩⟩,hE⟩; have HE := Hid.mk9 hE; clear hE)
 have HLZ := Hid.mk9 HE.out.1
 have HKZ := Hid.mk9 ((kq_below HB5.out).trans HE.out.2.1)
 have HBZ := Hid.mk9 ((HB5.out.mono HNW.out).trans HE.out.2.2)
 clear HE s0 s1 s2 s3 s4 s5 s6 f0 f1 f2 f3 f4 f5 f6 q0 q1 q2 q3 q4 q5 q6 c0 c1 c2 c3 c4 c5 c6 d0 d1 d2 d3 d4 d5 d6 e0 e1 e2 e3 e4 e5 e6 HDE HB5
 generalize w7.setCell ⟨pm,5,none⟩ (.slice (some ⟨g,0,none⟩) l cT) = w8 at *
 have HP2 : Hid (p <= (tms.take p ++ tms.drop (p + 1)).length /\ (tms.take p ++ tms.drop (p + 1)).length <= 8) := by
  have h1 := HLL.out
  have h2 := HPL.out
  have h3 := H8.out
  show _ /\ _
  simp
  omega
 refine pin_5 _ _ _ _ _ _ _ _ _ _ _ _ _ _ _ _ _ _ _ _ _ _ _ _ _ _ _ _ _ _ _ _ _ _ _ _ _ _ _ _ _ _ _ _ pm w.heap.size p (l + 1) k id z r wt gd ep sz mn gr ad (some ⟨g,0,none⟩) ld cd l cT (.slice aN lN cN) (.slice aR lR cR) ns _ w8 _ HLZ.out.live.box HLZ.out.box (fun W hb => HCO.out w8 W HBZ.out hb HLZ.out.sz) (fun W a c hb hI => insT_live HLZ.out HP2.out.1 HP2.out.2 (fun b hb => HGW.out b (Nat.le_trans HBZ.out.size hb)) ns W a c hb hI) (fun u31 u32 u33 u34 u35 u36 u37 u38 u39 u40 u41 u42 u43 u44 u45 u46 g' c W hR => ?_)
 have HQE : Hid ((tms.take p ++ tms.drop (p + 1)).take p ++ ⟨gd,ns⟩ :: (tms.take p ++ tms.drop (p + 1)).drop p = tms.take p ++ ⟨gd,ns⟩ :: tms.drop (p + 1)) := by
  have h1 := HLL.out
  have h2 := HPL.out
  have hle : (tms.take p).length = p := by simp; omega
  show _ = _
  rw [List.take_append_of_le_length (by omega),List.take_of_length_le (by omega),List.drop_append_of_le_length (by omega),List.drop_of_length_le (by omega),List.nil_append]
 have HF1 := Hid.mk9 hR.1
 have HF2 := Hid.mk9 (HKZ.out.trans hR.2.1)
 have HF3 := Hid.mk9 (HBZ.out.trans hR.2.2)
 simp only at HF1
 rw [HQE.out] at HF1
 clear hR HCO HLZ HKZ HBZ HP2 HPL H8 HLL HQE
 generalize W.setCell ⟨pm,5,none⟩ (.slice (some ⟨g',0,none⟩) (l + 1) c) = wz at *
 go_wp2_with fail
 go_returns
 exact ⟨rfl,⟨_,HF1.out⟩,HF2.out,HF3.out⟩
theorem pin_any {pm N : Nat} {m : Mp} {s : MV} (hR : Rising (m.tms.map (·.g))) (h8 : m.tms.length <= 8) (k id z r wt gd : Int) (ad : Option Addr) (ld cd : Nat) (ns : List Int) (w : World) (hL : LiveM G w pm N m s) (hN : N <= w.heap.size) (hD : ∀ W,Below N w W -> RowI W ad ld cd ns) (hns : ns.length <= 1000) (hG : ∀ b,w.heap.size <= b -> G b) :
  Calls Tryz.prog 94 #[.pointer (some ⟨pm,0,none⟩),.agg #[.int .i64 k,.int .i64 id,.int .i64 z,.int .i64 r,.int .i64 wt,.int .i64 gd,.slice ad ld cd]] w fun e w' => ChgPost G w pm N { m with tms := pinT m.tms gd ns } e w' := by
 unfold pinT
 cases hf : foundT m.tms gd
 ·by_cases he : ns = []
  ·have h := pin_ff hR h8 k id z r wt gd ad ld cd ns hf he w hL hN hD hns
   rw [if_pos he,if_neg (by simp),List.nil_append,List.take_append_drop]
   exact h
  ·rw [if_neg he,if_neg (by simp)]
   exact pin_ft hR h8 k id z r wt gd ad ld cd ns hf he w hL hN hD hns hG
 ·by_cases he : ns = []
  ·rw [if_pos he,if_pos rfl,List.nil_append]
   exact pin_tf hR h8 k id z r wt gd ad ld cd ns hf he w hL hN hD hns
  ·rw [if_neg he,if_pos rfl]
   exact pin_tt hR h8 k id z r wt gd ad ld cd ns hf he w hL hN hD hns hG
end Go.Proofs.YtcncbjknfcjnmaaGreat.Tp
namespace Go.Proofs.YtcncbjknfcjnmaaGreat.Tp
open Go.ChangeShapes Go.WideShapes Go.ChangeAt Go.RowKit
variable {G : Nat -> Prop}
def cleanT (ts : List Tr) (q : Nat) : List Tr := ts.set q ⟨(ts.getD q tr0).since,[]⟩
theorem trGetD_eq (l : List Tr) (k : Nat) (x : Tr) (h : k < l.length) : (l.set k x).getD k tr0 = x := by simp [h]
theorem trGetD_ne (l : List Tr) (k i : Nat) (x : Tr) (h : i ≠ k) : (l.set k x).getD i tr0 = l.getD i tr0 := by simp [List.getD_eq_getElem?_getD,Ne.symm h]
theorem tmRow_nil (w : World) (B E : Nat) : TmRowG G B E [] (.slice none 0 0) w := ⟨[],own_nothing w B E 2,trivial⟩
theorem TrRowG.clean {B : Nat} {ts : List Tr} {g cap n q : Nat} {w : World} (h : TrRowG G B ts (.slice (some ⟨g,0,none⟩) n cap) w) (hn : ts.length = n) (hq : q < ts.length) : TrRowG G B (cleanT ts q) (.slice (some ⟨g,0,none⟩) n cap) (w.setCell ⟨g,q * 2 + 1,none⟩ (.slice none 0 0)) := by
 subst hn
 obtain ⟨L,h1,h2,h3,h4⟩ := h
 obtain ⟨s1,s2⟩ := h2.stored (q * 2 + 1) (.slice none 0 0)
 obtain ⟨⟨cur,hh⟩,-⟩ := row_ty h2
 have hkp : ∀ (u : Value) (l : List Tm),TmRowG G B 55 l u w -> TmRowG G B 55 l u (w.setCell ⟨g,q * 2 + 1,none⟩ (.slice none 0 0)) := fun u l hu => TmRowG.type hu s2 hh (by decide) (by decide)
 rw [pairCells_set L q (by omega)] at s1
 have hlen : (cleanT ts q).length = ts.length := by simp [cleanT]
 rw [TrRowG,hlen]
 refine ⟨L.set q ((L[q]).1,.slice none 0 0),by simpa using h1,s1,fun i hi => ?_,fun i j hij hjl b hb => ?_⟩
 ·skip
  by_cases e : i = q
  ·subst e
   rw [getD_set_eq _ _ _ (by omega)]
   have h5 := h3 i hi
   rw [getD_lt (by omega)] at h5
   unfold cleanT
   rw [trGetD_eq _ _ _ hi]
   exact ⟨h5.1,tmRow_nil _ _ _⟩
  ·rw [getD_set_ne _ _ _ _ e]
   unfold cleanT
   rw [trGetD_ne _ _ _ _ e]
   exact ⟨(h3 i hi).1,hkp _ _ (h3 i hi).2⟩
 ·skip
  by_cases ej : j = q
  ·subst ej
   rw [getD_set_eq _ _ _ (by omega)]
   simp [Value.ownBlock]
  ·rw [getD_set_ne _ _ _ _ ej]
   by_cases ei : i = q
   ·subst ei
    rw [getD_set_eq _ _ _ (by omega)] at hb
    simp [Value.ownBlock] at hb
   ·rw [getD_set_ne _ _ _ _ ei] at hb
    exact h4 i j hij hjl b hb
theorem LiveM.clean {w : World} {pm N g q : Nat} {m : Mp} {s : MV} (h : LiveM G w pm N m s) (ha : s.aR = some ⟨g,0,none⟩) (hq : q < m.trs.length) :
  LiveM G (w.setCell ⟨g,q * 2 + 1,none⟩ (.slice none 0 0)) pm N { m with trs := cleanT m.trs q } s /\ Kq w (w.setCell ⟨g,q * 2 + 1,none⟩ (.slice none 0 0)) /\ Below N w (w.setCell ⟨g,q * 2 + 1,none⟩ (.slice none 0 0)) := by
 have hr := h.own.trs
 rw [ha] at hr
 have hr2 := TrRowG.clean hr h.own.trl hq
 obtain ⟨L,h1,h2,-,-⟩ := hr
 rw [h.own.trl] at h2
 obtain ⟨ht,hNg⟩ := row_ty h2
 have hg0 := set_grownBy w g (q * 2 + 1) (.slice none 0 0)
 have hne : pm ≠ g := boxTy_ne h.ty ht (by decide)
 have hkp := kp_set ht (.inr (.inr (.inr (.inl rfl)))) (q * 2 + 1) (.slice none 0 0)
 obtain ⟨cur,hc⟩ := ht
 refine ⟨⟨h.box.else hg0 hne,h.ty.kp hkp,⟨own_type h.own.nds hg0 hc (by decide),h.own.ndl,TmRowG.type h.own.tms hg0 hc (by decide) (by decide),h.own.tml,?_,by simpa [cleanT] using h.own.trl⟩,h.ge⟩,hkp.kq,(Below.refl N w).setCell (p := ⟨g,q * 2 + 1,none⟩) hNg _⟩
 rw [ha]
 exact hr2
set_option maxHeartbeats 4000000 in
set_option maxRecDepth 60000 in
theorem ch_7 (t1 t2 t4 t5 t6 t7 t8 t9 t10 t11 t12 t13 t14 t15 t16 t17 t18 t19 t20 t21 t22 t23 t24 t25 : Value) (pm pd q g lR cR : Nat) (id z r wt ep sz mn gr : Int) (ad : Option Addr) (ld cd : Nat) (vN vT v9 : Value) (w1 : World) (Q : Exit -> Act -> World -> Prop) (hql : (q : Int) < (lR : Int))
  (hA : Box7 w1 pm (.int .i64 ep) (.int .i64 sz) (.int .i64 mn) (.int .i64 gr) vN vT (.slice (some ⟨g,0,none⟩) lR cR)) (hD : Box7 w1 pd (.int .i64 10) (.int .i64 id) (.int .i64 z) (.int .i64 r) (.int .i64 wt) (.int .i64 (q : Int)) (.slice ad ld cd)) (hF : w1.frozen? ⟨g,q * 2 + 1,none⟩ = false) (hC : w1.cell? ⟨g,q * 2 + 1,none⟩ = some v9)
  (hQ : Hid (∀ (u18 u19 u20 u21 u22 u23 u24 u25 : Value),Q .normal ⟨#[.pointer (some ⟨pm,0,none⟩),t1,t2,.pointer (some ⟨pd,0,none⟩),t4,t5,t6,t7,t8,t9,t10,t11,t12,t13,t14,t15,t16,t17,u18,u19,u20,u21,u22,u23,u24,u25],[]⟩ (w1.drew.setCell ⟨g,q * 2 + 1,none⟩ (.slice none 0 0)))) :
  Code.wp Tryz.prog ((Tryz.f71.body.bind (regionOf 7)).getD .skip) Q ⟨#[.pointer (some ⟨pm,0,none⟩),t1,t2,.pointer (some ⟨pd,0,none⟩),t4,t5,t6,t7,t8,t9,t10,t11,t12,t13,t14,t15,t16,t17,t18,t19,t20,t21,t22,t23,t24,t25],[]⟩ w1 := by
 have hql' : q < lR := by omega
 have hS : (fun w' => Box7 w' pm (.int .i64 ep) (.int .i64 sz) (.int .i64 mn) (.int .i64 gr) vN vT (.slice (some ⟨g,0,none⟩) lR cR) /\ Box7 w' pd (.int .i64 10) (.int .i64 id) (.int .i64 z) (.int .i64 r) (.int .i64 wt) (.int .i64 (q : Int)) (.slice ad ld cd) /\ w'.frozen? ⟨g,q * 2 + 1,none⟩ = false /\ w'.cell? ⟨g,q * 2 + 1,none⟩ = some v9) w1.drew := ⟨hA,hD,hF,hC⟩
 have HF9 := Hid.mk9 hF
 have HC9 := Hid.mk9 hC
 clear hA hD hF hC
 conv => arg 2; whnf
 refine wp_region_but (S := (fun w' => Box7 w' pm (.int .i64 ep) (.int .i64 sz) (.int .i64 mn) (.int .i64 gr) vN vT (.slice (some ⟨g,0,none⟩) lR cR) /\ Box7 w' pd (.int .i64 10) (.int .i64 id) (.int .i64 z) (.int .i64 r) (.int .i64 wt) (.int .i64 (q : Int)) (.slice ad ld cd) /\ w'.frozen? ⟨g,q * 2 + 1,none⟩ = false /\ w'.cell? ⟨g,q * 2 + 1,none⟩ = some v9)) (n := 8) mixed5 ?_
 refine but_take (i := 0) (v := .pointer (some ⟨pm,0,none⟩)) rfl (by kernel_rfl) (fun _ _ _ h => h) (.inl ⟨rfl,fun w hS => ?_⟩) hS ?_
 ·obtain ⟨⟨⟨s0,s1,s2,s3,s4,s5,s6⟩,-⟩,⟨⟨d0,d1,d2,d3,d4,d5,d6⟩,-⟩,hfz,hcl⟩ := hS
  go_simp
 simp only [Act.put,List.setIfInBounds_toArray,List.set_cons_zero,List.set_cons_succ]
 refine but_take (i := 1) (v := .pointer (some ⟨pm,0,none⟩)) rfl (by kernel_rfl) (fun _ _ _ h => h) (.inl ⟨rfl,fun w hS => ?_⟩) hS ?_
 ·obtain ⟨⟨⟨s0,s1,s2,s3,s4,s5,s6⟩,-⟩,⟨⟨d0,d1,d2,d3,d4,d5,d6⟩,-⟩,hfz,hcl⟩ := hS
  go_simp
 simp only [Act.put,List.setIfInBounds_toArray,List.set_cons_zero,List.set_cons_succ]
 refine but_take (i := 2) (v := .pointer (some ⟨pm,6,none⟩)) rfl (by kernel_rfl) (fun _ _ _ h => h) (.inl ⟨rfl,fun w hS => ?_⟩) hS ?_
 ·obtain ⟨⟨⟨s0,s1,s2,s3,s4,s5,s6⟩,-⟩,⟨⟨d0,d1,d2,d3,d4,d5,d6⟩,-⟩,hfz,hcl⟩ := hS
  go_simp
 simp only [Act.put,List.setIfInBounds_toArray,List.set_cons_zero,List.set_cons_succ]
 refine but_take (i := 3) (v := .slice (some ⟨g,0,none⟩) lR cR) rfl (by kernel_rfl) (fun _ _ _ h => h) (.inl ⟨rfl,fun w hS => ?_⟩) hS ?_
 ·obtain ⟨⟨⟨s0,s1,s2,s3,s4,s5,s6⟩,-⟩,⟨⟨d0,d1,d2,d3,d4,d5,d6⟩,-⟩,hfz,hcl⟩ := hS
  go_simp
 simp only [Act.put,List.setIfInBounds_toArray,List.set_cons_zero,List.set_cons_succ]
 refine but_take (i := 4) (v := .pointer (some ⟨pd,5,none⟩)) rfl (by kernel_rfl) (fun _ _ _ h => h) (.inl ⟨rfl,fun w hS => ?_⟩) hS ?_
 ·obtain ⟨⟨⟨s0,s1,s2,s3,s4,s5,s6⟩,-⟩,⟨⟨d0,d1,d2,d3,d4,d5,d6⟩,-⟩,hfz,hcl⟩ := hS
  go_simp
 simp only [Act.put,List.setIfInBounds_toArray,List.set_cons_zero,List.set_cons_succ]
 refine but_take (i := 5) (v := .int .i64 (q : Int)) rfl (by kernel_rfl) (fun _ _ _ h => h) (.inl ⟨rfl,fun w hS => ?_⟩) hS ?_
 ·obtain ⟨⟨⟨s0,s1,s2,s3,s4,s5,s6⟩,-⟩,⟨⟨d0,d1,d2,d3,d4,d5,d6⟩,-⟩,hfz,hcl⟩ := hS
  go_simp
 simp only [Act.put,List.setIfInBounds_toArray,List.set_cons_zero,List.set_cons_succ]
 refine but_take (i := 6) (v := .pointer (some ⟨g,q * 2,none⟩)) rfl (by kernel_rfl) (fun _ _ _ h => h) (.inl ⟨rfl,fun w hS => ?_⟩) hS ?_
 ·obtain ⟨⟨⟨s0,s1,s2,s3,s4,s5,s6⟩,-⟩,⟨⟨d0,d1,d2,d3,d4,d5,d6⟩,-⟩,hfz,hcl⟩ := hS
  go_simp
 simp only [Act.put,List.setIfInBounds_toArray,List.set_cons_zero,List.set_cons_succ]
 refine but_take (i := 7) (v := .pointer (some ⟨g,q * 2 + 1,none⟩)) rfl (by kernel_rfl) (fun _ _ _ h => h) (.inl ⟨rfl,fun w hS => ?_⟩) hS ?_
 ·obtain ⟨⟨⟨s0,s1,s2,s3,s4,s5,s6⟩,-⟩,⟨⟨d0,d1,d2,d3,d4,d5,d6⟩,-⟩,hfz,hcl⟩ := hS
  go_simp
 simp only [Act.put,List.setIfInBounds_toArray,List.set_cons_zero,List.set_cons_succ]
 refine but_one (i := 8) (by kernel_rfl) rfl rfl ?_
 intro K hK
 clear hS
 have hf9 := HF9.out
 have hc9 := HC9.out
 go_simp
 refine hK.out _ _ (fun h => absurd rfl h) ?_
 clear hK
 try simp only [Act.put,List.setIfInBounds_toArray,List.set_cons_zero,List.set_cons_succ]
 refine AnyBut.done (by kernel_rfl) ?_ _
 refine NoPanic.normal ?_
 exact hQ.out _ _ _ _ _ _ _ _
set_option maxHeartbeats 2000000 in
set_option maxRecDepth 60000 in
theorem change_none {pm N : Nat} {m : Mp} {s : MV} (id z r wt gd : Int) (ad : Option Addr) (ld cd : Nat) (w : World) (hL : LiveM G w pm N m s) (hN : N <= w.heap.size)  :
  Calls Tryz.prog 71 #[.pointer (some ⟨pm,0,none⟩),.agg #[.int .i64 9,.int .i64 id,.int .i64 z,.int .i64 r,.int .i64 wt,.int .i64 gd,.slice ad ld cd]] w fun e w' => ChgPost G w pm N m e w' := by
 have hb1 := below_alloc w (.cells #[.int .i64 9,.int .i64 id,.int .i64 z,.int .i64 r,.int .i64 wt,.int .i64 gd,.slice ad ld cd] 37)
 have HL1 : Hid (LiveD G (w.alloc (.cells #[.int .i64 9,.int .i64 id,.int .i64 z,.int .i64 r,.int .i64 wt,.int .i64 gd,.slice ad ld cd] 37)) pm w.heap.size N m s 9 id z r wt gd ad ld cd) := ⟨hL.below hb1,Box7.new w _ _ _ _ _ _ _ _,BoxTy.new _ _ _,Nat.le_trans hN hb1.size⟩
 have HB1 : Hid (Below w.heap.size w (w.alloc (.cells #[.int .i64 9,.int .i64 id,.int .i64 z,.int .i64 r,.int .i64 wt,.int .i64 gd,.slice ad ld cd] 37))) := hb1
 have HNW : Hid (N <= w.heap.size) := hN
 clear hL hN hb1
 go_enter Tryz.func71,Tryz.ntmps71
 go_wp2_with fail
 go_returns
 exact ⟨rfl,⟨_,HL1.out.live⟩,kq_below HB1.out,HB1.out.mono HNW.out⟩
set_option maxHeartbeats 2000000 in
set_option maxRecDepth 60000 in
theorem change_node {pm N : Nat} {m : Mp} {s : MV} (k id z r wt gd : Int) (m2 : Mp) (hk : ¬ k = 9 /\ ¬ k = 8 /\ ¬ k = 10) (ad : Option Addr) (ld cd : Nat) (w : World) (hL : LiveM G w pm N m s) (hN : N <= w.heap.size) (hC : ∀ W,LiveM G W pm N m s -> N <= W.heap.size -> Calls Tryz.prog 95 #[.pointer (some ⟨pm,0,none⟩),.agg #[.int .i64 k,.int .i64 id,.int .i64 z,.int .i64 r,.int .i64 wt,.int .i64 gd,.slice ad ld cd]] W fun e w' => ChgPost G W pm N m2 e w') :
  Calls Tryz.prog 71 #[.pointer (some ⟨pm,0,none⟩),.agg #[.int .i64 k,.int .i64 id,.int .i64 z,.int .i64 r,.int .i64 wt,.int .i64 gd,.slice ad ld cd]] w fun e w' => ChgPost G w pm N m2 e w' := by
 have hb1 := below_alloc w (.cells #[.int .i64 k,.int .i64 id,.int .i64 z,.int .i64 r,.int .i64 wt,.int .i64 gd,.slice ad ld cd] 37)
 have HL1 : Hid (LiveD G (w.alloc (.cells #[.int .i64 k,.int .i64 id,.int .i64 z,.int .i64 r,.int .i64 wt,.int .i64 gd,.slice ad ld cd] 37)) pm w.heap.size N m s k id z r wt gd ad ld cd) := ⟨hL.below hb1,Box7.new w _ _ _ _ _ _ _ _,BoxTy.new _ _ _,Nat.le_trans hN hb1.size⟩
 have HB1 : Hid (Below w.heap.size w (w.alloc (.cells #[.int .i64 k,.int .i64 id,.int .i64 z,.int .i64 r,.int .i64 wt,.int .i64 gd,.slice ad ld cd] 37))) := hb1
 have HNW : Hid (N <= w.heap.size) := hN
 have HC := Hid.mk9 (hC _ HL1.out.live HL1.out.sz)
 obtain ⟨hk1,hk2,hk3⟩ := hk
 clear hL hN hb1 hC HL1
 go_enter Tryz.func71,Tryz.ntmps71
 go_wp2_with (go_at_call 95; refine (HC.out).mono ?_; rintro en w7 ⟨rfl,hE⟩; have HE := Hid.mk9 hE; clear hE)
 go_returns
 exact ⟨rfl,HE.out.1,(kq_below HB1.out).trans HE.out.2.1,(HB1.out.mono HNW.out).trans HE.out.2.2⟩
set_option maxHeartbeats 2000000 in
set_option maxRecDepth 60000 in
theorem change_pin {pm N : Nat} {m : Mp} {s : MV} (id z r wt gd : Int) (m2 : Mp) (ad : Option Addr) (ld cd : Nat) (w : World) (hL : LiveM G w pm N m s) (hN : N <= w.heap.size) (hC : ∀ W,Below N w W -> LiveM G W pm N m s -> N <= W.heap.size -> Calls Tryz.prog 94 #[.pointer (some ⟨pm,0,none⟩),.agg #[.int .i64 8,.int .i64 id,.int .i64 z,.int .i64 r,.int .i64 wt,.int .i64 gd,.slice ad ld cd]] W fun e w' => ChgPost G W pm N m2 e w') :
  Calls Tryz.prog 71 #[.pointer (some ⟨pm,0,none⟩),.agg #[.int .i64 8,.int .i64 id,.int .i64 z,.int .i64 r,.int .i64 wt,.int .i64 gd,.slice ad ld cd]] w fun e w' => ChgPost G w pm N m2 e w' := by
 have hb1 := below_alloc w (.cells #[.int .i64 8,.int .i64 id,.int .i64 z,.int .i64 r,.int .i64 wt,.int .i64 gd,.slice ad ld cd] 37)
 have HL1 : Hid (LiveD G (w.alloc (.cells #[.int .i64 8,.int .i64 id,.int .i64 z,.int .i64 r,.int .i64 wt,.int .i64 gd,.slice ad ld cd] 37)) pm w.heap.size N m s 8 id z r wt gd ad ld cd) := ⟨hL.below hb1,Box7.new w _ _ _ _ _ _ _ _,BoxTy.new _ _ _,Nat.le_trans hN hb1.size⟩
 have HB1 : Hid (Below w.heap.size w (w.alloc (.cells #[.int .i64 8,.int .i64 id,.int .i64 z,.int .i64 r,.int .i64 wt,.int .i64 gd,.slice ad ld cd] 37))) := hb1
 have HNW : Hid (N <= w.heap.size) := hN
 have HC := Hid.mk9 (hC _ (HB1.out.mono HNW.out) HL1.out.live HL1.out.sz)
 clear hL hN hb1 hC HL1
 go_enter Tryz.func71,Tryz.ntmps71
 go_wp2_with (go_at_call 94; refine (HC.out).mono ?_; rintro en w7 ⟨rfl,hE⟩; have HE := Hid.mk9 hE; clear hE)
 go_returns
 exact ⟨rfl,HE.out.1,(kq_below HB1.out).trans HE.out.2.1,(HB1.out.mono HNW.out).trans HE.out.2.2⟩
set_option maxHeartbeats 2000000 in
set_option maxRecDepth 60000 in
theorem change_clean {pm N : Nat} {m : Mp} {s : MV} (id z r wt : Int) (q : Nat) (hq : q < m.trs.length) (ad : Option Addr) (ld cd : Nat) (w : World) (hL : LiveM G w pm N m s) (hN : N <= w.heap.size)  :
  Calls Tryz.prog 71 #[.pointer (some ⟨pm,0,none⟩),.agg #[.int .i64 10,.int .i64 id,.int .i64 z,.int .i64 r,.int .i64 wt,.int .i64 (q : Int),.slice ad ld cd]] w fun e w' => ChgPost G w pm N { m with trs := cleanT m.trs q } e w' := by
 have hb1 := below_alloc w (.cells #[.int .i64 10,.int .i64 id,.int .i64 z,.int .i64 r,.int .i64 wt,.int .i64 (q : Int),.slice ad ld cd] 37)
 have HL1 : Hid (LiveD G (w.alloc (.cells #[.int .i64 10,.int .i64 id,.int .i64 z,.int .i64 r,.int .i64 wt,.int .i64 (q : Int),.slice ad ld cd] 37)) pm w.heap.size N m s 10 id z r wt (q : Int) ad ld cd) := ⟨hL.below hb1,Box7.new w _ _ _ _ _ _ _ _,BoxTy.new _ _ _,Nat.le_trans hN hb1.size⟩
 have HB1 : Hid (Below w.heap.size w (w.alloc (.cells #[.int .i64 10,.int .i64 id,.int .i64 z,.int .i64 r,.int .i64 wt,.int .i64 (q : Int),.slice ad ld cd] 37))) := hb1
 have HNW : Hid (N <= w.heap.size) := hN
 have hql : (q : Int) < (s.lR : Int) := by have := hL.own.trl; omega
 obtain ⟨L0,hL0,ho0,-,-⟩ := hL.own.trs
 rw [hL.own.trl] at ho0
 obtain ⟨g,cg,hv,-,-,-⟩ := own_some ho0 (by omega)
 injection hv with hv1 hv2 hv3
 generalize hw1 : w.alloc (.cells #[.int .i64 10,.int .i64 id,.int .i64 z,.int .i64 r,.int .i64 wt,.int .i64 (q : Int),.slice ad ld cd] 37) = w1 at *
 have hbd := below_drew w1
 obtain ⟨f1,f2,f3⟩ := (HL1.out.live.below hbd).clean hv1 hq
 have HF1 := Hid.mk9 f1
 have HF2 := Hid.mk9 ((kq_below (below2 HB1.out hbd)).trans f2)
 have HF3 := Hid.mk9 (((below2 HB1.out hbd).mono HNW.out).trans f3)
 have HX : Hid (∃ v9,w1.cell? ⟨g,q * 2 + 1,none⟩ = some v9 /\ w1.frozen? ⟨g,q * 2 + 1,none⟩ = false) := by
  obtain ⟨L,hLl,ho,-,-⟩ := HL1.out.live.own.trs
  rw [HL1.out.live.own.trl,hv1] at ho
  have hp := pairCells_get L q (by omega)
  exact ⟨_,(ho.cellAt (q * 2 + 1) (by omega)).trans hp.2,ho.frozenAt _⟩
 obtain ⟨v9,hC9,hF9⟩ := HX.out
 have HC9 := Hid.mk9 hC9
 have HF9 := Hid.mk9 hF9
 have HBX := Hid.mk9 HL1.out.live.box
 have HDX := Hid.mk9 HL1.out.box
 have HQL := Hid.mk9 hql
 clear hC9 hF9 HX f1 f2 f3 hL hN hb1 HL1 hq ho0 hL0 hv2 hv3 hbd HB1 hql
 obtain ⟨ep,sz,mn,gr,nds,tms,trs⟩ := m
 obtain ⟨aN,lN,cN,aT,lT,cT,aR,lR,cR⟩ := s
 simp only at *
 subst hv1
 have hdl := HDX.out.lt
 obtain ⟨⟨d0,d1,d2,d3,d4,d5,d6⟩,-⟩ := HDX.out
 go_enter Tryz.func71,Tryz.ntmps71
 go_upto_region 7 with fail
 clear hw1
 refine ch_7 _ _ _ _ _ _ _ _ _ _ _ _ _ _ _ _ _ _ _ _ _ _ _ _ pm w.heap.size q g lR cR id z r wt ep sz mn gr ad ld cd (.slice aN lN cN) (.slice aT lT cT) v9 w1 _ HQL.out HBX.out HDX.out HF9.out HC9.out (fun u18 u19 u20 u21 u22 u23 u24 u25 => ?_)
 clear HBX HDX HC9 HF9 HQL d0 d1 d2 d3 d4 d5 d6 hdl
 generalize w1.drew.setCell ⟨g,q * 2 + 1,none⟩ (.slice none 0 0) = wz at *
 go_wp2_with fail
 go_returns
 exact ⟨rfl,⟨_,HF1.out⟩,HF2.out,HF3.out⟩
end Go.Proofs.YtcncbjknfcjnmaaGreat.Tp
