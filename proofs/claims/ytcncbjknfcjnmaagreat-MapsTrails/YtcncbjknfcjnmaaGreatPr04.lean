/-
  A region that draws its order, whose last operation waits for all others: loads may be taken first though that last one writes their cell.
  The two regions of loads that write: a weight laid on, one more load behind the others.
  Loads, plainly: no Go in sight.
-/
import Derived.Test.YtcncbjknfcjnmaaGreatPr00
import Derived.Test.YtcncbjknfcjnmaaGreatPr03
import Derived.Test.YtcncbjknfcjnmaaGreatPr02
namespace Go.Proofs.YtcncbjknfcjnmaaGreat.Tp
open Go.ChangeShapes Go.WideShapes Go.ChangeAt Go.RowKit
def AnyBut (P : Program) (md : Region.Mode) (ops : Array Oper) (Q : Exit -> Act -> World -> Prop) (S : World -> Prop) (n : Nat) : Nat -> Array Bool -> Act -> World -> Prop
 | 0,listed,a,w => Region.ready md ops listed = [] /\ Q .normal a w
 | fuel + 1,listed,a,w => (Region.ready md ops listed = [] -> Q .normal a w) /\
   ∀ i ∈ Region.ready md ops listed,wpOp P ops Q i (fun a' w' => (i ≠ n -> S w') /\ AnyBut P md ops Q S n fuel (listed.setIfInBounds i true) a' w') a w
theorem AnyBut.any {P : Program} {ops : Array Oper} {Q : Exit -> Act -> World -> Prop} {md : Region.Mode} {S : World -> Prop} {n : Nat} : ∀ (fuel : Nat) (listed : Array Bool) (a : Act) (w : World),AnyBut P md ops Q S n fuel listed a w -> wpAny P md ops Q fuel listed a w := by
 intro fuel
 induction fuel with
 | zero => intro listed a w h; exact h
 | succ fuel ih => intro listed a w h; exact ⟨h.1,fun i hi => wpOp_mono (fun a' w' h' => ih _ a' w' h'.2) (h.2 i hi)⟩
theorem AnyBut.first {P : Program} {ops : Array Oper} {Q : Exit -> Act -> World -> Prop} {md : Region.Mode} {S : World -> Prop} {n : Nat} {i : Nat} {oi : Oper} {v : Value} (hi : ops[i]? = some oi) (hsel : ∀ (j : Nat) (o : Oper) cs b,ops[j]? = some o -> o.op ≠ .select cs b)
  (hQ : ∀ c a w,Q (.panic c) (a.put oi.dst v) w -> Q (.panic c) a w) (hs : Region.sinkB md ops n = true) (hc : Region.chainB md ops n = true) (hn : n < ops.size) (hin : i < n) :
  ∀ (fuel : Nat) (listed : Array Bool) (a : Act) (w : World),HeadInv md ops n listed ->
   (∀ j oj,ops[j]? = some oj -> j ≠ i -> listed.getD j true = false -> (∀ e ∈ oj.after,Region.binds md e = true -> e.on ≠ i) -> oi.apart ops oj = true) ->
   i ∈ Region.ready md ops listed -> YieldsIf P ops S oi v a -> S w ->
   AnyBut P md ops Q S n fuel (listed.setIfInBounds i true) (a.put oi.dst v) w -> AnyBut P md ops Q S n (fuel + 1) listed a w := by
 intro fuel
 induction fuel with
 | zero =>
  intro listed a w _ _ hr hy hS H
  refine ⟨fun h => (by rw [h] at hr; cases hr),fun j hj => ?_⟩
  by_cases hji : j = i
  ·subst hji
   exact hy.wpOp hi hS ⟨fun _ => hS,H⟩
  ·have := ready_mono hj hji
   rw [H.1] at this
   cases this
 | succ fuel ih =>
  intro listed a w inv hfree hr hy hS H
  refine ⟨fun h => (by rw [h] at hr; cases hr),fun j hj => ?_⟩
  by_cases hji : j = i
  ·subst hji
   exact hy.wpOp hi hS ⟨fun _ => hS,H⟩
  ·have hun : listed.getD i true = false := (mem_ready.1 hr).1
   have hjn : j < n := by
    rcases Nat.lt_or_ge j n with h | h
    ·exact h
    ·exact absurd hj (tail_waits hs hc hn inv _ i rfl hin hun j h)
   have h1 := H.2 j (ready_mono hj hji)
   obtain ⟨hjun,oj,hoj,hall⟩ := mem_ready.1 hj
   have hnot : ∀ e ∈ oj.after,Region.binds md e = true -> e.on ≠ i := fun e he hb heq => by
    have h2 := hall e he hb
    rw [heq,getD_both hun] at h2
    cases h2
   have h2 := wpOp_putIf hoj (hfree j oj hoj hji hjun hnot) (fun cs b => hsel i oi cs b hi) (fun cs b => hsel j oj cs b hoj) hQ hy h1
   refine wpOp_mono (fun a' w' h3 => ?_) h2
   have hS' : S w' := h3.2.1 (by omega)
   refine ⟨fun _ => hS',ih (listed.setIfInBounds j true) a' w' (inv.set hj hjn) (fun k ok hk hki hku hno => ?_) (ready_mono hr (Ne.symm hji)) h3.1 hS' ?_⟩
   ·refine hfree k ok hk hki ?_ hno
    by_cases hjk : j = k
    ·subst hjk; exact hjun
    ·rw [getD_set_ne true hjk] at hku; exact hku
   ·rw [Array.setIfInBounds_comm _ _ hji]
    exact h3.2.2
def invB (md : Region.Mode) (ops : Array Oper) (n : Nat) (listed : Array Bool) : Bool :=
 decide (listed.size = ops.size) && (List.range ops.size).all (fun j => !listed.getD j false || ((ops[j]?).map (·.after.all fun e => !Region.binds md e || listed.getD e.on false)).getD true) && (List.range ops.size).all (fun t => decide (t < n) || !listed.getD t true)
theorem invB_spec {md : Region.Mode} {ops : Array Oper} {n : Nat} {listed : Array Bool} (h : invB md ops n listed = true) : HeadInv md ops n listed := by
 simp only [invB,Bool.and_eq_true,decide_eq_true_eq] at h
 obtain ⟨⟨h1,h2⟩,h3⟩ := h
 refine ⟨h1,fun j oj hj hl e he hb => ?_,fun t ht htl => ?_⟩
 ·have hlt : j < ops.size := (Array.getElem?_eq_some_iff.1 hj).1
  have := List.all_eq_true.1 h2 j (List.mem_range.2 hlt)
  rw [hl,hj] at this
  simp only [Bool.not_true,Bool.false_or,Option.map_some,Option.getD_some] at this
  have h4 := Array.all_eq_true_iff_forall_mem.1 this e he
  rw [hb] at h4
  simpa using h4
 ·have := List.all_eq_true.1 h3 t (List.mem_range.2 htl)
  simp only [Bool.or_eq_true,decide_eq_true_eq,Bool.not_eq_true'] at this
  rcases this with h | h
  ·omega
  ·exact h
theorem AnyBut.take {P : Program} {ops : Array Oper} {Q : Exit -> Act -> World -> Prop} {md : Region.Mode} {S : World -> Prop} {n : Nat} {i : Nat} {oi : Oper} {v : Value} {fuel : Nat} {listed : Array Bool} {a : Act} {w : World} (hi : ops[i]? = some oi)
  (hB : (Region.noSelect ops && Region.free md ops listed i && (Region.ready md ops listed).contains i && Region.sinkB md ops n && Region.chainB md ops n && decide (n < ops.size) && decide (i < n) && invB md ops n listed) = true)
  (hQ : ∀ c a w,Q (.panic c) (a.put oi.dst v) w -> Q (.panic c) a w) (hy : YieldsIf P ops S oi v a) (hS : S w)
  (h : AnyBut P md ops Q S n fuel (listed.setIfInBounds i true) (a.put oi.dst v) w) : AnyBut P md ops Q S n (fuel + 1) listed a w := by
 simp only [Bool.and_eq_true,decide_eq_true_eq] at hB
 obtain ⟨⟨⟨⟨⟨⟨⟨b1,b2⟩,b3⟩,b4⟩,b5⟩,b6⟩,b7⟩,b8⟩ := hB
 exact AnyBut.first hi (Region.noSelect_spec b1) hQ b4 b5 b6 b7 fuel listed a w (invB_spec b8) (Region.free_spec hi b2) (by simpa using b3) hy hS h
theorem AnyBut.one {P : Program} {ops : Array Oper} {Q : Exit -> Act -> World -> Prop} {md : Region.Mode} {S : World -> Prop} {n : Nat} {i : Nat} {o : Oper} {fuel : Nat} {listed : Array Bool} {a : Act} {w : World} (hr : Region.ready md ops listed = [i]) (ho : ops[i]? = some o) (hg : o.guard = none)
  (h : ∀ K : Act -> World -> Prop,Hid (∀ a' w',(i ≠ n -> S w') -> AnyBut P md ops Q S n fuel (listed.setIfInBounds i true) a' w' -> K a' w') -> o.wp P a w K Q) : AnyBut P md ops Q S n (fuel + 1) listed a w := by
 refine ⟨fun h0 => (by rw [hr] at h0; cases h0),fun j hj => ?_⟩
 rw [hr] at hj
 obtain rfl : j = i := by simpa using hj
 unfold wpOp
 simp only [ho]
 rw [if_pos (by simp [Region.wanted,hg])]
 exact .inl (h _ (fun _ _ h1 h2 => ⟨h1,h2⟩))
theorem AnyBut.done {P : Program} {ops : Array Oper} {Q : Exit -> Act -> World -> Prop} {md : Region.Mode} {S : World -> Prop} {n : Nat} {listed : Array Bool} {a : Act} {w : World} (hr : Region.ready md ops listed = []) (h : Q .normal a w) (fuel : Nat) : AnyBut P md ops Q S n fuel listed a w := by
 cases fuel with
 | zero => exact ⟨hr,h⟩
 | succ fuel => exact ⟨fun _ => h,by rw [hr]; simp⟩
theorem wp_region_but {P : Program} {ops : Array Oper} {Q : Exit -> Act -> World -> Prop} {S : World -> Prop} {n : Nat} {id : Nat} {a : Act} {w : World} (hm : P.follows .mixedOrders = true) (h : AnyBut P .any ops (NoPanic Q) S n ops.size (Array.replicate ops.size false) a w.drew) : (Code.region id ops true).wp P Q a w :=
 wp_region_noPanic (wp_region_any hm (AnyBut.any _ _ _ _ h))
theorem but_take {P : Program} {ops : Array Oper} {Q : Exit -> Act -> World -> Prop} {md : Region.Mode} {S : World -> Prop} {n : Nat} {i : Nat} {oi : Oper} {v : Value} {fuel : Nat} {listed : Array Bool} {a : Act} {w : World} (hi : ops.toList[i]? = some oi)
  (hB : (Region.noSelect ops && Region.free md ops listed i && (Region.ready md ops listed).contains i && Region.sinkB md ops n && Region.chainB md ops n && decide (n < ops.size) && decide (i < n) && invB md ops n listed) = true)
  (hQ : ∀ c a w,Q (.panic c) (a.put oi.dst v) w -> Q (.panic c) a w) (hy : YieldsIf P ops S oi v a) (hS : S w)
  (h : AnyBut P md ops Q S n fuel (listed.setIfInBounds i true) (a.put oi.dst v) w) : AnyBut P md ops Q S n (fuel + 1) listed a w :=
 AnyBut.take (by simpa using hi) hB hQ hy hS h
theorem but_one {P : Program} {ops : Array Oper} {Q : Exit -> Act -> World -> Prop} {md : Region.Mode} {S : World -> Prop} {n : Nat} {i : Nat} {o : Oper} {fuel : Nat} {listed : Array Bool} {a : Act} {w : World} (hr : Region.ready md ops listed = [i]) (ho : ops.toList[i]? = some o) (hg : o.guard = none)
  (h : ∀ K : Act -> World -> Prop,Hid (∀ a' w',(i ≠ n -> S w') -> AnyBut P md ops Q S n fuel (listed.setIfInBounds i true) a' w' -> K a' w') -> o.wp P a w K Q) : AnyBut P md ops Q S n (fuel + 1) listed a w :=
 AnyBut.one hr (by simpa using ho) hg h
end Go.Proofs.YtcncbjknfcjnmaaGreat.Tp
namespace Go.Proofs.YtcncbjknfcjnmaaGreat.Tp
open Go.ChangeShapes Go.WideShapes Go.ChangeAt Go.RowKit
theorem info51 : (Tryz.prog.info? 212).map (fun i => (i.zero,i.size,i.bytes)) = some (some (.agg #[.int .i64 0,.int .i64 0,.int .i64 0]),3,24) := by kernel_rfl
set_option maxHeartbeats 4000000 in
set_option maxRecDepth 60000 in
theorem load_add (t0 t1 t2 t3 t4 t5 t6 t7 t8 t10 t12 t14 t15 t16 t17 t18 t19 t20 t21 t22 t23 t24 t25 t26 t27 t28 t29 t30 t31 t32 t33 t34 t35 t36 t37 t38 t39 t40 t41 t42 t43 t44 t45 t46 t47 t48 t49 t50 t51 t52 t53 t54 t55 t56 t57 t58 t59 t60 t61 t62 t63 t64 t65 t66 : Value) (X g n cap j : Nat) (c1 c2 c3 c4 v : Int) (c5 c6 : Bool) (w1 : World) (Q : Exit -> Act -> World -> Prop)
  (x0 : w1.cell? ⟨X,0,none⟩ = some (.int .i64 c1)) (x1 : w1.cell? ⟨X,1,none⟩ = some (.int .i64 c2)) (x2 : w1.cell? ⟨X,2,none⟩ = some (.int .i64 c3)) (x3 : w1.cell? ⟨X,3,none⟩ = some (.int .i64 c4)) (x4 : w1.cell? ⟨X,4,none⟩ = some (.bool c5)) (x5 : w1.cell? ⟨X,5,none⟩ = some (.bool c6)) (hX : X < w1.heap.size) (hg : g < w1.heap.size) (hv : w1.cell? ⟨g,j * 3 + 2,none⟩ = some (.int .i64 v)) (hf : w1.frozen? ⟨g,j * 3 + 2,none⟩ = false) (hj : j < n) (hwr : IntKind.i64.wrap (v + wtN ⟨c1,c2,c3,c4,c5,c6⟩) = v + wtN ⟨c1,c2,c3,c4,c5,c6⟩)
  (hQ : Hid (∀ (u47 u48 u49 u50 u51 u52 u53 u54 u55 u56 : Value) (W : World),Below w1.heap.size w1 W -> Q .normal ⟨#[t0,t1,t2,t3,t4,t5,t6,t7,t8,.slice (some ⟨g,0,none⟩) n cap,t10,.pointer (some ⟨X,0,none⟩),t12,.int .i64 (j : Int),t14,t15,t16,t17,t18,t19,t20,t21,t22,t23,t24,t25,t26,t27,t28,t29,t30,t31,t32,t33,t34,t35,t36,t37,t38,t39,t40,t41,t42,t43,t44,t45,t46,u47,u48,u49,u50,u51,u52,u53,u54,u55,u56,t57,t58,t59,t60,t61,t62,t63,t64,t65,t66],[]⟩ (W.setCell ⟨g,j * 3 + 2,none⟩ (.int .i64 (v + wtN ⟨c1,c2,c3,c4,c5,c6⟩))))) :
  Code.wp Tryz.prog ((Tryz.f196.body.bind (regionOf 11)).getD .skip) Q ⟨#[t0,t1,t2,t3,t4,t5,t6,t7,t8,.slice (some ⟨g,0,none⟩) n cap,t10,.pointer (some ⟨X,0,none⟩),t12,.int .i64 (j : Int),t14,t15,t16,t17,t18,t19,t20,t21,t22,t23,t24,t25,t26,t27,t28,t29,t30,t31,t32,t33,t34,t35,t36,t37,t38,t39,t40,t41,t42,t43,t44,t45,t46,t47,t48,t49,t50,t51,t52,t53,t54,t55,t56,t57,t58,t59,t60,t61,t62,t63,t64,t65,t66],[]⟩ w1 := by
 have HS : Hid (∀ w',Below w1.heap.size w1 w' -> (fun w' => (w'.cell? ⟨X,0,none⟩ = some (.int .i64 c1) /\ w'.cell? ⟨X,1,none⟩ = some (.int .i64 c2) /\ w'.cell? ⟨X,2,none⟩ = some (.int .i64 c3) /\ w'.cell? ⟨X,3,none⟩ = some (.int .i64 c4) /\ w'.cell? ⟨X,4,none⟩ = some (.bool c5) /\ w'.cell? ⟨X,5,none⟩ = some (.bool c6)) /\ w'.cell? ⟨g,j * 3 + 2,none⟩ = some (.int .i64 v) /\ w'.frozen? ⟨g,j * 3 + 2,none⟩ = false /\ Below w1.heap.size w1 w') w') := fun w' h => ⟨⟨(h.cell (p := ⟨X,0,none⟩) hX).trans x0,(h.cell (p := ⟨X,1,none⟩) hX).trans x1,(h.cell (p := ⟨X,2,none⟩) hX).trans x2,(h.cell (p := ⟨X,3,none⟩) hX).trans x3,(h.cell (p := ⟨X,4,none⟩) hX).trans x4,(h.cell (p := ⟨X,5,none⟩) hX).trans x5⟩,(h.cell (p := ⟨g,j * 3 + 2,none⟩) hg).trans hv,(h.frozen (p := ⟨g,j * 3 + 2,none⟩) hg).trans hf,h⟩
 have HW : Hid (∀ W : World,Calls Tryz.prog 204 #[.agg #[.int .i64 c1,.int .i64 c2,.int .i64 c3,.int .i64 c4,.bool c5,.bool c6]] W fun e w' => e = .returned (.int .i64 (wtN ⟨c1,c2,c3,c4,c5,c6⟩)) /\ Grown W w') := fun W => weight_any c1 c2 c3 c4 c5 c6 W
 have HWR : Hid (IntKind.i64.wrap (v + wtN ⟨c1,c2,c3,c4,c5,c6⟩) = v + wtN ⟨c1,c2,c3,c4,c5,c6⟩) := hwr
 have hj1 : (j : Int) < (n : Int) := by omega
 have hj0 : (0 : Int) <= (j : Int) := by omega
 clear x0 x1 x2 x3 x4 x5 hv hf hwr
 generalize wtN ⟨c1,c2,c3,c4,c5,c6⟩ = d at *
 have hS := HS.out w1.drew (below_drew w1)
 conv => arg 2; whnf
 refine wp_region_but (S := (fun w' => (w'.cell? ⟨X,0,none⟩ = some (.int .i64 c1) /\ w'.cell? ⟨X,1,none⟩ = some (.int .i64 c2) /\ w'.cell? ⟨X,2,none⟩ = some (.int .i64 c3) /\ w'.cell? ⟨X,3,none⟩ = some (.int .i64 c4) /\ w'.cell? ⟨X,4,none⟩ = some (.bool c5) /\ w'.cell? ⟨X,5,none⟩ = some (.bool c6)) /\ w'.cell? ⟨g,j * 3 + 2,none⟩ = some (.int .i64 v) /\ w'.frozen? ⟨g,j * 3 + 2,none⟩ = false /\ Below w1.heap.size w1 w')) (n := 10) mixed5 ?_
 refine but_take (i := 0) (v := .slice (some ⟨g,0,none⟩) n cap) rfl (by kernel_rfl) (fun _ _ _ h => h) (.inl ⟨rfl,fun w hS => ?_⟩) hS ?_
 ·obtain ⟨⟨s0,s1,s2,s3,s4,s5⟩,s6,s7,s8⟩ := hS
  go_simp
 simp only [Act.put,List.setIfInBounds_toArray,List.set_cons_zero,List.set_cons_succ]
 refine but_take (i := 1) (v := .int .i64 (j : Int)) rfl (by kernel_rfl) (fun _ _ _ h => h) (.inl ⟨rfl,fun w hS => ?_⟩) hS ?_
 ·obtain ⟨⟨s0,s1,s2,s3,s4,s5⟩,s6,s7,s8⟩ := hS
  go_simp
 simp only [Act.put,List.setIfInBounds_toArray,List.set_cons_zero,List.set_cons_succ]
 refine but_take (i := 2) (v := .pointer (some ⟨g,j * 3,none⟩)) rfl (by kernel_rfl) (fun _ _ _ h => h) (.inl ⟨rfl,fun w hS => ?_⟩) hS ?_
 ·obtain ⟨⟨s0,s1,s2,s3,s4,s5⟩,s6,s7,s8⟩ := hS
  go_simp
 simp only [Act.put,List.setIfInBounds_toArray,List.set_cons_zero,List.set_cons_succ]
 refine but_take (i := 3) (v := .pointer (some ⟨g,j * 3 + 2,none⟩)) rfl (by kernel_rfl) (fun _ _ _ h => h) (.inl ⟨rfl,fun w hS => ?_⟩) hS ?_
 ·obtain ⟨⟨s0,s1,s2,s3,s4,s5⟩,s6,s7,s8⟩ := hS
  go_simp
 simp only [Act.put,List.setIfInBounds_toArray,List.set_cons_zero,List.set_cons_succ]
 refine but_take (i := 4) (v := .int .i64 v) rfl (by kernel_rfl) (fun _ _ _ h => h) (.inl ⟨rfl,fun w hS => ?_⟩) hS ?_
 ·obtain ⟨⟨s0,s1,s2,s3,s4,s5⟩,s6,s7,s8⟩ := hS
  go_simp
 simp only [Act.put,List.setIfInBounds_toArray,List.set_cons_zero,List.set_cons_succ]
 refine but_take (i := 5) (v := .agg #[.int .i64 c1,.int .i64 c2,.int .i64 c3,.int .i64 c4,.bool c5,.bool c6]) rfl (by kernel_rfl) (fun _ _ _ h => h) (.inl ⟨rfl,fun w hS => ?_⟩) hS ?_
 ·obtain ⟨⟨s0,s1,s2,s3,s4,s5⟩,s6,s7,s8⟩ := hS
  go_simp
 simp only [Act.put,List.setIfInBounds_toArray,List.set_cons_zero,List.set_cons_succ]
 refine but_one (i := 6) (by kernel_rfl) rfl rfl ?_
 intro K hK
 go_simp
 go_at_call 204
 refine (HW.out _).mono ?_
 rintro en w3 ⟨rfl,hg3⟩
 have hb3 : Below w1.heap.size w1 w3 := below2 (below_drew w1) (grown_below hg3)
 refine hK.out _ _ (fun _ => HS.out w3 hb3) ?_
 clear hK hS hg3
 have hS := HS.out w3 hb3
 try simp only [Act.put,List.setIfInBounds_toArray,List.set_cons_zero,List.set_cons_succ]
 refine but_take (i := 7) (v := .int .i64 (v + d)) rfl (by kernel_rfl) (fun _ _ _ h => h) (.inl ⟨rfl,fun w hS => ?_⟩) hS ?_
 ·have := HWR.out
  go_simp
 simp only [Act.put,List.setIfInBounds_toArray,List.set_cons_zero,List.set_cons_succ]
 refine but_take (i := 8) (v := .pointer (some ⟨g,j * 3,none⟩)) rfl (by kernel_rfl) (fun _ _ _ h => h) (.inl ⟨rfl,fun w hS => ?_⟩) hS ?_
 ·obtain ⟨⟨s0,s1,s2,s3,s4,s5⟩,s6,s7,s8⟩ := hS
  go_simp
 simp only [Act.put,List.setIfInBounds_toArray,List.set_cons_zero,List.set_cons_succ]
 refine but_take (i := 9) (v := .pointer (some ⟨g,j * 3 + 2,none⟩)) rfl (by kernel_rfl) (fun _ _ _ h => h) (.inl ⟨rfl,fun w hS => ?_⟩) hS ?_
 ·obtain ⟨⟨s0,s1,s2,s3,s4,s5⟩,s6,s7,s8⟩ := hS
  go_simp
 simp only [Act.put,List.setIfInBounds_toArray,List.set_cons_zero,List.set_cons_succ]
 refine but_one (i := 10) (by kernel_rfl) rfl rfl ?_
 intro K hK
 obtain ⟨⟨s0,s1,s2,s3,s4,s5⟩,s6,s7,s8⟩ := hS
 go_simp
 refine hK.out _ _ (fun h => absurd rfl h) ?_
 clear hK
 try simp only [Act.put,List.setIfInBounds_toArray,List.set_cons_zero,List.set_cons_succ]
 refine AnyBut.done (by kernel_rfl) ?_ _
 refine NoPanic.normal ?_
 exact hQ.out _ _ _ _ _ _ _ _ _ _ w3 hb3
set_option maxHeartbeats 4000000 in
set_option maxRecDepth 60000 in
theorem load_put (t0 t1 t2 t3 t4 t5 t6 t7 t8 t10 t13 t14 t15 t16 t17 t18 t19 t20 t21 t22 t23 t24 t25 t26 t27 t28 t29 t30 t31 t32 t33 t34 t35 t36 t37 t38 t39 t40 t41 t42 t43 t44 t45 t46 t47 t48 t49 t50 t51 t52 t53 t54 t55 t56 t57 t58 t59 t60 t61 t62 t63 t64 t65 t66 : Value) (X Y B : Nat) (c1 c2 c3 c4 p q : Int) (c5 c6 : Bool) (lv : Value) (L : List Ld) (w1 : World) (Q : Exit -> Act -> World -> Prop)
  (x0 : w1.cell? ⟨X,0,none⟩ = some (.int .i64 c1)) (x1 : w1.cell? ⟨X,1,none⟩ = some (.int .i64 c2)) (x2 : w1.cell? ⟨X,2,none⟩ = some (.int .i64 c3)) (x3 : w1.cell? ⟨X,3,none⟩ = some (.int .i64 c4)) (x4 : w1.cell? ⟨X,4,none⟩ = some (.bool c5)) (x5 : w1.cell? ⟨X,5,none⟩ = some (.bool c6)) (hX : X < w1.heap.size) (hY : Y < w1.heap.size) (y0 : w1.cell? ⟨Y,0,none⟩ = some (.int .i64 p)) (y1 : w1.cell? ⟨Y,1,none⟩ = some (.int .i64 q)) (hown : w1.ownsRow B 212 3 lv L.length (cellsLd L)) (hB : B <= w1.heap.size) (hneX : lv.ownBlock ≠ some X) (hneY : lv.ownBlock ≠ some Y) (hlen : L.length <= 12)
  (hQ : Hid (∀ (u58 u59 u60 u61 u62 u63 u64 : Value) (v' : Value) (wC : World),wC.ownsRow B 212 3 v' (L ++ [(p,q,wtN ⟨c1,c2,c3,c4,c5,c6⟩)]).length (cellsLd (L ++ [(p,q,wtN ⟨c1,c2,c3,c4,c5,c6⟩)])) -> w1.grownBy wC lv.ownBlock -> Q .normal ⟨#[t0,t1,t2,t3,t4,t5,t6,t7,t8,v',t10,.pointer (some ⟨X,0,none⟩),.pointer (some ⟨Y,0,none⟩),t13,t14,t15,t16,t17,t18,t19,t20,t21,t22,t23,t24,t25,t26,t27,t28,t29,t30,t31,t32,t33,t34,t35,t36,t37,t38,t39,t40,t41,t42,t43,t44,t45,t46,t47,t48,t49,t50,t51,t52,t53,t54,t55,t56,t57,u58,u59,u60,u61,u62,u63,u64,t65,t66],[]⟩ wC)) :
  Code.wp Tryz.prog ((Tryz.f196.body.bind (regionOf 13)).getD .skip) Q ⟨#[t0,t1,t2,t3,t4,t5,t6,t7,t8,lv,t10,.pointer (some ⟨X,0,none⟩),.pointer (some ⟨Y,0,none⟩),t13,t14,t15,t16,t17,t18,t19,t20,t21,t22,t23,t24,t25,t26,t27,t28,t29,t30,t31,t32,t33,t34,t35,t36,t37,t38,t39,t40,t41,t42,t43,t44,t45,t46,t47,t48,t49,t50,t51,t52,t53,t54,t55,t56,t57,t58,t59,t60,t61,t62,t63,t64,t65,t66],[]⟩ w1 := by
 obtain ⟨i0,hi,hz0,hz1,hz2⟩ := info_parts info51
 have HS : Hid (∀ w',Below w1.heap.size w1 w' -> (fun w' => (w'.cell? ⟨X,0,none⟩ = some (.int .i64 c1) /\ w'.cell? ⟨X,1,none⟩ = some (.int .i64 c2) /\ w'.cell? ⟨X,2,none⟩ = some (.int .i64 c3) /\ w'.cell? ⟨X,3,none⟩ = some (.int .i64 c4) /\ w'.cell? ⟨X,4,none⟩ = some (.bool c5) /\ w'.cell? ⟨X,5,none⟩ = some (.bool c6)) /\ w'.cell? ⟨Y,0,none⟩ = some (.int .i64 p) /\ w'.cell? ⟨Y,1,none⟩ = some (.int .i64 q)) w') := fun w' h => ⟨⟨(h.cell (p := ⟨X,0,none⟩) hX).trans x0,(h.cell (p := ⟨X,1,none⟩) hX).trans x1,(h.cell (p := ⟨X,2,none⟩) hX).trans x2,(h.cell (p := ⟨X,3,none⟩) hX).trans x3,(h.cell (p := ⟨X,4,none⟩) hX).trans x4,(h.cell (p := ⟨X,5,none⟩) hX).trans x5⟩,(h.cell (p := ⟨Y,0,none⟩) hY).trans y0,(h.cell (p := ⟨Y,1,none⟩) hY).trans y1⟩
 have HW : Hid (∀ W : World,Calls Tryz.prog 204 #[.agg #[.int .i64 c1,.int .i64 c2,.int .i64 c3,.int .i64 c4,.bool c5,.bool c6]] W fun e w' => e = .returned (.int .i64 (wtN ⟨c1,c2,c3,c4,c5,c6⟩)) /\ Grown W w') := fun W => weight_any c1 c2 c3 c4 c5 c6 W
 have HOWN : Hid (w1.ownsRow B 212 3 lv L.length (cellsLd L)) := hown
 have HL : Hid (L.length <= 12) := hlen
 clear hown x0 x1 x2 x3 x4 x5 y0 y1 hlen
 generalize wtN ⟨c1,c2,c3,c4,c5,c6⟩ = d at *
 have hS := HS.out w1.drew (below_drew w1)
 conv => arg 2; whnf
 refine held_start (S := (fun w' => (w'.cell? ⟨X,0,none⟩ = some (.int .i64 c1) /\ w'.cell? ⟨X,1,none⟩ = some (.int .i64 c2) /\ w'.cell? ⟨X,2,none⟩ = some (.int .i64 c3) /\ w'.cell? ⟨X,3,none⟩ = some (.int .i64 c4) /\ w'.cell? ⟨X,4,none⟩ = some (.bool c5) /\ w'.cell? ⟨X,5,none⟩ = some (.bool c6)) /\ w'.cell? ⟨Y,0,none⟩ = some (.int .i64 p) /\ w'.cell? ⟨Y,1,none⟩ = some (.int .i64 q))) mixed5 ?_
 refine held_take (i := 0) (v := lv) rfl (by kernel_rfl) (fun _ _ _ h => h) (.inl ⟨rfl,fun w hS => ?_⟩) hS ?_
 ·obtain ⟨⟨s0,s1,s2,s3,s4,s5⟩,s6,s7⟩ := hS
  go_simp
 simp only [Act.put,List.setIfInBounds_toArray,List.set_cons_zero,List.set_cons_succ]
 refine held_take (i := 1) (v := .agg #[.int .i64 p,.int .i64 q]) rfl (by kernel_rfl) (fun _ _ _ h => h) (.inl ⟨rfl,fun w hS => ?_⟩) hS ?_
 ·obtain ⟨⟨s0,s1,s2,s3,s4,s5⟩,s6,s7⟩ := hS
  go_simp
 simp only [Act.put,List.setIfInBounds_toArray,List.set_cons_zero,List.set_cons_succ]
 refine held_take (i := 2) (v := .agg #[.int .i64 c1,.int .i64 c2,.int .i64 c3,.int .i64 c4,.bool c5,.bool c6]) rfl (by kernel_rfl) (fun _ _ _ h => h) (.inl ⟨rfl,fun w hS => ?_⟩) hS ?_
 ·obtain ⟨⟨s0,s1,s2,s3,s4,s5⟩,s6,s7⟩ := hS
  go_simp
 simp only [Act.put,List.setIfInBounds_toArray,List.set_cons_zero,List.set_cons_succ]
 refine held_one (i := 3) (by kernel_rfl) rfl rfl ?_
 intro K hK
 go_simp
 go_at_call 204
 refine (HW.out _).mono ?_
 rintro en w3 ⟨rfl,hg3⟩
 have hb3 : Below w1.heap.size w1 w3 := below2 (below_drew w1) (grown_below hg3)
 refine hK.out _ _ (HS.out w3 hb3) ?_
 clear hK hS hg3
 have hS := HS.out w3 hb3
 refine held_take (i := 4) (v := .agg #[.int .i64 p,.int .i64 q,.int .i64 d]) rfl (by kernel_rfl) (fun _ _ _ h => h) (.inl ⟨rfl,fun w hS => ?_⟩) hS ?_
 ·obtain ⟨⟨s0,s1,s2,s3,s4,s5⟩,s6,s7⟩ := hS
  go_simp
 simp only [Act.put,List.setIfInBounds_toArray,List.set_cons_zero,List.set_cons_succ]
 refine held_one (i := 5) (by kernel_rfl) rfl rfl ?_
 intro K hK
 go_simp
 have hb4 : Below w1.heap.size w1 (w3.alloc (.cells #[.int .i64 p,.int .i64 q,.int .i64 d] 212)) := hb3.alloc hb3.size _
 have hnews := cells_lit w3 (ldCells (p,q,d)) 212
 refine hK.out _ _ (HS.out _ hb4) ?_
 clear hK hS
 have hS := HS.out _ hb4
 have hw4 : w3.alloc (.cells (ldCells (p,q,d)).toArray 212) = w3.alloc (.cells #[.int .i64 p,.int .i64 q,.int .i64 d] 212) := rfl
 rw [hw4] at hnews
 have hs4 : w1.heap.size <= (w3.alloc (.cells #[.int .i64 p,.int .i64 q,.int .i64 d] 212)).heap.size := hb4.size
 generalize w3.alloc (.cells #[.int .i64 p,.int .i64 q,.int .i64 d] 212) = w4 at *
 refine held_one (i := 6) (by kernel_rfl) rfl rfl ?_
 intro K hK
 refine wp_append_own w4 (.tmp 58) (.tmp 63) 208 rfl B 212 i0 (.agg #[.int .i64 0,.int .i64 0,.int .i64 0]) 3 24 Tryz.underlying208 hi hz0 hz1 hz2 rfl (by decide) lv L.length (cellsLd L) rfl (own_below HOWN.out hb4) ⟨w3.heap.size,0,none⟩ 1 1 (ldCells (p,q,d)) rfl rfl hnews (by intro u hu; simp [ldCells] at hu; rcases hu with rfl | rfl | rfl <;> rfl) (by unfold maxLen; have := HL.out; omega) (by have := HL.out; omega) (Nat.le_trans hB hs4) ?_
 intro v5 w5 hown5 hg5 _
 have hXn : some X ≠ lv.ownBlock := fun e => hneX e.symm
 have hYn : some Y ≠ lv.ownBlock := fun e => hneY e.symm
 have hS5 : (fun w' => (w'.cell? ⟨X,0,none⟩ = some (.int .i64 c1) /\ w'.cell? ⟨X,1,none⟩ = some (.int .i64 c2) /\ w'.cell? ⟨X,2,none⟩ = some (.int .i64 c3) /\ w'.cell? ⟨X,3,none⟩ = some (.int .i64 c4) /\ w'.cell? ⟨X,4,none⟩ = some (.bool c5) /\ w'.cell? ⟨X,5,none⟩ = some (.bool c6)) /\ w'.cell? ⟨Y,0,none⟩ = some (.int .i64 p) /\ w'.cell? ⟨Y,1,none⟩ = some (.int .i64 q)) w5 := ⟨⟨(grownBy_cell hg5 (p := ⟨X,0,none⟩) (Nat.lt_of_lt_of_le hX hs4) hXn).trans hS.1.1,(grownBy_cell hg5 (p := ⟨X,1,none⟩) (Nat.lt_of_lt_of_le hX hs4) hXn).trans hS.1.2.1,(grownBy_cell hg5 (p := ⟨X,2,none⟩) (Nat.lt_of_lt_of_le hX hs4) hXn).trans hS.1.2.2.1,(grownBy_cell hg5 (p := ⟨X,3,none⟩) (Nat.lt_of_lt_of_le hX hs4) hXn).trans hS.1.2.2.2.1,(grownBy_cell hg5 (p := ⟨X,4,none⟩) (Nat.lt_of_lt_of_le hX hs4) hXn).trans hS.1.2.2.2.2.1,(grownBy_cell hg5 (p := ⟨X,5,none⟩) (Nat.lt_of_lt_of_le hX hs4) hXn).trans hS.1.2.2.2.2.2⟩,(grownBy_cell hg5 (p := ⟨Y,0,none⟩) (Nat.lt_of_lt_of_le hY hs4) hYn).trans hS.2.1,(grownBy_cell hg5 (p := ⟨Y,1,none⟩) (Nat.lt_of_lt_of_le hY hs4) hYn).trans hS.2.2⟩
 refine hK.out _ _ hS5 ?_
 clear hK hS
 have hS := hS5
 simp only [Act.put,List.setIfInBounds_toArray,List.set_cons_zero,List.set_cons_succ]
 refine held_take (i := 7) (v := v5) rfl (by kernel_rfl) (fun _ _ _ h => h) (.inl ⟨rfl,fun w hS => ?_⟩) hS ?_
 ·obtain ⟨⟨s0,s1,s2,s3,s4,s5⟩,s6,s7⟩ := hS
  go_simp
 simp only [Act.put,List.setIfInBounds_toArray,List.set_cons_zero,List.set_cons_succ]
 refine wpAnyH_done (by kernel_rfl) ?_ _
 refine NoPanic.normal ?_
 refine hQ.out _ _ _ _ _ _ _ v5 w5 ?_ ?_
 ·rw [cellsLd_snoc,List.length_append]
  exact hown5
 ·exact grownBy_trans (below_grownBy hb4 lv.ownBlock) hg5
end Go.Proofs.YtcncbjknfcjnmaaGreat.Tp
namespace Go.Proofs.YtcncbjknfcjnmaaGreat.Tp
open Go.ChangeShapes Go.WideShapes Go.ChangeAt Go.RowKit
def putL : List Ld -> Int -> Int -> Int -> List Ld
 | [],p,q,v => [(p,q,v)]
 | c :: L,p,q,v => if c.1 = p /\ c.2.1 = q then (p,q,c.2.2 + v) :: L else c :: putL L p q v
def HitL (L : List Ld) (i : Nat) (p q : Int) : Prop := (L.getD i ld0).1 = p /\ (L.getD i ld0).2.1 = q
theorem putL_miss {L : List Ld} {p q v : Int} (h : ∀ i,i < L.length -> ¬ HitL L i p q) : putL L p q v = L ++ [(p,q,v)] := by
 induction L with
 | nil => rfl
 | cons c L ih =>
  have h0 : ¬ (c.1 = p /\ c.2.1 = q) := h 0 (by simp)
  unfold putL
  rw [if_neg h0,ih (fun i hi => h (i + 1) (by simpa using hi))]
  rfl
theorem putL_hit {L : List Ld} {p q v : Int} {j : Nat} (hj : j < L.length) (hm : HitL L j p q) (h : ∀ i,i < j -> ¬ HitL L i p q) : putL L p q v = L.set j (p,q,(L.getD j ld0).2.2 + v) := by
 induction L generalizing j with
 | nil => simp at hj
 | cons c L ih =>
  cases j with
  | zero =>
   have h0 : c.1 = p /\ c.2.1 = q := hm
   unfold putL
   rw [if_pos h0]
   rfl
  | succ j =>
   have h0 : ¬ (c.1 = p /\ c.2.1 = q) := h 0 (by omega)
   unfold putL
   rw [if_neg h0,ih (j := j) (by simpa using hj) hm (fun i hi => h (i + 1) (by omega))]
   rfl
def BdL (L : List Ld) (m : Int) : Prop := ∀ c ∈ L,0 <= c.2.2 /\ c.2.2 <= m
theorem BdL.mono {L : List Ld} {m n : Int} (h : BdL L m) (hm : m <= n) : BdL L n := fun c hc => ⟨(h c hc).1,by have := (h c hc).2; omega⟩
theorem putL_len (L : List Ld) (p q v : Int) : (putL L p q v).length <= L.length + 1 := by
 induction L with
 | nil => simp [putL]
 | cons d L ih =>
  unfold putL
  split
  ·simp
  ·simp; omega
theorem wtN_bd {x : Nd} (h : InN x) : 0 <= wtN x /\ wtN x <= 65536 := by
 unfold wtN
 split
 ·exact h.2.2.2
 ·omega
def selN (zone rack : Int) (x : Nd) : Bool := coversB zone x.zone && coversB rack x.rack
def stepL (f : Nd -> Int × Int) (L : List Ld) (x : Nd) : List Ld := putL L (f x).1 (f x).2 (wtN x)
def loadsF (f : Nd -> Int × Int) (zone rack : Int) (ls : List Nd) : List Ld := (ls.filter (selN zone rack)).foldl (stepL f) []
theorem getN_get {ls : List Nd} {k : Nat} (h : k < ls.length) : ls.getD k nd0 = ls[k] := by simp [h]
theorem loadsF_take {f : Nd -> Int × Int} {zone rack : Int} {ls : List Nd} {k : Nat} (h : k < ls.length) :
  loadsF f zone rack (ls.take (k + 1)) = if selN zone rack (ls.getD k nd0) = true then stepL f (loadsF f zone rack (ls.take k)) (ls.getD k nd0) else loadsF f zone rack (ls.take k) := by
 rw [List.take_succ_eq_append_getElem h,getN_get h]
 unfold loadsF
 rw [List.filter_append]
 by_cases hs : selN zone rack ls[k] = true
 ·rw [if_pos hs,List.filter_cons_of_pos hs,List.filter_nil,List.foldl_append]
  rfl
 ·rw [if_neg hs,List.filter_cons_of_neg hs,List.filter_nil,List.append_nil]
end Go.Proofs.YtcncbjknfcjnmaaGreat.Tp
