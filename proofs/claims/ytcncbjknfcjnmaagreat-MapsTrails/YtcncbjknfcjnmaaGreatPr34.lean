/-
  leave of whatever map, where enough acted.
  The changed map may stand: nodes added, removed, changed; a group pinned.
  The changed map, plainly; change of whatever map that may be, where nothing refuses the delta.
-/
import Derived.Test.YtcncbjknfcjnmaaGreatPr33
namespace Go.Proofs.YtcncbjknfcjnmaaGreat.Tp
open Go.ChangeShapes Go.WideShapes Go.ChangeAt Go.RowKit
variable {G : Nat -> Prop}
def leftT (ts : List Tr) (k : Nat) (act : List Int) (ep : Int) : List Tr := ts.set k ⟨ep,otherT (ts.getD k tr0).past (sortI act) ++ [⟨(ts.getD k tr0).since,sortI act⟩]⟩
theorem left_eq (ts : List Tr) (k : Nat) (act : List Int) (ep : Int) (hk : k < ts.length) : sinceT (pastT (pastT ts k (otherT (ts.getD k tr0).past (sortI act))) k (((pastT ts k (otherT (ts.getD k tr0).past (sortI act))).getD k tr0).past ++ [⟨((pastT ts k (otherT (ts.getD k tr0).past (sortI act))).getD k tr0).since,sortI act⟩])) k ep = leftT ts k act ep := by
 unfold sinceT pastT leftT
 rw [trGetD_eq _ _ _ hk,trGetD_eq _ _ _ (by simpa using hk),List.set_set,List.set_set]
def LvPost (G : Nat -> Prop) (w : World) (pm N ga : Nat) (m : Mp) (e : Ending) (w' : World) : Prop := e = .returned (.tuple #[]) /\ (∃ s',LiveM (fun b => G b ∨ b = ga) w' pm N m s') /\ Kz ga w w' /\ Below N w w'
set_option maxHeartbeats 2000000 in
set_option maxRecDepth 60000 in
theorem leave_long {pm N : Nat} {m : Mp} {s : MV} {k : Nat} (hk : k < s.lR) (h8 : s.lR <= 8) (ga n c : Nat) (act : List Int) (hn : act.length = n) (hlen : m.mn <= (n : Int)) (h64 : n <= 64) (hp64 : (m.trs.getD k tr0).past.length <= 100) (w : World) (hL : LiveM G w pm N m s) (hN : N <= w.heap.size) (hI : IRow w N (.slice (some ⟨ga,0,none⟩) n c) act) (hG : ¬ G ga) :
  Calls Tryz.prog 73 #[.pointer (some ⟨pm,0,none⟩),.int .i64 (k : Int),.slice (some ⟨ga,0,none⟩) n c] w fun e w' => LvPost G w pm N ga { m with trs := leftT m.trs k act m.ep } e w' := by
 obtain ⟨L0,hL0,hr,-,-⟩ := hL.own.trs
 rw [hL.own.trl] at hr
 obtain ⟨g,cg,hv,hgB,hgs,hgc⟩ := own_some hr (by omega)
 injection hv with hv1 hv2 hv3
 have HKT : Hid (k < m.trs.length) := by have := hL.own.trl; show _ < _; omega
 have HLE := Hid.mk9 (left_eq m.trs k act m.ep HKT.out)
 have hb1 := below_alloc w (.cells #[.slice (some ⟨ga,0,none⟩) n c] 35)
 have HS1 : Hid (LvS G w pm N w.heap.size ga n c m s act (w.alloc (.cells #[.slice (some ⟨ga,0,none⟩) n c] 35))) := ⟨hL.below hb1,by simp,BoxTy.new _ _ _,own_below hI hb1,hn,(kq_below hb1).kz ga,hb1.mono hN,Nat.le_trans hN hb1.size⟩
 have c0 : (w.alloc (.cells #[.slice (some ⟨ga,0,none⟩) n c] 35)).cell? ⟨w.heap.size,0,none⟩ = some (.slice (some ⟨ga,0,none⟩) n c) := by simp
 have hls : w.heap.size < (w.alloc (.cells #[.slice (some ⟨ga,0,none⟩) n c] 35)).heap.size := by simp
 generalize hw1 : (w.alloc (.cells #[.slice (some ⟨ga,0,none⟩) n c] 35)) = w1 at *
 have hgw := HS1.out.live.box.lt
 have HP64 := Hid.mk9 hp64
 have HN64 := Hid.mk9 h64
 have HGA := Hid.mk9 hG
 have HHK := Hid.mk9 hk
 have HV1 := Hid.mk9 hv1
 have HB1 : Hid (∀ nq osq,Below w1.heap.size w1 (Go.Sort.grow (w1.drewN nq) osq)) := fun nq osq => below_grow w1 nq osq
 obtain ⟨⟨d0,d1,d2,d3,d4,d5,d6⟩,-⟩ := HS1.out.live.box
 obtain ⟨ep,sz,mn,gr,nds,tms,trs⟩ := m
 obtain ⟨aN,lN,cN,aT,lT,cT,aR,lR,cR⟩ := s
 simp only at *
 subst hv1
 have hk0 : (0 : Int) <= (k : Int) := by omega
 have hk1 : (k : Int) < (lR : Int) := by omega
 have h8' : (lR : Int) <= 8 := by omega
 have hd : decide (mn <= (n : Int)) = true := by simp; omega
 have x0 := cell_grown (w := w1) (a := ⟨pm,0,none⟩) hgw d0
 have x1 := cell_grown (w := w1) (a := ⟨pm,1,none⟩) hgw d1
 have x2 := cell_grown (w := w1) (a := ⟨pm,2,none⟩) hgw d2
 have x3 := cell_grown (w := w1) (a := ⟨pm,3,none⟩) hgw d3
 have x4 := cell_grown (w := w1) (a := ⟨pm,4,none⟩) hgw d4
 have x5 := cell_grown (w := w1) (a := ⟨pm,5,none⟩) hgw d5
 have x6 := cell_grown (w := w1) (a := ⟨pm,6,none⟩) hgw d6
 have y0 := cell_grown (w := w1) (a := ⟨w.heap.size,0,none⟩) hls c0
 clear hr hL0 hL hv2 hv3 h8 hlen hI hG hn hp64 h64 hb1 hgB hgs hgc hN
 go_enter Tryz.func73,Tryz.ntmps73
 go_upto_region 1 with fail
 clear hw1
 go_wp2_with fail
 refine wp_region_QW mixed5 (by kernel_rfl) ?_
 repeat (refine QW_step (fun K hK => ?_); go_simp; first | (refine hK _ ?_; clear hK K) | (apply Exists.intro; refine ⟨fun _ => ?_,hK _ ?_⟩; fail; clear hK K))
 refine QW_nil ?_
 intro _ hw9
 obtain ⟨⟨nq,osq⟩,hw8⟩ := hw9
 subst hw8
 have HS2 := Hid.mk9 (HS1.out.below (HB1.out nq osq))
 have z0 := y0 nq osq
 clear x0 d0 x1 d1 x2 d2 x3 d3 x4 d4 x5 d5 x6 d6 y0 c0 HS1 HB1 hls hgw
 show Exit.then _ _ _ _ (Go.Sort.grow (w1.drewN nq) osq)
 generalize Go.Sort.grow (w1.drewN nq) osq = w2 at *
 have HSO : Hid (Calls Tryz.prog 96 #[.slice (some ⟨ga,0,none⟩) n c] w2 fun e w' => e = .returned (.tuple #[]) /\ LvS G w pm N w.heap.size ga n c ⟨ep,sz,mn,gr,nds,tms,trs⟩ ⟨aN,lN,cN,aT,lT,cT,some ⟨g,0,none⟩,lR,cR⟩ (sortI act) w') := by
  have hi := HS2.out.irow
  unfold IRow at hi
  rw [HS2.out.len] at hi
  exact (sortI_any w2 hi HN64.out).mono fun e w' ⟨he,ho,hg⟩ => ⟨he,HS2.out.sort HGA.out hg ho⟩
 go_upto_region 4 with (go_at_call 96; refine (HSO.out).mono ?_; rintro en w3 ⟨rfl,hS3⟩; have HS3 := Hid.mk9 hS3; clear hS3)
 clear HSO HS2 z0
 obtain ⟨a5,l5,c5,p1,p2,p3,p4,p5⟩ := HS3.out.live.past rfl HKT.out
 have HDL := Hid.mk9 (del_step HS3.out rfl HKT.out p1 p2 p3 (Nat.le_trans HP64.out (by decide)))
 clear p2 p3 p4 p5 HS3
 go_upto_region 5 with (go_at_call 97; refine (HDL.out).mono ?_; rintro en w4 ⟨a',l',c',rfl,⟨x4,hx4⟩,hf4,hS4⟩; have HS4 := Hid.mk9 hS4; clear hS4)
 clear HDL hx4 hf4 p1
 generalize w4.setCell ⟨g,k * 2 + 1,none⟩ (.slice a' l' c') = w5 at *
 have HKT5 : Hid (k < (pastT trs k (otherT (trs.getD k tr0).past (sortI act))).length) := by
  have := HKT.out
  show _ < _
  simpa [pastT] using this
 have HP5 : Hid (((pastT trs k (otherT (trs.getD k tr0).past (sortI act))).getD k tr0).past.length <= 104) := by
  have h1 := HP64.out
  show _ <= _
  unfold pastT
  rw [trGetD_eq _ _ _ HKT.out]
  exact Nat.le_trans (List.length_filter_le _ _) (Nat.le_trans h1 (by decide))
 obtain ⟨a6,l6,c6,q1,q2,q3,q4,q5⟩ := HS4.out.live.past rfl HKT5.out
 refine lv_5 _ _ _ _ _ _ _ _ _ _ _ _ _ _ _ _ _ _ _ _ _ _ _ _ _ _ _ _ _ _ _ _ _ _ _ _ _ _ _ _ _ _ _ _ _ _ _ _ _ _ _ w.heap.size ga n c g k l6 c6 a6 _ _ w5 _ ⟨q4,q1,q2,HS4.out.cell⟩ (World.block_lt_of_cell? w5 ⟨w.heap.size,0,none⟩ HS4.out.cell) (World.block_lt_of_cell? w5 ⟨g,k * 2,none⟩ q4) (fun ty => app_step HS4.out rfl HKT5.out q1 q2 q3 q4 HP5.out ty) (fun u31 u32 u33 u34 u35 u36 u37 u38 u39 u40 u41 u42 u43 u44 u45 a9 l9 c9 w9 hR => ?_)
 have HS6 := Hid.mk9 hR
 clear hR q1 q2 q3 q4 q5 HS4 HP5
 generalize w9.setCell ⟨g,k * 2 + 1,none⟩ (.slice a9 l9 c9) = w6 at *
 have HKT6 : Hid (k < (pastT (pastT trs k (otherT (trs.getD k tr0).past (sortI act))) k (((pastT trs k (otherT (trs.getD k tr0).past (sortI act))).getD k tr0).past ++ [⟨((pastT trs k (otherT (trs.getD k tr0).past (sortI act))).getD k tr0).since,sortI act⟩])).length) := by
  have := HKT5.out
  show _ < _
  rw [pastT,List.length_set]
  exact this
 obtain ⟨a7,l7,c7,r1,r2,r3,r4,r5⟩ := HS6.out.live.past rfl HKT6.out
 obtain ⟨f1,f2,f3⟩ := HS6.out.live.since9 HHK.out rfl ep
 have hgl := World.block_lt_of_cell? w6 ⟨g,k * 2,none⟩ r4
 obtain ⟨⟨d0,d1,d2,d3,d4,d5,d6⟩,-⟩ := HS6.out.live.box
 have hpl := HS6.out.live.box.lt
 simp only at f1
 rw [HLE.out] at f1
 have HF1 := Hid.mk9 f1
 have HF2 := Hid.mk9 (HS6.out.kz.trans (f2.kz ga))
 have HF3 := Hid.mk9 (HS6.out.bel.setCell (p := ⟨g,k * 2,none⟩) f3 (.int .i64 ep))
 clear f1 f2 f3 r1 r2 r3 HS6 HKT6 HKT5 HLE
 generalize ((pastT (pastT trs k (otherT (trs.getD k tr0).past (sortI act))) k (((pastT trs k (otherT (trs.getD k tr0).past (sortI act))).getD k tr0).past ++ [⟨((pastT trs k (otherT (trs.getD k tr0).past (sortI act))).getD k tr0).since,sortI act⟩])).getD k tr0).since = sn at *
 go_wp2_with fail
 go_returns
 exact ⟨rfl,⟨_,HF1.out⟩,HF2.out,HF3.out⟩
end Go.Proofs.YtcncbjknfcjnmaaGreat.Tp
namespace Go.Proofs.YtcncbjknfcjnmaaGreat.Tp
open Go.ChangeShapes Go.WideShapes Go.ChangeAt Go.RowKit
theorem rising_iff (l : List Int) : Rising l ↔ l.Pairwise (· < ·) := by
 rw [List.pairwise_iff_getElem]
 constructor
 ·intro h i j hi hj hij
  have := h i j hij hj
  simpa [hi,hj] using this
 ·intro h i j hij hj
  have := h i j (by omega) hj hij
  simpa [hj,show i < l.length by omega] using this
theorem mayN_iff (ls : List Nd) : MayN ls ↔ ls.length <= 12 /\ (∀ x ∈ ls,InN x) /\ (ls.map (·.id)).Pairwise (· < ·) := by
 constructor
 ·intro h
  refine ⟨h.1,fun x hx => ?_,(rising_iff _).1 (may_rising h)⟩
  obtain ⟨i,hi,rfl⟩ := List.getElem_of_mem hx
  have := (h.2 i hi).1
  simpa [hi] using this
 ·rintro ⟨h1,h2,h3⟩
  refine ⟨h1,fun i hi => ⟨?_,fun h0 => ?_⟩⟩
  ·have : ls.getD i nd0 = ls[i] := by simp [hi]
   rw [this]
   exact h2 _ (List.getElem_mem hi)
  ·have h4 := (rising_iff _).2 h3 (i - 1) i (by omega) (by simpa using hi)
   simpa [hi,show i - 1 < ls.length by omega] using h4
theorem insPos_split {l : List Int} (hR : l.Pairwise (· < ·)) (id : Int) : (∀ x ∈ l.take (insPos l id),x < id) /\ (∀ x ∈ l.drop (insPos l id),id <= x) := by
 have hS := srch_all ((rising_iff _).2 hR) id
 refine ⟨fun x hx => ?_,fun x hx => ?_⟩
 ·obtain ⟨i,hi,rfl⟩ := List.getElem_of_mem hx
  rw [List.length_take] at hi
  have := hS.2.1 i (by omega)
  rw [List.getElem_take]
  simpa [show i < l.length by omega] using this
 ·obtain ⟨i,hi,rfl⟩ := List.getElem_of_mem hx
  rw [List.length_drop] at hi
  have := hS.2.2.1 (insPos l id + i) (by omega) (by omega)
  rw [List.getElem_drop]
  simpa [show insPos l id + i < l.length by omega] using this
theorem rising_put {l : List Int} (hR : l.Pairwise (· < ·)) (id : Int) (q : Nat) (hq : insPos l id <= q) (hb : ∀ x ∈ l.drop q,id < x) : (l.take (insPos l id) ++ id :: l.drop q).Pairwise (· < ·) := by
 obtain ⟨h1,-⟩ := insPos_split hR id
 rw [List.pairwise_append]
 refine ⟨hR.sublist (List.take_sublist _ _),List.pairwise_cons.2 ⟨hb,hR.sublist (List.drop_sublist _ _)⟩,fun a ha b hb' => ?_⟩
 rcases List.mem_cons.1 hb' with rfl | hb'
 ·exact h1 a ha
 ·have := h1 a ha
  have := hb b hb'
  omega
theorem rising_cut {l : List Int} (hR : l.Pairwise (· < ·)) (p q : Nat) (hq : p <= q) : (l.take p ++ l.drop q).Pairwise (· < ·) := by
 have e : l.take p ++ l.drop q = l.take p ++ (l.drop p).drop (q - p) := by rw [List.drop_drop,show p + (q - p) = q by omega]
 rw [e]
 have hs : (l.take p ++ (l.drop p).drop (q - p)).Sublist (l.take p ++ l.drop p) := List.Sublist.append (List.Sublist.refl _) (List.drop_sublist _ _)
 rw [List.take_append_drop] at hs
 exact hR.sublist hs
theorem find_not {nds : List Nd} {id : Int} (h : (findN nds id).isSome = false) : ∀ x ∈ nds,x.id ≠ id := fun x hx e => by
 unfold findN at h
 rw [Option.isSome_eq_false_iff,Option.isNone_iff_eq_none,List.find?_eq_none] at h
 exact h x hx (by simpa using e)
theorem mayN_add {nds : List Nd} (h : MayN nds) {x : Nd} (hx : InN x) (h12 : nds.length ≠ 12) (hf : (findN nds x.id).isSome = false) : MayN (nds.take (insPos (nds.map (·.id)) x.id) ++ x :: nds.drop (insPos (nds.map (·.id)) x.id)) := by
 obtain ⟨h1,h2,h3⟩ := (mayN_iff _).1 h
 refine (mayN_iff _).2 ⟨?_,fun y hy => ?_,?_⟩
 ·simp
  omega
 ·rcases List.mem_append.1 hy with hy | hy
  ·exact h2 y (List.mem_of_mem_take hy)
  ·rcases List.mem_cons.1 hy with rfl | hy
   ·exact hx
   ·exact h2 y (List.mem_of_mem_drop hy)
 ·rw [List.map_append,List.map_cons,List.map_take,List.map_drop]
  refine rising_put h3 x.id _ (Nat.le_refl _) fun y hy => ?_
  have := (insPos_split h3 x.id).2 y hy
  rw [<- List.map_drop] at hy
  obtain ⟨z,hz,rfl⟩ := List.mem_map.1 hy
  have hne := find_not hf z (List.mem_of_mem_drop hz)
  omega
theorem mayN_rem {nds : List Nd} (h : MayN nds) (p : Nat) : MayN (nds.take p ++ nds.drop (p + 1)) := by
 obtain ⟨h1,h2,h3⟩ := (mayN_iff _).1 h
 refine (mayN_iff _).2 ⟨?_,fun y hy => ?_,?_⟩
 ·simp
  omega
 ·rcases List.mem_append.1 hy with hy | hy
  ·exact h2 y (List.mem_of_mem_take hy)
  ·exact h2 y (List.mem_of_mem_drop hy)
 ·rw [List.map_append,List.map_take,List.map_drop]
  exact rising_cut h3 _ _ (by omega)
theorem mayN_set {nds : List Nd} (h : MayN nds) {p : Nat} {y : Nd} (hp : p < nds.length) (hid : y.id = (nds.getD p nd0).id) (hy : InN y) : MayN (nds.set p y) := by
 obtain ⟨h1,h2,h3⟩ := (mayN_iff _).1 h
 refine (mayN_iff _).2 ⟨by simpa using h1,fun x hx => ?_,?_⟩
 ·rcases List.mem_or_eq_of_mem_set hx with hx | rfl
  ·exact h2 x hx
  ·exact hy
 ·have e : (nds.set p y).map (·.id) = nds.map (·.id) := by
   rw [List.map_set,hid,show nds.getD p nd0 = nds[p] by simp [hp]]
   apply List.ext_getElem (by simp)
   intro i i1 i2
   rw [List.getElem_set]
   split
   ·subst p; simp
   ·rfl
  rw [e]
  exact h3
theorem rising_few {l : List Int} (hR : l.Pairwise (· < ·)) {n : Int} (h0 : ∀ x ∈ l,0 <= x /\ x < n) : (l.length : Int) <= n ∨ l = [] := by
 have key : ∀ i,i < l.length -> (i : Int) <= l.getD i 0 := by
  intro i
  induction i with
  | zero =>
   intro h
   have := (h0 _ (List.getElem_mem h)).1
   simpa [h] using this
  | succ i ih =>
   intro h
   have h1 := ih (by omega)
   have h2 := (rising_iff _).2 hR i (i + 1) (by omega) h
   omega
 by_cases he : l = []
 ·exact .inr he
 ·left
  have hl : 0 < l.length := List.length_pos_iff.2 he
  have h1 := key (l.length - 1) (by omega)
  have h2 := (h0 _ (List.getElem_mem (show l.length - 1 < l.length by omega))).2
  have h3 : l.getD (l.length - 1) 0 = l[l.length - 1] := by simp [show l.length - 1 < l.length by omega]
  rw [h3] at h1
  omega
end Go.Proofs.YtcncbjknfcjnmaaGreat.Tp
namespace Go.Proofs.YtcncbjknfcjnmaaGreat.Tp
open Go.ChangeShapes Go.WideShapes Go.ChangeAt Go.RowKit
variable {G : Nat -> Prop}
def chNd (nds : List Nd) (k id z r wt : Int) : List Nd :=
 if k = 1 then nds.take (insPos (nds.map (·.id)) id) ++ ⟨id,z,r,wt,false,true⟩ :: nds.drop (insPos (nds.map (·.id)) id)
 else if k = 7 then nds.take (insPos (nds.map (·.id)) id) ++ nds.drop (insPos (nds.map (·.id)) id + 1)
 else nds.set (insPos (nds.map (·.id)) id) (turnN (nds.getD (insPos (nds.map (·.id)) id) nd0) k wt)
noncomputable def chM (m : Mp) (k id z r wt g : Int) (ns : List Int) : Mp :=
 if k = 9 then m else if k = 8 then { m with tms := pinT m.tms g ns } else if k = 10 then { m with trs := cleanT m.trs g.toNat } else { m with nds := chNd m.nds k id z r wt }
theorem turnN_id (x : Nd) (k wt : Int) : (turnN x k wt).id = x.id := by
 unfold turnN
 repeat' split
 all_goals rfl
theorem turnN_in {x : Nd} {k wt : Int} (h : InN x) (hw : k = 2 -> 0 <= wt /\ wt <= 65536) : InN (turnN x k wt) := by
 unfold turnN
 split
 ·rename_i hk
  exact ⟨h.1,h.2.1,h.2.2.1,hw hk⟩
 ·repeat' split
  all_goals exact h
theorem ref_may {m : Mp} {k id z r wt g : Int} {ns : List Int} (h : refP m k id z r wt g ns = 0) : MayK k id z r wt g ns.length /\ m.ep ≠ 2147483647 /\ (k = 1 -> (findN m.nds id).isSome = false /\ m.nds.length ≠ 12 /\ InN ⟨id,z,r,wt,false,true⟩) /\ (k = 8 -> (0 <= g /\ g < m.gr) /\ (ns.length : Int) <= m.size) /\ (k = 10 -> 0 <= g /\ g < m.gr) /\ (k ≠ 1 -> k ≠ 8 -> k ≠ 9 -> k ≠ 10 -> (findN m.nds id).isSome = true /\ (k = 2 -> 0 <= wt /\ wt <= 65536)) := by
 unfold refP at h
 split at h
 ·exact absurd h (by decide)
 rename_i hK
 split at h
 ·exact absurd h (by decide)
 rename_i hE
 refine ⟨Classical.not_not.1 hK,hE,fun k1 => ?_,fun k8 => ?_,fun k10 => ?_,fun n1 n8 n9 n10 => ?_⟩
 ·subst k1
  rw [if_neg (by decide),if_pos rfl] at h
  unfold refAdd at h
  split at h
  ·exact absurd h (by decide)
  rename_i a1
  split at h
  ·exact absurd h (by decide)
  rename_i a2
  split at h
  ·rename_i a3
   exact ⟨by simpa using a1,a2,a3⟩
  ·exact absurd h (by decide)
 ·subst k8
  rw [if_neg (by decide),if_neg (by decide),if_pos rfl] at h
  unfold refPin at h
  split at h
  ·exact absurd h (by decide)
  rename_i a1
  have a2 := not_or.1 a1
  exact ⟨Classical.not_not.1 a2.1,by omega⟩
 ·subst k10
  rw [if_neg (by decide),if_neg (by decide),if_neg (by decide),if_pos rfl] at h
  unfold refClean at h
  split at h
  ·exact absurd h (by decide)
  rename_i a1
  exact Classical.not_not.1 a1
 ·rw [if_neg n9,if_neg n1,if_neg n8,if_neg n10] at h
  split at h
  ·exact absurd h (by decide)
  rename_i x hx
  refine ⟨by rw [hx]; rfl,fun k2 => ?_⟩
  subst k2
  unfold refNode at h
  rw [if_neg (by decide),if_pos rfl] at h
  split at h
  ·exact absurd h (by decide)
  rename_i a1
  exact Classical.not_not.1 a1
theorem mayK_range {k id z r wt g : Int} {n : Nat} (h : MayK k id z r wt g n) : 1 <= k /\ k <= 10 := by
 unfold MayK at h
 omega
theorem mayN_ch {m : Mp} {k id z r wt g : Int} {ns : List Int} (hM : MayN m.nds) (h : refP m k id z r wt g ns = 0) (h8 : k ≠ 8) (h9 : k ≠ 9) (h10 : k ≠ 10) : MayN (chNd m.nds k id z r wt) := by
 obtain ⟨hK,-,h1,-,-,h6⟩ := ref_may h
 unfold chNd
 split
 ·rename_i k1
  obtain ⟨a1,a2,a3⟩ := h1 k1
  exact mayN_add hM a3 a2 a1
 ·rename_i n1
  split
  ·exact mayN_rem hM _
  ·obtain ⟨b1,b2⟩ := h6 n1 h8 h9 h10
   have hI := srch_nodes hM id
   rw [b1] at hI
   have hp := (hI.2.2.2.1 rfl).1
   rw [List.length_map] at hp
   exact mayN_set hM hp (turnN_id _ _ _) (turnN_in ((hM.2 _ hp).1) b2)
end Go.Proofs.YtcncbjknfcjnmaaGreat.Tp
