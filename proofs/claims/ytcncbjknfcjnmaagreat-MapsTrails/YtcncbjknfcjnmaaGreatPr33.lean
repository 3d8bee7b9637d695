/-
  leave, piece by piece: ints outside of the map's are written; those Spans that tell the same nodes are taken out of a past.
  Another past for a Trail, laid where the old one was or anew.
  leave of whatever map, where enough acted.
-/
import Derived.Test.YtcncbjknfcjnmaaGreatPr32
import Derived.Maps.AppendAt
namespace Go.Proofs.YtcncbjknfcjnmaaGreat.Tp
open Go.ChangeShapes Go.WideShapes Go.ChangeAt Go.RowKit
variable {G : Nat -> Prop}
theorem LiveM.ints {w w' : World} {pm N ga : Nat} {m : Mp} {s : MV} (h : LiveM G w pm N m s) (ht : BoxTy w ga 3) (hg : w.grownBy w' (some ga)) (hG : ¬ G ga) : LiveM G w' pm N m s := by
 have hne : pm ≠ ga := boxTy_ne h.ty ht (by decide)
 obtain ⟨cur,hc⟩ := ht
 refine ⟨h.box.else hg hne,?_,⟨own_type h.own.nds hg hc (by decide),h.own.ndl,h.own.tms.ints hg hc (by decide) hG,h.own.tml,h.own.trs.ints hg hc hG,h.own.trl⟩,h.ge⟩
 obtain ⟨cm,hcm⟩ := h.ty
 exact ⟨cm,(hg.block pm (lt_of_get hcm) (by simpa using hne)).trans hcm⟩
theorem LiveM.weak {G' : Nat -> Prop} {w : World} {pm N : Nat} {m : Mp} {s : MV} (h : LiveM G w pm N m s) (hG : ∀ b,G b -> G' b) : LiveM G' w pm N m s := ⟨h.box,h.ty,⟨h.own.nds,h.own.ndl,h.own.tms.weak hG,h.own.tml,h.own.trs.weak hG,h.own.trl⟩,h.ge⟩
set_option maxRecDepth 60000 in
theorem idxSpan_nil (b : Nat) (w : World) : Calls Tryz.prog 119 #[.slice none 0 0,.func (.func 98) #[] #[.pointer (some ⟨b,0,none⟩)]] w fun e w' => e = .returned (.int .i64 (-1)) /\ w' = w := by
 go_enter Tryz.func119,Tryz.ntmps119
 go_wp2_with fail
 refine wp_loop_rounds 1 ?_
 rw [rounds_succ]
 go_wp2_with fail
 go_ret
 exact ⟨rfl,rfl⟩
set_option maxRecDepth 60000 in
theorem delSpan_nil (b : Nat) (w : World) : Calls Tryz.prog 97 #[.slice none 0 0,.func (.func 98) #[] #[.pointer (some ⟨b,0,none⟩)]] w fun e w' => e = .returned (.slice none 0 0) /\ w' = w := by
 have HI : Hid (∀ W,Calls Tryz.prog 119 #[.slice none 0 0,.func (.func 98) #[] #[.pointer (some ⟨b,0,none⟩)]] W fun e w' => e = .returned (.int .i64 (-1)) /\ w' = W) := idxSpan_nil b
 go_enter Tryz.func97,Tryz.ntmps97
 go_wp2_with (go_at_call 119; refine (HI.out _).mono ?_; rintro en w7 ⟨rfl,rfl⟩)
 go_ret
 exact ⟨rfl,rfl⟩
def SpX.tm (x : SpX) : Tm := ⟨x.g,x.ns⟩
def SpOk (G : Nat -> Prop) (w : World) (B : Nat) (x : SpX) : Prop := IRow w B (.slice x.a x.n x.c) x.ns /\ ∀ b,(Value.slice x.a x.n x.c).ownBlock = some b -> G b
theorem AllOk.spx {w : World} {B : Nat} : ∀ {L : List (Int × Value)} {ts : List Tm},AllOk G w B L ts -> ∃ l : List SpX,spP l = L /\ l.map SpX.tm = ts /\ ∀ x ∈ l,SpOk G w B x
 | [],[],_ => ⟨[],rfl,rfl,fun x hx => by simp at hx⟩
 | (g,v) :: L,⟨tg,tn⟩ :: ts,h => by
  obtain ⟨l,h1,h2,h3⟩ := AllOk.spx h.2
  obtain ⟨⟨e1,e2,e3⟩,-⟩ := h
  obtain ⟨a,c,hv,-⟩ := own_slice e2
  simp only at e1 e2 e3 hv
  subst hv e1
  refine ⟨⟨g,a,tn.length,c,tn⟩ :: l,?_,?_,fun x hx => ?_⟩
  ·show _ :: spP l = _
   rw [h1]
  ·show _ :: l.map SpX.tm = _
   rw [h2]
   rfl
  ·rcases List.mem_cons.1 hx with rfl | hx
   ·exact ⟨e2,e3⟩
   ·exact h3 x hx
theorem allOk_sp {w : World} {B : Nat} : ∀ {l : List SpX},(∀ x ∈ l,SpOk G w B x) -> AllOk G w B (spP l) (l.map SpX.tm)
 | [],_ => trivial
 | x :: l,h => ⟨⟨rfl,(h x (by simp)).1,(h x (by simp)).2⟩,allOk_sp fun y hy => h y (by simp [hy])⟩
def otherT (ts : List Tm) (act : List Int) : List Tm := ts.filter fun t => !decide (t.ns = act)
theorem delPast {w : World} {N b : Nat} {ts : List Tm} {u : Value} {a : Option Addr} {n c : Nat} {act : List Int} (ht : TmRowG G N 55 ts u w) (h64 : ts.length <= 104) (hb : w.cell? ⟨b,0,none⟩ = some (.slice a n c)) (hbt : BoxTy w b 35) (hI : IRow w N (.slice a n c) act) :
  Calls Tryz.prog 97 #[u,.func (.func 98) #[] #[.pointer (some ⟨b,0,none⟩)]] w fun e w' => ∃ u',e = .returned u' /\ TmRowG G N 55 (otherT ts act) u' w' /\ w.grownBy w' u.ownBlock /\ u'.ownBlock = u.ownBlock /\ ∃ a' l' c',u' = .slice a' l' c' := by
 obtain ⟨L,ho,hA⟩ := ht
 obtain ⟨l,hl1,hl2,hl3⟩ := hA.spx
 rcases ho.2 with ⟨rfl,h0⟩ | ⟨g,cap,cur,rfl,-,hh,-,-,-,-⟩
 ·refine (delSpan_nil b w).mono ?_
  rintro e w' ⟨rfl,rfl⟩
  have e0 : ts = [] := List.length_eq_zero_iff.1 h0
  subst e0
  exact ⟨_,rfl,⟨[],own_nothing _ _ _ _,trivial⟩,⟨rfl,rfl,rfl,Nat.le_refl _,fun _ _ _ => rfl⟩,rfl,none,0,0,rfl⟩
 ·have hlen : l.length = ts.length := by rw [<- hl2,List.length_map]
  have hbg : b ≠ g := boxTy_ne hbt ⟨cur,hh⟩ (by decide)
  have hbl : b < w.heap.size := World.block_lt_of_cell? w ⟨b,0,none⟩ hb
  have hk : ∀ W,w.grownBy W (some g) -> ∀ (v : Value) (is : List Int),IRow w N v is -> IRow W N v is := fun W hg v is hv => own_type hv hg hh (by decide)
  rw [<- hl1] at ho
  refine (delSpan_any (p := fun x => decide (x.ns = act)) (fun W x hx hg => ?_) ho h64).mono ?_
  ·have hc : W.cell? ⟨b,0,none⟩ = some (.slice a n c) := (World.cell?_of_block (hg.block b hbl (by simpa using hbg))).trans hb
   obtain ⟨a1,n1,c1,e1,hr1⟩ := (hk W hg _ _ (hl3 x hx).1).row
   obtain ⟨a2,n2,c2,e2,hr2⟩ := (hk W hg _ _ hI).row
   injection e1 with p1 p2 p3
   injection e2 with q1 q2 q3
   subst p1 p2 p3 q1 q2 q3
   exact leave1_any x b _ _ _ act W hr1 hc hr2
  ·rintro e w' ⟨rfl,ho',hg⟩
   have hfl : (l.filter fun x => !decide (x.ns = act)).map SpX.tm = otherT ts act := by
    rw [<- hl2,otherT,List.filter_map]
    rfl
   refine ⟨_,rfl,tmRow_of ho' (by rw [<- hfl,List.length_map]) ?_,hg,rfl,_,_,_,rfl⟩
   rw [<- hfl]
   refine allOk_sp fun x hx => ?_
   have hx' := hl3 x (List.mem_filter.1 hx).1
   exact ⟨hk w' hg _ _ hx'.1,hx'.2⟩
end Go.Proofs.YtcncbjknfcjnmaaGreat.Tp
namespace Go.Proofs.YtcncbjknfcjnmaaGreat.Tp
open Go.ChangeShapes Go.WideShapes Go.ChangeAt Go.RowKit
variable {G : Nat -> Prop}
theorem TmRowG.apart {w w' : World} {B b : Nat} {ts : List Tm} {v : Value} (h : TmRowG G B 55 ts v w) (hg : w.grownBy w' (some b)) (ht : BoxTy w b 55) (hne : v.ownBlock ≠ some b) : TmRowG G B 55 ts v w' := by
 obtain ⟨cur,hc⟩ := ht
 obtain ⟨L,h1,h2⟩ := h
 exact ⟨L,own_else9 h1 hg hne,h2.map fun u l _ hu => own_type hu hg hc (by decide)⟩
theorem TmRowG.blk {w : World} {B : Nat} {E : TypeId} {ts : List Tm} {v : Value} (h : TmRowG G B E ts v w) : v.ownBlock = none ∨ ∃ g,v.ownBlock = some g /\ BoxTy w g E /\ B <= g := by
 obtain ⟨L,h1,-⟩ := h
 exact own_blk h1
theorem TrRowG.redo {B : Nat} {ts : List Tr} {g cap n q : Nat} {w w' : World} (h : TrRowG G B ts (.slice (some ⟨g,0,none⟩) n cap) w) (hn : ts.length = n) (hq : q < ts.length) {u u' : Value} {p : List Tm} (hc : w.cell? ⟨g,q * 2 + 1,none⟩ = some u) (hg : w.grownBy w' u.ownBlock) (hp : TmRowG G B 55 p u' w') (hu : ∀ b,u'.ownBlock = some b -> u.ownBlock = some b ∨ w.heap.size <= b) :
  TrRowG G B (pastT ts q p) (.slice (some ⟨g,0,none⟩) n cap) (w'.setCell ⟨g,q * 2 + 1,none⟩ u') := by
 subst hn
 obtain ⟨L,h1,h2,h3,h4⟩ := h
 have hce : ∀ i,i < ts.length -> w.cell? ⟨g,i * 2 + 1,none⟩ = some (L.getD i nilP).2 := fun i hi => by
  have hp := pairCells_get L i (by omega)
  rw [h2.cellAt (i * 2 + 1) (by omega),hp.2,getD_lt (by omega)]
 have hue : u = (L.getD q nilP).2 := by
  rw [hce q hq] at hc
  exact (Option.some.inj hc).symm
 have hub := (h3 q hq).2.blk
 rw [<- hue] at hub
 have h2' : w'.ownsRow B 53 2 (.slice (some ⟨g,0,none⟩) ts.length cap) ts.length (pairCells L) := by
  rcases hub with e | ⟨gu,e,⟨cu,hcu⟩,-⟩
  ·rw [e] at hg
   exact own_below h2 (grownBy_none hg)
  ·rw [e] at hg
   exact own_type h2 hg hcu (by decide)
 have hne : ∀ i,i < ts.length -> i ≠ q -> ∀ b,(L.getD i nilP).2.ownBlock = some b -> u.ownBlock ≠ some b := fun i hi hiq b hb => by
  rw [hue]
  rcases Nat.lt_or_gt_of_ne hiq with hl | hl
  ·exact h4 i q hl hq b hb
  ·intro h
   exact h4 q i hl hi b h hb
 have hoth : ∀ i,i < ts.length -> i ≠ q -> TmRowG G B 55 (ts.getD i tr0).past (L.getD i nilP).2 w' := fun i hi hiq => by
  rcases hub with e | ⟨gu,e,ht,-⟩
  ·rw [e] at hg
   exact (h3 i hi).2.below (grownBy_none hg)
  ·have hg' := hg
   rw [e] at hg'
   exact (h3 i hi).2.apart hg' ht fun h => hne i hi hiq gu h e
 have hlt : ∀ i,i < ts.length -> ∀ b,(L.getD i nilP).2.ownBlock = some b -> b < w.heap.size := fun i hi b hb => by
  obtain ⟨L2,o2,-⟩ := (h3 i hi).2
  exact (o2.lt b hb).2
 obtain ⟨s1,s2⟩ := h2'.stored (q * 2 + 1) u'
 obtain ⟨⟨cur,hh⟩,-⟩ := row_ty h2'
 have hkp : ∀ (x : Value) (l : List Tm),TmRowG G B 55 l x w' -> TmRowG G B 55 l x (w'.setCell ⟨g,q * 2 + 1,none⟩ u') := fun x l hx => TmRowG.type hx s2 hh (by decide) (by decide)
 rw [pairCells_set L q (by omega)] at s1
 have hlen : (pastT ts q p).length = ts.length := by simp [pastT]
 rw [TrRowG,hlen]
 refine ⟨L.set q ((L[q]).1,u'),by simpa using h1,s1,fun i hi => ?_,fun i j hij hjl b hb => ?_⟩
 ·by_cases e : i = q
  ·subst e
   rw [getD_set_eq _ _ _ (by omega)]
   have h5 := h3 i hi
   rw [getD_lt (by omega)] at h5
   unfold pastT
   rw [trGetD_eq _ _ _ hi]
   exact ⟨h5.1,hkp _ _ hp⟩
  ·rw [getD_set_ne _ _ _ _ e]
   unfold pastT
   rw [trGetD_ne _ _ _ _ e]
   exact ⟨(h3 i hi).1,hkp _ _ (hoth i hi e)⟩
 ·by_cases ej : j = q
  ·subst ej
   rw [getD_set_eq _ _ _ (by omega)]
   rw [getD_set_ne _ _ _ _ (by omega)] at hb
   intro hb2
   rcases hu b hb2 with h | h
   ·exact hne i (by omega) (by omega) b hb h
   ·have := hlt i (by omega) b hb
    omega
  ·rw [getD_set_ne _ _ _ _ ej]
   by_cases ei : i = q
   ·subst ei
    rw [getD_set_eq _ _ _ (by omega)] at hb
    intro hb2
    rcases hu b hb with h | h
    ·exact hne j hjl ej b hb2 h
    ·have := hlt j hjl b hb2
     omega
   ·rw [getD_set_ne _ _ _ _ ei] at hb
    exact h4 i j hij hjl b hb
theorem LiveM.redo {w w' : World} {pm N g q : Nat} {m : Mp} {s : MV} (h : LiveM G w pm N m s) (hN : N <= w.heap.size) (ha : s.aR = some ⟨g,0,none⟩) (hq : q < m.trs.length) {u u' : Value} {p : List Tm} (hc : w.cell? ⟨g,q * 2 + 1,none⟩ = some u) (hg : w.grownBy w' u.ownBlock) (hp : TmRowG G N 55 p u' w') (hu : ∀ b,u'.ownBlock = some b -> u.ownBlock = some b ∨ w.heap.size <= b) :
  LiveM G (w'.setCell ⟨g,q * 2 + 1,none⟩ u') pm N { m with trs := pastT m.trs q p } s /\ Kq w (w'.setCell ⟨g,q * 2 + 1,none⟩ u') /\ Below N w (w'.setCell ⟨g,q * 2 + 1,none⟩ u') := by
 have hr := h.own.trs
 rw [ha] at hr
 have hr2 := hr.redo h.own.trl hq hc hg hp hu
 obtain ⟨L,h1,h2,h3,-⟩ := hr
 have hue : u = (L.getD q nilP).2 := by
  have hp := pairCells_get L q (by omega)
  rw [h.own.trl] at h2
  rw [h2.cellAt (q * 2 + 1) (by have := h.own.trl; omega),hp.2,<- getD_lt (by omega)] at hc
  exact (Option.some.inj hc).symm
 obtain ⟨L2,ho2,-⟩ := (h3 q hq).2
 rw [<- hue] at ho2
 rw [h.own.trl] at h2
 obtain ⟨hb,ht⟩ := box_own ho2 hg h.box h.ty (by decide)
 have hT := tms_kept ho2 hg h.own.tms (by decide) (by decide)
 have hD := nds_kept ho2 hg (by decide) h.own.nds
 have hR := nds_kept ho2 hg (by decide) h2
 obtain ⟨htR,hNg⟩ := row_ty hR
 have hg0 := set_grownBy w' g (q * 2 + 1) u'
 have hne : pm ≠ g := boxTy_ne ht htR (by decide)
 have hkp := kp_set htR (.inr (.inr (.inr (.inl rfl)))) (q * 2 + 1) u'
 obtain ⟨cur,hcu⟩ := htR
 refine ⟨⟨hb.else hg0 hne,ht.kp hkp,⟨own_type hD hg0 hcu (by decide),h.own.ndl,hT.type hg0 hcu (by decide) (by decide),h.own.tml,?_,by simpa [pastT] using h.own.trl⟩,h.ge⟩,(kq_own ho2 hg (.inr (.inr (.inr (.inr rfl))))).trans hkp.kq,(below_own ho2 hN hg).setCell (p := ⟨g,q * 2 + 1,none⟩) hNg _⟩
 rw [ha]
 exact hr2
end Go.Proofs.YtcncbjknfcjnmaaGreat.Tp
namespace Go.Proofs.YtcncbjknfcjnmaaGreat.Tp
open Go.ChangeShapes Go.WideShapes Go.ChangeAt Go.RowKit
variable {G : Nat -> Prop}
structure Kz (ga : Nat) (w w' : World) : Prop where
 os : w'.os = w.os
 tape : w'.tape = w.tape
 output : w'.output = w.output
 size : w.heap.size <= w'.heap.size
 block : ∀ (k : Nat) (cur : Array Value) (T : TypeId) (fz : Nat × Nat),w.heap[k]? = some (Obj.cells cur T fz) -> ¬ TurnT T -> k ≠ ga -> w'.heap[k]? = w.heap[k]?
theorem Kz.trans {ga : Nat} {a b c : World} (h : Kz ga a b) (k : Kz ga b c) : Kz ga a c :=
 ⟨k.os.trans h.os,k.tape.trans h.tape,k.output.trans h.output,Nat.le_trans h.size k.size,fun j cur T fz hj hT hn => by
  have h1 := h.block j cur T fz hj hT hn
  rw [<- h1] at hj
  exact (k.block j cur T fz hj hT hn).trans h1⟩
theorem Kq.kz {w w' : World} (h : Kq w w') (ga : Nat) : Kz ga w w' := ⟨h.os,h.tape,h.output,h.size,fun k cur T fz hk hT _ => h.block k cur T fz hk hT⟩
theorem kz_grownBy {w w' : World} {ga : Nat} (hg : w.grownBy w' (some ga)) : Kz ga w w' := ⟨hg.os,hg.tape,hg.output,hg.size,fun k cur T fz hk _ hn => hg.block k (lt_of_get hk) (by simpa using hn)⟩
structure LvS (G : Nat -> Prop) (w : World) (pm N b0 ga n c : Nat) (m : Mp) (s : MV) (act : List Int) (w' : World) : Prop where
 live : LiveM G w' pm N m s
 cell : w'.cell? ⟨b0,0,none⟩ = some (.slice (some ⟨ga,0,none⟩) n c)
 ty : BoxTy w' b0 35
 irow : IRow w' N (.slice (some ⟨ga,0,none⟩) n c) act
 len : act.length = n
 kz : Kz ga w w'
 bel : Below N w w'
 sz : N <= w'.heap.size
theorem LvS.below {w : World} {pm N b0 ga n c : Nat} {m : Mp} {s : MV} {act : List Int} {a b : World} (h : LvS G w pm N b0 ga n c m s act a) (hb : Below a.heap.size a b) : LvS G w pm N b0 ga n c m s act b :=
 ⟨h.live.below hb,(hb.cell (p := ⟨b0,0,none⟩) (World.block_lt_of_cell? a ⟨b0,0,none⟩ h.cell)).trans h.cell,h.ty.kp (kp_below hb),own_below h.irow hb,h.len,h.kz.trans ((kq_below hb).kz ga),h.bel.trans (hb.mono h.sz),Nat.le_trans h.sz hb.size⟩
theorem LvS.kq {G' : Nat -> Prop} {w : World} {pm N b0 ga n c : Nat} {m m' : Mp} {s s' : MV} {act : List Int} {a b : World} (h : LvS G w pm N b0 ga n c m s act a) (hl : LiveM G' b pm N m' s') (hk : Kq a b) (hb : Below N a b) : LvS G' w pm N b0 ga n c m' s' act b := by
 have hty := h.ty
 obtain ⟨cur,hc⟩ := hty
 have hblk := hk.block b0 cur _ _ hc (by unfold TurnT; decide)
 exact ⟨hl,(World.cell?_of_block (a := ⟨b0,0,none⟩) hblk).trans h.cell,boxTy_kq h.ty hk (by unfold TurnT; decide),own_kq h.irow hk (by unfold TurnT; decide),h.len,h.kz.trans (hk.kz ga),h.bel.trans hb,Nat.le_trans h.sz hk.size⟩
theorem LvS.gaTy {w : World} {pm N b0 ga n c : Nat} {m : Mp} {s : MV} {act : List Int} {a : World} (h : LvS G w pm N b0 ga n c m s act a) : BoxTy a ga 3 /\ N <= ga := by
 have hi := h.irow
 unfold IRow at hi
 rw [h.len] at hi
 exact row_ty hi
theorem LvS.sort {w : World} {pm N b0 ga n c : Nat} {m : Mp} {s : MV} {act : List Int} {a b : World} (h : LvS G w pm N b0 ga n c m s act a) (hG : ¬ G ga) (hg : a.grownBy b (some ga)) (ho : b.ownsRow N 3 1 (.slice (some ⟨ga,0,none⟩) n c) n (intCells (sortI act))) : LvS G w pm N b0 ga n c m s (sortI act) b := by
 obtain ⟨ht,hN⟩ := h.gaTy
 have hne : b0 ≠ ga := boxTy_ne h.ty ht (by decide)
 have hty := h.ty
 obtain ⟨cur,hc⟩ := hty
 have hblk := hg.block b0 (lt_of_get hc) (by simpa using hne)
 have hll : (sortI act).length = n := by rw [sortI_len]; exact h.len
 refine ⟨h.live.ints ht hg hG,(World.cell?_of_block (a := ⟨b0,0,none⟩) hblk).trans h.cell,⟨cur,hblk.trans hc⟩,?_,hll,h.kz.trans (kz_grownBy hg),h.bel.trans ⟨hg.os,hg.tape,hg.output,hg.size,fun k hk => hg.block k (Nat.lt_of_lt_of_le hk h.sz) (by simp; omega)⟩,Nat.le_trans h.sz hg.size⟩
 unfold IRow
 rw [hll]
 exact ho
theorem LiveM.past {w : World} {pm N g k : Nat} {m : Mp} {s : MV} (h : LiveM G w pm N m s) (ha : s.aR = some ⟨g,0,none⟩) (hk : k < m.trs.length) : ∃ a5 l5 c5,w.cell? ⟨g,k * 2 + 1,none⟩ = some (.slice a5 l5 c5) /\ w.frozen? ⟨g,k * 2 + 1,none⟩ = false /\ TmRowG G N 55 (m.trs.getD k tr0).past (.slice a5 l5 c5) w /\ w.cell? ⟨g,k * 2,none⟩ = some (.int .i64 (m.trs.getD k tr0).since) /\ w.frozen? ⟨g,k * 2,none⟩ = false := by
 obtain ⟨L,h1,h2,h3,-⟩ := h.own.trs
 rw [h.own.trl,ha] at h2
 have hl := h.own.trl
 have hp := pairCells_get L k (by omega)
 have h4 := h3 k hk
 rw [getD_lt (by omega)] at h4
 obtain ⟨a,c,hv,-⟩ := h4.2.at
 refine ⟨a,_,c,((h2.cellAt (k * 2 + 1) (by omega)).trans hp.2).trans (by rw [hv]),h2.frozenAt _,by rw [<- hv]; exact h4.2,((h2.cellAt (k * 2) (by omega)).trans hp.1).trans (by rw [h4.1]),h2.frozenAt _⟩
theorem redo_cell {w w' : World} {N : Nat} {ts : List Tm} {u : Value} {g o : Nat} (ht : TmRowG G N 55 ts u w) (hg : w.grownBy w' u.ownBlock) (hR : BoxTy w g 53) : w'.cell? ⟨g,o,none⟩ = w.cell? ⟨g,o,none⟩ /\ w'.frozen? ⟨g,o,none⟩ = w.frozen? ⟨g,o,none⟩ := by
 have hb : w'.heap[g]? = w.heap[g]? := by
  have hR2 := hR
  obtain ⟨cur,hc⟩ := hR2
  refine hg.block g (lt_of_get hc) ?_
  rcases ht.blk with e | ⟨gu,e,hu,-⟩
  ·rw [e]; simp
  ·rw [e]
   have := boxTy_ne hR hu (by decide)
   simpa using this
 exact ⟨World.cell?_of_block (a := ⟨g,o,none⟩) hb,World.frozen?_of_block (a := ⟨g,o,none⟩) hb⟩
theorem LiveM.trTy {w : World} {pm N g : Nat} {m : Mp} {s : MV} (h : LiveM G w pm N m s) (ha : s.aR = some ⟨g,0,none⟩) : BoxTy w g 53 := by
 obtain ⟨L,h1,h2,-,-⟩ := h.own.trs
 rw [h.own.trl,ha] at h2
 exact (row_ty h2).1
def DlS (G : Nat -> Prop) (w : World) (pm N b0 ga n c g k : Nat) (m : Mp) (s : MV) (act : List Int) (e : Ending) (w' : World) : Prop := ∃ a' l' c',e = .returned (.slice a' l' c') /\ (∃ x,w'.cell? ⟨g,k * 2 + 1,none⟩ = some x) /\ w'.frozen? ⟨g,k * 2 + 1,none⟩ = false /\ LvS G w pm N b0 ga n c m s act (w'.setCell ⟨g,k * 2 + 1,none⟩ (.slice a' l' c'))
theorem del_step {w : World} {pm N b0 ga n c g k : Nat} {m : Mp} {s : MV} {act : List Int} {a : World} {a5 : Option Addr} {l5 c5 : Nat} (h : LvS G w pm N b0 ga n c m s act a) (ha : s.aR = some ⟨g,0,none⟩) (hk : k < m.trs.length) (hc : a.cell? ⟨g,k * 2 + 1,none⟩ = some (.slice a5 l5 c5)) (hf : a.frozen? ⟨g,k * 2 + 1,none⟩ = false) (hr : TmRowG G N 55 (m.trs.getD k tr0).past (.slice a5 l5 c5) a) (h64 : (m.trs.getD k tr0).past.length <= 104) :
  Calls Tryz.prog 97 #[.slice a5 l5 c5,.func (.func 98) #[] #[.pointer (some ⟨b0,0,none⟩)]] a fun e w' => DlS G w pm N b0 ga n c g k { m with trs := pastT m.trs k (otherT (m.trs.getD k tr0).past act) } s act e w' := by
 refine (delPast hr h64 h.cell h.ty h.irow).mono ?_
 rintro e w' ⟨u',rfl,hr',hg,hb,a',l',c',rfl⟩
 obtain ⟨k1,k2,k3⟩ := h.live.redo h.sz ha hk hc hg hr' (fun b hb' => .inl (by rw [<- hb]; exact hb'))
 have hcc := redo_cell (o := k * 2 + 1) hr hg (h.live.trTy ha)
 exact ⟨a',l',c',rfl,⟨_,hcc.1.trans hc⟩,hcc.2.trans hf,h.kq k1 k2 k3⟩
set_option maxRecDepth 60000 in
theorem app_step {w : World} {pm N b0 ga n c g k : Nat} {m : Mp} {s : MV} {act : List Int} {a : World} {a5 : Option Addr} {l5 c5 : Nat} {sn : Int} (h : LvS G w pm N b0 ga n c m s act a) (ha : s.aR = some ⟨g,0,none⟩) (hk : k < m.trs.length) (hc : a.cell? ⟨g,k * 2 + 1,none⟩ = some (.slice a5 l5 c5)) (hf : a.frozen? ⟨g,k * 2 + 1,none⟩ = false) (hr : TmRowG G N 55 (m.trs.getD k tr0).past (.slice a5 l5 c5) a) (hs : a.cell? ⟨g,k * 2,none⟩ = some (.int .i64 sn)) (h64 : (m.trs.getD k tr0).past.length <= 104) (ty : TypeId) :
  ∃ a9 l9 c9 w9,(Builtin.append_ #[51,51] ty #[.slice a5 l5 c5,.slice (some ⟨a.heap.size,0,none⟩) 1 1]).run Tryz.prog (a.drew.alloc (.cells #[.int .i64 sn,.slice (some ⟨ga,0,none⟩) n c] 55)) = .ok (.slice a9 l9 c9) w9 /\ (fun w' => w'.cell? ⟨g,k * 2,none⟩ = some (.int .i64 sn) /\ w'.cell? ⟨g,k * 2 + 1,none⟩ = some (.slice a5 l5 c5) /\ w'.frozen? ⟨g,k * 2 + 1,none⟩ = false /\ w'.cell? ⟨b0,0,none⟩ = some (.slice (some ⟨ga,0,none⟩) n c)) w9 /\ LvS (fun b => G b ∨ b = ga) w pm N b0 ga n c { m with trs := pastT m.trs k ((m.trs.getD k tr0).past ++ [⟨sn,act⟩]) } s act (w9.setCell ⟨g,k * 2 + 1,none⟩ (.slice a9 l9 c9)) := by
 have hb1 : Below a.heap.size a (a.drew.alloc (.cells #[.int .i64 sn,.slice (some ⟨ga,0,none⟩) n c] 55)) := below2 (below_drew a) (below_alloc a.drew _)
 have h1 := h.below hb1
 have hnew := heap_alloc_new a.drew (.cells #[.int .i64 sn,.slice (some ⟨ga,0,none⟩) n c] 55)
 have hga := h.gaTy
 obtain ⟨i0,hi,hz0,hz1,hz2⟩ := info_parts infoSp9
 have hr1 := hr.below hb1
 have hgl : g < a.heap.size := World.block_lt_of_cell? a ⟨g,k * 2 + 1,none⟩ hc
 have hc1 := (hb1.cell (p := ⟨g,k * 2 + 1,none⟩) hgl).trans hc
 have hs1 := (hb1.cell (p := ⟨g,k * 2,none⟩) hgl).trans hs
 have hf1 := (hb1.frozen (p := ⟨g,k * 2 + 1,none⟩) hgl).trans hf
 have hsz0 : a.drew.heap.size = a.heap.size := rfl
 rw [hsz0] at hnew
 have hlt : ∀ q,(Value.slice a5 l5 c5).ownBlock = some q -> q < a.heap.size := fun q hq => by
  obtain ⟨L2,o2,-⟩ := hr
  exact (o2.lt q hq).2
 generalize a.drew.alloc (.cells #[.int .i64 sn,.slice (some ⟨ga,0,none⟩) n c] 55) = a1 at *
 obtain ⟨L,ho,hA⟩ := hr1
 have hl5 : (m.trs.getD k tr0).past.length = l5 := by
  obtain ⟨a2,c2,e,-⟩ := own_slice ho
  injection e with _ e _
  exact e.symm
 obtain ⟨v9,w9,hrun,how,hg9,-,hat⟩ := run_append_own_at (P := Tryz.prog) a1 N 51 ty 55 i0 (.agg #[.int .i64 0,.slice none 0 0]) 2 32 Tryz.underlying51 hi hz0 hz1 hz2 rfl (by decide) (.slice a5 l5 c5) _ _ ho ⟨a.heap.size,0,none⟩ 1 1 [.int .i64 sn,.slice (some ⟨ga,0,none⟩) n c] rfl (fun j u hj => by
  rw [addr_add,Nat.zero_add]
  simp only [World.cell?,hnew]
  simpa using hj) (by intro u hu; simp at hu; rcases hu with rfl | rfl <;> rfl) (by unfold maxLen; omega) (by omega) h1.sz
 obtain ⟨a9,c9,hv9,-⟩ := own_slice how
 subst hv9
 have hA9 : AllOk (fun b => G b ∨ b = ga) w9 N (L ++ [(sn,.slice (some ⟨ga,0,none⟩) n c)]) ((m.trs.getD k tr0).past ++ [⟨sn,act⟩]) := by
  have hA2 : AllOk G w9 N L (m.trs.getD k tr0).past := hA.map fun u l _ hu => irow_kept ho hg9 (by decide) hu
  have hI2 : IRow w9 N (.slice (some ⟨ga,0,none⟩) n c) act := irow_kept ho hg9 (by decide) h1.irow
  refine (hA2.weak fun b hb => .inl hb).app ⟨⟨rfl,hI2,fun b hb => .inr ?_⟩,trivial⟩
  injection hb with hb
  exact hb.symm
 have how' : w9.ownsRow N 55 2 (.slice a9 ((m.trs.getD k tr0).past.length + 1) c9) ((m.trs.getD k tr0).past.length + 1) (pairCells (L ++ [(sn,.slice (some ⟨ga,0,none⟩) n c)])) := by
  rw [pairCells_app]
  exact how
 have hT9 := tmRow_of how' (by simp) hA9
 have hlw : LiveM (fun b => G b ∨ b = ga) a1 pm N m s := h1.live.weak fun b hb => .inl hb
 obtain ⟨k1,k2,k3⟩ := hlw.redo h1.sz ha hk hc1 hg9 hT9 (fun b hb => by
  rcases hat with e | e
  ·exact .inl (by rw [<- e]; exact hb)
  ·rw [e] at hb
   injection hb with hb
   exact .inr (by omega))
 have hTr : TmRowG G N 55 (m.trs.getD k tr0).past (.slice a5 l5 c5) a1 := ⟨L,ho,hA⟩
 have q1 := redo_cell (o := k * 2 + 1) hTr hg9 (h1.live.trTy ha)
 have q2 := redo_cell (o := k * 2) hTr hg9 (h1.live.trTy ha)
 have hq := kq_own ho hg9 (.inr (.inr (.inr (.inr rfl))))
 have hb0 : w9.cell? ⟨b0,0,none⟩ = some (.slice (some ⟨ga,0,none⟩) n c) := by
  have hty := h1.ty
  obtain ⟨cur,hcb⟩ := hty
  exact (World.cell?_of_block (a := ⟨b0,0,none⟩) (hq.block b0 cur _ _ hcb (by unfold TurnT; decide))).trans h1.cell
 exact ⟨a9,_,c9,w9,hrun,⟨q2.1.trans hs1,q1.1.trans hc1,q1.2.trans hf1,hb0⟩,h1.kq k1 k2 k3⟩
set_option maxHeartbeats 4000000 in
set_option maxRecDepth 60000 in
theorem lv_5 (t0 t1 t2 t3 t4 t7 t8 t9 t10 t11 t12 t13 t14 t15 t16 t17 t18 t19 t20 t21 t22 t23 t24 t25 t26 t27 t28 t29 t30 t31 t32 t33 t34 t35 t36 t37 t38 t39 t40 t41 t42 t43 t44 t45 t46 t47 t48 t49 t50 t51 t52 : Value) (b0 ga n c g k l5 c5 : Nat) (a5 : Option Addr) (sn : Int) (R : Option Addr -> Nat -> Nat -> World -> Prop) (w1 : World) (Q : Exit -> Act -> World -> Prop)
  (hS0 : (fun w' => w'.cell? ⟨g,k * 2,none⟩ = some (.int .i64 sn) /\ w'.cell? ⟨g,k * 2 + 1,none⟩ = some (.slice a5 l5 c5) /\ w'.frozen? ⟨g,k * 2 + 1,none⟩ = false /\ w'.cell? ⟨b0,0,none⟩ = some (.slice (some ⟨ga,0,none⟩) n c)) w1) (hbw : b0 < w1.heap.size) (hgw : g < w1.heap.size)
  (HAP : Hid (∀ ty,∃ a9 l9 c9 w9,(Builtin.append_ #[51,51] ty #[.slice a5 l5 c5,.slice (some ⟨w1.heap.size,0,none⟩) 1 1]).run Tryz.prog (w1.drew.alloc (.cells #[.int .i64 sn,.slice (some ⟨ga,0,none⟩) n c] 55)) = .ok (.slice a9 l9 c9) w9 /\ (fun w' => w'.cell? ⟨g,k * 2,none⟩ = some (.int .i64 sn) /\ w'.cell? ⟨g,k * 2 + 1,none⟩ = some (.slice a5 l5 c5) /\ w'.frozen? ⟨g,k * 2 + 1,none⟩ = false /\ w'.cell? ⟨b0,0,none⟩ = some (.slice (some ⟨ga,0,none⟩) n c)) w9 /\ R a9 l9 c9 w9))
  (hQ : Hid (∀ (u31 u32 u33 u34 u35 u36 u37 u38 u39 u40 u41 u42 u43 u44 u45 : Value) (a9 : Option Addr) (l9 c9 : Nat) (w9 : World),R a9 l9 c9 w9 -> Q .normal ⟨#[t0,t1,t2,t3,t4,.pointer (some ⟨b0,0,none⟩),.pointer (some ⟨g,k * 2,none⟩),t7,t8,t9,t10,t11,t12,t13,t14,t15,t16,t17,t18,t19,t20,t21,t22,t23,t24,t25,t26,t27,t28,t29,t30,u31,u32,u33,u34,u35,u36,u37,u38,u39,u40,u41,u42,u43,u44,u45,t46,t47,t48,t49,t50,t51,t52],[]⟩ (w9.setCell ⟨g,k * 2 + 1,none⟩ (.slice a9 l9 c9)))) :
  Code.wp Tryz.prog ((Tryz.f73.body.bind (regionOf 5)).getD .skip) Q ⟨#[t0,t1,t2,t3,t4,.pointer (some ⟨b0,0,none⟩),.pointer (some ⟨g,k * 2,none⟩),t7,t8,t9,t10,t11,t12,t13,t14,t15,t16,t17,t18,t19,t20,t21,t22,t23,t24,t25,t26,t27,t28,t29,t30,t31,t32,t33,t34,t35,t36,t37,t38,t39,t40,t41,t42,t43,t44,t45,t46,t47,t48,t49,t50,t51,t52],[]⟩ w1 := by
 have HS : Hid (∀ w',Below w1.heap.size w1 w' -> (fun w' => w'.cell? ⟨g,k * 2,none⟩ = some (.int .i64 sn) /\ w'.cell? ⟨g,k * 2 + 1,none⟩ = some (.slice a5 l5 c5) /\ w'.frozen? ⟨g,k * 2 + 1,none⟩ = false /\ w'.cell? ⟨b0,0,none⟩ = some (.slice (some ⟨ga,0,none⟩) n c)) w') := fun w' h => ⟨(h.cell (p := ⟨g,k * 2,none⟩) hgw).trans hS0.1,(h.cell (p := ⟨g,k * 2 + 1,none⟩) hgw).trans hS0.2.1,(h.frozen (p := ⟨g,k * 2 + 1,none⟩) hgw).trans hS0.2.2.1,(h.cell (p := ⟨b0,0,none⟩) hbw).trans hS0.2.2.2⟩
 have hS := HS.out w1.drew (below_drew w1)
 clear hS0 hbw hgw
 conv => arg 2; whnf
 refine wp_region_but (S := (fun w' => w'.cell? ⟨g,k * 2,none⟩ = some (.int .i64 sn) /\ w'.cell? ⟨g,k * 2 + 1,none⟩ = some (.slice a5 l5 c5) /\ w'.frozen? ⟨g,k * 2 + 1,none⟩ = false /\ w'.cell? ⟨b0,0,none⟩ = some (.slice (some ⟨ga,0,none⟩) n c))) (n := 15) mixed5 ?_
 refine but_take (i := 0) (v := .pointer (some ⟨g,k * 2,none⟩)) rfl (by kernel_rfl) (fun _ _ _ h => h) (.inl ⟨rfl,fun w hS => ?_⟩) hS ?_
 ·obtain ⟨s0,s1,s2,s3⟩ := hS
  go_simp
 simp only [Act.put,List.setIfInBounds_toArray,List.set_cons_zero,List.set_cons_succ]
 refine but_take (i := 1) (v := .pointer (some ⟨g,k * 2,none⟩)) rfl (by kernel_rfl) (fun _ _ _ h => h) (.inl ⟨rfl,fun w hS => ?_⟩) hS ?_
 ·obtain ⟨s0,s1,s2,s3⟩ := hS
  go_simp
 simp only [Act.put,List.setIfInBounds_toArray,List.set_cons_zero,List.set_cons_succ]
 refine but_take (i := 2) (v := .pointer (some ⟨g,k * 2,none⟩)) rfl (by kernel_rfl) (fun _ _ _ h => h) (.inl ⟨rfl,fun w hS => ?_⟩) hS ?_
 ·obtain ⟨s0,s1,s2,s3⟩ := hS
  go_simp
 simp only [Act.put,List.setIfInBounds_toArray,List.set_cons_zero,List.set_cons_succ]
 refine but_take (i := 3) (v := .pointer (some ⟨g,k * 2 + 1,none⟩)) rfl (by kernel_rfl) (fun _ _ _ h => h) (.inl ⟨rfl,fun w hS => ?_⟩) hS ?_
 ·obtain ⟨s0,s1,s2,s3⟩ := hS
  go_simp
 simp only [Act.put,List.setIfInBounds_toArray,List.set_cons_zero,List.set_cons_succ]
 refine but_take (i := 4) (v := .slice a5 l5 c5) rfl (by kernel_rfl) (fun _ _ _ h => h) (.inl ⟨rfl,fun w hS => ?_⟩) hS ?_
 ·obtain ⟨s0,s1,s2,s3⟩ := hS
  go_simp
 simp only [Act.put,List.setIfInBounds_toArray,List.set_cons_zero,List.set_cons_succ]
 refine but_take (i := 5) (v := .pointer (some ⟨g,k * 2,none⟩)) rfl (by kernel_rfl) (fun _ _ _ h => h) (.inl ⟨rfl,fun w hS => ?_⟩) hS ?_
 ·obtain ⟨s0,s1,s2,s3⟩ := hS
  go_simp
 simp only [Act.put,List.setIfInBounds_toArray,List.set_cons_zero,List.set_cons_succ]
 refine but_take (i := 6) (v := .pointer (some ⟨g,k * 2,none⟩)) rfl (by kernel_rfl) (fun _ _ _ h => h) (.inl ⟨rfl,fun w hS => ?_⟩) hS ?_
 ·obtain ⟨s0,s1,s2,s3⟩ := hS
  go_simp
 simp only [Act.put,List.setIfInBounds_toArray,List.set_cons_zero,List.set_cons_succ]
 refine but_take (i := 7) (v := .pointer (some ⟨g,k * 2,none⟩)) rfl (by kernel_rfl) (fun _ _ _ h => h) (.inl ⟨rfl,fun w hS => ?_⟩) hS ?_
 ·obtain ⟨s0,s1,s2,s3⟩ := hS
  go_simp
 simp only [Act.put,List.setIfInBounds_toArray,List.set_cons_zero,List.set_cons_succ]
 refine but_take (i := 8) (v := .int .i64 sn) rfl (by kernel_rfl) (fun _ _ _ h => h) (.inl ⟨rfl,fun w hS => ?_⟩) hS ?_
 ·obtain ⟨s0,s1,s2,s3⟩ := hS
  go_simp
 simp only [Act.put,List.setIfInBounds_toArray,List.set_cons_zero,List.set_cons_succ]
 refine but_take (i := 9) (v := .slice (some ⟨ga,0,none⟩) n c) rfl (by kernel_rfl) (fun _ _ _ h => h) (.inl ⟨rfl,fun w hS => ?_⟩) hS ?_
 ·obtain ⟨s0,s1,s2,s3⟩ := hS
  go_simp
 simp only [Act.put,List.setIfInBounds_toArray,List.set_cons_zero,List.set_cons_succ]
 refine but_take (i := 10) (v := .agg #[.int .i64 sn,.slice (some ⟨ga,0,none⟩) n c]) rfl (by kernel_rfl) (fun _ _ _ h => h) (.inl ⟨rfl,fun w hS => ?_⟩) hS ?_
 ·obtain ⟨s0,s1,s2,s3⟩ := hS
  go_simp
 simp only [Act.put,List.setIfInBounds_toArray,List.set_cons_zero,List.set_cons_succ]
 refine but_one (i := 11) (by kernel_rfl) rfl rfl ?_
 intro K hK
 go_simp
 have hb4 : Below w1.heap.size w1 (w1.drew.alloc (.cells #[.int .i64 sn,.slice (some ⟨ga,0,none⟩) n c] 55)) := below2 (below_drew w1) (below_alloc _ _)
 refine hK.out _ _ (fun _ => HS.out _ hb4) ?_
 clear hK hS
 have hS := HS.out _ hb4
 try simp only [Act.put,List.setIfInBounds_toArray,List.set_cons_zero,List.set_cons_succ]
 refine but_one (i := 12) (by kernel_rfl) rfl rfl ?_
 intro K hK
 obtain ⟨a9,l9,c9,w9,e,hS9,hR9⟩ := HAP.out 51
 refine wp_of_run8 (v := .slice a9 l9 c9) (w' := w9) ?_ ?_
 ·have e' : (Builtin.append_ #[51,51] 51 #[.slice a5 l5 c5,.slice (some ⟨w1.heap.size,0,none⟩) 1 1]).run Tryz.prog ((w1.alloc (.cells #[.int .i64 sn,.slice (some ⟨ga,0,none⟩) n c] 55)).drew) = .ok (.slice a9 l9 c9) w9 := e
  simp [execOp,Act.eval,resolve,invoke,builtin]
  rw [e']
  simp
 have HR9 := Hid.mk9 hR9
 clear hR9
 refine hK.out _ _ (fun _ => hS9) ?_
 clear hK hS e HAP HS
 have hS := hS9
 clear hS9
 try simp only [Act.put,List.setIfInBounds_toArray,List.set_cons_zero,List.set_cons_succ]
 refine but_take (i := 13) (v := .pointer (some ⟨g,k * 2,none⟩)) rfl (by kernel_rfl) (fun _ _ _ h => h) (.inl ⟨rfl,fun w hS => ?_⟩) hS ?_
 ·obtain ⟨s0,s1,s2,s3⟩ := hS
  go_simp
 simp only [Act.put,List.setIfInBounds_toArray,List.set_cons_zero,List.set_cons_succ]
 refine but_take (i := 14) (v := .pointer (some ⟨g,k * 2 + 1,none⟩)) rfl (by kernel_rfl) (fun _ _ _ h => h) (.inl ⟨rfl,fun w hS => ?_⟩) hS ?_
 ·obtain ⟨s0,s1,s2,s3⟩ := hS
  go_simp
 simp only [Act.put,List.setIfInBounds_toArray,List.set_cons_zero,List.set_cons_succ]
 refine but_one (i := 15) (by kernel_rfl) rfl rfl ?_
 intro K hK
 obtain ⟨s0,s1,s2,s3⟩ := hS
 go_simp
 refine hK.out _ _ (fun h => absurd rfl h) ?_
 clear hK
 try simp only [Act.put,List.setIfInBounds_toArray,List.set_cons_zero,List.set_cons_succ]
 refine AnyBut.done (by kernel_rfl) ?_ _
 refine NoPanic.normal ?_
 exact hQ.out _ _ _ _ _ _ _ _ _ _ _ _ _ _ _ a9 l9 c9 w9 HR9.out
end Go.Proofs.YtcncbjknfcjnmaaGreat.Tp
