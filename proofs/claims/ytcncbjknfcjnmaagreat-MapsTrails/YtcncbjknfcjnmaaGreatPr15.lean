/-
  The contracts of both Finds.
  The contracts of acting's closure, of slices.IndexFunc and slices.DeleteFunc over ints of one's own.
  The contract of slices.DeleteFunc over ints of one's own.
  The contract of choose.
-/
import Derived.Test.YtcncbjknfcjnmaaGreatPr02
import Derived.Deep.Cut
import Derived.Test.YtcncbjknfcjnmaaGreatPr03
import Derived.Test.YtcncbjknfcjnmaaGreatPr14
import Derived.Lib.SliceRun
import Derived.Maps.AppendAt
namespace Go.Proofs.YtcncbjknfcjnmaaGreat.Tp
open Go.ChangeShapes Go.WideShapes Go.ChangeAt Go.RowKit
def findN (ls : List Nd) (id : Int) : Option Nd := ls.find? fun x => x.id == id
theorem find_none {ls : List Nd} {id : Int} (h : ∀ j,j < ls.length -> (ls.getD j nd0).id ≠ id) : findN ls id = none := by
 unfold findN
 rw [List.find?_eq_none]
 intro x hx
 obtain ⟨j,hj,rfl⟩ := List.getElem_of_mem hx
 have := h j hj
 rw [show ls.getD j nd0 = ls[j] by simp [hj]] at this
 simpa using this
theorem find_some {ls : List Nd} {id : Int} {k : Nat} (hk : k < ls.length) (h1 : (ls.getD k nd0).id = id) (h : ∀ j,j < k -> (ls.getD j nd0).id ≠ id) : findN ls id = some (ls.getD k nd0) := by
 unfold findN
 rw [List.find?_eq_some_iff_getElem]
 rw [show ls.getD k nd0 = ls[k] by simp [hk]] at *
 refine ⟨by simpa using h1,k,hk,rfl,fun j hj => ?_⟩
 have := h j hj
 rw [show ls.getD j nd0 = ls[j] by simp [show j < ls.length by omega]] at this
 simpa using this
def set6 (w : World) (b : Nat) (v0 v1 v2 v3 v4 v5 : Value) : World := (((((w.setCell ⟨b,0,none⟩ v0).setCell ⟨b,1,none⟩ v1).setCell ⟨b,2,none⟩ v2).setCell ⟨b,3,none⟩ v3).setCell ⟨b,4,none⟩ v4).setCell ⟨b,5,none⟩ v5
def Six (w : World) (b : Nat) (v0 v1 v2 v3 v4 v5 : Value) : Prop := w.cell? ⟨b,0,none⟩ = some v0 /\ w.cell? ⟨b,1,none⟩ = some v1 /\ w.cell? ⟨b,2,none⟩ = some v2 /\ w.cell? ⟨b,3,none⟩ = some v3 /\ w.cell? ⟨b,4,none⟩ = some v4 /\ w.cell? ⟨b,5,none⟩ = some v5
theorem Six.set {w : World} {b : Nat} {u0 u1 u2 u3 u4 u5 : Value} (h : Six w b u0 u1 u2 u3 u4 u5) (v0 v1 v2 v3 v4 v5 : Value) : Six (set6 w b v0 v1 v2 v3 v4 v5) b v0 v1 v2 v3 v4 v5 := by
 obtain ⟨h0,h1,h2,h3,h4,h5⟩ := h
 unfold set6
 refine ⟨?_,?_,?_,?_,?_,?_⟩
 ·rw [set_else (by omega),set_else (by omega),set_else (by omega),set_else (by omega),set_else (by omega)]
  exact set_same h0 _
 ·rw [set_else (by omega),set_else (by omega),set_else (by omega),set_else (by omega)]
  exact set_same ((set_else (by omega) _).trans h1) _
 ·rw [set_else (by omega),set_else (by omega),set_else (by omega)]
  exact set_same ((set_else (by omega) _).trans ((set_else (by omega) _).trans h2)) _
 ·rw [set_else (by omega),set_else (by omega)]
  exact set_same ((set_else (by omega) _).trans ((set_else (by omega) _).trans ((set_else (by omega) _).trans h3))) _
 ·rw [set_else (by omega)]
  exact set_same ((set_else (by omega) _).trans ((set_else (by omega) _).trans ((set_else (by omega) _).trans ((set_else (by omega) _).trans h4)))) _
 ·exact set_same ((set_else (by omega) _).trans ((set_else (by omega) _).trans ((set_else (by omega) _).trans ((set_else (by omega) _).trans ((set_else (by omega) _).trans h5))))) _
theorem Six.below {w w' : World} {b : Nat} {v0 v1 v2 v3 v4 v5 : Value} (h : Six w b v0 v1 v2 v3 v4 v5) (hb : Below w.heap.size w w') : Six w' b v0 v1 v2 v3 v4 v5 := by
 have hl : b < w.heap.size := World.block_lt_of_cell? w ⟨b,0,none⟩ h.1
 obtain ⟨h0,h1,h2,h3,h4,h5⟩ := h
 exact ⟨(hb.cell (p := ⟨b,0,none⟩) hl).trans h0,(hb.cell (p := ⟨b,1,none⟩) hl).trans h1,(hb.cell (p := ⟨b,2,none⟩) hl).trans h2,(hb.cell (p := ⟨b,3,none⟩) hl).trans h3,(hb.cell (p := ⟨b,4,none⟩) hl).trans h4,(hb.cell (p := ⟨b,5,none⟩) hl).trans h5⟩
theorem set6_below {N : Nat} {w0 w : World} {b : Nat} (h : Below N w0 w) (hb : N <= b) (v0 v1 v2 v3 v4 v5 : Value) : Below N w0 (set6 w b v0 v1 v2 v3 v4 v5) :=
 (((((h.setCell (p := ⟨b,0,none⟩) hb _).setCell (p := ⟨b,1,none⟩) hb _).setCell (p := ⟨b,2,none⟩) hb _).setCell (p := ⟨b,3,none⟩) hb _).setCell (p := ⟨b,4,none⟩) hb _).setCell (p := ⟨b,5,none⟩) hb _
theorem ret_node {fn : Func} {p u : Tmp} (h : fn.results = #[.cell p 72,.tmp u]) (tmps : Array Value) (w : World) (b : Nat) (v0 v1 v2 v3 v4 v5 : Value) (hp : tmps.getD p undef = .pointer (some ⟨b,0,none⟩))
  (hb : Six w b v0 v1 v2 v3 v4 v5) : (results fn tmps).run Tryz.prog w = .ok (.tuple #[.agg #[v0,v1,v2,v3,v4,v5],tmps.getD u undef]) w := by
 obtain ⟨h0,h1,h2,h3,h4,h5⟩ := hb
 rw [results_cell_tmp h,hp]
 simp [go_sem,h0,h1,h2,h3,h4,h5]
end Go.Proofs.YtcncbjknfcjnmaaGreat.Tp
namespace Go.Proofs.YtcncbjknfcjnmaaGreat.Tp
open Go.ChangeShapes Go.WideShapes Go.ChangeAt Go.RowKit
def upB (ls : List Nd) (id : Int) : Bool := match findN ls id with | some x => x.up | none => false
theorem srch_up {ls : List Nd} {id : Int} {p : Nat} {t : Bool} (hM : MayN ls) (h : SrchIs (ls.map (·.id)) id p t) : (t = true -> p < ls.length /\ (ls.getD p nd0).up = upB ls id /\ findN ls id = some (ls.getD p nd0)) /\ (t = false -> upB ls id = false /\ findN ls id = none) := by
 obtain ⟨h1,h2,h3,h4⟩ := h
 have key : ∀ j,j < ls.length -> (ls.map (·.id)).getD j 0 = (ls.getD j nd0).id := fun j hj => by simp [hj]
 simp only [List.length_map] at h1 h3 h4
 constructor
 ·intro ht
  obtain ⟨hp,he⟩ := h4.1 ht
  have hf : findN ls id = some (ls.getD p nd0) := find_some hp ((key p hp).symm.trans he) (fun j hj e => by
   have := h2 j hj
   rw [key j (by omega),e] at this
   omega)
  exact ⟨hp,by unfold upB; rw [hf],hf⟩
 ·intro ht
  have hf : findN ls id = none := find_none fun j hj e => by
   by_cases hjp : j < p
   ·have := h2 j hjp
    rw [key j hj,e] at this
    omega
   ·by_cases hpe : j = p
    ·subst hpe
     have := h4.2 ⟨hj,(key j hj).trans e⟩
     rw [ht] at this
     exact absurd this (by decide)
    ·have h5 := h3 p (Nat.le_refl _) (by omega)
     have h6 := may_rising hM p j (by omega) (by rw [List.length_map]; exact hj)
     rw [key j hj,e] at h6
     omega
  exact ⟨by unfold upB; rw [hf],hf⟩
set_option maxRecDepth 60000 in
theorem up_closure (m : Mp) (s : MV) (b : Nat) (id : Int) (w : World) (hN : NdsAt w s.aN s.lN s.cN m.nds) (hM : MayN m.nds) (hB : Box7 w b (.int .i64 m.ep) (.int .i64 m.size) (.int .i64 m.mn) (.int .i64 m.gr) (.slice s.aN s.lN s.cN) (.slice s.aT s.lT s.cT) (.slice s.aR s.lR s.cR)) :
  Calls Tryz.prog 87 #[.int .i64 id,.pointer (some ⟨b,0,none⟩)] w fun e w' => e = .returned (.bool (!upB m.nds id)) /\ Below w.heap.size w w' := by
 have HC : Hid (Calls Tryz.prog 68 #[.agg (mapCells m s).toArray,.int .i64 id] w fun e w' => SrchPost (m.nds.map (·.id)) id w e w') := node_any m s id w hN hM
 rw [map_split] at HC
 have HU : Hid (∀ p t,SrchIs (m.nds.map (·.id)) id p t -> (t = true -> p < m.nds.length /\ (m.nds.getD p nd0).up = upB m.nds id) /\ (t = false -> upB m.nds id = false)) := fun p t h => ⟨fun e => ⟨((srch_up hM h).1 e).1,((srch_up hM h).1 e).2.1⟩,fun e => ((srch_up hM h).2 e).1⟩
 have HN : Hid (NdsAt w s.aN s.lN s.cN m.nds) := hN
 have h12 : (s.lN : Int) <= 12 := by have := hM.1; have := hN.1; omega
 obtain ⟨ep,sz,mn,gr,nds,tms,trs⟩ := m
 obtain ⟨aN,lN,cN,aT,lT,cT,aR,lR,cR⟩ := s
 simp only at *
 have HNL : Hid (nds.length = lN) := HN.out.1
 have HB : Hid (Box7 w b (.int .i64 ep) (.int .i64 sz) (.int .i64 mn) (.int .i64 gr) (.slice aN lN cN) (.slice aT lT cT) (.slice aR lR cR)) := hB
 obtain ⟨⟨c0,c1,c2,c3,c4,c5,c6⟩,-⟩ := hB
 clear hN hM
 generalize upB nds id = u at *
 go_enter Tryz.func87,Tryz.ntmps87
 go_upto_region 2 with (go_at_call 68; refine HC.out.mono ?_; rintro e w2 ⟨hb2,p,t,rfl,hIs⟩; have HI : Hid (SrchIs (nds.map (·.id)) id p t) := hIs; clear hIs)
 clear c0 c1 c2 c3 c4 c5 c6
 obtain ⟨⟨c0,c1,c2,c3,c4,c5,c6⟩,-⟩ := HB.out.below hb2
 cases t with
 | true =>
  obtain ⟨hp,hu⟩ := (HU.out p true HI.out).1 rfl
  have hpl : p < lN := by have := HNL.out; omega
  obtain ⟨bb,off,rfl,hbs,hcell⟩ := (HN.out.below hb2).some (by omega)
  obtain ⟨e0,e1,e2,e3,e4,e5⟩ := hcell p hpl
  rw [hu] at e4
  have hp0 : (0 : Int) <= (p : Int) := by omega
  have hp1 : (p : Int) < (lN : Int) := by omega
  clear hcell hu e0 e1 e2 e3 e5 HU HC hp hpl
  go_wp2_with fail
  go_ret
  exact ⟨rfl,hb2⟩
 | false =>
  have hu := (HU.out p false HI.out).2 rfl
  subst hu
  clear HU HC
  go_wp2_with fail
  go_ret
  exact ⟨rfl,hb2⟩
def FirstIs (p : Int -> Bool) (l : List Int) (e : Ending) : Prop := (∃ k : Nat,e = .returned (.int .i64 (k : Int)) /\ k < l.length /\ p (l.getD k 0) = true /\ ∀ j,j < k -> p (l.getD j 0) = false) ∨ (e = .returned (.int .i64 (-1)) /\ ∀ j,j < l.length -> p (l.getD j 0) = false)
theorem indexFunc_any (b N : Nat) (w0 : World) (p : Int -> Bool) (hp : ∀ W x,Below N w0 W -> Calls Tryz.prog 87 #[.int .i64 x,.pointer (some ⟨b,0,none⟩)] W fun e w' => e = .returned (.bool (p x)) /\ Below W.heap.size W w') (hN : N <= w0.heap.size)
  (a : Option Addr) (cap : Nat) (l : List Int) (w : World) (hb : Below N w0 w) (hI : IntsAt w a l) (h64 : l.length <= 64) :
  Calls Tryz.prog 110 #[.slice a l.length cap,.func (.func 87) #[] #[.pointer (some ⟨b,0,none⟩)]] w fun e w' => FirstIs p l e /\ Below w.heap.size w w' := by
 have HP : Hid (∀ W x,Below N w0 W -> Calls Tryz.prog 87 #[.int .i64 x,.pointer (some ⟨b,0,none⟩)] W fun e w' => e = .returned (.bool (p x)) /\ Below W.heap.size W w') := hp
 have HL : Hid (IntsAt w a l) := hI
 have h64' : (l.length : Int) <= 64 := by omega
 have HBN : Hid (∀ W,Below w.heap.size w W -> Below N w0 W) := fun W h => hb.trans (h.mono (Nat.le_trans hN hb.size))
 clear hI hp h64 hb
 generalize hn : l.length = n at *
 have HN : Hid (l.length = n) := hn
 clear hn
 go_enter Tryz.func110,Tryz.ntmps110
 go_wp2_with fail
 go_loopw [8] (fun i wr => ∃ k : Nat,k <= n /\ i = .int .i64 k /\ Below w.heap.size w wr /\ Hid (∀ j,j < k -> p (l.getD j 0) = false)) (fun i _ => n - (intOf i).toNat)
 case atStart => exact ⟨0,Nat.zero_le _,rfl,Below.refl _ _,fun j hj => absurd hj (Nat.not_lt_zero _)⟩
 case round =>
  obtain ⟨k,hk,rfl,hbel,hT⟩ := hrel
  by_cases hlt : k < n
  ·have hk1 : (k : Int) < (n : Int) := by omega
   have hk0 : (0 : Int) <= (k : Int) := by omega
   rcases HL.out.below hbel with h0 | ⟨g,rfl,hg,hc⟩
   ·have := HN.out; rw [h0] at this; simp at this; omega
   have x0 := hc k (by have := HN.out; omega)
   have HC := HP.out wr (l.getD k 0) (HBN.out wr hbel)
   have HY : Hid (p (l.getD k 0) = true -> FirstIs p l (.returned (.int .i64 (k : Int)))) := fun h => .inl ⟨k,rfl,by have := HN.out; omega,h,hT.out⟩
   have HNX : Hid (p (l.getD k 0) = false -> ∀ j,j < k + 1 -> p (l.getD j 0) = false) := fun h j hj => by
    by_cases e : j = k
    ·rw [e]; exact h
    ·exact hT.out j (by omega)
   generalize l.getD k 0 = y at *
   have HC' : Hid (Calls Tryz.prog 87 #[.int .i64 y,.pointer (some ⟨b,0,none⟩)] wr fun e w' => e = .returned (.bool (p y)) /\ Below wr.heap.size wr w') := HC
   clear HC hc hT
   generalize hq : p y = q at *
   cases q with
   | true =>
    have HY' := HY.out rfl
    have HF : Hid (FirstIs p l (.returned (.int .i64 (k : Int)))) := HY'
    clear HY HY' HNX hq
    go_wp2_with (go_at_call 87; refine HC'.out.mono ?_; rintro e w4 ⟨rfl,hb4⟩)
    go_ret
    exact ⟨HF.out,below2 hbel hb4⟩
   | false =>
    have HX : Hid (∀ j,j < k + 1 -> p (l.getD j 0) = false) := HNX.out rfl
    clear HY HNX hq
    go_wp2_with (go_at_call 87; refine HC'.out.mono ?_; rintro e w4 ⟨rfl,hb4⟩)
    exact ⟨⟨k + 1,by omega,by go_num,below2 hbel hb4,HX⟩,by simp [intOf]; omega⟩
  ·obtain rfl : k = n := by omega
   have HF : Hid (FirstIs p l (.returned (.int .i64 (-1)))) := .inr ⟨rfl,fun j hj => hT.out j (by have := HN.out; omega)⟩
   clear hT
   go_wp2_with fail
   go_ret
   exact ⟨HF.out,hbel⟩
def KI (p : Int -> Bool) (l L : List Int) (i j : Nat) : Prop := L.length = l.length /\ i < j /\ j <= l.length /\ L.take i = (l.take j).filter (fun x => !p x) /\ ∀ t,j <= t -> L.getD t 0 = l.getD t 0
theorem KI.start {p : Int -> Bool} {l : List Int} {k : Nat} (hk : k < l.length) (h1 : p (l.getD k 0) = true) (h2 : ∀ j,j < k -> p (l.getD j 0) = false) : KI p l l k (k + 1) := by
 refine ⟨rfl,by omega,by omega,?_,fun t _ => rfl⟩
 have e : l.getD k 0 = l[k] := by simp [hk]
 rw [List.take_succ_eq_append_getElem hk,List.filter_append,List.filter_cons_of_neg (by rw [<- e,h1]; simp),List.filter_nil,List.append_nil]
 symm
 rw [List.filter_eq_self]
 intro x hx
 obtain ⟨j,hj,rfl⟩ := List.getElem_of_mem hx
 rw [List.length_take] at hj
 have := h2 j (by omega)
 rw [List.getElem_take]
 rw [show l.getD j 0 = l[j] by simp [show j < l.length by omega]] at this
 rw [this]
 rfl
theorem KI.skip {p : Int -> Bool} {l L : List Int} {i j : Nat} (h : KI p l L i j) (hj : j < l.length) (h1 : p (l.getD j 0) = true) : KI p l L i (j + 1) := by
 obtain ⟨a1,a2,a3,a4,a5⟩ := h
 refine ⟨a1,by omega,by omega,?_,fun t ht => a5 t (by omega)⟩
 have e : l.getD j 0 = l[j] := by simp [hj]
 rw [List.take_succ_eq_append_getElem hj,List.filter_append,List.filter_cons_of_neg (by rw [<- e,h1]; simp),List.filter_nil,List.append_nil]
 exact a4
theorem KI.keep {p : Int -> Bool} {l L : List Int} {i j : Nat} (h : KI p l L i j) (hj : j < l.length) (h1 : p (l.getD j 0) = false) : KI p l (L.set i (l.getD j 0)) (i + 1) (j + 1) := by
 obtain ⟨a1,a2,a3,a4,a5⟩ := h
 refine ⟨by simp [a1],by omega,by omega,?_,fun t ht => ?_⟩
 ·have e : l.getD j 0 = l[j] := by simp [hj]
  rw [List.take_succ_eq_append_getElem hj,List.filter_append,List.filter_cons_of_pos (by rw [<- e,h1]; rfl),List.filter_nil,<- a4,e,List.take_succ_eq_append_getElem (by simp [a1]; omega),List.take_set_of_le (Nat.le_refl _)]
  simp
 ·have := a5 t (by omega)
  simp only [List.getD_eq_getElem?_getD] at *
  rw [List.getElem?_set_ne (by omega)]
  exact this
end Go.Proofs.YtcncbjknfcjnmaaGreat.Tp
namespace Go.Proofs.YtcncbjknfcjnmaaGreat.Tp
open Go.ChangeShapes Go.WideShapes Go.ChangeAt Go.RowKit
theorem own_setCells {N E s n cap g : Nat} (vs : List Value) : ∀ (w : World) (o : Nat) (xs : List Value),w.ownsRow N E s (.slice (some ⟨g,0,none⟩) n cap) n xs -> ∃ ys,(w.setCells g o vs).ownsRow N E s (.slice (some ⟨g,0,none⟩) n cap) n ys /\ ys.take o = xs.take o := by
 induction vs with
 | nil => intro w o xs h; exact ⟨xs,h,rfl⟩
 | cons v r ih =>
  intro w o xs h
  obtain ⟨ys,h1,h2⟩ := ih (w.setCell ⟨g,o,none⟩ v) (o + 1) (xs.set o v) (h.stored o v).1
  refine ⟨ys,h1,?_⟩
  have := congrArg (List.take o) h2
  rw [List.take_take,List.take_take,Nat.min_eq_left (by omega),List.take_set_of_le (Nat.le_refl _)] at this
  exact this
theorem below_setCells {N g : Nat} {w0 : World} (hg : N <= g) (vs : List Value) : ∀ (w : World) (o : Nat),Below N w0 w -> Below N w0 (w.setCells g o vs) := by
 induction vs with
 | nil => intro w o h; exact h
 | cons v r ih => intro w o h; exact ih _ _ (h.setCell (p := ⟨g,o,none⟩) hg v)
theorem own_shorten {w : World} {N E n m cap g : Nat} {xs : List Value} (h : w.ownsRow N E 1 (.slice (some ⟨g,0,none⟩) n cap) n xs) (hm : m <= n) : w.ownsRow N E 1 (.slice (some ⟨g,0,none⟩) m cap) m (xs.take m) := by
 have hx := h.1
 rcases h.2 with ⟨e,_⟩ | ⟨g',cap',cur,hv,hB,hh,hcc,hcm,hcs,ht⟩
 ·simp at e
 ·injection hv with h1 h2 h3
  injection h1 with h1
  injection h1 with h1
  subst h1 h3
  refine ⟨by rw [List.length_take]; omega,.inr ⟨g,cap,cur,rfl,hB,hh,by omega,hcm,hcs,?_⟩⟩
  rw [<- ht,List.take_take,Nat.mul_one,Nat.min_eq_left (by omega)]
theorem intCells_take (l : List Int) (k : Nat) : (intCells l).take k = intCells (l.take k) := by simp [intCells,List.map_take]
theorem intCells_set (l : List Int) (k : Nat) (z : Int) : (intCells l).set k (.int .i64 z) = intCells (l.set k z) := by simp [intCells,List.map_set]
set_option maxHeartbeats 1000000 in
set_option maxRecDepth 60000 in
theorem deleteFunc_any (b N : Nat) (w0 : World) (p : Int -> Bool) (hp : ∀ W x,Below N w0 W -> Calls Tryz.prog 87 #[.int .i64 x,.pointer (some ⟨b,0,none⟩)] W fun e w' => e = .returned (.bool (p x)) /\ Below W.heap.size W w') (hN : N <= w0.heap.size)
  (a : Option Addr) (cap : Nat) (l : List Int) (w : World) (hb : Below N w0 w) (hO : IntsOwn N w a cap l) (h64 : l.length <= 64) :
  Calls Tryz.prog 86 #[.slice a l.length cap,.func (.func 87) #[] #[.pointer (some ⟨b,0,none⟩)]] w fun e w' => Below N w0 w' /\ e = .returned (.slice a (l.filter fun x => !p x).length cap) /\ IntsOwn N w' a cap (l.filter fun x => !p x) := by
 have HI : Hid (Calls Tryz.prog 110 #[.slice a l.length cap,.func (.func 87) #[] #[.pointer (some ⟨b,0,none⟩)]] w fun e w' => FirstIs p l e /\ Below w.heap.size w w') := indexFunc_any b N w0 p hp hN a cap l w hb hO.1 h64
 have HP : Hid (∀ W x,Below N w0 W -> Calls Tryz.prog 87 #[.int .i64 x,.pointer (some ⟨b,0,none⟩)] W fun e w' => e = .returned (.bool (p x)) /\ Below W.heap.size W w') := hp
 have HBN : Hid (∀ W,Below w.heap.size w W -> Below N w0 W) := fun W h => hb.trans (h.mono (Nat.le_trans hN hb.size))
 have HO : Hid (w.ownsRow N 3 1 (.slice a l.length cap) l.length (intCells l)) := hO.2
 have h64' : (l.length : Int) <= 64 := by omega
 have HSZ : Hid (N <= w0.heap.size) := hN
 clear hp hO hb h64 hN
 generalize hn : l.length = n at *
 have HN : Hid (l.length = n) := hn
 clear hn
 go_enter Tryz.func86,Tryz.ntmps86
 go_wp2_with fail
 refine HI.out.mono ?_
 rintro e w2 ⟨⟨k,rfl,hk,hy,hno⟩ | ⟨rfl,hno⟩,hb2⟩
 ·have HK : Hid (KI p l l k (k + 1)) := KI.start hk hy hno
  have hkn : k < n := by have := HN.out; omega
  have hk0 : (0 : Int) <= (k : Int) := by omega
  have hk1 : (k : Int) < (n : Int) := by omega
  have hke : ((k : Int) == -1) = false := beq_eq_false_iff_ne.2 (by omega)
  have HO2 : Hid (w2.ownsRow N 3 1 (.slice a n cap) n (intCells l)) := own_below HO.out hb2
  obtain ⟨g,cg,hv,hgB,hgs,hgc⟩ := own_some HO.out (by omega)
  injection hv with hv1 hv2 hv3
  subst hv1 hv3
  have hB2 : Below N w0 w2 := HBN.out w2 hb2
  clear hk hy hno HI HO HBN hgs hb2
  go_wp2_with fail
  go_loopw [5,6] (fun si sj wr => ∃ (i j : Nat) (L : List Int),si = .int .i64 i /\ sj = .int .i64 j /\ i < j /\ j <= n /\ Hid (KI p l L i j) /\ Hid (wr.ownsRow N 3 1 (.slice (some ⟨g,0,none⟩) n cap) n (intCells L)) /\ Below N w0 wr) (fun _ sj _ => n - (intOf sj).toNat)
  case atStart => exact ⟨k,k + 1,l,rfl,by go_num,by omega,by omega,HK,HO2,hB2⟩
  case round =>
   obtain ⟨i,j,L,rfl,rfl,hij,hjn,hK,hO,hB⟩ := hrel
   have hi0 : (0 : Int) <= (i : Int) := by omega
   have hin : (i : Int) < (n : Int) := by omega
   have hj0 : (0 : Int) <= (j : Int) := by omega
   have hjn' : (j : Int) <= (n : Int) := by omega
   have hLl : L.length = n := by have := hK.out.1; have := HN.out; omega
   clear HK HO2 hB2
   by_cases hlt : j < n
   ·have hlt' : (j : Int) < (n : Int) := by omega
    have HH := hK.out.2.2.2.2 j (Nat.le_refl _)
    have x0 := hO.out.cellAt j (by omega)
    rw [show (intCells L)[j]? = some (.int .i64 (l.getD j 0)) by rw [<- HH]; simp [intCells,show j < L.length by omega]] at x0
    have HS : Hid (p (l.getD j 0) = true -> KI p l L i (j + 1)) := fun h => hK.out.skip (by have := HN.out; omega) h
    have HKE : Hid (p (l.getD j 0) = false -> KI p l (L.set i (l.getD j 0)) (i + 1) (j + 1)) := fun h => hK.out.keep (by have := HN.out; omega) h
    have HC : Hid (Calls Tryz.prog 87 #[.int .i64 (l.getD j 0),.pointer (some ⟨b,0,none⟩)] wr fun e w' => e = .returned (.bool (p (l.getD j 0))) /\ Below wr.heap.size wr w') := HP.out wr _ hB
    clear HH hK
    generalize l.getD j 0 = y at *
    generalize hq : p y = q at *
    cases q with
    | true =>
     have HS' : Hid (KI p l L i (j + 1)) := HS.out rfl
     clear HS HKE hq
     go_wp2_with (go_at_call 87; refine HC.out.mono ?_; rintro e w4 ⟨rfl,hb4⟩)
     exact ⟨⟨i,j + 1,L,rfl,by go_num,by omega,by omega,HS',own_below hO.out hb4,hB.trans (hb4.mono (Nat.le_trans HSZ.out hB.size))⟩,by simp [intOf]; omega⟩
    | false =>
     have HS' : Hid (KI p l (L.set i y) (i + 1) (j + 1)) := HKE.out rfl
     clear HS HKE hq
     go_upto_region 9 with (go_at_call 87; refine HC.out.mono ?_; rintro e w4 ⟨rfl,hb4⟩)
     have hO4 := own_below hO.out hb4
     have hB4 : Below N w0 w4 := hB.trans (hb4.mono (Nat.le_trans HSZ.out hB.size))
     have xi := hO4.cellAt i (by omega)
     rw [show (intCells L)[i]? = some (.int .i64 (L.getD i 0)) by simp [intCells,show i < L.length by omega]] at xi
     have fi := hO4.frozenAt i
     have HOS : Hid ((w4.setCell ⟨g,i,none⟩ (.int .i64 y)).ownsRow N 3 1 (.slice (some ⟨g,0,none⟩) n cap) n (intCells (L.set i y))) := by
      rw [<- intCells_set]
      exact (hO4.stored i (.int .i64 y)).1
     have hBS : Below N w0 (w4.setCell ⟨g,i,none⟩ (.int .i64 y)) := hB4.setCell (p := ⟨g,i,none⟩) hgB _
     clear hO4 hO HC
     go_wp2_with fail
     exact ⟨⟨i + 1,j + 1,L.set i y,by go_num,by go_num,by omega,by omega,HS',HOS,hBS⟩,by simp [intOf]; omega⟩
   ·obtain rfl : j = n := by omega
    have hcl : ∀ ty,(Builtin.clear_ #[35] ty #[.slice (some ⟨g,i,none⟩) (j - i) (cap - i)]).run Tryz.prog wr = .ok (.tuple #[]) (wr.setCells g i (List.replicate (j - i) (.int .i64 0))) :=
     fun ty => Lib.run_clear_slice wr _ _ ty _ Tryz.underlying35 Tryz.zeroValue3 rfl rfl g i _ _ (by omega) (fun t ht => by rw [hO.out.cellAt (i + t) (by omega)]; simp [intCells,show i + t < L.length by omega]) (fun t ht => hO.out.frozenAt (i + t))
    obtain ⟨ys,ho1,ho2⟩ := own_setCells (List.replicate (j - i) (.int .i64 0)) wr i (intCells L) hO.out
    have hTk := hK.out.2.2.2.1
    rw [show l.take j = l by rw [<- HN.out,List.take_length]] at hTk
    have hlen : (l.filter fun x => !p x).length = i := by rw [<- hTk,List.length_take]; omega
    have ho3 := own_shorten ho1 (m := i) (by omega)
    rw [ho2,intCells_take,hTk] at ho3
    have HOF : Hid ((wr.setCells g i (List.replicate (j - i) (.int .i64 0))).ownsRow N 3 1 (.slice (some ⟨g,0,none⟩) i cap) i (intCells (l.filter fun x => !p x))) := ho3
    have hBF : Below N w0 (wr.setCells g i (List.replicate (j - i) (.int .i64 0))) := below_setCells hgB _ _ _ hB
    have HLE : Hid ((l.filter fun x => !p x).length = i) := hlen
    clear ho1 ho2 ho3 hTk hlen hO hK
    go_wp2_with fail
    go_ret
    refine ⟨hBF,by rw [HLE.out]; rfl,?_⟩
    unfold IntsOwn
    rw [HLE.out]
    exact ⟨ints_own HOF.out HLE.out.symm,HOF.out⟩
 ·have HFL : Hid ((l.filter fun x => !p x) = l) := by
   unfold Hid
   rw [List.filter_eq_self]
   intro x hx
   obtain ⟨j,hj,rfl⟩ := List.getElem_of_mem hx
   have := hno j hj
   rw [show l.getD j 0 = l[j] by simp [hj]] at this
   rw [this]
   rfl
  have HO2 : Hid (w2.ownsRow N 3 1 (.slice a n cap) n (intCells l)) := own_below HO.out hb2
  have hB2 : Below N w0 w2 := HBN.out w2 hb2
  clear hno HI HO HBN
  go_wp2_with fail
  go_ret
  rw [HFL.out,HN.out]
  refine ⟨hB2,rfl,?_⟩
  unfold IntsOwn
  rw [HN.out]
  exact ⟨ints_own HO2.out HN.out.symm,HO2.out⟩
end Go.Proofs.YtcncbjknfcjnmaaGreat.Tp
namespace Go.Proofs.YtcncbjknfcjnmaaGreat.Tp
open Go.ChangeShapes Go.WideShapes Go.ChangeAt Go.RowKit
theorem ord_is {key : Nat} {l : List Ch} {ids : List Int} (hM : Dr.MayC l) (h : Dr.OrdC key l ids) : ids = ordF key l := by
 rcases h with ⟨_,s,hp,hs,rfl⟩ | ⟨h,_⟩
 ·exact (Dr.sel_eq (Dr.costOf key) s l l.length (Dr.may_rise hM) (Dr.may_w hM) hp.symm hs (by rw [hp.length_eq]; exact Dr.heavy_len l)).symm
 ·exact absurd hM h
def OrdP (I : List Int) (w : World) (e : Ending) (w' : World) : Prop := Below w.heap.size w w' /\ ∃ p cap,e = .returned (.slice (some ⟨p,0,none⟩) I.length cap) /\ w.heap.size <= p /\ IntsAt w' (some ⟨p,0,none⟩) I /\ I.length <= 64 /\ I.length <= cap /\ cap <= 64
theorem order_p {key : Nat} {l : List Ch} (hM : Dr.MayC l) (hk : key < 18446744073709551616) (a : Option Addr) (cap : Nat) (w : World) (h : ChsAt w a l.length cap l) : Calls Tryz.prog 147 #[.int .u64 (key : Int),.slice a l.length cap] w fun e w' => OrdP (ordF key l) w e w' :=
 (Dr.order_any key a l.length cap l w hk h).mono fun _ _ ⟨hb,p,c,ids,he,hp,hI,h64,hc,hc2,hO⟩ => by
  obtain rfl := ord_is hM hO
  exact ⟨hb,p,c,he,hp,hI,h64,hc,hc2⟩
structure Kept (n4 : Nat) (w1 w9 wr : World) : Prop where
 below : Below w1.heap.size w1 wr
 size : w9.heap.size <= wr.heap.size
 mid : ∀ k,n4 <= k -> k < w9.heap.size -> wr.heap[k]? = w9.heap[k]?
def Aside (v : Value) (n4 e : Nat) : Prop := ∀ k,v.ownBlock = some k -> k < n4 ∨ e <= k
theorem Kept.cell {n4 : Nat} {w1 w9 wr : World} (h : Kept n4 w1 w9 wr) {b i : Nat} (h1 : n4 <= b) (h2 : b < w9.heap.size) : wr.cell? ⟨b,i,none⟩ = w9.cell? ⟨b,i,none⟩ := World.cell?_of_block (h.mid b h1 h2)
theorem Kept.step {n4 : Nat} {w1 w9 wr wB w7 : World} (h : Kept n4 w1 w9 wr) (hb : Below wr.heap.size wr wB) {v v' : Value} {T : TypeId} {n : Nat} {xs : List Value} (hown : wB.ownsRow w1.heap.size T 3 v n xs) (ha : Aside v n4 w9.heap.size) (hg : wB.grownBy w7 v.ownBlock) (hv : v'.ownBlock = v.ownBlock ∨ v'.ownBlock = some wB.heap.size) : Kept n4 w1 w9 w7 /\ Aside v' n4 w9.heap.size := by
 have hs1 := hb.size
 have hs2 := hg.size
 have hs3 := h.size
 have hs4 := h.below.size
 refine ⟨⟨(below2 h.below hb).grown hg (by omega) (fun k hk => (hown.lt k hk).1),by omega,fun k h1 h2 => ?_⟩,fun k hk => ?_⟩
 ·rw [hg.block k (by omega) (fun e => by rcases ha k e.symm with h3 | h3 <;> omega),hb.block k (by omega)]
  exact h.mid k h1 h2
 ·rcases hv with e | e
  ·exact ha k (by rw [<- e]; exact hk)
  ·rw [e] at hk
   injection hk with hk
   right
   omega
theorem infoSp : (Tryz.prog.info? 143).map (fun i => (i.zero,i.size,i.bytes)) = some (some (.agg #[.int .i64 0,.int .i64 0,.int .i64 0]),3,24) := by kernel_rfl
def HandPost (out : List Sp) (w : World) (e : Ending) (w' : World) : Prop := Below w.heap.size w w' /\ ∃ a cap,e = .returned (.slice a out.length cap) /\ HandAt w' a out
theorem choose_take (ls : List Nd) (g lev : Int) (n : Nat) {H : List Sp} {k : Nat} (h : k < H.length) : chooseP ls g lev n (H.take (k + 1)) = chooseP ls g lev n (H.take k) ++ chosen1 ls g lev n (H.getD k ld0) := by
 unfold chooseP
 rw [List.take_succ_eq_append_getElem h,List.flatMap_append,show H.getD k ld0 = H[k] by simp [h],List.flatMap_cons,List.flatMap_nil,List.append_nil]
theorem ids_take {I : List Int} {f : Int -> Sp} {out : List Sp} {q : Nat} (h : q < I.length) : out ++ (I.take (q + 1)).map f = (out ++ (I.take q).map f) ++ [f (I.getD q 0)] := by
 rw [List.take_succ_eq_append_getElem h,List.map_append,show I.getD q 0 = I[q] by simp [h],List.append_assoc]
 rfl
set_option maxHeartbeats 4000000 in
set_option maxRecDepth 60000 in
theorem choose_any {a : Option Addr} {len cap : Nat} {ls : List Nd} (hM : MayN ls) (w : World) (h : NdsAt w a len cap ls) (kind g lev : Int) (n : Nat) (h12 : n <= 12) (aH : Option Addr) (capH : Nat) (H : List Sp) (hH : HandAt w aH H) (hm12 : H.length <= 12) (hz : lev = 2 -> ∀ x ∈ H,x.1 ≠ 0) :
  Calls Tryz.prog 122 #[.slice a len cap,.agg #[.int .i64 kind,.int .i64 lev,.int .i64 (n : Int)],.int .i64 g,.slice aH H.length capH] w fun e w' => HandPost (chooseP ls g lev n H) w e w' := by
 have hb1 : Below w.heap.size w (w.alloc (.cells #[.int .i64 kind,.int .i64 lev,.int .i64 (n : Int)] 121)) := below_alloc _ _
 have hs1 : w.heap.size < (w.alloc (.cells #[.int .i64 kind,.int .i64 lev,.int .i64 (n : Int)] 121)).heap.size := by simp
 have HX : Hid ((w.alloc (.cells #[.int .i64 kind,.int .i64 lev,.int .i64 (n : Int)] 121)).cell? ⟨w.heap.size,1,none⟩ = some (.int .i64 lev) /\ (w.alloc (.cells #[.int .i64 kind,.int .i64 lev,.int .i64 (n : Int)] 121)).cell? ⟨w.heap.size,2,none⟩ = some (.int .i64 (n : Int))) := ⟨by simp,by simp⟩
 have HL : Hid (NdsAt (w.alloc (.cells #[.int .i64 kind,.int .i64 lev,.int .i64 (n : Int)] 121)) a len cap ls) := h.below hb1
 have HH : Hid (HandAt (w.alloc (.cells #[.int .i64 kind,.int .i64 lev,.int .i64 (n : Int)] 121)) aH H) := hH.below hb1
 have HM : Hid (MayN ls) := hM
 have HZ : Hid (lev = 2 -> ∀ x ∈ H,x.1 ≠ 0) := hz
 obtain ⟨i0,hi,hz0,hz1,hz2⟩ := info_parts infoSp
 have hmI : (H.length : Int) <= 12 := by omega
 have hnI : (n : Int) <= 12 := by omega
 have HTK : Hid (chooseP ls g lev n (H.take H.length) = chooseP ls g lev n H) := by unfold Hid; rw [List.take_length]
 have HST : Hid (∀ k,k < H.length -> chooseP ls g lev n (H.take (k + 1)) = chooseP ls g lev n (H.take k) ++ chosen1 ls g lev n (H.getD k ld0)) := fun k hk => choose_take ls g lev n hk
 clear h hH hM hz h12 hm12
 generalize hm : H.length = m at *
 have HLN : Hid (H.length = m) := hm
 clear hm
 go_enter Tryz.func122,Tryz.ntmps122
 go_wp2_with fail
 generalize w.alloc (.cells #[.int .i64 kind,.int .i64 lev,.int .i64 (n : Int)] 121) = w1 at *
 have H0 : Hid (w1.ownsRow w1.heap.size 143 3 (.slice none 0 0) ([] : List Sp).length (cellsLd [])) := ⟨rfl,.inl ⟨rfl,rfl⟩⟩
 go_loopw [9,17] (fun o i wr => ∃ (k : Nat) (out : List Sp),k <= m /\ i = .int .i64 k /\ Hid (out = chooseP ls g lev n (H.take k)) /\ Hid (out.length <= k * 64) /\ Hid (wr.ownsRow w1.heap.size 143 3 o out.length (cellsLd out)) /\ Below w1.heap.size w1 wr) (fun _ i _ => m - (intOf i).toNat)
 case atStart => exact ⟨0,[],Nat.zero_le _,rfl,rfl,Nat.le_refl _,H0,Below.refl _ _⟩
 case round =>
  obtain ⟨k,out,hk,rfl,hT,hok,hown,hbel⟩ := hrel
  obtain ⟨ao,co,rfl,-⟩ := own_slice hown.out
  by_cases hlt : k < m
  ·have hk1 : (k : Int) < (m : Int) := by omega
   have hk0 : (0 : Int) <= (k : Int) := by omega
   obtain ⟨b,rfl,hbs,e0,e1,e2⟩ := (HH.out.below hbel).get (k := k) (by have := HLN.out; omega)
   have HN : Hid (chooseP ls g lev n (H.take (k + 1)) = out ++ chosen1 ls g lev n (H.getD k ld0)) := by have := HST.out k (by have := HLN.out; omega); rw [<- hT.out] at this; exact this
   have HZK : Hid (lev = 2 -> (H.getD k ld0).1 ≠ 0) := fun e => HZ.out e _ (by
    have hkl : k < H.length := by have := HLN.out; omega
    rw [show H.getD k ld0 = H[k] by simp [hkl]]
    exact List.getElem_mem hkl)
   generalize H.getD k ld0 = x at *
   obtain ⟨x1,x2,x3⟩ := x
   simp only at e0 e1 e2
   have hbA := below2 hbel (below_alloc wr (.cells #[.int .i64 x1,.int .i64 x2,.int .i64 x3] 143))
   have HOA : Hid _ := own_alloc hown.out (.cells #[.int .i64 x1,.int .i64 x2,.int .i64 x3] 143)
   have HAS : Hid (∀ j,(Value.slice ao out.length co).ownBlock = some j -> j < wr.heap.size) := fun j hj => (hown.out.lt j hj).2
   have hszA : wr.heap.size < (wr.alloc (.cells #[.int .i64 x1,.int .i64 x2,.int .i64 x3] 143)).heap.size := by simp
   have hwx := Nat.lt_of_lt_of_le hs1 hbel.size
   obtain ⟨y1,y2⟩ := HX.out
   have HC : Hid (((wr.alloc (.cells #[.int .i64 x1,.int .i64 x2,.int .i64 x3] 143)).cell? ⟨wr.heap.size,0,none⟩ = some (.int .i64 x1) /\ (wr.alloc (.cells #[.int .i64 x1,.int .i64 x2,.int .i64 x3] 143)).cell? ⟨wr.heap.size,1,none⟩ = some (.int .i64 x2) /\ (wr.alloc (.cells #[.int .i64 x1,.int .i64 x2,.int .i64 x3] 143)).cell? ⟨wr.heap.size,2,none⟩ = some (.int .i64 x3)) /\ (wr.alloc (.cells #[.int .i64 x1,.int .i64 x2,.int .i64 x3] 143)).cell? ⟨w.heap.size,1,none⟩ = some (.int .i64 lev)) := ⟨⟨by simp,by simp,by simp⟩,(hbA.cell (p := ⟨w.heap.size,1,none⟩) hs1).trans y1⟩
   have HLA : Hid (NdsAt (wr.alloc (.cells #[.int .i64 x1,.int .i64 x2,.int .i64 x3] 143)) a len cap ls) := HL.out.below hbA
   clear hown hT y1 y2 hbel
   go_wp2_with fail
   generalize hwA : wr.alloc (.cells #[.int .i64 x1,.int .i64 x2,.int .i64 x3] 143) = wA at *
   clear hwA
   generalize hn4 : wr.heap.size = n4 at *
   clear hn4
   have HK : Hid (∀ w',Below wA.heap.size wA w' -> ((w'.cell? ⟨n4,0,none⟩ = some (.int .i64 x1) /\ w'.cell? ⟨n4,1,none⟩ = some (.int .i64 x2) /\ w'.cell? ⟨n4,2,none⟩ = some (.int .i64 x3)) /\ w'.cell? ⟨w.heap.size,1,none⟩ = some (.int .i64 lev) /\ Below wA.heap.size wA w')) := fun w' hb =>
    ⟨⟨(hb.cell (p := ⟨n4,0,none⟩) hszA).trans HC.out.1.1,(hb.cell (p := ⟨n4,1,none⟩) hszA).trans HC.out.1.2.1,(hb.cell (p := ⟨n4,2,none⟩) hszA).trans HC.out.1.2.2⟩,(hb.cell (p := ⟨w.heap.size,1,none⟩) (Nat.lt_trans hwx hszA)).trans HC.out.2,hb⟩
   have H33 : Hid (∀ w' : World,Calls Tryz.prog 148 #[.int .i64 g,.int .i64 lev,.agg #[.int .i64 x1,.int .i64 x2,.int .i64 x3]] w' fun e w'' => e = .returned (.int .u64 ((keyOf g lev x1 x2 : Nat) : Int)) /\ Below w'.heap.size w' w'') := key_any g lev x1 x2 x3
   have H34 : Hid (∀ w',Below wA.heap.size wA w' -> Calls Tryz.prog 149 #[.slice a len cap,.int .i64 lev,.agg #[.int .i64 x1,.int .i64 x2,.int .i64 x3]] w' fun e w'' => ChPost (childrenOf ls lev x1 x2) w' e w'') := fun w' hb => children_any HM.out x3 HZK.out w' (HLA.out.below hb)
   have H32 : Hid (∀ (w' : World) (a' : Option Addr) (c' : Nat),ChsAt w' a' (childrenOf ls lev x1 x2).length c' (childrenOf ls lev x1 x2) -> Calls Tryz.prog 147 #[.int .u64 ((keyOf g lev x1 x2 : Nat) : Int),.slice a' (childrenOf ls lev x1 x2).length c'] w' fun e w'' => OrdP (ordF (keyOf g lev x1 x2) (childrenOf ls lev x1 x2)) w' e w'') := fun w' a' c' hc => order_p (children_may HM.out _ _ _) (keyOf_lt _ _ _ _) a' c' w' hc
   have HNX : Hid (chooseP ls g lev n (H.take (k + 1)) = out ++ ((ordF (keyOf g lev x1 x2) (childrenOf ls lev x1 x2)).take n).map (childOf (x1,x2,x3) lev)) := HN.out
   clear HN
   have HSW : Hid (∀ w' : World,∀ a' c',ChsAt w' a' (childrenOf ls lev x1 x2).length c' (childrenOf ls lev x1 x2) -> ∀ w'',Below w'.heap.size w' w'' -> ChsAt w'' a' (childrenOf ls lev x1 x2).length c' (childrenOf ls lev x1 x2)) := fun w' a' c' h w'' hb => h.below hb
   generalize childrenOf ls lev x1 x2 = C at *
   generalize keyOf g lev x1 x2 = q at *
   generalize ordF q C = I at *
   go_region_held3 (fun w' => (w'.cell? ⟨n4,0,none⟩ = some (.int .i64 x1) /\ w'.cell? ⟨n4,1,none⟩ = some (.int .i64 x2) /\ w'.cell? ⟨n4,2,none⟩ = some (.int .i64 x3)) /\ w'.cell? ⟨w.heap.size,1,none⟩ = some (.int .i64 lev) /\ Below wA.heap.size wA w')
    (first | exact HK.out _ (below_drew _) | (go_split_ands; exact HK.out _ (by assumption)) | (go_split_ands; exact HK.out _ (below2 (by assumption) (by assumption))))
    ((first
     | (go_at_call 148; refine (H33.out _).mono ?_; rintro en w6 ⟨rfl,hb6⟩)
     | (go_at_call 149; refine (H34.out _ (by go_split_ands; assumption)).mono ?_; rintro en w7 ⟨hb7,a7,c7,rfl,hc7⟩; have HC7 : Hid (ChsAt w7 a7 C.length c7 C) := hc7; clear hc7)
     | (go_at_call 147; refine (H32.out _ _ _ (by first | exact HC7.out | exact HSW.out _ _ _ HC7.out _ (by assumption))).mono ?_; rintro en w8 ⟨hb8,p,c8,rfl,hp,hI,h64,hcc,hc64⟩)))
   all_goals
    have hbR : Below wA.heap.size wA w8 := by first | exact below2 (below_drew wA) (below2 hb6 (below2 hb7 hb8)) | exact below2 (below_drew wA) (below2 hb7 (below2 hb6 hb8))
    have hpn : n4 < p := by
     have hq1 : wA.heap.size <= p := by first | exact Nat.le_trans (below2 (below_drew wA) (below2 hb6 hb7)).size hp | exact Nat.le_trans (below2 (below_drew wA) (below2 hb7 hb6)).size hp
     omega
    have HIN : Hid (IntsAt w8 (some ⟨p,0,none⟩) I) := hI
    clear hb6 hb7 hb8 hI hp HC7 H32 H33 H34 HSW
    obtain ⟨⟨z0,z1,z2⟩,z3,-⟩ := HK.out w8 hbR
    have HSP : Hid (w8.cell? ⟨n4,0,none⟩ = some (.int .i64 x1) /\ w8.cell? ⟨n4,1,none⟩ = some (.int .i64 x2) /\ w8.cell? ⟨n4,2,none⟩ = some (.int .i64 x3)) := ⟨z0,z1,z2⟩
    have hb8 : Below w1.heap.size w1 w8 := below2 hbA hbR
    have z4 : w8.cell? ⟨w.heap.size,2,none⟩ = some (.int .i64 (n : Int)) := (hb8.cell (p := ⟨w.heap.size,2,none⟩) hs1).trans HX.out.2
    have HO8 : Hid (w8.ownsRow w1.heap.size 143 3 (.slice ao out.length co) out.length (cellsLd out)) := own_below HOA.out hbR
    have HKP : Hid (Kept n4 w1 w8 w8) := ⟨hb8,Nat.le_refl _,fun _ _ _ => rfl⟩
    have HA8 : Hid (Aside (.slice ao out.length co) n4 w8.heap.size) := fun j hj => .inl (HAS.out j hj)
    have hn48 : n4 < w8.heap.size := Nat.lt_of_lt_of_le hszA hbR.size
    have hxs8 : w.heap.size < w8.heap.size := Nat.lt_of_lt_of_le hs1 hb8.size
    obtain ⟨j,hj⟩ : ∃ j : Nat,j = min n I.length := ⟨_,rfl⟩
    have hmin : min (n : Int) (I.length : Int) = (j : Int) := by omega
    have hjc : (j : Int) <= (c8 : Int) := by omega
    have hj0 : (0 : Int) <= (j : Int) := by omega
    have hj12 : (j : Int) <= 12 := by omega
    have HJI : Hid (j <= I.length) := by unfold Hid; omega
    have HJT : Hid (I.take n = I.take j) := by
     unfold Hid
     by_cases hc : n <= I.length
     ·rw [show j = n by omega]
     ·rw [List.take_of_length_le (by omega),List.take_of_length_le (by omega)]
    have HO768 : Hid (out.length <= 768) := by unfold Hid; have := hok.out; omega
    clear HK HOA HAS hbR hbA HC HLA z0 z1 z2 hj hszA h64
    generalize hIL : I.length = il at *
    have HIL : Hid (I.length = il) := hIL
    clear hIL
    go_wp2_with fail
    go_loopw [9,40] (fun o i wq => ∃ (t : Nat) (o2 : List Sp),t <= j /\ i = .int .i64 t /\ Hid (o2 = out ++ (I.take t).map (childOf (x1,x2,x3) lev)) /\ Hid (o2.length = out.length + t) /\ Hid (wq.ownsRow w1.heap.size 143 3 o o2.length (cellsLd o2)) /\ Hid (Aside o n4 w8.heap.size) /\ Hid (Kept n4 w1 w8 wq)) (fun _ i _ => j - (intOf i).toNat)
    case atStart => exact ⟨0,out,Nat.zero_le _,rfl,(by unfold Hid; simp),rfl,HO8,HA8,HKP⟩
    case round =>
     obtain ⟨t,o2,ht,rfl,hT2,hL2,hown2,has2,hkp2⟩ := hrel
     obtain ⟨ao2,co2,rfl,-⟩ := own_slice hown2.out
     by_cases hlt2 : t < j
     ·have ht1 : (t : Int) < (j : Int) := by omega
      have ht0 : (0 : Int) <= (t : Int) := by omega
      have hti : t < I.length := by have := HJI.out; have := HIL.out; omega
      have HCELL : Hid (wr.cell? ⟨p,t,none⟩ = some (.int .i64 (I.getD t 0))) := by
       rcases HIN.out with h0 | ⟨p',hpe,hp8,hci⟩
       ·rw [h0] at hti; simp at hti
       ·injection hpe with hpe
        injection hpe with hpe
        subst hpe
        exact (hkp2.out.cell (Nat.le_of_lt hpn) hp8).trans (hci t hti)
      have u0 := (hkp2.out.cell (i := 0) (Nat.le_refl _) hn48).trans HSP.out.1
      have u1 := (hkp2.out.cell (i := 1) (Nat.le_refl _) hn48).trans HSP.out.2.1
      have u2 := (hkp2.out.cell (i := 2) (Nat.le_refl _) hn48).trans HSP.out.2.2
      have u3 := (hkp2.out.below.cell (p := ⟨w.heap.size,1,none⟩) hs1).trans HX.out.1
      have u4 := HCELL.out
      have HT3 : Hid (out ++ (I.take (t + 1)).map (childOf (x1,x2,x3) lev) = o2 ++ [childOf (x1,x2,x3) lev (I.getD t 0)]) := by
       unfold Hid
       rw [hT2.out]
       exact ids_take hti
      have HCH : Hid (∀ W : World,Calls Tryz.prog 150 #[.agg #[.int .i64 x1,.int .i64 x2,.int .i64 x3],.int .i64 lev,.int .i64 (I.getD t 0)] W fun e w' => e = .returned (.agg #[.int .i64 (childOf (x1,x2,x3) lev (I.getD t 0)).1,.int .i64 (childOf (x1,x2,x3) lev (I.getD t 0)).2.1,.int .i64 (childOf (x1,x2,x3) lev (I.getD t 0)).2.2]) /\ Below W.heap.size W w') := child_any x1 x2 x3 lev _
      clear HCELL hT2 hti
      generalize childOf (x1,x2,x3) lev (I.getD t 0) = y at *
      generalize I.getD t 0 = id at *
      obtain ⟨y1,y2,y3⟩ := y
      simp only at HCH
      have hn4q : n4 < wr.heap.size := Nat.lt_of_lt_of_le hn48 hkp2.out.size
      go_wp2_with fail
      refine (HCH.out _).mono ?_
      rintro e w6 ⟨rfl,hb6⟩
      have hownB := own_alloc (own_below hown2.out hb6) (.cells #[.int .i64 y1,.int .i64 y2,.int .i64 y3] 143)
      have hnews := cells_lit w6 (ldCells (y1,y2,y3)) 143
      have hw4 : w6.alloc (.cells (ldCells (y1,y2,y3)).toArray 143) = w6.alloc (.cells #[.int .i64 y1,.int .i64 y2,.int .i64 y3] 143) := rfl
      rw [hw4] at hnews
      have hbq : Below wr.heap.size wr (w6.alloc (.cells #[.int .i64 y1,.int .i64 y2,.int .i64 y3] 143)) := below2 hb6 (below_alloc _ _)
      have hszq : w1.heap.size <= (w6.alloc (.cells #[.int .i64 y1,.int .i64 y2,.int .i64 y3] 143)).heap.size := Nat.le_trans hkp2.out.below.size hbq.size
      have hl780 : (o2.length : Int) <= 780 := by have := hL2.out; have := HO768.out; omega
      clear hw4 HCH u0 u1 u2 u3 u4
      go_wp2_with (at_builtin; refine wpList_append_own_at _ rfl _ _ 141 rfl w1.heap.size 143 i0 (.agg #[.int .i64 0,.int .i64 0,.int .i64 0]) 3 24 Tryz.underlying141 hi hz0 hz1 hz2 rfl (by decide) _ _ _ rfl hownB ⟨w6.heap.size,0,none⟩ 1 1 (ldCells (y1,y2,y3)) rfl rfl hnews (by intro u hu; simp [ldCells] at hu; rcases hu with rfl | rfl | rfl <;> rfl) (by unfold maxLen; omega) (by omega) hszq ?_)
      intro v7 w7 hown7' hg7 _ hv7
      have e6 : (w6.alloc (.cells #[.int .i64 y1,.int .i64 y2,.int .i64 y3] 143)).heap.size = w6.heap.size + 1 := by simp
      obtain ⟨hkp7,has7⟩ := hkp2.out.step hbq hownB has2.out hg7 (by rw [e6]; exact hv7)
      clear e6
      have HO7 : Hid (w7.ownsRow w1.heap.size 143 3 v7 (o2 ++ [(y1,y2,y3)]).length (cellsLd (o2 ++ [(y1,y2,y3)]))) := by
       rw [cellsLd_snoc,List.length_append]
       exact hown7'
      have HKP7 : Hid (Kept n4 w1 w8 w7) := hkp7
      have HAS7 : Hid (Aside v7 n4 w8.heap.size) := has7
      have HL7 : Hid ((o2 ++ [(y1,y2,y3)]).length = out.length + (t + 1)) := by unfold Hid; rw [List.length_append,hL2.out]; rfl
      clear hown7' hg7 hownB hnews hv7 hkp7 has7 hbq hszq hb6
      go_wp2_with fail
      exact ⟨⟨t + 1,o2 ++ [(y1,y2,y3)],by omega,by go_num,HT3.out.symm,HL7,HO7,HAS7,HKP7⟩,by simp [intOf]; omega⟩
     ·obtain rfl : t = j := by omega
      have HE : Hid (o2 = chooseP ls g lev n (H.take (k + 1))) := by unfold Hid; rw [HNX.out,HJT.out,hT2.out]
      have HL3 : Hid (o2.length <= (k + 1) * 64) := by unfold Hid; have := hL2.out; have := hok.out; omega
      have hbq := hkp2.out.below
      clear hT2 hL2 has2 hkp2
      go_wp2_with fail
      exact ⟨⟨k + 1,o2,by omega,by go_num,HE,HL3,hown2,hbq⟩,by simp [intOf]; omega⟩
  ·obtain rfl : k = m := by omega
   have HE : Hid (out = chooseP ls g lev n H) := by unfold Hid; rw [hT.out,<- HTK.out]
   have HI : Hid (HandAt wr ao out) := hand_own hown.out rfl
   have hbw : Below w.heap.size w wr := below2 hb1 hbel
   clear hown hT
   go_wp2_with fail
   go_ret
   rw [<- HE.out]
   exact ⟨hbw,ao,co,rfl,HI.out⟩
end Go.Proofs.YtcncbjknfcjnmaaGreat.Tp
