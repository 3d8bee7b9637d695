/-
  The contracts of node's comparison, of the search among nodes, and of node.
  The contracts of temp's comparison, of the search among Temps, and of temp.
  The closure of the sort, found in this program.
  The contract of the sort over loads: the same loads, by rising numbers.
-/
import Derived.Test.YtcncbjknfcjnmaaGreatPr02
import Derived.Deep.Cut
import Derived.Shelf.SlSortCmp.SmallK
import Derived.Shelf.Small.Bits
import Derived.Test.YtcncbjknfcjnmaaGreatProg
import Derived.Lib.Builder
namespace Go.Proofs.YtcncbjknfcjnmaaGreat.Tp
open Go.ChangeShapes Go.WideShapes Go.ChangeAt Go.RowKit
theorem nodeCmp (x : Nd) (i : Int) (w : World) : Calls Tryz.prog 90 #[.agg (ndCells x).toArray,.int .i64 i] w fun e w' => e = .returned (.int .i64 (cmpI x.id i)) /\ Grown w w' := by
 obtain ⟨c1,c2,c3,c4,c5,c6⟩ := x
 have H : Hid (∀ w : World,Calls Tryz.prog 91 #[.int .i64 c1,.int .i64 i] w fun e w' => e = .returned (.int .i64 (cmpI c1 i)) /\ w' = w) := cmpInt_any c1 i
 show Calls Tryz.prog 90 #[.agg #[.int .i64 c1,.int .i64 c2,.int .i64 c3,.int .i64 c4,.bool c5,.bool c6],.int .i64 i] w fun e w' => e = .returned (.int .i64 (cmpI c1 i)) /\ Grown w w'
 generalize cmpI c1 i = r at *
 go_enter Tryz.func90,Tryz.ntmps90
 go_wp2_with (go_at_call 91; refine (H.out _).mono ?_; rintro e w' ⟨rfl,hw'⟩; obtain rfl := hw'.symm)
 go_ret
 exact ⟨rfl,grown_alloc _ _⟩
def SrchIs (keys : List Int) (id : Int) (p : Nat) (t : Bool) : Prop := p <= keys.length /\ (∀ j,j < p -> keys.getD j 0 < id) /\ (∀ j,p <= j -> j < keys.length -> id <= keys.getD j 0) /\ (t = true ↔ p < keys.length /\ keys.getD p 0 = id)
def SrchPost (keys : List Int) (id : Int) (w : World) (e : Ending) (w' : World) : Prop := Below w.heap.size w w' /\ ∃ (p : Nat) (t : Bool),e = .returned (.tuple #[.int .i64 (p : Int),.bool t]) /\ SrchIs keys id p t
def SrchPostG (keys : List Int) (id : Int) (w : World) (e : Ending) (w' : World) : Prop := Grown w w' /\ ∃ (p : Nat) (t : Bool),e = .returned (.tuple #[.int .i64 (p : Int),.bool t]) /\ SrchIs keys id p t
def Rising (keys : List Int) : Prop := ∀ i j,i < j -> j < keys.length -> keys.getD i 0 < keys.getD j 0
set_option maxHeartbeats 1000000 in
set_option maxRecDepth 60000 in
theorem srchNode (a : Option Addr) (len cap : Nat) (ls : List Nd) (id : Int) (w : World) (h : NdsAt w a len cap ls) (h12 : len <= 12) (hR : Rising (ls.map (·.id))) :
  Calls Tryz.prog 89 #[.slice a len cap,.int .i64 id,.func (.func 90) #[] #[]] w fun e w' => SrchPostG (ls.map (·.id)) id w e w' := by
 have hl : ls.length = len := h.1
 have h12' : (len : Int) <= 12 := by omega
 have HL : Hid (NdsAt w a len cap ls) := h
 have HR : Hid (Rising (ls.map (·.id))) := hR
 have HKL : Hid ((ls.map (·.id)).length = len) := by unfold Hid; simp [hl]
 have HK : Hid (∀ k,k < len -> (ls.map (·.id)).getD k 0 = (ls.getD k nd0).id) := fun k hk => by simp [show k < ls.length by omega]
 clear h hR h12
 generalize ls.map (·.id) = keys at *
 go_enter Tryz.func89,Tryz.ntmps89
 go_wp2_with fail
 go_loopw [9,10] (fun i j wr => ∃ p q : Nat,p <= q /\ q <= len /\ i = .int .i64 p /\ j = .int .i64 q /\ Hid (∀ t,t < p -> keys.getD t 0 < id) /\ Hid (∀ t,q <= t -> t < len -> id <= keys.getD t 0) /\ Grown w wr) (fun i j _ => (intOf j).toNat - (intOf i).toNat)
 case atStart => exact ⟨0,len,Nat.zero_le _,Nat.le_refl _,rfl,rfl,(fun t ht => absurd ht (Nat.not_lt_zero _)),(fun t h1 h2 => by omega),grown_refl _⟩
 case round =>
  obtain ⟨p,q,hpq,hq,rfl,rfl,hT1,hT2,hbel⟩ := hrel
  by_cases hlt : p < q
  ·have hlt' : (p : Int) < (q : Int) := by omega
   have hq' : (q : Int) <= 12 := by omega
   have hp0 : (0 : Int) <= (p : Int) := by omega
   go_upto_region 5 with fail
   obtain ⟨h,hh⟩ : ∃ h : Nat,((p : Int) + (q : Int)) / 2 = (h : Int) := ⟨(p + q) / 2,by omega⟩
   rw [hh]
   have hph : p <= h := by omega
   have hhq : h < q := by omega
   clear hh
   have hh0 : (0 : Int) <= (h : Int) := by omega
   have hh1 : (h : Int) < (len : Int) := by omega
   have hh12 : (h : Int) <= 12 := by omega
   obtain ⟨b,off,rfl,hbs,hcell⟩ := (HL.out.below (grown_below hbel)).some (by omega)
   obtain ⟨e0,e1,e2,e3,e4,e5⟩ := hcell h (by omega)
   have HKH := HK.out h (by omega)
   have HUP : Hid (keys.getD h 0 < id -> ∀ t,t < h + 1 -> keys.getD t 0 < id) := fun hk t ht => by
    by_cases h' : t = h
    ·rw [h']; exact hk
    ·exact Int.lt_trans (HR.out t h (by omega) (by have := HKL.out; omega)) hk
   have HDN : Hid (¬ keys.getD h 0 < id -> ∀ t,h <= t -> t < len -> id <= keys.getD t 0) := fun hk t h1 h2 => by
    by_cases h' : t = h
    ·rw [h']; omega
    ·have := HR.out h t (by omega) (by have := HKL.out; omega)
     omega
   rw [HKH] at HUP HDN
   clear HKH hcell
   have HC : Hid (∀ W,Calls Tryz.prog 90 #[.agg (ndCells (ls.getD h nd0)).toArray,.int .i64 id] W fun e w' => e = .returned (.int .i64 (cmpI (ls.getD h nd0).id id)) /\ Grown W w') := nodeCmp _ id
   generalize ls.getD h nd0 = x at *
   obtain ⟨x1,x2,x3,x4,x5,x6⟩ := x
   simp only [ndCells] at *
   by_cases hc : x1 < id
   ·have hcv : cmpI x1 id = -1 := by unfold cmpI; rw [if_pos hc]
    rw [hcv] at HC
    have HUP' : Hid (∀ t,t < h + 1 -> keys.getD t 0 < id) := HUP.out hc
    clear HUP HDN hcv hc
    go_wp2_with (go_at_call 90; refine (HC.out _).mono ?_; rintro e w4 ⟨rfl,hb4⟩)
    exact ⟨⟨h + 1,q,by omega,by omega,by go_num,rfl,HUP',hT2,grown2 hbel hb4⟩,by simp [intOf]; omega⟩
   ·have hcv : ∃ r : Int,cmpI x1 id = r /\ 0 <= r /\ r <= 1 := by unfold cmpI; rw [if_neg hc]; split <;> exact ⟨_,rfl,by decide,by decide⟩
    obtain ⟨r,hr,hr0,hr1⟩ := hcv
    have hrd : decide (r < 0) = false := by simp; omega
    rw [hr] at HC
    have HDN' : Hid (∀ t,h <= t -> t < len -> id <= keys.getD t 0) := HDN.out hc
    clear HUP HDN hr hc
    go_wp2_with (go_at_call 90; refine (HC.out _).mono ?_; rintro e w4 ⟨rfl,hb4⟩)
    exact ⟨⟨p,h,by omega,by omega,rfl,rfl,hT1,HDN',grown2 hbel hb4⟩,by simp [intOf]; omega⟩
  ·obtain rfl : p = q := by omega
   have hp0 : (0 : Int) <= (p : Int) := by omega
   by_cases hpl : p < len
   ·have hpl' : (p : Int) < (len : Int) := by omega
    obtain ⟨b,off,rfl,hbs,hcell⟩ := (HL.out.below (grown_below hbel)).some (by omega)
    obtain ⟨e0,e1,e2,e3,e4,e5⟩ := hcell p hpl
    have HKH := HK.out p hpl
    have HY : Hid (keys.getD p 0 = id -> SrchIs keys id p true) := fun hk => ⟨by have := HKL.out; omega,hT1.out,fun j h1 h2 => hT2.out j h1 (by have := HKL.out; omega),⟨fun _ => ⟨by have := HKL.out; omega,hk⟩,fun _ => rfl⟩⟩
    have HN : Hid (keys.getD p 0 ≠ id -> SrchIs keys id p false) := fun hk => ⟨by have := HKL.out; omega,hT1.out,fun j h1 h2 => hT2.out j h1 (by have := HKL.out; omega),by simp; intro _; simpa using hk⟩
    rw [HKH] at HY HN
    clear HKH hcell hT1 hT2
    have HC : Hid (∀ W,Calls Tryz.prog 90 #[.agg (ndCells (ls.getD p nd0)).toArray,.int .i64 id] W fun e w' => e = .returned (.int .i64 (cmpI (ls.getD p nd0).id id)) /\ Grown W w') := nodeCmp _ id
    generalize ls.getD p nd0 = x at *
    obtain ⟨x1,x2,x3,x4,x5,x6⟩ := x
    simp only [ndCells] at *
    by_cases hc : x1 = id
    ·have hcv : cmpI x1 id = 0 := by unfold cmpI; rw [if_neg (by omega),if_neg (by omega)]
     rw [hcv] at HC
     have HS : Hid (SrchIs keys id p true) := HY.out hc
     clear HY HN hc hcv
     go_wp2_with (go_at_call 90; refine (HC.out _).mono ?_; rintro e w4 ⟨rfl,hb4⟩)
     go_ret2
     exact ⟨grown2 hbel hb4,p,true,rfl,HS.out⟩
    ·have hcv : ∃ r : Int,cmpI x1 id = r /\ (r == 0) = false := by
      unfold cmpI
      by_cases h1 : x1 < id
      ·exact ⟨-1,by rw [if_pos h1],rfl⟩
      ·exact ⟨1,by rw [if_neg h1,if_pos (by omega)],rfl⟩
     obtain ⟨r,hr,hrd⟩ := hcv
     rw [hr] at HC
     have HS : Hid (SrchIs keys id p false) := HN.out hc
     clear HY HN hc hr
     go_wp2_with (go_at_call 90; refine (HC.out _).mono ?_; rintro e w4 ⟨rfl,hb4⟩)
     go_ret2
     exact ⟨grown2 hbel hb4,p,false,rfl,HS.out⟩
   ·have hd : decide (p < len) = false := by simp; omega
    have hd' : decide ((p : Int) < (len : Int)) = false := by simp; omega
    have HS : Hid (SrchIs keys id p false) := ⟨by have := HKL.out; omega,hT1.out,fun j h1 h2 => hT2.out j h1 (by have := HKL.out; omega),by simp; have := HKL.out; omega⟩
    clear hT1 hT2
    go_wp2_with fail
    go_ret2
    exact ⟨hbel,p,false,rfl,HS.out⟩
theorem may_rising {ls : List Nd} (h : MayN ls) : Rising (ls.map (·.id)) := by
 have hs : ∀ d i,i + d + 1 < ls.length -> (ls.getD i nd0).id < (ls.getD (i + d + 1) nd0).id := by
  intro d
  induction d with
  | zero => intro i hi; exact (h.2 (i + 1) hi).2 (by omega)
  | succ d ih =>
   intro i hi
   have h1 := ih i (by omega)
   have h2 := (h.2 (i + (d + 1) + 1) hi).2 (by omega)
   exact Int.lt_trans h1 h2
 intro i j hij hj
 rw [List.length_map] at hj
 have := hs (j - i - 1) i (by omega)
 rw [show i + (j - i - 1) + 1 = j by omega] at this
 simpa [List.getD_eq_getElem?_getD,hj,show i < ls.length by omega] using this
set_option maxRecDepth 60000 in
theorem node_grown (m : Mp) (s : MV) (id : Int) (w : World) (hN : NdsAt w s.aN s.lN s.cN m.nds) (hM : MayN m.nds) : Calls Tryz.prog 68 #[.agg (mapCells m s).toArray,.int .i64 id] w fun e w' => SrchPostG (m.nds.map (·.id)) id w e w' := by
 obtain ⟨ep,sz,mn,gr,nds,tms,trs⟩ := m
 obtain ⟨aN,lN,cN,aT,lT,cT,aR,lR,cR⟩ := s
 simp only at *
 have hb1 := below_alloc w (.cells #[.int .i64 ep,.int .i64 sz,.int .i64 mn,.int .i64 gr,.slice aN lN cN,.slice aT lT cT,.slice aR lR cR] 26)
 have HS : Hid (Calls Tryz.prog 89 #[.slice aN lN cN,.int .i64 id,.func (.func 90) #[] #[]] (w.alloc (.cells #[.int .i64 ep,.int .i64 sz,.int .i64 mn,.int .i64 gr,.slice aN lN cN,.slice aT lT cT,.slice aR lR cR] 26)) fun e w' => SrchPostG (nds.map (·.id)) id (w.alloc (.cells #[.int .i64 ep,.int .i64 sz,.int .i64 mn,.int .i64 gr,.slice aN lN cN,.slice aT lT cT,.slice aR lR cR] 26)) e w') := srchNode aN lN cN nds id _ (hN.below hb1) (by have := hN.1; have := hM.1; omega) (may_rising hM)
 clear hN hM
 show Calls Tryz.prog 68 #[.agg #[.int .i64 ep,.int .i64 sz,.int .i64 mn,.int .i64 gr,.slice aN lN cN,.slice aT lT cT,.slice aR lR cR],.int .i64 id] w fun e w' => SrchPostG (nds.map (·.id)) id w e w'
 go_enter Tryz.func68,Tryz.ntmps68
 go_wp2_with (go_at_call 89; refine HS.out.mono ?_; rintro e w2 ⟨hb2,p,t,rfl,hIs⟩; have HI : Hid (SrchIs (nds.map (·.id)) id p t) := hIs; clear hIs)
 go_ret2
 exact ⟨grown2 (grown_alloc _ _) hb2,p,t,rfl,HI.out⟩
theorem node_any (m : Mp) (s : MV) (id : Int) (w : World) (hN : NdsAt w s.aN s.lN s.cN m.nds) (hM : MayN m.nds) : Calls Tryz.prog 68 #[.agg (mapCells m s).toArray,.int .i64 id] w fun e w' => SrchPost (m.nds.map (·.id)) id w e w' :=
 (node_grown m s id w hN hM).mono fun _ _ ⟨hg,r⟩ => ⟨grown_below hg,r⟩
end Go.Proofs.YtcncbjknfcjnmaaGreat.Tp
namespace Go.Proofs.YtcncbjknfcjnmaaGreat.Tp
open Go.ChangeShapes Go.WideShapes Go.ChangeAt Go.RowKit
theorem tempCmp (g : Int) (a : Option Addr) (len cap : Nat) (i : Int) (w : World) : Calls Tryz.prog 102 #[.agg #[.int .i64 g,.slice a len cap],.int .i64 i] w fun e w' => e = .returned (.int .i64 (cmpI g i)) /\ Below w.heap.size w w' := by
 have H : Hid (∀ w : World,Calls Tryz.prog 91 #[.int .i64 g,.int .i64 i] w fun e w' => e = .returned (.int .i64 (cmpI g i)) /\ w' = w) := cmpInt_any g i
 generalize cmpI g i = r at *
 go_enter Tryz.func102,Tryz.ntmps102
 go_wp2_with (go_at_call 91; refine (H.out _).mono ?_; rintro e w' ⟨rfl,hw'⟩; obtain rfl := hw'.symm)
 go_ret
 exact ⟨rfl,below_alloc _ _⟩
set_option maxHeartbeats 1000000 in
set_option maxRecDepth 60000 in
theorem srchTemp (a : Option Addr) (len cap : Nat) (ls : List Tm) (id : Int) (w : World) (h : TmsAt w a len cap ls) (h12 : len <= 12) (hR : Rising (ls.map (·.g))) :
  Calls Tryz.prog 101 #[.slice a len cap,.int .i64 id,.func (.func 102) #[] #[]] w fun e w' => SrchPost (ls.map (·.g)) id w e w' := by
 have hl : ls.length = len := h.1
 have h12' : (len : Int) <= 12 := by omega
 have HL : Hid (TmsAt w a len cap ls) := h
 have HR : Hid (Rising (ls.map (·.g))) := hR
 have HKL : Hid ((ls.map (·.g)).length = len) := by unfold Hid; simp [hl]
 have HK : Hid (∀ k,k < len -> (ls.map (·.g)).getD k 0 = (ls.getD k tm0).g) := fun k hk => by simp [show k < ls.length by omega]
 clear h hR h12
 generalize ls.map (·.g) = keys at *
 go_enter Tryz.func101,Tryz.ntmps101
 go_wp2_with fail
 go_loopw [9,10] (fun i j wr => ∃ p q : Nat,p <= q /\ q <= len /\ i = .int .i64 p /\ j = .int .i64 q /\ Hid (∀ t,t < p -> keys.getD t 0 < id) /\ Hid (∀ t,q <= t -> t < len -> id <= keys.getD t 0) /\ Below w.heap.size w wr) (fun i j _ => (intOf j).toNat - (intOf i).toNat)
 case atStart => exact ⟨0,len,Nat.zero_le _,Nat.le_refl _,rfl,rfl,(fun t ht => absurd ht (Nat.not_lt_zero _)),(fun t h1 h2 => by omega),Below.refl _ _⟩
 case round =>
  obtain ⟨p,q,hpq,hq,rfl,rfl,hT1,hT2,hbel⟩ := hrel
  by_cases hlt : p < q
  ·have hlt' : (p : Int) < (q : Int) := by omega
   have hq' : (q : Int) <= 12 := by omega
   have hp0 : (0 : Int) <= (p : Int) := by omega
   go_upto_region 5 with fail
   obtain ⟨h,hh⟩ : ∃ h : Nat,((p : Int) + (q : Int)) / 2 = (h : Int) := ⟨(p + q) / 2,by omega⟩
   rw [hh]
   have hph : p <= h := by omega
   have hhq : h < q := by omega
   clear hh
   have hh0 : (0 : Int) <= (h : Int) := by omega
   have hh1 : (h : Int) < (len : Int) := by omega
   have hh12 : (h : Int) <= 12 := by omega
   obtain ⟨b,off,rfl,hbs,hcell⟩ := (HL.out.below hbel).some (by omega)
   obtain ⟨e0,aq,lq,cq,e1,-⟩ := hcell h (by omega)
   have HKH := HK.out h (by omega)
   have HUP : Hid (keys.getD h 0 < id -> ∀ t,t < h + 1 -> keys.getD t 0 < id) := fun hk t ht => by
    by_cases h' : t = h
    ·rw [h']; exact hk
    ·exact Int.lt_trans (HR.out t h (by omega) (by have := HKL.out; omega)) hk
   have HDN : Hid (¬ keys.getD h 0 < id -> ∀ t,h <= t -> t < len -> id <= keys.getD t 0) := fun hk t h1 h2 => by
    by_cases h' : t = h
    ·rw [h']; omega
    ·have := HR.out h t (by omega) (by have := HKL.out; omega)
     omega
   rw [HKH] at HUP HDN
   clear HKH hcell
   have HC : Hid (∀ W,Calls Tryz.prog 102 #[.agg #[.int .i64 (ls.getD h tm0).g,.slice aq lq cq],.int .i64 id] W fun e w' => e = .returned (.int .i64 (cmpI (ls.getD h tm0).g id)) /\ Below W.heap.size W w') := tempCmp _ aq lq cq id
   generalize (ls.getD h tm0).g = x1 at *
   by_cases hc : x1 < id
   ·have hcv : cmpI x1 id = -1 := by unfold cmpI; rw [if_pos hc]
    rw [hcv] at HC
    have HUP' : Hid (∀ t,t < h + 1 -> keys.getD t 0 < id) := HUP.out hc
    clear HUP HDN hcv hc
    go_wp2_with (go_at_call 102; refine (HC.out _).mono ?_; rintro e w4 ⟨rfl,hb4⟩)
    exact ⟨⟨h + 1,q,by omega,by omega,by go_num,rfl,HUP',hT2,below2 hbel hb4⟩,by simp [intOf]; omega⟩
   ·have hcv : ∃ r : Int,cmpI x1 id = r /\ 0 <= r /\ r <= 1 := by unfold cmpI; rw [if_neg hc]; split <;> exact ⟨_,rfl,by decide,by decide⟩
    obtain ⟨r,hr,hr0,hr1⟩ := hcv
    have hrd : decide (r < 0) = false := by simp; omega
    rw [hr] at HC
    have HDN' : Hid (∀ t,h <= t -> t < len -> id <= keys.getD t 0) := HDN.out hc
    clear HUP HDN hr hc
    go_wp2_with (go_at_call 102; refine (HC.out _).mono ?_; rintro e w4 ⟨rfl,hb4⟩)
    exact ⟨⟨p,h,by omega,by omega,rfl,rfl,hT1,HDN',below2 hbel hb4⟩,by simp [intOf]; omega⟩
  ·obtain rfl : p = q := by omega
   have hp0 : (0 : Int) <= (p : Int) := by omega
   by_cases hpl : p < len
   ·have hpl' : (p : Int) < (len : Int) := by omega
    obtain ⟨b,off,rfl,hbs,hcell⟩ := (HL.out.below hbel).some (by omega)
    obtain ⟨e0,aq,lq,cq,e1,-⟩ := hcell p hpl
    have HKH := HK.out p hpl
    have HY : Hid (keys.getD p 0 = id -> SrchIs keys id p true) := fun hk => ⟨by have := HKL.out; omega,hT1.out,fun j h1 h2 => hT2.out j h1 (by have := HKL.out; omega),⟨fun _ => ⟨by have := HKL.out; omega,hk⟩,fun _ => rfl⟩⟩
    have HN : Hid (keys.getD p 0 ≠ id -> SrchIs keys id p false) := fun hk => ⟨by have := HKL.out; omega,hT1.out,fun j h1 h2 => hT2.out j h1 (by have := HKL.out; omega),by simp; intro _; simpa using hk⟩
    rw [HKH] at HY HN
    clear HKH hcell hT1 hT2
    have HC : Hid (∀ W,Calls Tryz.prog 102 #[.agg #[.int .i64 (ls.getD p tm0).g,.slice aq lq cq],.int .i64 id] W fun e w' => e = .returned (.int .i64 (cmpI (ls.getD p tm0).g id)) /\ Below W.heap.size W w') := tempCmp _ aq lq cq id
    generalize (ls.getD p tm0).g = x1 at *
    by_cases hc : x1 = id
    ·have hcv : cmpI x1 id = 0 := by unfold cmpI; rw [if_neg (by omega),if_neg (by omega)]
     rw [hcv] at HC
     have HS : Hid (SrchIs keys id p true) := HY.out hc
     clear HY HN hc hcv
     go_wp2_with (go_at_call 102; refine (HC.out _).mono ?_; rintro e w4 ⟨rfl,hb4⟩)
     go_ret2
     exact ⟨below2 hbel hb4,p,true,rfl,HS.out⟩
    ·have hcv : ∃ r : Int,cmpI x1 id = r /\ (r == 0) = false := by
      unfold cmpI
      by_cases h1 : x1 < id
      ·exact ⟨-1,by rw [if_pos h1],rfl⟩
      ·exact ⟨1,by rw [if_neg h1,if_pos (by omega)],rfl⟩
     obtain ⟨r,hr,hrd⟩ := hcv
     rw [hr] at HC
     have HS : Hid (SrchIs keys id p false) := HN.out hc
     clear HY HN hc hr
     go_wp2_with (go_at_call 102; refine (HC.out _).mono ?_; rintro e w4 ⟨rfl,hb4⟩)
     go_ret2
     exact ⟨below2 hbel hb4,p,false,rfl,HS.out⟩
   ·have hd : decide (p < len) = false := by simp; omega
    have hd' : decide ((p : Int) < (len : Int)) = false := by simp; omega
    have HS : Hid (SrchIs keys id p false) := ⟨by have := HKL.out; omega,hT1.out,fun j h1 h2 => hT2.out j h1 (by have := HKL.out; omega),by simp; have := HKL.out; omega⟩
    clear hT1 hT2
    go_wp2_with fail
    go_ret2
    exact ⟨hbel,p,false,rfl,HS.out⟩
set_option maxRecDepth 60000 in
theorem temp_any (m : Mp) (s : MV) (id : Int) (w : World) (hN : TmsAt w s.aT s.lT s.cT m.tms) (hM : Rising (m.tms.map (·.g))) (h8 : m.tms.length <= 8) : Calls Tryz.prog 82 #[.agg (mapCells m s).toArray,.int .i64 id] w fun e w' => SrchPost (m.tms.map (·.g)) id w e w' := by
 obtain ⟨ep,sz,mn,gr,nds,tms,trs⟩ := m
 obtain ⟨aN,lN,cN,aT,lT,cT,aR,lR,cR⟩ := s
 simp only at *
 have hb1 := below_alloc w (.cells #[.int .i64 ep,.int .i64 sz,.int .i64 mn,.int .i64 gr,.slice aN lN cN,.slice aT lT cT,.slice aR lR cR] 26)
 have HS : Hid (Calls Tryz.prog 101 #[.slice aT lT cT,.int .i64 id,.func (.func 102) #[] #[]] (w.alloc (.cells #[.int .i64 ep,.int .i64 sz,.int .i64 mn,.int .i64 gr,.slice aN lN cN,.slice aT lT cT,.slice aR lR cR] 26)) fun e w' => SrchPost (tms.map (·.g)) id (w.alloc (.cells #[.int .i64 ep,.int .i64 sz,.int .i64 mn,.int .i64 gr,.slice aN lN cN,.slice aT lT cT,.slice aR lR cR] 26)) e w') := srchTemp aT lT cT tms id _ (hN.below hb1) (by have := hN.1; omega) hM
 clear hN hM h8
 show Calls Tryz.prog 82 #[.agg #[.int .i64 ep,.int .i64 sz,.int .i64 mn,.int .i64 gr,.slice aN lN cN,.slice aT lT cT,.slice aR lR cR],.int .i64 id] w fun e w' => SrchPost (tms.map (·.g)) id w e w'
 go_enter Tryz.func82,Tryz.ntmps82
 go_wp2_with (go_at_call 101; refine HS.out.mono ?_; rintro e w2 ⟨hb2,p,t,rfl,hIs⟩; have HI : Hid (SrchIs (tms.map (·.g)) id p t) := hIs; clear hIs)
 go_ret2
 exact ⟨below2 hb1 hb2,p,t,rfl,HI.out⟩
end Go.Proofs.YtcncbjknfcjnmaaGreat.Tp
namespace Go.Proofs.YtcncbjknfcjnmaaGreat.Tp
open Go.Shelf
def Lay.sort_ren : Go.Shelf.Ren := ⟨fun | 6 => 197 | 15 => 118 | 14 => 205 | 28 => 143 | 29 => 144 | 20 => 208 | 21 => 209 | 22 => 210 | 23 => 211 | 24 => 212 | 25 => 213 | 26 => 214 | 27 => 215 | 46 => 216 | 47 => 156 | 48 => 157 | 49 => 217 | 50 => 218 | 57 => 219 | n => n,fun | 22 => 208 | 24 => 212 | 25 => 213 | 3 => 3 | 39 => 131 | 0 => 0 | 53 => 166 | 55 => 127 | 4 => 4 | 46 => 159 | 45 => 158 | 50 => 87 | 5 => 5 | 9 => 9 | 66 => 174 | 70 => 178 | 76 => 191 | 77 => 192 | n => n,fun | n => n⟩
theorem Lay.sort : Go.Proofs.SlLaysF0.n6 Tryz.prog Lay.sort_ren := {
 mixed := by kernel_rfl
 f6 := ⟨Tryz.f197.name,by decide,Tryz.func197.trans (congrArg some (by kernel_rfl))⟩
 f14 := ⟨Tryz.f205.name,by decide,Tryz.func205.trans (congrArg some (by kernel_rfl))⟩
 f15 := Tryz.func118.trans (congrArg some (by kernel_rfl))
 f20 := ⟨Tryz.f208.name,by decide,Tryz.func208.trans (congrArg some (by kernel_rfl))⟩
 f21 := ⟨Tryz.f209.name,by decide,Tryz.func209.trans (congrArg some (by kernel_rfl))⟩
 f22 := ⟨Tryz.f210.name,by decide,Tryz.func210.trans (congrArg some (by kernel_rfl))⟩
 f23 := ⟨Tryz.f211.name,by decide,Tryz.func211.trans (congrArg some (by kernel_rfl))⟩
 f24 := ⟨Tryz.f212.name,by decide,Tryz.func212.trans (congrArg some (by kernel_rfl))⟩
 f25 := ⟨Tryz.f213.name,by decide,Tryz.func213.trans (congrArg some (by kernel_rfl))⟩
 f26 := ⟨Tryz.f214.name,by decide,Tryz.func214.trans (congrArg some (by kernel_rfl))⟩
 f27 := ⟨Tryz.f215.name,by decide,Tryz.func215.trans (congrArg some (by kernel_rfl))⟩
 f28 := Tryz.func143.trans (congrArg some (by kernel_rfl))
 f29 := Tryz.func144.trans (congrArg some (by kernel_rfl))
 f46 := ⟨Tryz.f216.name,by decide,Tryz.func216.trans (congrArg some (by kernel_rfl))⟩
 f47 := Tryz.func156.trans (congrArg some (by kernel_rfl))
 f48 := Tryz.func157.trans (congrArg some (by kernel_rfl))
 f49 := ⟨Tryz.f217.name,by decide,Tryz.func217.trans (congrArg some (by kernel_rfl))⟩
 f50 := ⟨Tryz.f218.name,by decide,Tryz.func218.trans (congrArg some (by kernel_rfl))⟩
 f57 := ⟨Tryz.f219.name,by decide,Tryz.func219.trans (congrArg some (by kernel_rfl))⟩
 t0 := Tryz.underlying0
 a0 := Tryz.isAgg0
 z0 := Tryz.sizeOf0
 v0 := Tryz.zeroValue0
 t3 := Tryz.underlying3
 a3 := Tryz.isAgg3
 z3 := Tryz.sizeOf3
 v3 := Tryz.zeroValue3
 t4 := Tryz.underlying4
 a4 := Tryz.isAgg4
 z4 := Tryz.sizeOf4
 v4 := Tryz.zeroValue4
 t5 := Tryz.underlying5
 a5 := Tryz.isAgg5
 z5 := Tryz.sizeOf5
 v5 := Tryz.zeroValue5
 t9 := Tryz.underlying9
 a9 := Tryz.isAgg9
 z9 := Tryz.sizeOf9
 v9 := Tryz.zeroValue9
 t22 := Tryz.underlying208
 a22 := Tryz.isAgg208
 z22 := Tryz.sizeOf208
 v22 := Tryz.zeroValue208
 t25 := Tryz.underlying213
 a25 := Tryz.isAgg213
 z25 := Tryz.sizeOf213
 v25 := Tryz.zeroValue213
 t39 := Tryz.underlying131
 a39 := Tryz.isAgg131
 z39 := Tryz.sizeOf131
 v39 := Tryz.zeroValue131
 t45 := Tryz.underlying158
 a45 := Tryz.isAgg158
 z45 := Tryz.sizeOf158
 v45 := Tryz.zeroValue158
 t46 := Tryz.underlying159
 a46 := Tryz.isAgg159
 z46 := Tryz.sizeOf159
 v46 := Tryz.zeroValue159
 t50 := Tryz.underlying87
 a50 := Tryz.isAgg87
 z50 := Tryz.sizeOf87
 v50 := Tryz.zeroValue87
 t53 := Tryz.underlying166
 a53 := Tryz.isAgg166
 z53 := Tryz.sizeOf166
 v53 := Tryz.zeroValue166
 t55 := Tryz.underlying127
 a55 := Tryz.isAgg127
 z55 := Tryz.sizeOf127
 v55 := Tryz.zeroValue127
 t66 := Tryz.underlying174
 a66 := Tryz.isAgg174
 z66 := Tryz.sizeOf174
 v66 := Tryz.zeroValue174
 t70 := Tryz.underlying178
 a70 := Tryz.isAgg178
 z70 := Tryz.sizeOf178
 v70 := Tryz.zeroValue178
 t76 := Tryz.underlying191
 a76 := Tryz.isAgg191
 z76 := Tryz.sizeOf191
 v76 := Tryz.zeroValue191
 t77 := Tryz.underlying192
 a77 := Tryz.isAgg192
 z77 := Tryz.sizeOf192
 v77 := Tryz.zeroValue192 }
def Lay.bits_ren : Go.Shelf.Ren := ⟨fun | 125 => 118 | 128 => 143 | 129 => 144 | n => n,fun | 46 => 131 | 3 => 3 | 51 => 166 | 53 => 127 | 4 => 4 | 5 => 5 | 9 => 9 | n => n,fun | n => n⟩
theorem Lay.bits : Go.Proofs.Lays.n125 Tryz.prog Lay.bits_ren := {
 mixed := by kernel_rfl
 f125 := Tryz.func118.trans (congrArg some (by kernel_rfl))
 f128 := Tryz.func143.trans (congrArg some (by kernel_rfl))
 f129 := Tryz.func144.trans (congrArg some (by kernel_rfl))
 t3 := Tryz.underlying3
 a3 := Tryz.isAgg3
 z3 := Tryz.sizeOf3
 v3 := Tryz.zeroValue3
 t4 := Tryz.underlying4
 a4 := Tryz.isAgg4
 z4 := Tryz.sizeOf4
 v4 := Tryz.zeroValue4
 t5 := Tryz.underlying5
 a5 := Tryz.isAgg5
 z5 := Tryz.sizeOf5
 v5 := Tryz.zeroValue5
 t9 := Tryz.underlying9
 a9 := Tryz.isAgg9
 z9 := Tryz.sizeOf9
 v9 := Tryz.zeroValue9
 t46 := Tryz.underlying131
 a46 := Tryz.isAgg131
 z46 := Tryz.sizeOf131
 v46 := Tryz.zeroValue131
 t51 := Tryz.underlying166
 a51 := Tryz.isAgg166
 z51 := Tryz.sizeOf166
 v51 := Tryz.zeroValue166
 t53 := Tryz.underlying127
 a53 := Tryz.isAgg127
 z53 := Tryz.sizeOf127
 v53 := Tryz.zeroValue127 }
end Go.Proofs.YtcncbjknfcjnmaaGreat.Tp
namespace Go.Proofs.YtcncbjknfcjnmaaGreat.Tp
open Go.ChangeShapes Go.WideShapes Go.ChangeAt Go.RowKit
open Go.Sort (SWO PermIn SortedIn)
def ltL (a b : Ld) : Prop := a.1 < b.1 ∨ (a.1 = b.1 /\ a.2.1 < b.2.1)
theorem cfL_lt (a b : Ld) : cfL a b < 0 ↔ ltL a b := by
 unfold cfL ltL orI cmpI
 generalize a.1 = p
 generalize b.1 = q
 generalize a.2.1 = r
 generalize b.2.1 = s
 by_cases h1 : p < q
 ·simp [h1]
 ·by_cases h2 : q < p
  ·simp [h1,h2]; omega
  ·have : p = q := by omega
   subst this
   by_cases h3 : r < s
   ·simp [h3]
   ·by_cases h4 : s < r
    ·simp [h3,h4]
    ·simp [h3,h4]
theorem ltOf_cf (x y : Ld) : ltOf cfL x y = true ↔ ltL x y := by
 unfold ltOf
 rw [decide_eq_true_eq]
 exact cfL_lt x y
theorem ltOf_no (x y : Ld) : ltOf cfL x y = false ↔ ¬ ltL x y := by
 rw [<- ltOf_cf]
 simp
theorem swo : SWO (ltOf cfL) := {
 irrefl := fun x => by rw [ltOf_no]; unfold ltL; omega
 trans := fun x y z h1 h2 => by
  rw [ltOf_cf] at *
  unfold ltL at *
  omega
 ntrans := fun x y z h1 h2 => by
  rw [ltOf_no] at *
  unfold ltL at *
  omega }
def cellsLd (L : List Ld) : List Value := L.flatMap ldCells
theorem cellsLd_snoc (L : List Ld) (c : Ld) : cellsLd (L ++ [c]) = cellsLd L ++ ldCells c := by
 unfold cellsLd; simp
theorem cellsLd_length (L : List Ld) : (cellsLd L).length = L.length * 3 := by
 induction L with
 | nil => rfl
 | cons c L ih => unfold cellsLd at *; rw [List.flatMap_cons,List.length_append,ih]; simp [ldCells]; omega
theorem cellsLd_get (L : List Ld) : ∀ i,i < L.length -> (cellsLd L)[i * 3]? = some (.int .i64 (L.getD i ld0).1) /\ (cellsLd L)[i * 3 + 1]? = some (.int .i64 (L.getD i ld0).2.1) /\ (cellsLd L)[i * 3 + 2]? = some (.int .i64 (L.getD i ld0).2.2) := by
 induction L with
 | nil => intro i h; simp at h
 | cons c L ih =>
  intro i h
  cases i with
  | zero => exact ⟨rfl,rfl,rfl⟩
  | succ i =>
   have h1 := ih i (by simpa using h)
   have e : ∀ j,(cellsLd (c :: L))[(i + 1) * 3 + j]? = (cellsLd L)[i * 3 + j]? := fun j => by
    unfold cellsLd
    rw [List.flatMap_cons,show (i + 1) * 3 + j = (ldCells c).length + (i * 3 + j) from by simp [ldCells]; omega,List.getElem?_append_right (by omega),Nat.add_sub_cancel_left]
   exact ⟨(e 0).trans h1.1,(e 1).trans h1.2.1,(e 2).trans h1.2.2⟩
def LdsAt (w : World) (g : Nat) (L : List Ld) : Prop := ∀ i,i < L.length -> w.cell? ⟨g,i * 3,none⟩ = some (.int .i64 (L.getD i ld0).1) /\ w.cell? ⟨g,i * 3 + 1,none⟩ = some (.int .i64 (L.getD i ld0).2.1) /\ w.cell? ⟨g,i * 3 + 2,none⟩ = some (.int .i64 (L.getD i ld0).2.2)
theorem LdsAt.below {w w' : World} {g : Nat} {L : List Ld} (h : LdsAt w g L) (hg : g < w.heap.size) (hb : Below w.heap.size w w') : LdsAt w' g L := fun i hi => by
 obtain ⟨h0,h1,h2⟩ := h i hi
 exact ⟨(hb.cell (p := ⟨g,i * 3,none⟩) hg).trans h0,(hb.cell (p := ⟨g,i * 3 + 1,none⟩) hg).trans h1,(hb.cell (p := ⟨g,i * 3 + 2,none⟩) hg).trans h2⟩
theorem lds_own {w : World} {B g n cap : Nat} {L : List Ld} (h : w.ownsRow B 212 3 (.slice (some ⟨g,0,none⟩) n cap) n (cellsLd L)) (hn : n = L.length) : LdsAt w g L := fun i hi => by
 obtain ⟨h0,h1,h2⟩ := cellsLd_get L i hi
 exact ⟨(h.cellAt (i * 3) (by omega)).trans h0,(h.cellAt (i * 3 + 1) (by omega)).trans h1,(h.cellAt (i * 3 + 2) (by omega)).trans h2⟩
theorem flat_eq (d : Array Ld) : (Go.Sort.flatK ldCells 3 d).toList = cellsLd d.toList := by
 apply List.ext_getElem?
 intro t
 by_cases ht : t < d.size * 3
 ·have h1 := Go.Sort.get_flatK ldCells 3 d t ht
  have h2 : (Go.Sort.flatK ldCells 3 d).toList[t]? = some (Go.Sort.flatK ldCells 3 d)[t]! := by
   rw [Array.getElem?_toList,getElem!_pos _ t (by simpa using ht),Array.getElem?_eq_getElem (by simpa using ht)]
  rw [h2,h1]
  have hi : t / 3 < d.size := by omega
  have hg := cellsLd_get d.toList (t / 3) (by simpa using hi)
  have eg : d.toList.getD (t / 3) ld0 = d[t / 3] := by simp [hi]
  rw [eg] at hg
  rw [getElem!_pos d (t / 3) hi]
  have hm : t % 3 = 0 ∨ t % 3 = 1 ∨ t % 3 = 2 := by omega
  rcases hm with hm | hm | hm
  ·have e : t = t / 3 * 3 := by omega
   rw [hm]
   rw [<- e] at hg
   rw [hg.1]
   rfl
  ·have e : t = t / 3 * 3 + 1 := by omega
   rw [hm]
   rw [<- e] at hg
   rw [hg.2.1]
   rfl
  ·have e : t = t / 3 * 3 + 2 := by omega
   rw [hm]
   rw [<- e] at hg
   rw [hg.2.2]
   rfl
 ·rw [List.getElem?_eq_none (by simpa using ht),List.getElem?_eq_none (by rw [cellsLd_length]; simpa using ht)]
def SortedL (L : List Ld) : Prop := ∀ i j,i < j -> j < L.length -> ¬ ltL (L.getD j ld0) (L.getD i ld0)
def SortPost (B : Nat) (lv : Value) (L : List Ld) (w w' : World) : Prop := (∃ L' : List Ld,L'.Perm L /\ SortedL L' /\ w'.ownsRow B 212 3 lv L.length (cellsLd L')) /\ w.grownBy w' lv.ownBlock
theorem sorted_of {d d' : Array Ld} (hp : PermIn 0 d.size d d') (hs : SortedIn (ltOf cfL) 0 d.size d') : d'.toList.Perm d.toList /\ SortedL d'.toList := by
 obtain ⟨h1,_,h3⟩ := hp
 refine ⟨?_,fun i j hij hj => ?_⟩
 ·have e1 : d'.extract 0 d.size = d' := by rw [<- h1]; simp
  have e2 : d.extract 0 d.size = d := by simp
  rw [e1,e2] at h3
  exact h3
 ·have hj' : j < d'.size := by simpa using hj
  have h := hs i j (Nat.zero_le _) hij (by omega)
  rw [ltOf_no,getElem!_pos d' j hj',getElem!_pos d' i (by omega)] at h
  have e1 : d'.toList.getD j ld0 = d'[j] := by simp [hj']
  have e2 : d'.toList.getD i ld0 = d'[i]'(by omega) := by simp [show i < d'.size by omega]
  rw [e1,e2]
  exact h
theorem bits_len (n : Nat) (W : World) (h : n <= 12) : Calls Tryz.prog 118 #[.int .u64 n] W fun e w' => (∃ l : Int,e = .returned (.int .i64 l)) /\ w' = W :=
 (Any.bits_Len Lay.bits n W (by omega) (by omega)).mono fun _ _ ⟨he,hw⟩ => ⟨⟨_,he⟩,hw⟩
theorem sort_some (g cap : Nat) (ls : List Ld) (w : World) {B : Nat} (h : w.ownsRow B 212 3 (.slice (some ⟨g,0,none⟩) ls.length cap) ls.length (cellsLd ls)) (h12 : ls.length <= 12) :
  Calls Tryz.prog 197 #[.slice (some ⟨g,0,none⟩) ls.length cap,.func (.func 198) #[] #[]] w fun e w' => e = .returned (.tuple #[]) /\ SortPost B (.slice (some ⟨g,0,none⟩) ls.length cap) ls w w' := by
 have eg : ∀ args w,(callFunc 198 args).run Tryz.prog w = .ok (.enter 198 args) w := enters_of Tryz.func198 (by kernel_rfl) rfl
 have hown := h
 obtain ⟨hl,⟨hv,_⟩ | ⟨g',cap',cur,hv,hB,hh,hc,hcm,hcs,ht⟩⟩ := h
 ·cases hv
 injection hv with ha _ hcap
 injection ha with ha
 injection ha with hgg _ _
 subst hgg
 subst hcap
 have hgl : g < w.heap.size := (Array.getElem?_eq_some_iff.1 hh).1
 have hH : Go.Sort.HoldsK ldCells 3 w g 0 ls.toArray := by
  intro j hj
  rw [Go.Sort.size_flatK] at hj
  have hj' : j < ls.length * 3 := by simpa using hj
  have e := flat_eq ls.toArray
  have hx : (cellsLd ls)[j]? = some (Go.Sort.flatK ldCells 3 ls.toArray)[j]! := by
   have e2 : ls = ls.toArray.toList := by simp
   rw [e2,<- e,Array.getElem?_toList,Array.getElem?_eq_getElem (by simpa using hj'),getElem!_pos _ j (by simpa using hj')]
  refine ⟨?_,?_⟩
  ·rw [Nat.zero_add,hown.cellAt j (by omega),hx]
   rfl
  ·rw [Nat.zero_add]
   exact Lib.frozen_of_heap hh j
 have hcon := AnyQ.slices_SortFunc_small_sorted Lay.sort 3 Tryz.isAgg212 Tryz.sizeOf212 ldCells (fun _ => rfl) (fun x v hv => by simp [ldCells] at hv; rcases hv with rfl | rfl | rfl <;> rfl) cfL 198 #[] swo g 0 cap ls.toArray w eg (fun _ _ _ _ x y => compare_any x y _) hH hgl (by simpa using h12) bits_len
 have hsz : ls.toArray.size = ls.length := by simp
 rw [hsz] at hcon
 refine Calls.mono hcon ?_
 rintro e w' ⟨he,d',n,os,hp,hs,rfl⟩
 have hp' : PermIn 0 ls.toArray.size ls.toArray d' := by rw [hsz]; exact hp
 have hs' : SortedIn (ltOf cfL) 0 ls.toArray.size d' := by rw [hsz]; exact hs
 obtain ⟨hperm,hsort⟩ := sorted_of hp' hs'
 have hds : d'.size = ls.length := by have := hp.1; simpa using this
 have hheap : ∀ k,k < w.heap.size -> (Go.Proofs.sortWorldK ldCells 3 w g 0 n d' os).heap[k]? = if k = g then some (.cells (Go.Sort.putCells id 0 (Go.Sort.flatK ldCells 3 d') cur) 212 (0,0)) else w.heap[k]? := by
  intro k hk
  show ((w.heap.modify g (Go.Sort.onCells (Go.Sort.putCells id 0 (Go.Sort.flatK ldCells 3 d')))) ++ os)[k]? = _
  rw [Array.getElem?_append_left (by simpa using hk),Array.getElem?_modify]
  by_cases hkg : k = g
  ·subst hkg
   rw [if_pos rfl,if_pos rfl,hh]
   rfl
  ·rw [if_neg (fun e => hkg e.symm),if_neg hkg]
 refine ⟨he,⟨d'.toList,by simpa using hperm,hsort,?_,.inr ⟨g,cap,Go.Sort.putCells id 0 (Go.Sort.flatK ldCells 3 d') cur,rfl,hB,?_,hc,hcm,?_,?_⟩⟩,?_⟩
 ·rw [cellsLd_length]; simp [hds]
 ·rw [hheap g hgl,if_pos rfl]
 ·simp [Go.Sort.putCells,hcs]
 ·rw [<- flat_eq d']
  apply List.ext_getElem?
  intro t
  have hfs : (Go.Sort.flatK ldCells 3 d').size = ls.length * 3 := by simp [hds]
  by_cases htl : t < ls.length * 3
  ·rw [List.getElem?_take_of_lt htl,Array.getElem?_toList,Array.getElem?_toList]
   unfold Go.Sort.putCells
   have hcl : ls.length * 3 <= cur.size := by rw [hcs]; exact Nat.mul_le_mul_right _ hc
   rw [Array.getElem?_mapIdx,Array.getElem?_eq_getElem (by omega),Array.getElem?_eq_getElem (by omega)]
   simp only [Option.map_some]
   rw [if_pos ⟨Nat.zero_le _,by omega⟩,Nat.sub_zero,getElem!_pos _ t (by omega)]
   rfl
  ·rw [List.getElem?_eq_none (by simp; omega),List.getElem?_eq_none (by simp; omega)]
 ·refine ⟨rfl,rfl,rfl,?_,fun k hk hne => ?_⟩
  ·show w.heap.size <= ((w.heap.modify g _) ++ os).size
   simp
  ·rw [hheap k hk,if_neg (fun e => hne (by rw [e]; rfl))]
set_option maxHeartbeats 2000000 in
theorem insert_none (p : Option Addr) (cap : Nat) (fv : Value) (w : World) : Calls Tryz.prog 208 #[.slice p 0 cap,.int .i64 0,.int .i64 0,fv] w fun e w' => e = .returned (.tuple #[]) /\ w' = w := by
 go_enter Tryz.func208,Tryz.ntmps208
 go_wp2
 refine wp_loop_rounds 1 ?_
 rw [rounds_succ]
 go_wp2
 go_end0
 exact ⟨rfl,rfl⟩
set_option maxHeartbeats 2000000 in
theorem pdq_none (p : Option Addr) (cap : Nat) (lim : Int) (fv : Value) (w : World) : Calls Tryz.prog 205 #[.slice p 0 cap,.int .i64 0,.int .i64 0,.int .i64 lim,fv] w fun e w' => e = .returned (.tuple #[]) /\ w' = w := by
 go_enter Tryz.func205,Tryz.ntmps205
 go_wp2
 refine wp_loop_rounds 1 ?_
 rw [rounds_succ]
 go_wp2_with (go_at_call 208; refine (insert_none _ _ _ _).mono ?_; rintro e w' ⟨rfl,rfl⟩)
 (try simp only [Exit.inBlock,Exit.then]); refine bodyPost_ret (results_none rfl _ _ _) rfl ?_
 exact ⟨rfl,rfl⟩
set_option maxHeartbeats 2000000 in
theorem sort_none (p : Option Addr) (cap : Nat) (fv : Value) (w : World) : Calls Tryz.prog 197 #[.slice p 0 cap,fv] w fun e w' => e = .returned (.tuple #[]) /\ w' = w := by
 have hl : ∀ W,Calls Tryz.prog 118 #[.int .u64 0] W fun e w' => (∃ l : Int,e = .returned (.int .i64 l)) /\ w' = W := fun W => bits_len 0 W (by omega)
 go_enter Tryz.func197,Tryz.ntmps197
 go_wp2_with (first | (go_at_call 118; refine (hl _).mono ?_; rintro e w' ⟨⟨l,rfl⟩,rfl⟩) | (go_at_call 205; refine (pdq_none _ _ _ _ _).mono ?_; rintro e w' ⟨rfl,rfl⟩))
 go_end0
 exact ⟨rfl,rfl⟩
theorem sort_any {B : Nat} (lv : Value) (L : List Ld) (w : World) (h : w.ownsRow B 212 3 lv L.length (cellsLd L)) (h12 : L.length <= 12) :
  Calls Tryz.prog 197 #[lv,.func (.func 198) #[] #[]] w fun e w' => e = .returned (.tuple #[]) /\ SortPost B lv L w w' := by
 cases L with
 | nil =>
  obtain ⟨a,cap,rfl,-⟩ := own_slice h
  refine (sort_none a cap _ w).mono ?_
  rintro e w' ⟨rfl,rfl⟩
  exact ⟨rfl,⟨[],List.Perm.refl _,fun i j _ hj => absurd hj (by simp),h⟩,below_grownBy (Below.refl _ _) _⟩
 | cons c s =>
  obtain ⟨g,cap,rfl,-⟩ := own_some h (by simp)
  exact sort_some g cap (c :: s) w h h12
end Go.Proofs.YtcncbjknfcjnmaaGreat.Tp
