/-
  The contracts of hasGroup, Raw and Acting, of maps that Check takes.
  The contract of awake.
  The contract of topo.Apart: whether nodes are of unlike zones.
  The contracts of maySpan and mayStand.
-/
import Derived.Test.YtcncbjknfcjnmaaGreatPr19
import Derived.Test.YtcncbjknfcjnmaaGreatPr00
import Derived.Test.YtcncbjknfcjnmaaGreatPr15
import Derived.WalkMore
import Derived.Deep.LoopGhost
import Derived.Test.YtcncbjknfcjnmaaGreatPr02
namespace Go.Proofs.YtcncbjknfcjnmaaGreat.Tp
open Go.ChangeShapes Go.WideShapes Go.ChangeAt Go.RowKit
theorem hasGroup_any (m : Mp) (s : MV) (g : Int) (h : 1 <= m.gr /\ m.gr <= 8) (w : World) : Calls Tryz.prog 52 #[.agg (mapCells m s).toArray,.int .i64 g] w fun e w' => e = .returned (.bool (inB g 0 (m.gr - 1))) /\ Below w.heap.size w w' := by
 have HW : Hid (∀ w : World,Calls Tryz.prog 39 #[.int .i64 g,.int .i64 0,.int .i64 (m.gr - 1)] w fun e w' => e = .returned (.bool (inB g 0 (m.gr - 1))) /\ w' = w) := mwithin_any g 0 (m.gr - 1)
 rw [map_split]
 obtain ⟨ep,sz,mn,gr,nds,tms,trs⟩ := m
 obtain ⟨aN,lN,cN,aT,lT,cT,aR,lR,cR⟩ := s
 simp only at *
 obtain ⟨h1,h2⟩ := h
 generalize inB g 0 (gr - 1) = q at *
 go_enter Tryz.func52,Tryz.ntmps52
 go_wp2_with (go_at_call 39; refine (HW.out _).mono ?_; rintro e w' ⟨rfl,hw'⟩; obtain rfl := hw'.symm)
 go_ret
 exact ⟨rfl,below_alloc _ _⟩
set_option maxRecDepth 60000 in
theorem rawX_yes {m : Mp} {s : MV} (hS : StandOk m) {g : Int} (hg : 0 <= g /\ g < m.gr) (h8 : m.gr <= 8) (w : World) (hck : ∀ W,Below w.heap.size w W -> Calls Tryz.prog 17 #[.agg (mapCells m s).toArray] W fun e w' => e = .returned (.int .i64 0) /\ Below W.heap.size W w') (hN : NdsAt w s.aN s.lN s.cN m.nds) (hT : TmsAt w s.aT s.lT s.cT m.tms) :
  Calls Tryz.prog 23 #[.agg (mapCells m s).toArray,.int .i64 g] w fun e w' => IntsPost (rawP m g) w e w' := by
 have HCK : Hid (∀ W,Below w.heap.size w W -> Calls Tryz.prog 17 #[.agg (mapCells m s).toArray] W fun e w' => e = .returned (.int .i64 0) /\ Below W.heap.size W w') := hck
 have HHG : Hid (∀ W,Calls Tryz.prog 52 #[.agg (mapCells m s).toArray,.int .i64 g] W fun e w' => e = .returned (.bool true) /\ Below W.heap.size W w') := fun W => (hasGroup_any m s g (by omega) W).mono fun e w' ⟨he,hb⟩ => ⟨by rw [he,(inB_iff g 0 (m.gr - 1)).2 (by omega)],hb⟩
 have HRW : Hid (∀ W,Below w.heap.size w W -> Calls Tryz.prog 53 #[.agg (mapCells m s).toArray,.int .i64 g] W fun e w' => IntsPost (rawP m g) W e w') := fun W hb => raw_any hS (by omega) W (hN.below hb) (hT.below hb)
 have hb1 := below_alloc w (.cells (mapCells m s).toArray 26)
 clear hck hN hT hS hg h8
 rw [map_split] at *
 generalize rawP m g = out at *
 obtain ⟨ep,sz,mn,gr,nds,tms,trs⟩ := m
 obtain ⟨aN,lN,cN,aT,lT,cT,aR,lR,cR⟩ := s
 simp only [mapCells] at *
 have HBX : Hid (Box7 (w.alloc (.cells #[.int .i64 ep,.int .i64 sz,.int .i64 mn,.int .i64 gr,.slice aN lN cN,.slice aT lT cT,.slice aR lR cR] 26)) w.heap.size (.int .i64 ep) (.int .i64 sz) (.int .i64 mn) (.int .i64 gr) (.slice aN lN cN) (.slice aT lT cT) (.slice aR lR cR)) := Box7.new w _ _ _ _ _ _ _ _
 go_enter Tryz.func23,Tryz.ntmps23
 go_wp2_with (first
  | (go_at_call 17; refine (HCK.out _ hb1).mono ?_; rintro e w2 ⟨rfl,hb2⟩; obtain ⟨⟨c0,c1,c2,c3,c4,c5,c6⟩,-⟩ := HBX.out.below hb2)
  | (go_at_call 52; refine (HHG.out _).mono ?_; rintro e w3 ⟨rfl,hb3⟩; obtain ⟨⟨d0,d1,d2,d3,d4,d5,d6⟩,-⟩ := (HBX.out.below hb2).below hb3)
  | (go_at_call 53; refine (HRW.out _ (below2 hb1 (below2 hb2 hb3))).mono ?_; rintro e w4 ⟨hb4,a4,cp4,rfl,hO4⟩; have HO4 := show Hid (IntsOwn w3.heap.size w4 a4 cp4 out) from hO4; clear hO4))
 go_ret
 exact ⟨below2 hb1 (below2 hb2 (below2 hb3 hb4)),a4,cp4,rfl,HO4.out.base (below2 hb1 (below2 hb2 hb3)).size⟩
set_option maxRecDepth 60000 in
theorem actX_yes {m : Mp} {s : MV} (hS : StandOk m) {g : Int} (hg : 0 <= g /\ g < m.gr) (h8 : m.gr <= 8) (w : World) (hck : ∀ W,Below w.heap.size w W -> Calls Tryz.prog 17 #[.agg (mapCells m s).toArray] W fun e w' => e = .returned (.int .i64 0) /\ Below W.heap.size W w') (hN : NdsAt w s.aN s.lN s.cN m.nds) (hT : TmsAt w s.aT s.lT s.cT m.tms) :
  Calls Tryz.prog 25 #[.agg (mapCells m s).toArray,.int .i64 g] w fun e w' => IntsPost (actP m g) w e w' := by
 have HCK : Hid (∀ W,Below w.heap.size w W -> Calls Tryz.prog 17 #[.agg (mapCells m s).toArray] W fun e w' => e = .returned (.int .i64 0) /\ Below W.heap.size W w') := hck
 have HHG : Hid (∀ W,Calls Tryz.prog 52 #[.agg (mapCells m s).toArray,.int .i64 g] W fun e w' => e = .returned (.bool true) /\ Below W.heap.size W w') := fun W => (hasGroup_any m s g (by omega) W).mono fun e w' ⟨he,hb⟩ => ⟨by rw [he,(inB_iff g 0 (m.gr - 1)).2 (by omega)],hb⟩
 have HRW : Hid (∀ W,Below w.heap.size w W -> Calls Tryz.prog 56 #[.agg (mapCells m s).toArray,.int .i64 g] W fun e w' => IntsPost (actP m g) W e w') := fun W hb => acting_any hS (by omega) W (hN.below hb) (hT.below hb)
 have hb1 := below_alloc w (.cells (mapCells m s).toArray 26)
 clear hck hN hT hS hg h8
 rw [map_split] at *
 generalize actP m g = out at *
 obtain ⟨ep,sz,mn,gr,nds,tms,trs⟩ := m
 obtain ⟨aN,lN,cN,aT,lT,cT,aR,lR,cR⟩ := s
 simp only [mapCells] at *
 have HBX : Hid (Box7 (w.alloc (.cells #[.int .i64 ep,.int .i64 sz,.int .i64 mn,.int .i64 gr,.slice aN lN cN,.slice aT lT cT,.slice aR lR cR] 26)) w.heap.size (.int .i64 ep) (.int .i64 sz) (.int .i64 mn) (.int .i64 gr) (.slice aN lN cN) (.slice aT lT cT) (.slice aR lR cR)) := Box7.new w _ _ _ _ _ _ _ _
 go_enter Tryz.func25,Tryz.ntmps25
 go_wp2_with (first
  | (go_at_call 17; refine (HCK.out _ hb1).mono ?_; rintro e w2 ⟨rfl,hb2⟩; obtain ⟨⟨c0,c1,c2,c3,c4,c5,c6⟩,-⟩ := HBX.out.below hb2)
  | (go_at_call 52; refine (HHG.out _).mono ?_; rintro e w3 ⟨rfl,hb3⟩; obtain ⟨⟨d0,d1,d2,d3,d4,d5,d6⟩,-⟩ := (HBX.out.below hb2).below hb3)
  | (go_at_call 56; refine (HRW.out _ (below2 hb1 (below2 hb2 hb3))).mono ?_; rintro e w4 ⟨hb4,a4,cp4,rfl,hO4⟩; have HO4 := show Hid (IntsOwn w3.heap.size w4 a4 cp4 out) from hO4; clear hO4))
 go_ret
 exact ⟨below2 hb1 (below2 hb2 (below2 hb3 hb4)),a4,cp4,rfl,HO4.out.base (below2 hb1 (below2 hb2 hb3)).size⟩
def n5 : Nd := ⟨5,1,1,3,false,true⟩
def n5u : Nd := ⟨5,1,1,3,true,true⟩
def aw0 : Mp := newM 3 2 4
theorem n5_in : InN n5 := by unfold InN; decide
theorem n5u_in : InN n5u := by unfold InN; decide
theorem of_empty (g : Int) (n : Nat) : ofP [] g n = [] := by
 have hM : MayN [] := ⟨Nat.zero_le _,fun i hi => by simp at hi⟩
 rw [of_eq hM]
 have hp : (ordF (keyOf g 1 0 0) (zonesOf [])).Perm ((Dr.heavy (zonesOf [])).map (·.1)) := ord_perm _ (sumF_may hM)
 have hh : (Dr.heavy (zonesOf [])).map (·.1) = [] := by decide +kernel
 rw [hh] at hp
 unfold zsOf
 rw [List.perm_nil.1 hp]
 simp
theorem of_n5 (g : Int) (n : Nat) : ofP [n5] g (n + 1) = [5] := by
 have hM : MayN [n5] := one_may n5_in
 have hzo : zonesOf [n5] = [(1,3)] := by decide +kernel
 rw [of_eq hM]
 have hp : (ordF (keyOf g 1 0 0) (zonesOf [n5])).Perm ((Dr.heavy (zonesOf [n5])).map (·.1)) := ord_perm _ (sumF_may hM)
 have hh : (Dr.heavy (zonesOf [n5])).map (·.1) = [1] := by rw [hzo]; decide
 rw [hh] at hp
 have hz : zsOf [n5] g (n + 1) = [1] := by
  unfold zsOf
  rw [List.perm_singleton.1 hp]
  simp
 rw [hz]
 obtain ⟨m,hm,_,_,_,e⟩ := pk_one hM g (z := 1) ⟨(1,3),by rw [hzo]; simp,by decide,rfl⟩
 rw [List.map_cons,List.map_nil,e]
 simp at hm
 rw [hm]
 rfl
theorem of_n5u (g : Int) (n : Nat) : ofP [n5u] g (n + 1) = [5] := by
 have hM : MayN [n5u] := one_may n5u_in
 have hzo : zonesOf [n5u] = [(1,3)] := by decide +kernel
 rw [of_eq hM]
 have hp : (ordF (keyOf g 1 0 0) (zonesOf [n5u])).Perm ((Dr.heavy (zonesOf [n5u])).map (·.1)) := ord_perm _ (sumF_may hM)
 have hh : (Dr.heavy (zonesOf [n5u])).map (·.1) = [1] := by rw [hzo]; decide
 rw [hh] at hp
 have hz : zsOf [n5u] g (n + 1) = [1] := by
  unfold zsOf
  rw [List.perm_singleton.1 hp]
  simp
 rw [hz]
 obtain ⟨m,hm,_,_,_,e⟩ := pk_one hM g (z := 1) ⟨(1,3),by rw [hzo]; simp,by decide,rfl⟩
 rw [List.map_cons,List.map_nil,e]
 simp at hm
 rw [hm]
 rfl
theorem raw_eq {m : Mp} (ht : m.tms = []) (g : Int) : rawP m g = ofP m.nds g m.size.toNat := by unfold rawP; rw [ht]; rfl
theorem act_eq {m : Mp} (ht : m.tms = []) (g : Int) : actP m g = (ofP m.nds g m.size.toNat).filter (upB m.nds) := by unfold actP; rw [raw_eq ht]
theorem act0 (g : Int) : actP aw0 g = [] := by
 rw [act_eq rfl,show aw0.nds = [] from rfl,show aw0.size.toNat = 3 from rfl,of_empty]
 rfl
end Go.Proofs.YtcncbjknfcjnmaaGreat.Tp
namespace Go.Proofs.YtcncbjknfcjnmaaGreat.Tp
open Go.ChangeShapes Go.WideShapes Go.ChangeAt Go.RowKit
theorem ints_row {w : World} {B : Nat} {a : Option Addr} {c : Nat} {l : List Int} (h : IntsOwn B w a c l) : RowI w a l.length c l := own_rowI h.2
theorem five_row (w : World) : RowI (w.alloc (.cells #[.int .i64 5] 3)) (some ⟨w.heap.size,0,none⟩) 1 1 [5] :=
 ⟨rfl,Nat.le_refl _,by unfold maxLen; omega,fun h => by simp at h,.inr ⟨w.heap.size,0,rfl,fun i hi => by
  obtain rfl : i = 0 := by omega
  simp⟩⟩
end Go.Proofs.YtcncbjknfcjnmaaGreat.Tp
namespace Go.Proofs.YtcncbjknfcjnmaaGreat.Tp
open Go.ChangeShapes Go.WideShapes Go.ChangeAt Go.RowKit
def zoneN (ls : List Nd) (id : Int) : Int := ((findN ls id).getD nd0).zone
def ApartTo (ls : List Nd) (ids : List Int) (k : Nat) : Prop := (∀ i,i < k -> (findN ls (ids.getD i 0)).isSome = true) /\ ∀ i j,j < i -> i < k -> zoneN ls (ids.getD i 0) ≠ zoneN ls (ids.getD j 0)
def ApartP (ls : List Nd) (ids : List Int) : Prop := ApartTo ls ids ids.length
theorem apart_none {ls : List Nd} {ids : List Int} {k : Nat} (hk : k < ids.length) (h : findN ls (ids.getD k 0) = none) : ¬ ApartP ls ids := fun hA => by
 have := hA.1 k hk
 rw [h] at this
 simp at this
theorem apart_twice {ls : List Nd} {ids : List Int} {j k : Nat} (hk : k < ids.length) (hj : j < k) (h : zoneN ls (ids.getD k 0) = zoneN ls (ids.getD j 0)) : ¬ ApartP ls ids := fun hA => hA.2 k j hj hk h
theorem apart_next {ls : List Nd} {ids : List Int} {k : Nat} (h : ApartTo ls ids k) (h1 : (findN ls (ids.getD k 0)).isSome = true) (h2 : ∀ j,j < k -> zoneN ls (ids.getD k 0) ≠ zoneN ls (ids.getD j 0)) : ApartTo ls ids (k + 1) := by
 refine ⟨fun i hi => ?_,fun i j hj hi => ?_⟩
 ·by_cases e : i = k
  ·rw [e]; exact h1
  ·exact h.1 i (by omega)
 ·by_cases e : i = k
  ·subst e; exact h2 j hj
  ·exact h.2 i j hj (by omega)
def TakAt (w : World) (b : Nat) (T : Nat -> Bool) : Prop := ∀ z,z < 10 -> w.cell? ⟨b,z,none⟩ = some (.bool (T z)) /\ w.frozen? ⟨b,z,none⟩ = false
theorem TakAt.below {w w' : World} {b : Nat} {T : Nat -> Bool} (h : TakAt w b T) (hb : Below w.heap.size w w') : TakAt w' b T := fun z hz => by
 have hl : b < w.heap.size := World.block_lt_of_cell? w ⟨b,z,none⟩ (h z hz).1
 exact ⟨(hb.cell (p := ⟨b,z,none⟩) hl).trans (h z hz).1,(hb.frozen (p := ⟨b,z,none⟩) hl).trans (h z hz).2⟩
theorem TakAt.lt {w : World} {b : Nat} {T : Nat -> Bool} (h : TakAt w b T) : b < w.heap.size := World.block_lt_of_cell? w ⟨b,0,none⟩ (h 0 (by decide)).1
theorem TakAt.set {w : World} {b : Nat} {T : Nat -> Bool} (h : TakAt w b T) (z0 : Nat) : TakAt (w.setCell ⟨b,z0,none⟩ (.bool true)) b (fun z => if z = z0 then true else T z) := fun z hz => by
 refine ⟨?_,by rw [World.frozen?_setCell]; exact (h z hz).2⟩
 by_cases e : z = z0
 ·subst e
  show _ = some (Value.bool (if z = z then true else T z))
  rw [if_pos rfl]
  exact set_same (h z hz).1 _
 ·show _ = some (Value.bool (if z = z0 then true else T z))
  rw [if_neg e,set_else (by omega)]
  exact (h z hz).1
theorem tak_new (w : World) (t : TypeId) : TakAt (w.alloc (.cells #[.bool false,.bool false,.bool false,.bool false,.bool false,.bool false,.bool false,.bool false,.bool false,.bool false] t)) w.heap.size (fun _ => false) := fun z hz => by
 have hc : z = 0 ∨ z = 1 ∨ z = 2 ∨ z = 3 ∨ z = 4 ∨ z = 5 ∨ z = 6 ∨ z = 7 ∨ z = 8 ∨ z = 9 := by omega
 rcases hc with rfl | rfl | rfl | rfl | rfl | rfl | rfl | rfl | rfl | rfl <;> exact ⟨by simp,by simp⟩
def TakIs (ls : List Nd) (ids : List Int) (k : Nat) (T : Nat -> Bool) : Prop := ∀ z : Nat,z < 10 -> (T z = true ↔ ∃ j,j < k /\ zoneN ls (ids.getD j 0) = (z : Int))
set_option maxHeartbeats 2000000 in
set_option maxRecDepth 60000 in
theorem apart_any {a : Option Addr} {len cap : Nat} {ls : List Nd} (hM : MayN ls) (b : Option Addr) (n c : Nat) (ids : List Int) (w : World) (hL : NdsAt w a len cap ls) (hI : RowI w b n c ids) :
  Calls Tryz.prog 75 #[.slice a len cap,.slice b n c] w fun e w' => BoolPost (ApartP ls ids) w e w' := by
 have HCK : Hid (Calls Tryz.prog 40 #[.slice a len cap] w fun e w' => e = .returned (.int .i64 0) /\ Below w.heap.size w w') := (check_any a len cap ls w hL).mono fun e w' ⟨hb,hh⟩ => by
  rcases hh with ⟨he,_⟩ | ⟨_,hn⟩
  ·exact ⟨he,hb⟩
  ·exact absurd hM hn
 have hl : ls.length = len := hL.1
 have h12 : (len : Int) <= 12 := by have := hM.1; omega
 have hn : ids.length = n := hI.1
 have hmx : n <= maxLen := Nat.le_trans hI.2.1 hI.2.2.1
 unfold maxLen at hmx
 have HL : Hid (NdsAt w a len cap ls) := hL
 have HI : Hid (RowI w b n c ids) := hI
 have HZ : Hid (∀ k,k < len -> 1 <= (ls.getD k nd0).zone /\ (ls.getD k nd0).zone <= 9) := fun k hk => (hM.2 k (by omega)).1.2.1
 have HNL : Hid (ids.length = n) := hn
 have HLL : Hid (ls.length = len) := hl
 clear hM hL hI hl hn
 go_enter Tryz.func75,Tryz.ntmps75
 go_wp2_with fail
 go_step3
 go_wp2_with (go_at_call 40; refine HCK.out.mono ?_; rintro e w1 ⟨rfl,hb1⟩)
 have hb2 := below_alloc w1 (.cells #[.bool false,.bool false,.bool false,.bool false,.bool false,.bool false,.bool false,.bool false,.bool false,.bool false] 111)
 have HT2 : Hid (TakAt (w1.alloc (.cells #[.bool false,.bool false,.bool false,.bool false,.bool false,.bool false,.bool false,.bool false,.bool false,.bool false] 111)) w1.heap.size (fun _ => false)) := tak_new w1 _
 have hs1 := hb1.size
 go_step3
 go_wp2_with fail
 generalize w1.alloc (.cells #[.bool false,.bool false,.bool false,.bool false,.bool false,.bool false,.bool false,.bool false,.bool false,.bool false] 111) = w2 at *
 go_loopw [15] (fun i wr => ∃ (k : Nat) (T : Nat -> Bool),k <= n /\ i = .int .i64 k /\ Hid (ApartTo ls ids k) /\ Hid (TakIs ls ids k T) /\ Hid (TakAt wr w1.heap.size T) /\ Below w.heap.size w wr) (fun i _ => n - (intOf i).toNat)
 case atStart => exact ⟨0,_,Nat.zero_le _,rfl,⟨fun i hi => absurd hi (Nat.not_lt_zero _),fun i j _ hi => absurd hi (Nat.not_lt_zero _)⟩,(fun z hz => ⟨fun h => by simp at h,fun ⟨j,hj,_⟩ => absurd hj (Nat.not_lt_zero _)⟩),HT2,below2 hb1 hb2⟩
 case round =>
  obtain ⟨k,T,hk,rfl,hA,hTI,hTA,hbel⟩ := hrel
  clear HT2 hb2
  by_cases hlt : k < n
  ·have hk1 : (k : Int) < (n : Int) := by omega
   have hk0 : (0 : Int) <= (k : Int) := by omega
   obtain ⟨q,qo,rfl,hq,hcq⟩ := (HI.out.below hbel).some (by omega)
   have x0 := hcq k hlt
   have HFN : Hid (∀ j,j < len -> (ls.getD j nd0).id = ids.getD k 0 -> (∀ t,t < j -> (ls.getD t nd0).id ≠ ids.getD k 0) -> findN ls (ids.getD k 0) = some (ls.getD j nd0)) := fun j hj h1 h2 => find_some (by have := HLL.out; omega) h1 h2
   have HNO : Hid ((∀ j,j < len -> (ls.getD j nd0).id ≠ ids.getD k 0) -> ¬ ApartP ls ids) := fun h => apart_none (by have := HNL.out; omega) (find_none fun j hj => h j (by have := HLL.out; omega))
   have HTW : Hid (∀ x z0,findN ls (ids.getD k 0) = some x -> x.zone = ((z0 : Nat) : Int) -> z0 < 10 -> (T z0 = true -> ¬ ApartP ls ids) /\ (T z0 = false -> ApartTo ls ids (k + 1) /\ TakIs ls ids (k + 1) (fun z => if z = z0 then true else T z))) := fun x z0 hx hz h10 => by
    have hzn : zoneN ls (ids.getD k 0) = (z0 : Int) := by unfold zoneN; rw [hx]; exact hz
    refine ⟨fun ht => ?_,fun ht => ⟨?_,?_⟩⟩
    ·obtain ⟨j,hj,e⟩ := (hTI.out z0 h10).1 ht
     exact apart_twice (by have := HNL.out; omega) hj (hzn.trans e.symm)
    ·refine apart_next hA.out (by rw [hx]; rfl) (fun j hj e => ?_)
     have := (hTI.out z0 h10).2 ⟨j,hj,e.symm.trans hzn⟩
     rw [ht] at this
     exact absurd this (by decide)
    ·intro z hz'
     show (if z = z0 then true else T z) = true ↔ _
     by_cases e : z = z0
     ·subst e
      rw [if_pos rfl]
      exact ⟨fun _ => ⟨k,by omega,hzn⟩,fun _ => rfl⟩
     ·rw [if_neg e,hTI.out z hz']
      constructor
      ·rintro ⟨j,hj,h⟩
       exact ⟨j,by omega,h⟩
      ·rintro ⟨j,hj,h⟩
       by_cases e' : j = k
       ·subst e'
        rw [hzn] at h
        omega
       ·exact ⟨j,by omega,h⟩
   clear hcq hA hTI
   generalize ids.getD k 0 = id at *
   go_wp2_with fail
   go_loopw [21] (fun i wq => ∃ j : Nat,j <= len /\ i = .int .i64 j /\ Hid (∀ t,t < j -> (ls.getD t nd0).id ≠ id) /\ Hid (TakAt wq w1.heap.size T) /\ Below w.heap.size w wq) (fun i _ => len - (intOf i).toNat)
   case atStart => exact ⟨0,Nat.zero_le _,rfl,(fun t ht => absurd ht (Nat.not_lt_zero _)),hTA,hbel⟩
   case round =>
    obtain ⟨j,hj,rfl,hU,hTB,hbq⟩ := hrel
    by_cases hjl : j < len
    ·have hj1 : (j : Int) < (len : Int) := by omega
     have hj0 : (0 : Int) <= (j : Int) := by omega
     obtain ⟨p,po,rfl,hp,hcp⟩ := (HL.out.below hbq).some (by omega)
     obtain ⟨e0,e1,e2,e3,e4,e5⟩ := hcp j hjl
     obtain ⟨z1,z2⟩ := HZ.out j hjl
     have HF := HFN.out j hjl
     have HNX : Hid ((ls.getD j nd0).id ≠ id -> ∀ t,t < j + 1 -> (ls.getD t nd0).id ≠ id) := fun h t ht => by
      by_cases e : t = j
      ·rw [e]; exact h
      ·exact hU.out t (by omega)
     have HFD : Hid ((ls.getD j nd0).id = id -> findN ls id = some (ls.getD j nd0)) := fun h => HF h hU.out
     clear hcp hU HF
     generalize ls.getD j nd0 = x at *
     obtain ⟨c1,c2,c3,c4,c5,c6⟩ := x
     simp only at e0 e1 e2 e3 e4 e5 z1 z2
     have hba := below_alloc wr (.cells #[.int .i64 c1,.int .i64 c2,.int .i64 c3,.int .i64 c4,.bool c5,.bool c6] 72)
     by_cases hid : c1 = id
     ·have hfd := HFD.out hid
      obtain ⟨z0,hz0⟩ : ∃ z0 : Nat,c2 = (z0 : Int) := ⟨c2.toNat,by omega⟩
      subst hz0
      have hz9 : z0 < 10 := by omega
      obtain ⟨k1,k2⟩ := HTW.out _ z0 hfd rfl hz9
      have HTA2 : Hid (TakAt (wr.alloc (.cells #[.int .i64 c1,.int .i64 (z0 : Int),.int .i64 c3,.int .i64 c4,.bool c5,.bool c6] 72)) w1.heap.size T) := hTB.out.below hba
      obtain ⟨t0,t1⟩ := HTA2.out z0 hz9
      have hz0' : (0 : Int) <= (z0 : Int) := by omega
      have hz9' : (z0 : Int) < 10 := by omega
      have hlw : w1.heap.size < wr.heap.size := hTB.out.lt
      subst hid
      clear HNX HFD hfd HTW HFN HNO
      cases hT0 : T z0 with
      | true =>
       rw [hT0] at t0
       have hno := k1 hT0
       have HNA : Hid (¬ ApartP ls ids) := hno
       clear k1 k2 hno hT0
       go_wp2_with fail
       go_ret
       exact bool_no (below2 hbq hba) HNA.out
      | false =>
       rw [hT0] at t0
       obtain ⟨m1,m2⟩ := k2 hT0
       have M1 : Hid (ApartTo ls ids (k + 1)) := m1
       have M2 : Hid (TakIs ls ids (k + 1) (fun z => if z = z0 then true else T z)) := m2
       have M3 : Hid (TakAt ((wr.alloc (.cells #[.int .i64 c1,.int .i64 (z0 : Int),.int .i64 c3,.int .i64 c4,.bool c5,.bool c6] 72)).setCell ⟨w1.heap.size,z0,none⟩ (.bool true)) w1.heap.size (fun z => if z = z0 then true else T z)) := HTA2.out.set z0
       have hbf : Below w.heap.size w ((wr.alloc (.cells #[.int .i64 c1,.int .i64 (z0 : Int),.int .i64 c3,.int .i64 c4,.bool c5,.bool c6] 72)).setCell ⟨w1.heap.size,z0,none⟩ (.bool true)) := (below2 hbq hba).setCell (p := ⟨w1.heap.size,z0,none⟩) hs1 _
       clear k1 k2 m1 m2 hT0
       generalize hwz : (wr.alloc (.cells #[.int .i64 c1,.int .i64 (z0 : Int),.int .i64 c3,.int .i64 c4,.bool c5,.bool c6] 72)).setCell ⟨w1.heap.size,z0,none⟩ (.bool true) = wz at *
       go_wp2_with fail
       exact ⟨⟨k + 1,_,by omega,by go_num,M1,M2,M3,hbf⟩,by simp [intOf]; omega⟩
     ·have hd : (c1 == id) = false := by simpa using hid
      have HN' : Hid (∀ t,t < j + 1 -> (ls.getD t nd0).id ≠ id) := HNX.out hid
      clear HNX HFD HTW HFN HNO
      go_wp2_with fail
      exact ⟨⟨j + 1,by omega,by go_num,HN',hTB.out.below hba,below2 hbq hba⟩,by simp [intOf]; omega⟩
    ·obtain rfl : j = len := by omega
     have HNA : Hid (¬ ApartP ls ids) := HNO.out hU.out
     clear hU HTW HFN HNO
     go_wp2_with fail
     go_ret
     exact bool_no hbq HNA.out
  ·obtain rfl : k = n := by omega
   have HY : Hid (ApartP ls ids) := by
    unfold Hid ApartP
    rw [HNL.out]
    exact hA.out
   clear hA hTI
   go_wp2_with fail
   go_ret
   exact bool_yes hbel HY.out
end Go.Proofs.YtcncbjknfcjnmaaGreat.Tp
namespace Go.Proofs.YtcncbjknfcjnmaaGreat.Tp
open Go.ChangeShapes Go.WideShapes Go.ChangeAt Go.RowKit
theorem bool_is {f : Nat} {args : Array Value} {w : World} {P : Prop} (h : Calls Tryz.prog f args w fun e w' => BoolPost P w e w') (hP : P) : Calls Tryz.prog f args w fun e w' => e = .returned (.bool true) /\ Below w.heap.size w w' :=
 h.mono fun _ _ ⟨hb,q,he,hq⟩ => ⟨by rw [he,hq.2 hP],hb⟩
theorem bool_isnt {f : Nat} {args : Array Value} {w : World} {P : Prop} (h : Calls Tryz.prog f args w fun e w' => BoolPost P w e w') (hP : ¬ P) : Calls Tryz.prog f args w fun e w' => e = .returned (.bool false) /\ Below w.heap.size w w' :=
 h.mono fun _ _ ⟨hb,q,he,hq⟩ => ⟨by rw [he]; cases q with | false => rfl | true => exact absurd (hq.1 rfl) hP,hb⟩
def IdsTo (ns : List Int) (k : Nat) : Prop := ∀ i,i < k -> (1 <= ns.getD i 0 /\ ns.getD i 0 <= 999) /\ (0 < i -> ns.getD (i - 1) 0 < ns.getD i 0)
def SpanOk (mn sz : Int) (ns : List Int) : Prop := (mn <= (ns.length : Int) /\ (ns.length : Int) <= sz) /\ IdsTo ns ns.length
def nextId (ns : List Int) (k : Nat) : Int := if k = 0 then 1 else ns.getD (k - 1) 0 + 1
theorem nextId_bd {ns : List Int} {k : Nat} (h : IdsTo ns k) : 1 <= nextId ns k /\ nextId ns k <= 1000 := by
 unfold nextId
 split
 ·omega
 ·have := (h (k - 1) (by omega)).1
  omega
theorem nextId_yes {ns : List Int} {k : Nat} (h : IdsTo ns k) (h1 : nextId ns k <= ns.getD k 0 /\ ns.getD k 0 <= 999) : IdsTo ns (k + 1) := fun i hi => by
 by_cases e : i = k
 ·subst e
  have hb := nextId_bd h
  refine ⟨by omega,fun h0 => ?_⟩
  have : nextId ns i = ns.getD (i - 1) 0 + 1 := if_neg (by omega)
  omega
 ·exact h i (by omega)
theorem nextId_no {ns : List Int} {k n : Nat} (hk : k < n) (h1 : ¬ (nextId ns k <= ns.getD k 0 /\ ns.getD k 0 <= 999)) : ¬ IdsTo ns n := fun h => by
 obtain ⟨h2,h3⟩ := h k hk
 apply h1
 refine ⟨?_,h2.2⟩
 unfold nextId
 split
 ·exact h2.1
 ·have := h3 (by omega)
  omega
theorem nextId_succ (ns : List Int) (k : Nat) : nextId ns (k + 1) = ns.getD k 0 + 1 := if_neg (by omega)
set_option maxHeartbeats 1000000 in
set_option maxRecDepth 60000 in
theorem maySpan_any (m : Mp) (s : MV) (f : Int) (a : Option Addr) (len cap : Nat) (ns : List Int) (w : World) (hR : RowI w a len cap ns) : Calls Tryz.prog 100 #[.agg (mapCells m s).toArray,.agg #[.int .i64 f,.slice a len cap]] w fun e w' => BoolPost (SpanOk m.mn m.size ns) w e w' := by
 rw [map_split]
 obtain ⟨ep,sz,mn,gr,nds,tms,trs⟩ := m
 obtain ⟨aN,lN,cN,aT,lT,cT,aR,lR,cR⟩ := s
 simp only
 have hl : ns.length = len := hR.1
 have hmx : len <= maxLen := Nat.le_trans hR.2.1 hR.2.2.1
 unfold maxLen at hmx
 have HR : Hid (RowI w a len cap ns) := hR
 clear hR
 obtain ⟨w1,hw1⟩ : ∃ w1,w1 = (w.alloc (.cells #[.int .i64 ep,.int .i64 sz,.int .i64 mn,.int .i64 gr,.slice aN lN cN,.slice aT lT cT,.slice aR lR cR] 26)).alloc (.cells #[.int .i64 f,.slice a len cap] 55) := ⟨_,rfl⟩
 have hb1 : Below w.heap.size w w1 := by rw [hw1]; exact below2 (below_alloc _ _) (below_alloc _ _)
 have HBM : Hid (Box7 w1 w.heap.size (.int .i64 ep) (.int .i64 sz) (.int .i64 mn) (.int .i64 gr) (.slice aN lN cN) (.slice aT lT cT) (.slice aR lR cR)) := by
  rw [hw1]
  exact (Box7.new w _ _ _ _ _ _ _ _).below (below_alloc _ _)
 have s1 : w1.cell? ⟨w.heap.size + 1,1,none⟩ = some (.slice a len cap) := by rw [hw1]; simp
 obtain ⟨⟨c0,c1,c2,c3,c4,c5,c6⟩,-⟩ := HBM.out
 by_cases hc : mn <= (len : Int) /\ (len : Int) <= sz
 ·have HW : Hid (∀ w : World,Calls Tryz.prog 39 #[.int .i64 (len : Int),.int .i64 mn,.int .i64 sz] w fun e w' => e = .returned (.bool true) /\ w' = w) := mwithin_yes hc.1 hc.2
  have HWI : Hid (∀ (x y : Int) (w : World),Calls Tryz.prog 39 #[.int .i64 x,.int .i64 y,.int .i64 999] w fun e w' => e = .returned (.bool (inB x y 999)) /\ w' = w) := fun x y w => mwithin_any x y 999 w
  have HYES : Hid (IdsTo ns len -> SpanOk mn sz ns) := fun h => ⟨by rw [hl]; exact hc,by rw [hl]; exact h⟩
  have HNO : Hid (¬ IdsTo ns len -> ¬ SpanOk mn sz ns) := fun h h' => h (by have := h'.2; rw [hl] at this; exact this)
  clear hc hl
  go_enter Tryz.func100,Tryz.ntmps100
  go_upto_region 1 with fail
  rw [<- hw1]
  clear hw1
  go_wp2_with (go_at_call 39; refine (HW.out _).mono ?_; rintro e w' ⟨rfl,hw'⟩; obtain rfl := hw'.symm)
  clear HW
  go_loopw [5,20] (fun nx i wr => ∃ k : Nat,k <= len /\ i = .int .i64 k /\ nx = .int .i64 (nextId ns k) /\ wr = w1 /\ Hid (IdsTo ns k)) (fun _ i _ => len - (intOf i).toNat)
  case atStart => exact ⟨0,Nat.zero_le _,rfl,rfl,rfl,fun i hi => absurd hi (Nat.not_lt_zero _)⟩
  case round =>
   obtain ⟨k,hk,rfl,rfl,rfl,hT⟩ := hrel
   have hbd := nextId_bd hT.out
   by_cases hlt : k < len
   ·have hk1 : (k : Int) < (len : Int) := by omega
    have hk0 : (0 : Int) <= (k : Int) := by omega
    obtain ⟨b,off,rfl,hbs,hcell⟩ := (HR.out.below hb1).some (by omega)
    have x0 := hcell k hlt
    have HNX : Hid (nextId ns (k + 1) = ns.getD k 0 + 1) := nextId_succ ns k
    have HY : Hid (nextId ns k <= ns.getD k 0 /\ ns.getD k 0 <= 999 -> IdsTo ns (k + 1)) := nextId_yes hT.out
    have HN : Hid (¬ (nextId ns k <= ns.getD k 0 /\ ns.getD k 0 <= 999) -> ¬ IdsTo ns len) := fun h => nextId_no hlt h
    clear hcell hT
    generalize ns.getD k 0 = y at *
    generalize nextId ns k = nx at *
    by_cases hy : nx <= y /\ y <= 999
    ·have hin : inB y nx 999 = true := (inB_iff y nx 999).2 hy
     have HWY : Hid (∀ w : World,Calls Tryz.prog 39 #[.int .i64 y,.int .i64 nx,.int .i64 999] w fun e w' => e = .returned (.bool true) /\ w' = w) := fun w => by have := HWI.out y nx w; rw [hin] at this; exact this
     have HI2 : Hid (IdsTo ns (k + 1)) := HY.out hy
     obtain ⟨hy1,hy2⟩ := hy
     have hy3 : 1 <= y := by omega
     clear HY HN hin
     go_wp2_with (go_at_call 39; refine (HWY.out _).mono ?_; rintro e w' ⟨rfl,hw'⟩; obtain rfl := hw'.symm)
     exact ⟨⟨k + 1,by omega,by go_num,by rw [HNX.out],by trivial,HI2⟩,by simp [intOf]; omega⟩
    ·have HWY : Hid (∀ w : World,Calls Tryz.prog 39 #[.int .i64 y,.int .i64 nx,.int .i64 999] w fun e w' => e = .returned (.bool false) /\ w' = w) := mwithin_no hy
     have HBAD : Hid (¬ SpanOk mn sz ns) := HNO.out (HN.out hy)
     clear HY HN hy HNX
     go_wp2_with (go_at_call 39; refine (HWY.out _).mono ?_; rintro e w' ⟨rfl,hw'⟩; obtain rfl := hw'.symm)
     go_ret
     exact bool_no hb1 HBAD.out
   ·obtain rfl : k = len := by omega
    have HOK : Hid (SpanOk mn sz ns) := HYES.out hT.out
    clear hT
    go_wp2_with fail
    go_ret
    exact bool_yes hb1 HOK.out
 ·have HW : Hid (∀ w : World,Calls Tryz.prog 39 #[.int .i64 (len : Int),.int .i64 mn,.int .i64 sz] w fun e w' => e = .returned (.bool false) /\ w' = w) := mwithin_no hc
  have HBAD : Hid (¬ SpanOk mn sz ns) := fun h => hc (by have := h.1; rw [hl] at this; exact this)
  clear hc hl
  go_enter Tryz.func100,Tryz.ntmps100
  go_upto_region 1 with fail
  rw [<- hw1]
  clear hw1
  go_wp2_with (go_at_call 39; refine (HW.out _).mono ?_; rintro e w' ⟨rfl,hw'⟩; obtain rfl := hw'.symm)
  go_ret
  exact bool_no hb1 HBAD.out
def TempsTo (m : Mp) (k : Nat) : Prop := ∀ i,i < k -> (0 <= (m.tms.getD i tm0).g /\ (m.tms.getD i tm0).g < m.gr) /\ (0 < i -> (m.tms.getD (i - 1) tm0).g < (m.tms.getD i tm0).g) /\ (1 <= ((m.tms.getD i tm0).ns.length : Int) /\ ((m.tms.getD i tm0).ns.length : Int) <= m.size) /\ ApartP m.nds (m.tms.getD i tm0).ns
def nextG (m : Mp) (k : Nat) : Int := if k = 0 then 0 else (m.tms.getD (k - 1) tm0).g + 1
theorem nextG_bd {m : Mp} {k : Nat} (h : TempsTo m k) (hg : 1 <= m.gr) : 0 <= nextG m k /\ nextG m k <= m.gr := by
 unfold nextG
 split
 ·omega
 ·have := (h (k - 1) (by omega)).1
  omega
theorem nextG_yes {m : Mp} {k : Nat} (h : TempsTo m k) (hg : 1 <= m.gr) (h1 : nextG m k <= (m.tms.getD k tm0).g /\ (m.tms.getD k tm0).g <= m.gr - 1) (h2 : 1 <= ((m.tms.getD k tm0).ns.length : Int) /\ ((m.tms.getD k tm0).ns.length : Int) <= m.size) (h3 : ApartP m.nds (m.tms.getD k tm0).ns) : TempsTo m (k + 1) := fun i hi => by
 by_cases e : i = k
 ·subst e
  have hb := nextG_bd h hg
  refine ⟨by omega,fun h0 => ?_,h2,h3⟩
  have : nextG m i = (m.tms.getD (i - 1) tm0).g + 1 := if_neg (by omega)
  omega
 ·exact h i (by omega)
theorem nextG_no {m : Mp} {k n : Nat} (hk : k < n) (h1 : ¬ ((nextG m k <= (m.tms.getD k tm0).g /\ (m.tms.getD k tm0).g <= m.gr - 1) /\ (1 <= ((m.tms.getD k tm0).ns.length : Int) /\ ((m.tms.getD k tm0).ns.length : Int) <= m.size) /\ ApartP m.nds (m.tms.getD k tm0).ns)) : ¬ TempsTo m n := fun h => by
 obtain ⟨h2,h3,h4,h5⟩ := h k hk
 apply h1
 refine ⟨⟨?_,by omega⟩,h4,h5⟩
 unfold nextG
 split
 ·exact h2.1
 ·have := h3 (by omega)
  omega
theorem nextG_succ (m : Mp) (k : Nat) : nextG m (k + 1) = (m.tms.getD k tm0).g + 1 := if_neg (by omega)
set_option maxHeartbeats 2000000 in
set_option maxRecDepth 60000 in
theorem mayStand_any {m : Mp} {s : MV} (hg : 1 <= m.gr /\ m.gr <= 8) (hM : MayN m.nds) (w : World) (h : MapAt w m s) : Calls Tryz.prog 41 #[.agg (mapCells m s).toArray] w fun e w' => BoolPost (TempsTo m m.tms.length) w e w' := by
 have HT : Hid (TmsAt w s.aT s.lT s.cT m.tms) := h.tms
 have HN : Hid (NdsAt w s.aN s.lN s.cN m.nds) := h.nds
 have HM : Hid (MayN m.nds) := hM
 have hl : m.tms.length = s.lT := h.tms.1
 have hmx : s.lT <= maxLen := Nat.le_trans h.tms.2.1 h.tms.2.2.1
 unfold maxLen at hmx
 have HYES : Hid (TempsTo m s.lT -> TempsTo m m.tms.length) := fun h => by rw [hl]; exact h
 have HNO : Hid (¬ TempsTo m s.lT -> ¬ TempsTo m m.tms.length) := fun h => by rw [hl]; exact h
 have HAP : Hid (∀ W b n c ids,Below w.heap.size w W -> RowI W b n c ids -> Calls Tryz.prog 75 #[.slice s.aN s.lN s.cN,.slice b n c] W fun e w' => BoolPost (ApartP m.nds ids) W e w') := fun W b n c ids hb hr => apart_any hM b n c ids W (h.nds.below hb) hr
 have HBD : Hid (∀ k,TempsTo m k -> 0 <= nextG m k /\ nextG m k <= m.gr) := fun k h => nextG_bd h hg.1
 have HSY : Hid (∀ k,TempsTo m k -> (nextG m k <= (m.tms.getD k tm0).g /\ (m.tms.getD k tm0).g <= m.gr - 1) -> (1 <= ((m.tms.getD k tm0).ns.length : Int) /\ ((m.tms.getD k tm0).ns.length : Int) <= m.size) -> ApartP m.nds (m.tms.getD k tm0).ns -> TempsTo m (k + 1)) := fun k h h1 h2 h3 => nextG_yes h hg.1 h1 h2 h3
 have HSN : Hid (∀ k,k < s.lT -> ¬ ((nextG m k <= (m.tms.getD k tm0).g /\ (m.tms.getD k tm0).g <= m.gr - 1) /\ (1 <= ((m.tms.getD k tm0).ns.length : Int) /\ ((m.tms.getD k tm0).ns.length : Int) <= m.size) /\ ApartP m.nds (m.tms.getD k tm0).ns) -> ¬ TempsTo m s.lT) := fun k hk h => nextG_no hk h
 have HSC : Hid (∀ k,nextG m (k + 1) = (m.tms.getD k tm0).g + 1) := nextG_succ m
 have HZ : Hid (nextG m 0 = 0) := rfl
 have HZT : Hid (TempsTo m 0) := fun i hi => absurd hi (Nat.not_lt_zero _)
 rw [map_split]
 have HBX : Hid (Box7 (w.alloc (.cells #[.int .i64 m.ep,.int .i64 m.size,.int .i64 m.mn,.int .i64 m.gr,.slice s.aN s.lN s.cN,.slice s.aT s.lT s.cT,.slice s.aR s.lR s.cR] 26)) w.heap.size (.int .i64 m.ep) (.int .i64 m.size) (.int .i64 m.mn) (.int .i64 m.gr) (.slice s.aN s.lN s.cN) (.slice s.aT s.lT s.cT) (.slice s.aR s.lR s.cR)) := Box7.new w _ _ _ _ _ _ _ _
 have hb1 := below_alloc w (.cells #[.int .i64 m.ep,.int .i64 m.size,.int .i64 m.mn,.int .i64 m.gr,.slice s.aN s.lN s.cN,.slice s.aT s.lT s.cT,.slice s.aR s.lR s.cR] 26)
 obtain ⟨hg1,hg2⟩ := hg
 clear hl h hM
 go_enter Tryz.func41,Tryz.ntmps41
 go_wp2_with fail
 generalize w.alloc (.cells #[.int .i64 m.ep,.int .i64 m.size,.int .i64 m.mn,.int .i64 m.gr,.slice s.aN s.lN s.cN,.slice s.aT s.lT s.cT,.slice s.aR s.lR s.cR] 26) = w1 at *
 go_loopw [3,9] (fun nx i wr => ∃ k : Nat,k <= s.lT /\ i = .int .i64 k /\ nx = .int .i64 (nextG m k) /\ Hid (TempsTo m k) /\ Below w1.heap.size w1 wr) (fun _ i _ => s.lT - (intOf i).toNat)
 case atStart => exact ⟨0,Nat.zero_le _,rfl,by rw [HZ.out],HZT,Below.refl _ _⟩
 case round =>
  obtain ⟨k,hk,rfl,rfl,hT,hbel⟩ := hrel
  have hbw := below2 hb1 hbel
  obtain ⟨hn0,hn1⟩ := HBD.out k hT.out
  obtain ⟨⟨c0,c1,c2,c3,c4,c5,c6⟩,-⟩ := HBX.out.below hbel
  have hlw : w.heap.size < wr.heap.size := (HBX.out.below hbel).lt
  by_cases hlt : k < s.lT
  ·have hk1 : (k : Int) < (s.lT : Int) := by omega
   have hk0 : (0 : Int) <= (k : Int) := by omega
   obtain ⟨b,off,hae,hbs,hcell⟩ := (HT.out.below hbw).some (by omega)
   obtain ⟨e0,aq,lq,cq,e1,hrow⟩ := hcell k hlt
   have hql : (m.tms.getD k tm0).ns.length = lq := hrow.1
   have HAQ : Hid (∀ W,Below wr.heap.size wr W -> Calls Tryz.prog 75 #[.slice s.aN s.lN s.cN,.slice aq lq cq] W fun e w' => BoolPost (ApartP m.nds (m.tms.getD k tm0).ns) W e w') := fun W hb => HAP.out W aq lq cq _ (below2 hbw hb) (hrow.below hb)
   have HSY' := HSY.out k hT.out
   have HSN' := HSN.out k hlt
   have HSC' : Hid (nextG m (k + 1) = (m.tms.getD k tm0).g + 1) := HSC.out k
   rw [hql] at HSY' HSN'
   have HY2 := show Hid _ from HSY'
   have HN2 := show Hid _ from HSN'
   clear HSY' HSN' hcell hrow hql hT
   generalize ApartP m.nds (m.tms.getD k tm0).ns = PA at *
   generalize (m.tms.getD k tm0).g = y at *
   generalize nextG m k = nx at *
   have hba := below_alloc wr (.cells #[.int .i64 y,.slice aq lq cq] 59)
   have HXA : Hid (Box7 (wr.alloc (.cells #[.int .i64 y,.slice aq lq cq] 59)) w.heap.size (.int .i64 m.ep) (.int .i64 m.size) (.int .i64 m.mn) (.int .i64 m.gr) (.slice s.aN s.lN s.cN) (.slice s.aT s.lT s.cT) (.slice s.aR s.lR s.cR)) := (HBX.out.below hbel).below hba
   have HE : Hid (s.aT = some ⟨b,off,none⟩) := hae
   rw [hae] at c5
   rw [hae]
   clear hae
   have hgw : 0 <= m.gr - 1 := by omega
   obtain ⟨⟨d0,d1,d2,d3,d4,d5,d6⟩,-⟩ := HXA.out
   clear HXA
   by_cases h1 : nx <= y /\ y <= m.gr - 1
   ·have HW1 : Hid (∀ w : World,Calls Tryz.prog 39 #[.int .i64 y,.int .i64 nx,.int .i64 (m.gr - 1)] w fun e w' => e = .returned (.bool true) /\ w' = w) := mwithin_yes h1.1 h1.2
    by_cases h2 : 1 <= (lq : Int) /\ (lq : Int) <= m.size
    ·have HW2 : Hid (∀ w : World,Calls Tryz.prog 39 #[.int .i64 (lq : Int),.int .i64 1,.int .i64 m.size] w fun e w' => e = .returned (.bool true) /\ w' = w) := mwithin_yes h2.1 h2.2
     by_cases h3 : PA
     ·have HA3 : Hid (∀ W,Below wr.heap.size wr W -> Calls Tryz.prog 75 #[.slice s.aN s.lN s.cN,.slice aq lq cq] W fun e w' => e = .returned (.bool true) /\ Below W.heap.size W w') := fun W hb => bool_is (HAQ.out W hb) h3
      have HT3 : Hid (TempsTo m (k + 1)) := HY2.out h1 h2 h3
      obtain ⟨h11,h12⟩ := h1
      have hy9 : y <= 8 := by omega
      have hy0 : 0 <= y := by omega
      clear h2 h3 HY2 HN2 HAQ
      have t0 : (wr.alloc (.cells #[.int .i64 y,.slice aq lq cq] 59)).cell? ⟨wr.heap.size,0,none⟩ = some (.int .i64 y) := by simp
      have hlz : wr.heap.size < (wr.alloc (.cells #[.int .i64 y,.slice aq lq cq] 59)).heap.size := by simp
      go_wp2_with (first
       | (go_at_call_of 39 nx; refine (HW1.out _).mono ?_; rintro e w' ⟨rfl,hw'⟩; obtain rfl := hw'.symm)
       | (go_at_call_of 39 lq; refine (HW2.out _).mono ?_; rintro e w' ⟨rfl,hw'⟩; obtain rfl := hw'.symm)
       | (go_at_call 75; refine (HA3.out _ hba).mono ?_; rintro e w4 ⟨rfl,hb4⟩; have t4 := (hb4.cell (p := ⟨wr.heap.size,0,none⟩) hlz).trans t0))
      exact ⟨⟨k + 1,by omega,by go_num,by rw [HSC'.out],HT3,below2 hbel (below2 hba hb4)⟩,by simp [intOf]; omega⟩
     ·have HA3 : Hid (∀ W,Below wr.heap.size wr W -> Calls Tryz.prog 75 #[.slice s.aN s.lN s.cN,.slice aq lq cq] W fun e w' => e = .returned (.bool false) /\ Below W.heap.size W w') := fun W hb => bool_isnt (HAQ.out W hb) h3
      have HBAD : Hid (¬ TempsTo m m.tms.length) := HNO.out (HN2.out fun h => h3 h.2.2)
      clear h1 h2 h3 HY2 HN2 HAQ
      go_wp2_with (first
       | (go_at_call_of 39 nx; refine (HW1.out _).mono ?_; rintro e w' ⟨rfl,hw'⟩; obtain rfl := hw'.symm)
       | (go_at_call_of 39 lq; refine (HW2.out _).mono ?_; rintro e w' ⟨rfl,hw'⟩; obtain rfl := hw'.symm)
       | (go_at_call 75; refine (HA3.out _ hba).mono ?_; rintro e w4 ⟨rfl,hb4⟩))
      go_ret
      exact bool_no (below2 hbw (below2 hba hb4)) HBAD.out
    ·have HW2 : Hid (∀ w : World,Calls Tryz.prog 39 #[.int .i64 (lq : Int),.int .i64 1,.int .i64 m.size] w fun e w' => e = .returned (.bool false) /\ w' = w) := mwithin_no h2
     have HBAD : Hid (¬ TempsTo m m.tms.length) := HNO.out (HN2.out fun h => h2 h.2.1)
     clear h1 h2 HY2 HN2 HAQ
     go_wp2_with (first
      | (go_at_call_of 39 nx; refine (HW1.out _).mono ?_; rintro e w' ⟨rfl,hw'⟩; obtain rfl := hw'.symm)
      | (go_at_call_of 39 lq; refine (HW2.out _).mono ?_; rintro e w' ⟨rfl,hw'⟩; obtain rfl := hw'.symm))
     go_ret
     exact bool_no (below2 hbw hba) HBAD.out
   ·have HW1 : Hid (∀ w : World,Calls Tryz.prog 39 #[.int .i64 y,.int .i64 nx,.int .i64 (m.gr - 1)] w fun e w' => e = .returned (.bool false) /\ w' = w) := mwithin_no h1
    have HBAD : Hid (¬ TempsTo m m.tms.length) := HNO.out (HN2.out fun h => h1 h.1)
    clear h1 HY2 HN2 HAQ
    go_wp2_with (go_at_call_of 39 nx; refine (HW1.out _).mono ?_; rintro e w' ⟨rfl,hw'⟩; obtain rfl := hw'.symm)
    go_ret
    exact bool_no (below2 hbw hba) HBAD.out
  ·obtain rfl : k = s.lT := by omega
   have HOK : Hid (TempsTo m m.tms.length) := HYES.out hT.out
   clear hT
   go_wp2_with fail
   go_ret
   exact bool_yes hbw HOK.out
end Go.Proofs.YtcncbjknfcjnmaaGreat.Tp
