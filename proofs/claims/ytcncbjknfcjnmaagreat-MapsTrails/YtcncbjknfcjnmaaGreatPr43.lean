/-
  The law MapsTrails where it is not asked.
  The contracts of the answer's Find and Apart, as worlds that only grow.
  The contract of the answer's Apart.
-/
import Derived.Test.YtcncbjknfcjnmaaGreatPr39
import Derived.Test.YtcncbjknfcjnmaaGreatPr40
import Derived.Test.YtcncbjknfcjnmaaGreatPr38
import Derived.Test.YtcncbjknfcjnmaaGreatPr41
import Derived.Test.YtcncbjknfcjnmaaGreatPr20
namespace Go.Proofs.YtcncbjknfcjnmaaGreat.Tp
open Go.ChangeShapes Go.WideShapes Go.ChangeAt Go.RowKit
set_option maxHeartbeats 4000000 in
set_option maxRecDepth 60000 in
theorem trails_far {m0 : Mp} {s0 : MV} {ls : List Dl} {a : Option Addr} {len cap : Nat} (hM : MayM m0) (hep : 1000000 < m0.ep) (w : World) (h : MapAt w m0 s0) (hD : DlsAt w a len cap ls)
  (HL : Hid (∀ W,Below w.heap.size w W -> Calls Tryz.prog 14 #[.agg #[.int .i64 m0.ep,.int .i64 m0.size,.int .i64 m0.mn,.int .i64 m0.gr,.slice s0.aN s0.lN s0.cN,.slice s0.aT s0.lT s0.cT,.slice s0.aR s0.lR s0.cR]] W fun e w' => LightPost m0 W e w'))
  (HDL : Hid (∀ W,Below w.heap.size w W -> Calls Tryz.prog 27 #[.slice a len cap] W fun e w' => FewPost len W e w'))
  (HMY : Hid (∀ W,Below w.heap.size w W -> Calls Tryz.prog 13 #[.agg #[.int .i64 m0.ep,.int .i64 m0.size,.int .i64 m0.mn,.int .i64 m0.gr,.slice s0.aN s0.lN s0.cN,.slice s0.aT s0.lT s0.cT,.slice s0.aR s0.lR s0.cR]] W fun e w' => e = .returned (.bool true) /\ Below W.heap.size W w')) :
  Calls Tryz.prog 8 #[.agg #[.int .i64 m0.ep,.int .i64 m0.size,.int .i64 m0.mn,.int .i64 m0.gr,.slice s0.aN s0.lN s0.cN,.slice s0.aT s0.lT s0.cT,.slice s0.aR s0.lR s0.cR],.slice a len cap] w fun e w' => e = .returned (.bool true) /\ Below w.heap.size w w' := by
 have HM := Hid.mk9 hM
 have HMA := Hid.mk9 h
 have HDD := Hid.mk9 hD
 have hgr : m0.gr <= 8 := hM.cnt.2.2.2
 have hB0 := Hid.mk9 (Box7.new w (.int .i64 m0.ep) (.int .i64 m0.size) (.int .i64 m0.mn) (.int .i64 m0.gr) (.slice s0.aN s0.lN s0.cN) (.slice s0.aT s0.lT s0.cT) (.slice s0.aR s0.lR s0.cR) 26)
 have hT0 := Hid.mk9 (BoxTy.new w #[.int .i64 m0.ep,.int .i64 m0.size,.int .i64 m0.mn,.int .i64 m0.gr,.slice s0.aN s0.lN s0.cN,.slice s0.aT s0.lT s0.cT,.slice s0.aR s0.lR s0.cR] 26)
 have hb0 := Hid.mk9 (below_alloc w (.cells #[.int .i64 m0.ep,.int .i64 m0.size,.int .i64 m0.mn,.int .i64 m0.gr,.slice s0.aN s0.lN s0.cN,.slice s0.aT s0.lT s0.cT,.slice s0.aR s0.lR s0.cR] 26))
 clear hM h hD
 obtain ⟨⟨c0,c1,c2,c3,c4,c5,c6⟩,-⟩ := hB0.out
 go_enter Tryz.func8,Tryz.ntmps8
 go_wp2_with fail
 refine (HL.out _ hb0.out).mono ?_
 rintro e w2 ⟨qL,rfl,hqL,hb2⟩
 clear c0 c1 c2 c3 c4 c5 c6
 have HB2 := Hid.mk9 (below2 hb0.out hb2)
 have H72 := Hid.mk9 (hB0.out.below hb2)
 have HT2 := Hid.mk9 (boxTy_below hT0.out hb2)
 clear hb2
 have HLQ := Hid.mk9 hqL
 clear hqL
 cases qL
 ·go_wp2_with (go_at_call 11; refine (awake9 _).mono ?_; rintro e w9 ⟨rfl,hb9⟩)
  go_ret
  exact ⟨rfl,below2 HB2.out hb9⟩
 have HP : Hid (∀ i,i < m0.trs.length -> (m0.trs.getD i tr0).past.length <= 20) := Hid.mk9 (HLQ.out rfl)
 clear HLQ
 go_wp2_with fail
 refine (HDL.out _ HB2.out).mono ?_
 rintro e w3 ⟨qD,rfl,hqD,hb3⟩
 replace HB2 := Hid.mk9 (below2 HB2.out hb3)
 replace H72 := Hid.mk9 (H72.out.below hb3)
 replace HT2 := Hid.mk9 (boxTy_below HT2.out hb3)
 clear hb3
 have HDQ := Hid.mk9 hqD
 clear hqD
 cases qD
 ·go_wp2_with (go_at_call 11; refine (awake9 _).mono ?_; rintro e w9 ⟨rfl,hb9⟩)
  go_ret
  exact ⟨rfl,below2 HB2.out hb9⟩
 have h60 : (len : Int) <= 60 := HDQ.out rfl
 clear HDQ
 obtain ⟨⟨c0,c1,c2,c3,c4,c5,c6⟩,-⟩ := H72.out
 go_wp2_with fail
 refine (HMY.out _ HB2.out).mono ?_
 rintro e w4 ⟨rfl,hb4⟩
 clear c0 c1 c2 c3 c4 c5 c6
 replace HB2 := Hid.mk9 (below2 HB2.out hb4)
 replace H72 := Hid.mk9 (H72.out.below hb4)
 replace HT2 := Hid.mk9 (boxTy_below HT2.out hb4)
 clear hb4
 obtain ⟨⟨c0,c1,c2,c3,c4,c5,c6⟩,-⟩ := H72.out
 go_wp2_with (go_at_call 11; refine (awake9 _).mono ?_; rintro e w9 ⟨rfl,hb9⟩)
 go_ret
 exact ⟨rfl,below2 HB2.out hb9⟩
set_option maxHeartbeats 4000000 in
set_option maxRecDepth 60000 in
theorem trails_not {m0 : Mp} {s0 : MV} {ls : List Dl} {a : Option Addr} {len cap : Nat} (w : World) (h : MapAt w m0 s0) (hD : DlsAt w a len cap ls)
  (HL : Hid (∀ W,Below w.heap.size w W -> Calls Tryz.prog 14 #[.agg #[.int .i64 m0.ep,.int .i64 m0.size,.int .i64 m0.mn,.int .i64 m0.gr,.slice s0.aN s0.lN s0.cN,.slice s0.aT s0.lT s0.cT,.slice s0.aR s0.lR s0.cR]] W fun e w' => LightAll m0 W e w'))
  (HDL : Hid (∀ W,Below w.heap.size w W -> Calls Tryz.prog 27 #[.slice a len cap] W fun e w' => FewPost len W e w'))
  (HMY : Hid (∀ W,Below w.heap.size w W -> Calls Tryz.prog 13 #[.agg #[.int .i64 m0.ep,.int .i64 m0.size,.int .i64 m0.mn,.int .i64 m0.gr,.slice s0.aN s0.lN s0.cN,.slice s0.aT s0.lT s0.cT,.slice s0.aR s0.lR s0.cR]] W fun e w' => e = .returned (.bool false) /\ Below W.heap.size W w')) :
  Calls Tryz.prog 8 #[.agg #[.int .i64 m0.ep,.int .i64 m0.size,.int .i64 m0.mn,.int .i64 m0.gr,.slice s0.aN s0.lN s0.cN,.slice s0.aT s0.lT s0.cT,.slice s0.aR s0.lR s0.cR],.slice a len cap] w fun e w' => e = .returned (.bool true) /\ Below w.heap.size w w' := by
 have HMA := Hid.mk9 h
 have HDD := Hid.mk9 hD
 have hB0 := Hid.mk9 (Box7.new w (.int .i64 m0.ep) (.int .i64 m0.size) (.int .i64 m0.mn) (.int .i64 m0.gr) (.slice s0.aN s0.lN s0.cN) (.slice s0.aT s0.lT s0.cT) (.slice s0.aR s0.lR s0.cR) 26)
 have hT0 := Hid.mk9 (BoxTy.new w #[.int .i64 m0.ep,.int .i64 m0.size,.int .i64 m0.mn,.int .i64 m0.gr,.slice s0.aN s0.lN s0.cN,.slice s0.aT s0.lT s0.cT,.slice s0.aR s0.lR s0.cR] 26)
 have hb0 := Hid.mk9 (below_alloc w (.cells #[.int .i64 m0.ep,.int .i64 m0.size,.int .i64 m0.mn,.int .i64 m0.gr,.slice s0.aN s0.lN s0.cN,.slice s0.aT s0.lT s0.cT,.slice s0.aR s0.lR s0.cR] 26))
 clear h hD
 obtain ⟨⟨c0,c1,c2,c3,c4,c5,c6⟩,-⟩ := hB0.out
 go_enter Tryz.func8,Tryz.ntmps8
 go_wp2_with fail
 refine (HL.out _ hb0.out).mono ?_
 rintro e w2 ⟨qL,rfl,hqL,hb2⟩
 clear c0 c1 c2 c3 c4 c5 c6
 have HB2 := Hid.mk9 (below2 hb0.out hb2)
 have H72 := Hid.mk9 (hB0.out.below hb2)
 have HT2 := Hid.mk9 (boxTy_below hT0.out hb2)
 clear hb2
 have HLQ := Hid.mk9 hqL
 clear hqL
 cases qL
 ·go_wp2_with (go_at_call 11; refine (awake9 _).mono ?_; rintro e w9 ⟨rfl,hb9⟩)
  go_ret
  exact ⟨rfl,below2 HB2.out hb9⟩
 clear HLQ
 go_wp2_with fail
 refine (HDL.out _ HB2.out).mono ?_
 rintro e w3 ⟨qD,rfl,hqD,hb3⟩
 replace HB2 := Hid.mk9 (below2 HB2.out hb3)
 replace H72 := Hid.mk9 (H72.out.below hb3)
 replace HT2 := Hid.mk9 (boxTy_below HT2.out hb3)
 clear hb3
 have HDQ := Hid.mk9 hqD
 clear hqD
 cases qD
 ·go_wp2_with (go_at_call 11; refine (awake9 _).mono ?_; rintro e w9 ⟨rfl,hb9⟩)
  go_ret
  exact ⟨rfl,below2 HB2.out hb9⟩
 have h60 : (len : Int) <= 60 := HDQ.out rfl
 clear HDQ
 obtain ⟨⟨c0,c1,c2,c3,c4,c5,c6⟩,-⟩ := H72.out
 go_wp2_with fail
 refine (HMY.out _ HB2.out).mono ?_
 rintro e w4 ⟨rfl,hb4⟩
 clear c0 c1 c2 c3 c4 c5 c6
 replace HB2 := Hid.mk9 (below2 HB2.out hb4)
 replace H72 := Hid.mk9 (H72.out.below hb4)
 replace HT2 := Hid.mk9 (boxTy_below HT2.out hb4)
 clear hb4
 obtain ⟨⟨c0,c1,c2,c3,c4,c5,c6⟩,-⟩ := H72.out
 go_wp2_with (go_at_call 11; refine (awake9 _).mono ?_; rintro e w9 ⟨rfl,hb9⟩)
 go_ret
 exact ⟨rfl,below2 HB2.out hb9⟩
end Go.Proofs.YtcncbjknfcjnmaaGreat.Tp
namespace Go.Proofs.YtcncbjknfcjnmaaGreat.Tp
open Go.ChangeShapes Go.WideShapes Go.ChangeAt Go.RowKit
theorem grown_of_below {w W : World} (h : Below w.heap.size w W) {q : Nat} (hd : W.drawn = w.drawn + q) : Grown w W := by
 refine ⟨q,W.heap.extract w.heap.size W.heap.size,?_⟩
 have hh : W.heap = w.heap ++ W.heap.extract w.heap.size W.heap.size := by
  apply Array.ext_getElem?
  intro i
  by_cases hi : i < w.heap.size
  ·rw [Array.getElem?_append_left hi]
   exact h.block i hi
  ·rw [Array.getElem?_append_right (by omega),Array.getElem?_extract]
   have := h.size
   by_cases hw : i < W.heap.size
   ·rw [if_pos (by omega)]
    congr 1
    omega
   ·rw [if_neg (by omega),Array.getElem?_eq_none (by omega)]
 cases W with
 | mk heap tape drawn os output =>
  cases w with
  | mk heap' tape' drawn' os' output' =>
   obtain ⟨h1,h2,h3,-,-⟩ := h
   simp only at h1 h2 h3 hd hh
   subst h1 h2 h3 hd
   unfold Go.Sort.grow World.drewN
   simp only [World.mk.injEq,and_true]
   exact hh
theorem grown_drawn {w W : World} (h : Grown w W) : ∃ q,W.drawn = w.drawn + q := by
 obtain ⟨q,os,rfl⟩ := h
 exact ⟨q,rfl⟩
theorem drawn_set (w : World) (a : Addr) (v : Value) : (w.setCell a v).drawn = w.drawn := rfl
theorem grown_set6 {w W : World} (h : Grown w W) {b : Nat} (hb : w.heap.size <= b) (v0 v1 v2 v3 v4 v5 : Value) : Grown w (set6 W b v0 v1 v2 v3 v4 v5) := by
 obtain ⟨q,hq⟩ := grown_drawn h
 refine grown_of_below (set6_below (grown_below h) hb v0 v1 v2 v3 v4 v5) (q := q) ?_
 unfold set6
 rw [drawn_set,drawn_set,drawn_set,drawn_set,drawn_set,drawn_set]
 exact hq
set_option maxHeartbeats 2000000 in
set_option maxRecDepth 60000 in
theorem refFind_g (a : Option Addr) (len cap : Nat) (ls : List Nd) (id : Int) (w : World) (h : NdsAt w a len cap ls) :
  Calls Tryz.prog 57 #[.slice a len cap,.int .i64 id] w fun e w' => e = .returned (.tuple #[.agg (ndCells ((findN ls id).getD nd0)).toArray,.bool (findN ls id).isSome]) /\ Grown w w' := by
 have hl : ls.length = len := h.1
 have hm : len <= maxLen := Nat.le_trans h.2.1 h.2.2.1
 unfold maxLen at hm
 have hbw1 : Below w.heap.size w (w.alloc (.cells #[.int .i64 0,.int .i64 0,.int .i64 0,.int .i64 0,.bool false,.bool false] 72)) := below_alloc _ _
 have hgw1 := grown_alloc w (.cells #[.int .i64 0,.int .i64 0,.int .i64 0,.int .i64 0,.bool false,.bool false] 72)
 have hs1 : w.heap.size < (w.alloc (.cells #[.int .i64 0,.int .i64 0,.int .i64 0,.int .i64 0,.bool false,.bool false] 72)).heap.size := by simp
 have HS1 : Hid (Six (w.alloc (.cells #[.int .i64 0,.int .i64 0,.int .i64 0,.int .i64 0,.bool false,.bool false] 72)) w.heap.size (.int .i64 0) (.int .i64 0) (.int .i64 0) (.int .i64 0) (.bool false) (.bool false)) := by unfold Hid Six; simp
 have q0 : (w.alloc (.cells #[.int .i64 0,.int .i64 0,.int .i64 0,.int .i64 0,.bool false,.bool false] 72)).frozen? ⟨w.heap.size,0,none⟩ = false := by simp
 have q1 : (w.alloc (.cells #[.int .i64 0,.int .i64 0,.int .i64 0,.int .i64 0,.bool false,.bool false] 72)).frozen? ⟨w.heap.size,1,none⟩ = false := by simp
 have q2 : (w.alloc (.cells #[.int .i64 0,.int .i64 0,.int .i64 0,.int .i64 0,.bool false,.bool false] 72)).frozen? ⟨w.heap.size,2,none⟩ = false := by simp
 have q3 : (w.alloc (.cells #[.int .i64 0,.int .i64 0,.int .i64 0,.int .i64 0,.bool false,.bool false] 72)).frozen? ⟨w.heap.size,3,none⟩ = false := by simp
 have q4 : (w.alloc (.cells #[.int .i64 0,.int .i64 0,.int .i64 0,.int .i64 0,.bool false,.bool false] 72)).frozen? ⟨w.heap.size,4,none⟩ = false := by simp
 have q5 : (w.alloc (.cells #[.int .i64 0,.int .i64 0,.int .i64 0,.int .i64 0,.bool false,.bool false] 72)).frozen? ⟨w.heap.size,5,none⟩ = false := by simp
 have HL : Hid (NdsAt (w.alloc (.cells #[.int .i64 0,.int .i64 0,.int .i64 0,.int .i64 0,.bool false,.bool false] 72)) a len cap ls) := h.below hbw1
 clear h
 go_enter Tryz.func57,Tryz.ntmps57
 go_wp2_with fail
 generalize w.alloc (.cells #[.int .i64 0,.int .i64 0,.int .i64 0,.int .i64 0,.bool false,.bool false] 72) = w1 at *
 have HX : Hid (∀ wr,Below w1.heap.size w1 wr -> Six wr w.heap.size (.int .i64 0) (.int .i64 0) (.int .i64 0) (.int .i64 0) (.bool false) (.bool false)) := fun wr hb => HS1.out.below hb
 have HFR : Hid (∀ wr,Below w1.heap.size w1 wr -> wr.frozen? ⟨w.heap.size,0,none⟩ = false /\ wr.frozen? ⟨w.heap.size,1,none⟩ = false /\ wr.frozen? ⟨w.heap.size,2,none⟩ = false /\ wr.frozen? ⟨w.heap.size,3,none⟩ = false /\ wr.frozen? ⟨w.heap.size,4,none⟩ = false /\ wr.frozen? ⟨w.heap.size,5,none⟩ = false) := fun wr hb => ⟨(hb.frozen (p := ⟨w.heap.size,0,none⟩) hs1).trans q0,(hb.frozen (p := ⟨w.heap.size,1,none⟩) hs1).trans q1,(hb.frozen (p := ⟨w.heap.size,2,none⟩) hs1).trans q2,(hb.frozen (p := ⟨w.heap.size,3,none⟩) hs1).trans q3,(hb.frozen (p := ⟨w.heap.size,4,none⟩) hs1).trans q4,(hb.frozen (p := ⟨w.heap.size,5,none⟩) hs1).trans q5⟩
 clear q0 q1 q2 q3 q4 q5 HS1
 go_loopw [6] (fun i wr => ∃ k : Nat,k <= len /\ i = .int .i64 k /\ Hid (∀ j,j < k -> (ls.getD j nd0).id ≠ id) /\ Grown w1 wr) (fun i _ => len - (intOf i).toNat)
 case atStart => exact ⟨0,Nat.zero_le _,rfl,(fun j hj => absurd hj (Nat.not_lt_zero _)),grown_refl _⟩
 case round =>
  obtain ⟨k,hk,rfl,hT,hgr⟩ := hrel
  have hbel := grown_below hgr
  have HSX : Hid (Six wr w.heap.size (.int .i64 0) (.int .i64 0) (.int .i64 0) (.int .i64 0) (.bool false) (.bool false)) := HX.out wr hbel
  obtain ⟨s0,s1,s2,s3,s4,s5⟩ := HX.out wr hbel
  obtain ⟨f0,f1,f2,f3,f4,f5⟩ := HFR.out wr hbel
  have hbw : Below w.heap.size w wr := below2 hbw1 hbel
  have hsz : w.heap.size < wr.heap.size := Nat.lt_of_lt_of_le hs1 hbel.size
  by_cases hlt : k < len
  ·obtain ⟨b,off,rfl,hbs,hcell⟩ := (HL.out.below hbel).some (by omega)
   obtain ⟨e0,e1,e2,e3,e4,e5⟩ := hcell k hlt
   have hk1 : (k : Int) < (len : Int) := by omega
   have hk0 : (0 : Int) <= (k : Int) := by omega
   clear hcell
   have HNO : Hid ((ls.getD k nd0).id ≠ id -> ∀ j,j < k + 1 -> (ls.getD j nd0).id ≠ id) := fun h j hj => by
    rcases Nat.lt_succ_iff_lt_or_eq.1 hj with h' | rfl
    ·exact hT.out j h'
    ·exact h
   have HYES : Hid ((ls.getD k nd0).id = id -> findN ls id = some (ls.getD k nd0)) := fun h => find_some (by omega) h hT.out
   generalize ls.getD k nd0 = x at *
   obtain ⟨c1,c2,c3,c4,c5,c6⟩ := x
   simp only at e0 e1 e2 e3 e4 e5
   clear hT
   have HGA : Hid (Grown w1 wr) := hgr
   have HGF : Hid (Grown w (set6 wr w.heap.size (.int .i64 c1) (.int .i64 c2) (.int .i64 c3) (.int .i64 c4) (.bool c5) (.bool c6))) := grown_set6 (grown2 hgw1 HGA.out) (Nat.le_refl _) _ _ _ _ _ _
   by_cases hid : c1 = id
   ·have HP : Hid (findN ls id = some ⟨c1,c2,c3,c4,c5,c6⟩) := HYES.out hid
    obtain rfl := hid.symm
    clear HNO HYES hid
    go_wp2_with fail
    refine bodyPost_ret (ret_node rfl _ _ w.heap.size _ _ _ _ _ _ rfl (HSX.out.set _ _ _ _ _ _)) rfl ?_
    exact ⟨by rw [HP.out]; rfl,HGF.out⟩
   ·have HY : Hid (∀ j,j < k + 1 -> (ls.getD j nd0).id ≠ id) := HNO.out hid
    have hd : (c1 == id) = false := by simpa using hid
    clear HNO HYES
    go_wp2_with fail
    exact ⟨⟨k + 1,by omega,by go_num,HY,HGA.out⟩,by simp [intOf]; omega⟩
  ·obtain rfl : k = len := by omega
   have HGF : Hid (Grown w (set6 wr w.heap.size (.int .i64 0) (.int .i64 0) (.int .i64 0) (.int .i64 0) (.bool false) (.bool false))) := grown_set6 (grown2 hgw1 hgr) (Nat.le_refl _) _ _ _ _ _ _
   have HP : Hid (findN ls id = none) := find_none fun j hj => hT.out j (by omega)
   clear hT
   go_wp2_with fail
   refine bodyPost_ret (ret_node rfl _ _ w.heap.size _ _ _ _ _ _ rfl (HSX.out.set _ _ _ _ _ _)) rfl ?_
   exact ⟨by rw [HP.out]; rfl,HGF.out⟩
end Go.Proofs.YtcncbjknfcjnmaaGreat.Tp
namespace Go.Proofs.YtcncbjknfcjnmaaGreat.Tp
open Go.ChangeShapes Go.WideShapes Go.ChangeAt Go.RowKit
set_option maxHeartbeats 2000000 in
set_option maxRecDepth 60000 in
theorem refApart_g (a : Option Addr) (len cap : Nat) (ls : List Nd) (b : Option Addr) (n c : Nat) (ids : List Int) (q : Bool) (hq : q = true ↔ ApartP ls ids) (w : World) (hL : NdsAt w a len cap ls) (hI : RowI w b n c ids) :
  Calls Tryz.prog 34 #[.slice a len cap,.slice b n c] w fun e w' => e = .returned (.bool q) /\ Grown w w' := by
 have hn : ids.length = n := hI.1
 have hmx : n <= maxLen := Nat.le_trans hI.2.1 hI.2.2.1
 unfold maxLen at hmx
 have HI : Hid (RowI w b n c ids) := hI
 have HNL : Hid (ids.length = n) := hn
 have HFD : Hid (∀ W id,Grown w W -> Calls Tryz.prog 57 #[.slice a len cap,.int .i64 id] W fun e w' => e = .returned (.tuple #[.agg (ndCells ((findN ls id).getD nd0)).toArray,.bool (findN ls id).isSome]) /\ Grown W w') := fun W id hg => refFind_g a len cap ls id W (hL.below (grown_below hg))
 have HQN : Hid (¬ ApartP ls ids -> q = false) := fun h => by
  cases q with
  | false => rfl
  | true => exact absurd (hq.1 rfl) h
 have HQY : Hid (ApartTo ls ids n -> q = true) := fun h => hq.2 (by unfold ApartP; rw [hn]; exact h)
 clear hL hI hn hq
 go_enter Tryz.func34,Tryz.ntmps34
 go_wp2_with fail
 go_loopw [5] (fun i wr => ∃ k : Nat,k <= n /\ i = .int .i64 k /\ Hid (ApartTo ls ids k) /\ Grown w wr) (fun i _ => n - (intOf i).toNat)
 case atStart => exact ⟨0,Nat.zero_le _,rfl,⟨fun i hi => absurd hi (Nat.not_lt_zero _),fun i j _ hi => absurd hi (Nat.not_lt_zero _)⟩,grown_refl _⟩
 case round =>
  obtain ⟨k,hk,rfl,hA,hgr⟩ := hrel
  by_cases hlt : k < n
  ·have hk1 : (k : Int) < (n : Int) := by omega
   have hk0 : (0 : Int) <= (k : Int) := by omega
   obtain ⟨p,po,rfl,hp,hcp⟩ := (HI.out.below (grown_below hgr)).some (by omega)
   have x0 := hcp k hlt
   have HF1 := HFD.out wr (ids.getD k 0) hgr
   have HNN : Hid (findN ls (ids.getD k 0) = none -> ¬ ApartP ls ids) := fun h => apart_none (by have := HNL.out; omega) h
   have HTW : Hid (∀ j,j < k -> zoneN ls (ids.getD k 0) = zoneN ls (ids.getD j 0) -> ¬ ApartP ls ids) := fun j hj h => apart_twice (by have := HNL.out; omega) hj h
   have HNX : Hid ((findN ls (ids.getD k 0)).isSome = true -> (∀ j,j < k -> zoneN ls (ids.getD k 0) ≠ zoneN ls (ids.getD j 0)) -> ApartTo ls ids (k + 1)) := fun h1 h2 => apart_next hA.out h1 h2
   have HZK : Hid (∀ x,findN ls (ids.getD k 0) = some x -> zoneN ls (ids.getD k 0) = x.zone) := fun x h => by unfold zoneN; rw [h]; rfl
   clear hcp
   generalize zoneN ls (ids.getD k 0) = zk at *
   generalize ids.getD k 0 = id at *
   cases hf : findN ls id with
   | none =>
    rw [hf] at HF1
    have HF2 : Hid (Calls Tryz.prog 57 #[.slice a len cap,.int .i64 id] wr fun e w' => e = .returned (.tuple #[.agg #[.int .i64 0,.int .i64 0,.int .i64 0,.int .i64 0,.bool false,.bool false],.bool false]) /\ Grown wr w') := HF1
    obtain rfl := HQN.out (HNN.out hf)
    clear HF1 HNN HTW HNX HZK hf HQN HQY
    go_wp2_with (go_at_call 57; refine HF2.out.mono ?_; rintro e w2 ⟨rfl,hg2⟩)
    go_ret
    exact ⟨rfl,grown2 hgr (grown2 hg2 (grown_alloc _ _))⟩
   | some x =>
    rw [hf] at HF1
    have hzk := HZK.out x hf
    have HNX2 : Hid ((∀ j,j < k -> zk ≠ zoneN ls (ids.getD j 0)) -> ApartTo ls ids (k + 1)) := fun h => HNX.out (by rw [hf]; rfl) h
    obtain ⟨c1,c2,c3,c4,c5,c6⟩ := x
    simp only at hzk
    subst hzk
    have HF2 : Hid (Calls Tryz.prog 57 #[.slice a len cap,.int .i64 id] wr fun e w' => e = .returned (.tuple #[.agg #[.int .i64 c1,.int .i64 zk,.int .i64 c3,.int .i64 c4,.bool c5,.bool c6],.bool true]) /\ Grown wr w') := HF1
    clear HF1 HNN HNX HZK hf
    go_wp2_with (go_at_call 57; refine HF2.out.mono ?_; rintro e w2 ⟨rfl,hg2⟩)
    have hz1 : (w2.alloc (.cells #[.int .i64 c1,.int .i64 zk,.int .i64 c3,.int .i64 c4,.bool c5,.bool c6] 72)).cell? ⟨w2.heap.size,1,none⟩ = some (.int .i64 zk) := by simp
    have hlz : w2.heap.size < (w2.alloc (.cells #[.int .i64 c1,.int .i64 zk,.int .i64 c3,.int .i64 c4,.bool c5,.bool c6] 72)).heap.size := by simp
    have hg3 : Grown w (w2.alloc (.cells #[.int .i64 c1,.int .i64 zk,.int .i64 c3,.int .i64 c4,.bool c5,.bool c6] 72)) := grown2 hgr (grown2 hg2 (grown_alloc _ _))
    generalize hw3 : w2.alloc (.cells #[.int .i64 c1,.int .i64 zk,.int .i64 c3,.int .i64 c4,.bool c5,.bool c6] 72) = w3 at *
    clear hw3 hg2
    go_loopw [8] (fun i wq => ∃ j : Nat,j <= k /\ i = .int .i64 j /\ Hid (∀ t,t < j -> zk ≠ zoneN ls (ids.getD t 0)) /\ Grown w3 wq) (fun i _ => k - (intOf i).toNat)
    case atStart => exact ⟨0,Nat.zero_le _,rfl,(fun t ht => absurd ht (Nat.not_lt_zero _)),grown_refl _⟩
    case round =>
     obtain ⟨j,hj,rfl,hU,hgq⟩ := hrel
     have z1 := ((grown_below hgq).cell (p := ⟨w2.heap.size,1,none⟩) hlz).trans hz1
     have hlz2 : w2.heap.size < wr.heap.size := Nat.lt_of_lt_of_le hlz (grown_below hgq).size
     by_cases hjk : j < k
     ·have hj1 : (j : Int) < (k : Int) := by omega
      have hjn : (j : Int) < (n : Int) := by omega
      have hj0 : (0 : Int) <= (j : Int) := by omega
      obtain ⟨p',po',hpe,hp',hcp'⟩ := (HI.out.below (grown_below (grown2 hg3 hgq))).some (by omega)
      injection hpe with hpe
      injection hpe with hpe1 hpe2
      subst hpe1 hpe2
      have x1 := hcp' j (by omega)
      have HF3 := HFD.out wr (ids.getD j 0) (grown2 hg3 hgq)
      have hsome := hA.out.1 j hjk
      have HZJ : Hid (∀ x,findN ls (ids.getD j 0) = some x -> zoneN ls (ids.getD j 0) = x.zone) := fun x h => by unfold zoneN; rw [h]; rfl
      have HTJ := HTW.out j hjk
      have HUX : Hid (zk ≠ zoneN ls (ids.getD j 0) -> ∀ t,t < j + 1 -> zk ≠ zoneN ls (ids.getD t 0)) := fun h t ht => by
       by_cases e : t = j
       ·rw [e]; exact h
       ·exact hU.out t (by omega)
      clear hcp' hU
      generalize zoneN ls (ids.getD j 0) = zj at *
      generalize ids.getD j 0 = id' at *
      obtain ⟨y,hy⟩ := Option.isSome_iff_exists.1 hsome
      rw [hy] at HF3
      have hzj := HZJ.out y hy
      obtain ⟨d1,d2,d3,d4,d5,d6⟩ := y
      simp only at hzj
      subst hzj
      have HF4 : Hid (Calls Tryz.prog 57 #[.slice a len cap,.int .i64 id'] wr fun e w' => e = .returned (.tuple #[.agg #[.int .i64 d1,.int .i64 zj,.int .i64 d3,.int .i64 d4,.bool d5,.bool d6],.bool true]) /\ Grown wr w') := HF3
      clear HF3 hsome hy HZJ
      by_cases hzz : zk = zj
      ·obtain rfl := HQN.out (HTJ hzz)
       subst hzz
       clear HTJ HUX HTW HNX2 HQN HQY
       go_wp2_with (go_at_call 57; refine HF4.out.mono ?_; rintro e w5 ⟨rfl,hg5⟩; have z2 := ((grown_below hg5).cell (p := ⟨w2.heap.size,1,none⟩) hlz2).trans z1; have hlz3 : w2.heap.size < w5.heap.size := Nat.lt_of_lt_of_le hlz2 (grown_below hg5).size)
       go_ret
       exact ⟨rfl,grown2 hg3 (grown2 hgq (grown2 hg5 (grown_alloc _ _)))⟩
      ·have HU2 : Hid (∀ t,t < j + 1 -> zk ≠ zoneN ls (ids.getD t 0)) := HUX.out hzz
       have hzd : (zk == zj) = false := by simpa using hzz
       clear HTJ HUX
       go_wp2_with (go_at_call 57; refine HF4.out.mono ?_; rintro e w5 ⟨rfl,hg5⟩; have z2 := ((grown_below hg5).cell (p := ⟨w2.heap.size,1,none⟩) hlz2).trans z1; have hlz3 : w2.heap.size < w5.heap.size := Nat.lt_of_lt_of_le hlz2 (grown_below hg5).size)
       exact ⟨⟨j + 1,by omega,by go_num,HU2,grown2 hgq (grown2 hg5 (grown_alloc _ _))⟩,by simp [intOf]; omega⟩
     ·obtain rfl : j = k := by omega
      have HA2 : Hid (ApartTo ls ids (j + 1)) := HNX2.out hU.out
      clear hU
      go_wp2_with fail
      exact ⟨⟨j + 1,by omega,by go_num,HA2,grown2 hg3 hgq⟩,by simp [intOf]; omega⟩
  ·obtain rfl : k = n := by omega
   obtain rfl := HQY.out hA.out
   clear hA
   go_wp2_with fail
   go_ret
   exact ⟨rfl,hgr⟩
end Go.Proofs.YtcncbjknfcjnmaaGreat.Tp
