/-
  The law MapsTrails where it is asked: the deltas, one by one.
-/
import Derived.Test.YtcncbjknfcjnmaaGreatPr38
import Derived.Test.YtcncbjknfcjnmaaGreatPr39
import Derived.Test.YtcncbjknfcjnmaaGreatPr40
import Derived.Test.YtcncbjknfcjnmaaGreatPr41
import Derived.Test.YtcncbjknfcjnmaaGreatPr22
namespace Go.Proofs.YtcncbjknfcjnmaaGreat.Tp
open Go.ChangeShapes Go.WideShapes Go.ChangeAt Go.RowKit
def MapPart (w : World) (m : Mp) (s : MV) (wr : World) : Prop := Below w.heap.size w wr /\ Box7 wr w.heap.size (.int .i64 m.ep) (.int .i64 m.size) (.int .i64 m.mn) (.int .i64 m.gr) (.slice s.aN s.lN s.cN) (.slice s.aT s.lT s.cT) (.slice s.aR s.lR s.cR) /\ BoxTy wr w.heap.size 26 /\ SureM w wr m s
theorem MapPart.below {w : World} {m : Mp} {s : MV} {wr w' : World} (h : MapPart w m s wr) (hb : Below wr.heap.size wr w') : MapPart w m s w' := ⟨below2 h.1 hb,h.2.1.below hb,boxTy_below h.2.2.1 hb,h.2.2.2.below hb⟩
theorem MapPart.type {w : World} {m : Mp} {s : MV} {wr w' : World} (h : MapPart w m s wr) {b : Nat} {cb : Array Value} {T : TypeId} {fz : Nat × Nat} (hg : wr.grownBy w' (some b)) (hb : wr.heap[b]? = some (.cells cb T fz)) (hB : w.heap.size <= b) (h1 : T ≠ 26)
  (h2 : T ≠ 72) (h3 : T ≠ 59) (h4 : T ≠ 53) (h5 : T ≠ 55) (h6 : T ≠ 3) : MapPart w m s w' := by
 have hne : w.heap.size ≠ b := by
  rintro rfl
  obtain ⟨c,e⟩ := h.2.2.1
  rw [e] at hb
  simp at hb
  exact h1 hb.2.1.symm
 refine ⟨h.1.grown hg h.1.size fun k hk => by simp at hk; omega,h.2.1.else hg hne,?_,h.2.2.2.type hg hb hB h2 h3 h4 h5 h6⟩
 obtain ⟨c,e⟩ := h.2.2.1
 exact ⟨c,(hg.block _ (Array.getElem?_eq_some_iff.1 e).1 (by simpa using hne)).trans e⟩
theorem grown_none {w w' : World} (h : w.grownBy w' none) : Below w.heap.size w w' := ⟨h.os,h.tape,h.output,h.size,fun k hk => h.block k hk (by simp)⟩
theorem MapPart.row {w : World} {m : Mp} {s : MV} {wr w' : World} (h : MapPart w m s wr) {v : Value} {n : Nat} {L : List Value} (hL : wr.ownsRow w.heap.size 35 1 v n L) (hg : wr.grownBy w' v.ownBlock) : MapPart w m s w' := by
 cases hv : v.ownBlock with
 | none => rw [hv] at hg; exact h.below (grown_none hg)
 | some b =>
  rw [hv] at hg
  obtain ⟨cb,e⟩ := own_tag hL hv
  exact h.type hg e (hL.lt b hv).1 (by decide) (by decide) (by decide) (by decide) (by decide) (by decide)
theorem acted_blk {w w' : World} {B X : Nat} {A : Nat -> List (List Int)} {vs : Nat -> Value} {g n : Nat} {L : List Value} (h : Acted w B X A vs) (hL : w.ownsRow B 35 1 (vs g) n L) (hgr : w.grownBy w' (vs g).ownBlock) : w'.heap[X]? = w.heap[X]? := by
 refine hgr.block X h.lt fun e => ?_
 obtain ⟨cs,e1⟩ := h.ty
 obtain ⟨cb,e2⟩ := own_tag hL e.symm
 rw [e1] at e2
 simp at e2
theorem own_form9 {w : World} {B s n : Nat} {E : TypeId} {v : Value} {xs : List Value} (h : w.ownsRow B E s v n xs) (h0 : 0 < n) : ∃ g c,v = .slice (some ⟨g,0,none⟩) n c := by
 obtain ⟨_,⟨_,e⟩ | ⟨g,cap,cur,e,_⟩⟩ := h
 ·omega
 ·exact ⟨g,cap,e⟩
theorem own_rowL {w : World} {B n c : Nat} {a : Option Addr} {l : List Int} (h : w.ownsRow B 3 1 (.slice a n c) n (intCells l)) (hl : l.length = n) : RowL w a n l := by
 have hm : n <= maxLen := by
  obtain ⟨_,⟨_,e⟩ | ⟨g,cap,cur,e,_,_,h1,h2,_⟩⟩ := h
  ·omega
  ·omega
 refine ⟨hl,hm,?_⟩
 by_cases h0 : n = 0
 ·exact .inl h0
 ·obtain ⟨g,c',e⟩ := own_form9 h (by omega)
  simp at e
  obtain ⟨rfl,rfl⟩ := e
  refine .inr ⟨g,0,rfl,fun i hi => ?_⟩
  rw [Nat.zero_add,h.cellAt i (by omega)]
  have hi2 : i < l.length := by omega
  simp [intCells,hi2]
theorem getD_memL {ls : List (List Int)} {j : Nat} (h : j < ls.length) : ls.getD j [] ∈ ls := by
 rw [List.getD_eq_getElem?_getD,List.getElem?_eq_getElem h]; exact List.getElem_mem h
theorem infoR : (Tryz.prog.info? 35).map (fun i => (i.zero,i.size,i.bytes)) = some (some (.slice none 0 0),1,24) := by kernel_rfl
def TrIn (w : World) (m0 : Mp) (X K k : Nat) (m : Mp) (s : MV) (A : Nat -> List (List Int)) (vs : Nat -> Value) (wr : World) : Prop :=
 MapPart w m s wr /\ (MayM m /\ (m.mn = m0.mn /\ m.gr = m0.gr /\ m.trs.length = m0.trs.length) /\ ∀ i,i < m.trs.length -> (m.trs.getD i tr0).past.length <= 20 + k) /\ Acted wr w.heap.size X A vs /\ (∀ g,g < 8 -> (A g).length <= K) /\ ∀ g,g < m.trs.length -> ∀ a ∈ A g,m.mn <= (a.length : Int) /\ FoundP m g a
theorem TrIn.below {w : World} {m0 : Mp} {X K k : Nat} {m : Mp} {s : MV} {A : Nat -> List (List Int)} {vs : Nat -> Value} {wr w' : World} (h : TrIn w m0 X K k m s A vs wr) (hb : Below wr.heap.size wr w') : TrIn w m0 X K k m s A vs w' :=
 ⟨h.1.below hb,h.2.1,h.2.2.1.below hb,h.2.2.2⟩
set_option maxHeartbeats 4000000 in
set_option maxRecDepth 60000 in
theorem trails_main {m0 : Mp} {s0 : MV} {ls : List Dl} {a : Option Addr} {len cap : Nat} (hM : MayM m0) (hep : m0.ep <= 1000000) (w : World) (h : MapAt w m0 s0) (hD : DlsAt w a len cap ls)
  (HL : Hid (∀ W,Below w.heap.size w W -> Calls Tryz.prog 14 #[.agg #[.int .i64 m0.ep,.int .i64 m0.size,.int .i64 m0.mn,.int .i64 m0.gr,.slice s0.aN s0.lN s0.cN,.slice s0.aT s0.lT s0.cT,.slice s0.aR s0.lR s0.cR]] W fun e w' => LightPost m0 W e w'))
  (HDL : Hid (∀ W,Below w.heap.size w W -> Calls Tryz.prog 27 #[.slice a len cap] W fun e w' => FewPost len W e w'))
  (HMY : Hid (∀ W,Below w.heap.size w W -> Calls Tryz.prog 13 #[.agg #[.int .i64 m0.ep,.int .i64 m0.size,.int .i64 m0.mn,.int .i64 m0.gr,.slice s0.aN s0.lN s0.cN,.slice s0.aT s0.lT s0.cT,.slice s0.aR s0.lR s0.cR]] W fun e w' => e = .returned (.bool true) /\ Below W.heap.size W w')) :
  Calls Tryz.prog 8 #[.agg #[.int .i64 m0.ep,.int .i64 m0.size,.int .i64 m0.mn,.int .i64 m0.gr,.slice s0.aN s0.lN s0.cN,.slice s0.aT s0.lT s0.cT,.slice s0.aR s0.lR s0.cR],.slice a len cap] w fun e w' => e = .returned (.bool true) /\ Below w.heap.size w w' := by
 have HM := Hid.mk9 hM
 have HMA := Hid.mk9 h
 have HDD := Hid.mk9 hD
 have hgr : m0.gr <= 8 := hM.cnt.2.2.2
 have hB0 := Hid.mk9 (Box7.new w (.int .i64 m0.ep) (.int .i64 m0.size) (.int .i64 m0.mn) (.int .i64 m0.gr) (.slice s0.aN s0.lN s0.cN) (.slice s0.aT s0.lT s0.cT) (.slice s0.aR s0.lR s0.cR) 26)
 have hT0 := Hid.mk9 (BoxTy.new w #[.int .i64 m0.ep,.int .i64 m0.size,.int .i64 m0.mn,.int .i64 m0.gr,.slice s0.aN s0.lN s0.cN,.slice s0.aT s0.lT s0.cT,.slice s0.aR s0.lR s0.cR] 26)
 have hb0 := Hid.mk9 (below_alloc w (.cells #[.int .i64 m0.ep,.int .i64 m0.size,.int .i64 m0.mn,.int .i64 m0.gr,.slice s0.aN s0.lN s0.cN,.slice s0.aT s0.lT s0.cT,.slice s0.aR s0.lR s0.cR] 26))
 clear hM h hD
 obtain ⟨⟨c0,c1,c2,c3,c4,c5,c6⟩,-⟩ := hB0.out
 go_enter Tryz.func8,Tryz.ntmps8
 go_wp2_with fail
 refine (HL.out _ hb0.out).mono ?_
 rintro e w2 ⟨qL,rfl,hqL,hb2⟩
 clear c0 c1 c2 c3 c4 c5 c6
 have HB2 := Hid.mk9 (below2 hb0.out hb2)
 have H72 := Hid.mk9 (hB0.out.below hb2)
 have HT2 := Hid.mk9 (boxTy_below hT0.out hb2)
 clear hb2
 have HLQ := Hid.mk9 hqL
 clear hqL
 cases qL
 ·go_wp2_with (go_at_call 11; refine (awake9 _).mono ?_; rintro e w9 ⟨rfl,hb9⟩)
  go_ret
  exact ⟨rfl,below2 HB2.out hb9⟩
 have HP : Hid (∀ i,i < m0.trs.length -> (m0.trs.getD i tr0).past.length <= 20) := Hid.mk9 (HLQ.out rfl)
 clear HLQ
 go_wp2_with fail
 refine (HDL.out _ HB2.out).mono ?_
 rintro e w3 ⟨qD,rfl,hqD,hb3⟩
 replace HB2 := Hid.mk9 (below2 HB2.out hb3)
 replace H72 := Hid.mk9 (H72.out.below hb3)
 replace HT2 := Hid.mk9 (boxTy_below HT2.out hb3)
 clear hb3
 have HDQ := Hid.mk9 hqD
 clear hqD
 cases qD
 ·go_wp2_with (go_at_call 11; refine (awake9 _).mono ?_; rintro e w9 ⟨rfl,hb9⟩)
  go_ret
  exact ⟨rfl,below2 HB2.out hb9⟩
 have h60 : (len : Int) <= 60 := HDQ.out rfl
 clear HDQ
 obtain ⟨⟨c0,c1,c2,c3,c4,c5,c6⟩,-⟩ := H72.out
 go_wp2_with fail
 refine (HMY.out _ HB2.out).mono ?_
 rintro e w4 ⟨rfl,hb4⟩
 clear c0 c1 c2 c3 c4 c5 c6
 replace HB2 := Hid.mk9 (below2 HB2.out hb4)
 replace H72 := Hid.mk9 (H72.out.below hb4)
 replace HT2 := Hid.mk9 (boxTy_below HT2.out hb4)
 clear hb4
 obtain ⟨⟨c0,c1,c2,c3,c4,c5,c6⟩,-⟩ := H72.out
 go_upto_region 4 with fail
 have HI0 : Hid (TrIn w m0 w4.heap.size (8 * 0) 0 m0 s0 (fun _ => []) (fun _ => .slice none 0 0) (w4.alloc (.cells #[.slice none 0 0,.slice none 0 0,.slice none 0 0,.slice none 0 0,.slice none 0 0,.slice none 0 0,.slice none 0 0,.slice none 0 0] 50))) := by
  have bA := below_alloc w4 (.cells #[.slice none 0 0,.slice none 0 0,.slice none 0 0,.slice none 0 0,.slice none 0 0,.slice none 0 0,.slice none 0 0,.slice none 0 0] 50)
  refine ⟨⟨below2 HB2.out bA,H72.out.below bA,boxTy_below HT2.out bA,.inl ⟨HMA.out,below2 HB2.out bA⟩⟩,⟨HM.out,⟨rfl,rfl,rfl⟩,fun i hi => HP.out i hi⟩,Acted.new w4 w.heap.size HB2.out.size,fun _ _ => Nat.zero_le _,fun _ _ _ hx => absurd hx (List.not_mem_nil)⟩
 clear HL HDL HMY hB0 hT0 hb0 c0 c1 c2 c3 c4 c5 c6 H72 HT2 HB2 hep
 generalize w4.heap.size = X at *
 generalize w4.alloc (.cells #[.slice none 0 0,.slice none 0 0,.slice none 0 0,.slice none 0 0,.slice none 0 0,.slice none 0 0,.slice none 0 0,.slice none 0 0] 50) = w5 at *
 go_wp2_with fail
 go_loopw [6] (fun i wr => ∃ (k : Nat) (m : Mp) (s : MV) (A : Nat -> List (List Int)) (vs : Nat -> Value),k <= len /\ i = .int .i64 k /\ Hid (TrIn w m0 X (8 * k) k m s A vs wr)) (fun i _ => len - (intOf i).toNat)
 case atStart => exact ⟨0,m0,s0,_,_,Nat.zero_le _,rfl,HI0⟩
 case round =>
  clear HI0
  obtain ⟨k,m,s,A,vs,hk,rfl,hP⟩ := hrel
  by_cases hlt : k < len
  ·have hk1 : (k : Int) < (len : Int) := by omega
   have hgr8 : m.gr <= 8 := by have := hP.out.2.1.2.1.2.1; omega
   have HMm := Hid.mk9 hP.out.2.1.1
   go_wp2_with fail
   generalize hwr : wr = wA at *
   clear hwr
   go_loopw [7] (fun i wr => ∃ (g : Nat) (A : Nat -> List (List Int)) (vs : Nat -> Value),(g : Int) <= m.gr /\ i = .int .i64 g /\ Hid (TrIn w m0 X (8 * k + g) k m s A vs wr)) (fun i _ => (m.gr - intOf i).toNat)
   case atStart => exact ⟨0,A,vs,by have := HMm.out.cnt.2.2.1; omega,rfl,hP⟩
   case round =>
    clear hP
    obtain ⟨g,A,vs,hg,rfl,hP⟩ := hrel
    obtain ⟨⟨c0,c1,c2,c3,c4,c5,c6⟩,-⟩ := hP.out.1.2.1
    by_cases hlg : (g : Int) < m.gr
    ·have HAC : Hid (∀ W,Below wr.heap.size wr W -> Calls Tryz.prog 25 #[.agg #[.int .i64 m.ep,.int .i64 m.size,.int .i64 m.mn,.int .i64 m.gr,.slice s.aN s.lN s.cN,.slice s.aT s.lT s.cT,.slice s.aR s.lR s.cR],.int .i64 (g : Int)] W fun e w' => IntsPost (actP m g) W e w') := fun W hW => by
      have := actX_may HMm.out (g := (g : Int)) ⟨by omega,hlg⟩ W (hP.out.1.2.2.2.map.below hW)
      rw [map_split] at this
      exact this
     have HSz := Hid.mk9 hP.out.1.1.size
     go_upto_region 11 with (go_at_call 25; refine (HAC.out _ (Below.refl _ _)).mono ?_; rintro e w6 ⟨hb6,aa,ca,rfl,hIO⟩)
     have HIO := Hid.mk9 hIO.2
     replace hP := Hid.mk9 (hP.out.below hb6)
     have HB6 := Hid.mk9 (hP.out.1.1)
     clear c0 c1 c2 c3 c4 c5 c6 hIO HAC
     obtain ⟨⟨c0,c1,c2,c3,c4,c5,c6⟩,-⟩ := hP.out.1.2.1
     have hg8 : g < 8 := by omega
     have hgt : g < m.trs.length := by have := HMm.out.trs.1; omega
     have HB9 := Hid.mk9 hb6
     obtain ⟨n5,hn5⟩ : ∃ n5,(actP m (g : Int)).length = n5 := ⟨_,rfl⟩
     have HN5 := Hid.mk9 hn5
     have hn3 : (n5 : Int) <= 3 := by have := act_few HMm.out (g : Int); omega
     rw [hn5] at HIO ⊢
     clear hn5
     by_cases hmin : m.mn <= (n5 : Int)
     ·have HFN : Hid (m.mn <= ((actP m (g : Int)).length : Int) /\ FoundP m g (actP m (g : Int))) := ⟨by rw [HN5.out]; exact hmin,.inl (SetP.refl _)⟩
      obtain ⟨x0,x1⟩ := hP.out.2.2.1.box g hg8
      obtain ⟨L,hL,-⟩ := hP.out.2.2.1.rows g hg8
      obtain ⟨v9,hv9⟩ : ∃ v,vs g = v := ⟨_,rfl⟩
      rw [hv9] at x0 hL
      have HL9 := Hid.mk9 hL
      have hlen := hP.out.2.2.2.1 g hg8
      obtain ⟨a9,c9,rfl,hc9⟩ := own_slice hL
      have hX := hP.out.2.2.1.lt
      obtain ⟨i0,hi,hz0,hz1,hz2⟩ := info_parts infoR
      obtain ⟨n8,hn8⟩ : ∃ n8,(A g).length = n8 := ⟨_,rfl⟩
      have hn7 : (n8 : Int) <= 600 := by omega
      rw [hn8] at HL9 hv9 x0
      clear hL
      go_wp2_with (at_builtin; refine wpList_append_own_at _ rfl (.tmp 59) (.tmp 61) 49 rfl w.heap.size 35 i0 (.slice none 0 0) 1 24 Tryz.underlying49 hi hz0 hz1 hz2 rfl (by decide) _ _ _ rfl (own_below HL9.out (below_alloc _ _)) ⟨w6.heap.size,0,none⟩ 1 1 [.slice aa n5 ca] rfl rfl (cells_lit w6 [.slice aa n5 ca] 35) (by intro u hu; simp at hu; subst hu; rfl) (by unfold maxLen; omega) (by omega) (by have := HB6.out.size; simp; omega) ?_)
      intro v7 w7 hown7 hg7 hnil7 hat7
      obtain ⟨a7,c7,rfl,hc7⟩ := own_slice hown7
      have bA := below_alloc w6 (.cells #[.slice aa n5 ca] 35)
      have hP7 := hP.out.below bA
      have hL7 : (w6.alloc (.cells #[.slice aa n5 ca] 35)).ownsRow w.heap.size 35 1 (vs g) (A g).length L := by rw [hv9,hn8]; exact own_below HL9.out bA
      rw [<- hv9] at hg7 hat7
      have HACT : Hid (Acted (w7.setCell ⟨X,g,none⟩ (.slice a7 (n8 + 1) c7)) w.heap.size X (upd A g (A g ++ [actP m (g : Int)])) (upd vs g (.slice a7 (n8 + 1) c7))) := by
       refine Hid.mk9 (hP7.2.2.1.snoc (a := aa) (c := ca) hg8 hL7 ?_ hg7 ?_ (by simpa using hat7))
       ·rw [HN5.out]; exact own_base (own_below HIO.out bA) HSz.out
       ·rw [HN5.out,hn8]; exact hown7
      have hblk := acted_blk hP7.2.2.1 hL7 hg7
      have q0 := (World.cell?_of_block (a := ⟨X,g,none⟩) hblk).trans (hP7.2.2.1.box g hg8).1
      have q1 := (World.frozen?_of_block (a := ⟨X,g,none⟩) hblk).trans (hP7.2.2.1.box g hg8).2
      rw [hv9] at q0
      have HMP : Hid (MapPart w m s (w7.setCell ⟨X,g,none⟩ (.slice a7 (n8 + 1) c7))) := by
       obtain ⟨cx,ex⟩ := hP7.2.2.1.ty
       exact Hid.mk9 ((hP7.1.row hL7 hg7).type (setCell_grown w7 ⟨X,g,none⟩ _) (hblk.trans ex) hP7.2.2.1.ge (by decide) (by decide) (by decide) (by decide) (by decide) (by decide))
      have HE : Hid (TrIn w m0 X (8 * k + (g + 1)) k m s (upd A g (A g ++ [actP m (g : Int)])) (upd vs g (.slice a7 (n8 + 1) c7)) (w7.setCell ⟨X,g,none⟩ (.slice a7 (n8 + 1) c7))) := by
       refine Hid.mk9 ⟨HMP.out,hP.out.2.1,HACT.out,fun h hh => ?_,fun h hh x hx => ?_⟩
       ·by_cases e : h = g
        ·subst e; rw [upd_same,List.length_append,List.length_singleton]; have := hP.out.2.2.2.1 h hh; omega
        ·rw [upd_else _ _ e]; have := hP.out.2.2.2.1 h hh; omega
       ·by_cases e : h = g
        ·subst e
         rw [upd_same] at hx
         rcases List.mem_append.1 hx with hx | hx
         ·exact hP.out.2.2.2.2 h hh x hx
         ·have : x = actP m (h : Int) := by simpa using hx
          rw [this]; exact HFN.out
        ·rw [upd_else _ _ e] at hx
         exact hP.out.2.2.2.2 h hh x hx
      clear HACT HMP hP7 hL7 hg7 hat7 hnil7 hown7 hblk bA
      go_wp2_with fail
      exact ⟨⟨g + 1,_,_,by omega,by go_num,HE⟩,by simp [intOf]; omega⟩
     ·have hmin' : decide (m.mn <= (n5 : Int)) = false := decide_eq_false hmin
      go_wp2_with fail
      have HE : Hid (TrIn w m0 X (8 * k + (g + 1)) k m s A vs w6) := ⟨hP.out.1,hP.out.2.1,hP.out.2.2.1,fun h hh => Nat.le_trans (hP.out.2.2.2.1 h hh) (by omega),hP.out.2.2.2.2⟩
      exact ⟨⟨g + 1,A,vs,by omega,by go_num,HE⟩,by simp [intOf]; omega⟩
    ·have hgg : (g : Int) = m.gr := by omega
     obtain ⟨b,off,rfl,hbl,hdl⟩ := (HDD.out.below hP.out.1.1).some (by omega)
     have hdk := hdl k hlt
     clear hdl
     generalize ls.getD k dl0 = d at *
     obtain ⟨dk,di,dz,dr,dw,dg,ns⟩ := d
     obtain ⟨⟨y0,y1,y2,y3,y4,y5⟩,ad,ld,cd,y6,hRow⟩ := hdk
     have HRow := Hid.mk9 hRow
     have hPF : Hid (PastFew m) := Hid.mk9 (fun i hi => Nat.le_trans (hP.out.2.1.2.2 i hi) (by omega))
     obtain ⟨m9,hm9⟩ : ∃ m9,apM m dk di dz dr dw dg ns = m9 := ⟨_,rfl⟩
     obtain ⟨n9,hn9⟩ : ∃ n9,apE m dk di dz dr dw dg ns = n9 := ⟨_,rfl⟩
     have HAP : Hid (∀ W,Below wr.heap.size wr W -> Calls Tryz.prog 15 #[.agg #[.int .i64 m.ep,.int .i64 m.size,.int .i64 m.mn,.int .i64 m.gr,.slice s.aN s.lN s.cN,.slice s.aT s.lT s.cT,.slice s.aR s.lR s.cR],.agg #[.int .i64 dk,.int .i64 di,.int .i64 dz,.int .i64 dr,.int .i64 dw,.int .i64 dg,.slice ad ld cd]] W fun e w' => ∃ r : MV,e = .returned (.tuple #[.agg #[.int .i64 m9.ep,.int .i64 m9.size,.int .i64 m9.mn,.int .i64 m9.gr,.slice r.aN r.lN r.cN,.slice r.aT r.lT r.cT,.slice r.aR r.lR r.cR],.int .i64 n9]) /\ SureM w w' m9 r /\ Below W.heap.size W w') := fun W hW => by
      have := apply_anyO (k := dk) (id := di) (z := dz) (r := dr) (wt := dw) (g := dg) (ns := ns) HMm.out hPF.out ad ld cd W (hP.out.1.2.2.2.map.below hW) (HRow.out.below hW)
      rw [map_split,hm9,hn9] at this
      refine this.mono fun e w' ⟨hb,r,he,_,G,N,_,ho⟩ => ⟨r,?_,.inr ⟨Nat.le_trans hP.out.1.1.size (Nat.le_trans hW.size hb.size),G,N,ho⟩,hb⟩
      rw [he,map_split]
     have hsw := hP.out.1.1.size
     go_upto_region 13 with fail
     refine trails_13 _ _ _ _ _ _ _ _ _ _ _ _ _ _ _ _ _ _ _ _ _ _ _ _ _ _ _ _ _ _ _ _ _ _ _ _ _ _ _ _ _ _ _ _ _ _ _ _ _ _ _ _ _ _ _ _ _ _ _ _ _ _ _ _ _ _ _ _ _ _ _ _ _ _ _ _ _ _ _ _ _ _ _ _ _ _ _ _ _ _ _ _ _ _ _ _ _ _ _ _ _ _ _ _ _ _ _ _ _ _ _ _ _ _ _ _ _ _ _ _ _ _ _ _ _ _ _ _ _ _ _ _ _ _ _ _ _ _ _ _ _ _ _ _ _ _ w.heap.size b off len cap k _ _ _ _ _ _ _ _ _ _ _ _ _ _ n9 m9.ep m9.size m9.mn m9.gr (fun r w' => SureM w w' m9 r) wr _ hP.out.1.2.1 ⟨y0,y1,y2,y3,y4,y5,y6⟩ hbl (by omega) hk1 (fun r w w' h hb => h.below hb) (fun r w8 w' y h hg ⟨ct,et⟩ hy => h.type hg et (Nat.le_trans hsw hy) (by decide) (by decide) (by decide) (by decide) (by decide)) HAP (Hid.mk9 fun u64 u65 u66 u67 u68 u69 u70 u71 u72 Y r wC hY hbC hB7 hTy hR => ?_)
     have z9 := (hbC.cell (p := ⟨b,off + k * 7,none⟩) hbl).trans y0
     have z8 := (hbC.cell (p := ⟨b,off + k * 7 + 5,none⟩) hbl).trans y5
     replace hP := Hid.mk9 (hP.out.below hbC)
     have BX := Hid.mk9 hB7
     have MPX := Hid.mk9 hP.out.1
     have SX := Hid.mk9 hR
     have HTy := Hid.mk9 hTy
     have hbl2 : b < wC.heap.size := Nat.lt_of_lt_of_le hbl hbC.size
     clear c0 c1 c2 c3 c4 c5 c6 y0 y1 y2 y3 y4 y5 y6 hRow HRow HAP hB7 hR hbC hbl hsw hTy
     by_cases href : refP m dk di dz dr dw dg ns = 0
     ·have e1 : m9 = tnM m dk di dz dr dw dg ns := by rw [<- hm9]; unfold apM; rw [if_pos HMm.out,if_pos href]
      have e2 : n9 = 0 := by rw [<- hn9]; unfold apE; rw [if_pos HMm.out]; exact href
      subst e2
      have hts := tn_same m dk di dz dr dw dg ns
      have HM9 : Hid (MayM m9 /\ (m9.mn = m0.mn /\ m9.gr = m0.gr /\ m9.trs.length = m0.trs.length) /\ ∀ i,i < m9.trs.length -> (m9.trs.getD i tr0).past.length <= 20 + (k + 1)) := Hid.mk9 (by
       have q := hP.out.2.1.2.1
       rw [e1]
       exact ⟨tn_may HMm.out href,⟨hts.1.trans q.1,hts.2.1.trans q.2.1,hts.2.2.trans q.2.2⟩,fun i hi => past_grow (by rw [hts.2.2] at hi; exact hi) (hP.out.2.1.2.2 i (by rw [hts.2.2] at hi; exact hi))⟩)
      have HFO : Hid (∀ h,h < m9.trs.length -> (dk ≠ 10 ∨ (h : Int) ≠ dg) -> ∀ x ∈ A h,m9.mn <= (x.length : Int) /\ FoundP m9 h x) := Hid.mk9 (fun h hh hc x hx => by
       rw [e1,hts.2.2] at hh
       obtain ⟨f1,f2⟩ := hP.out.2.2.2.2 h hh x hx
       rw [e1,hts.1]
       exact ⟨f1,found_turn HMm.out href hh f1 hc f2⟩)
      have LX0 : Hid (∀ h,h < 8 -> (A h).length <= 8 * (k + 1)) := Hid.mk9 (fun h hh => Nat.le_trans (hP.out.2.2.2.1 h hh) (by omega))
      by_cases h10 : dk = 10
      ·subst h10
       have hdg := (ref_may href).2.2.2.2.1 rfl
       obtain ⟨q,rfl⟩ : ∃ q : Nat,dg = q := ⟨dg.toNat,by omega⟩
       have hq8 : q < 8 := by omega
       have hq9 : (q : Int) < 8 := by omega
       have hq0 : (0 : Int) <= (q : Int) := by omega
       obtain ⟨b0,b1⟩ := hP.out.2.2.1.box q hq8
       have hXl := hP.out.2.2.1.lt
       have AX := Hid.mk9 (hP.out.2.2.1.clean q)
       have LX : Hid (∀ h,h < 8 -> (upd A q [] h).length <= 8 * (k + 1)) := Hid.mk9 (fun h hh => by
        by_cases e : h = q
        ·subst e; rw [upd_same]; exact Nat.zero_le _
        ·rw [upd_else _ _ e]; exact LX0.out h hh)
       have FX : Hid (∀ h,h < m9.trs.length -> ∀ x ∈ upd A q [] h,m9.mn <= (x.length : Int) /\ FoundP m9 h x) := Hid.mk9 (fun h hh x hx => by
        by_cases e : h = q
        ·subst e; rw [upd_same] at hx; exact absurd hx List.not_mem_nil
        ·rw [upd_else _ _ e] at hx; exact HFO.out h hh (.inr (by omega)) x hx)
       have hG9 := setCell_grown wC ⟨X,q,none⟩ (.slice none 0 0)
       obtain ⟨cx,ex⟩ := hP.out.2.2.1.ty
       have hXY : Y ≠ X := by
        rintro rfl
        obtain ⟨cy,ey⟩ := HTy.out
        rw [ey] at ex
        simp at ex
       replace BX := Hid.mk9 (BX.out.else hG9 hXY)
       replace MPX := Hid.mk9 (MPX.out.type hG9 ex hP.out.2.2.1.ge (by decide) (by decide) (by decide) (by decide) (by decide) (by decide))
       replace SX := Hid.mk9 (SX.out.type hG9 ex hP.out.2.2.1.ge (by decide) (by decide) (by decide) (by decide) (by decide))
       clear hm9 hn9 hP e1 hts HFO LX0 hG9 ex hXY hdg
       go_upto_region 16 with fail
       generalize wC.setCell ⟨X,q,none⟩ (.slice none 0 0) = wD at *
       obtain ⟨⟨z0,z1,z2,z3,z4,z5,z6⟩,-⟩ := BX.out
       obtain ⟨⟨x0,x1,x2,x3,x4,x5,x6⟩,f0,f1,f2,f3,f4,f5,f6⟩ := MPX.out.2.1
       have HE : Hid (TrIn w m0 X (8 * (k + 1)) (k + 1) m9 r (upd A q []) (upd vs q (.slice none 0 0)) (set7 wD w.heap.size (.int .i64 m9.ep) (.int .i64 m9.size) (.int .i64 m9.mn) (.int .i64 m9.gr) (.slice r.aN r.lN r.cN) (.slice r.aT r.lT r.cT) (.slice r.aR r.lR r.cR))) := by
        have hG := set7_grownBy wD w.heap.size (.int .i64 m9.ep) (.int .i64 m9.size) (.int .i64 m9.mn) (.int .i64 m9.gr) (.slice r.aN r.lN r.cN) (.slice r.aT r.lT r.cT) (.slice r.aR r.lR r.cR)
        obtain ⟨ct,et⟩ := MPX.out.2.2.1
        refine Hid.mk9 ⟨⟨set7_below MPX.out.1 (Nat.le_refl _) _ _ _ _ _ _ _,MPX.out.2.1.set _ _ _ _ _ _ _,boxTy_set7 MPX.out.2.2.1 _ _ _ _ _ _ _,SX.out.type hG et (Nat.le_refl _) (by decide) (by decide) (by decide) (by decide) (by decide)⟩,HM9.out,AX.out.type hG et (by decide) (by decide) (by decide),LX.out,FX.out⟩
       clear MPX SX AX LX FX HM9 BX
       go_wp2_with fail
       exact ⟨⟨k + 1,m9,r,_,_,by omega,by go_num,HE⟩,by simp [intOf]; omega⟩
      ·have e4 : ((dk == (10 : Int)) : Bool) = false := beq_false_of_ne h10
       have AX := Hid.mk9 hP.out.2.2.1
       have LX := LX0
       have FX : Hid (∀ h,h < m9.trs.length -> ∀ x ∈ A h,m9.mn <= (x.length : Int) /\ FoundP m9 h x) := Hid.mk9 (fun h hh => HFO.out h hh (.inl h10))
       clear hm9 hn9 hP e1 hts HFO LX0 href
       obtain ⟨⟨z0,z1,z2,z3,z4,z5,z6⟩,-⟩ := BX.out
       obtain ⟨⟨x0,x1,x2,x3,x4,x5,x6⟩,f0,f1,f2,f3,f4,f5,f6⟩ := MPX.out.2.1
       have HE : Hid (TrIn w m0 X (8 * (k + 1)) (k + 1) m9 r A vs (set7 wC w.heap.size (.int .i64 m9.ep) (.int .i64 m9.size) (.int .i64 m9.mn) (.int .i64 m9.gr) (.slice r.aN r.lN r.cN) (.slice r.aT r.lT r.cT) (.slice r.aR r.lR r.cR))) := by
        have hG := set7_grownBy wC w.heap.size (.int .i64 m9.ep) (.int .i64 m9.size) (.int .i64 m9.mn) (.int .i64 m9.gr) (.slice r.aN r.lN r.cN) (.slice r.aT r.lT r.cT) (.slice r.aR r.lR r.cR)
        obtain ⟨ct,et⟩ := MPX.out.2.2.1
        refine Hid.mk9 ⟨⟨set7_below MPX.out.1 (Nat.le_refl _) _ _ _ _ _ _ _,MPX.out.2.1.set _ _ _ _ _ _ _,boxTy_set7 MPX.out.2.2.1 _ _ _ _ _ _ _,SX.out.type hG et (Nat.le_refl _) (by decide) (by decide) (by decide) (by decide) (by decide)⟩,HM9.out,AX.out.type hG et (by decide) (by decide) (by decide),LX.out,FX.out⟩
       clear MPX SX AX LX FX HM9 BX
       go_wp2_with fail
       exact ⟨⟨k + 1,m9,r,_,_,by omega,by go_num,HE⟩,by simp [intOf]; omega⟩
     ·have e1 : m9 = m := by rw [<- hm9]; unfold apM; rw [if_pos HMm.out,if_neg href]
      have e2 : n9 ≠ 0 := by rw [<- hn9]; unfold apE; rw [if_pos HMm.out]; exact href
      have e3 : ((n9 == (0 : Int)) : Bool) = false := beq_false_of_ne e2
      have AX := Hid.mk9 hP.out.2.2.1
      have LX : Hid (∀ h,h < 8 -> (A h).length <= 8 * (k + 1)) := Hid.mk9 (fun h hh => Nat.le_trans (hP.out.2.2.2.1 h hh) (by omega))
      have HM9 : Hid (MayM m9 /\ (m9.mn = m0.mn /\ m9.gr = m0.gr /\ m9.trs.length = m0.trs.length) /\ ∀ i,i < m9.trs.length -> (m9.trs.getD i tr0).past.length <= 20 + (k + 1)) := Hid.mk9 (by rw [e1]; exact ⟨hP.out.2.1.1,hP.out.2.1.2.1,fun i hi => Nat.le_trans (hP.out.2.1.2.2 i hi) (by omega)⟩)
      have FX : Hid (∀ h,h < m9.trs.length -> ∀ x ∈ A h,m9.mn <= (x.length : Int) /\ FoundP m9 h x) := Hid.mk9 (by rw [e1]; exact hP.out.2.2.2.2)
      clear e1 hm9 hn9 hP href
      obtain ⟨⟨z0,z1,z2,z3,z4,z5,z6⟩,-⟩ := BX.out
      obtain ⟨⟨x0,x1,x2,x3,x4,x5,x6⟩,f0,f1,f2,f3,f4,f5,f6⟩ := MPX.out.2.1
      have HE : Hid (TrIn w m0 X (8 * (k + 1)) (k + 1) m9 r A vs (set7 wC w.heap.size (.int .i64 m9.ep) (.int .i64 m9.size) (.int .i64 m9.mn) (.int .i64 m9.gr) (.slice r.aN r.lN r.cN) (.slice r.aT r.lT r.cT) (.slice r.aR r.lR r.cR))) := by
       have hG := set7_grownBy wC w.heap.size (.int .i64 m9.ep) (.int .i64 m9.size) (.int .i64 m9.mn) (.int .i64 m9.gr) (.slice r.aN r.lN r.cN) (.slice r.aT r.lT r.cT) (.slice r.aR r.lR r.cR)
       obtain ⟨ct,et⟩ := MPX.out.2.2.1
       refine Hid.mk9 ⟨⟨set7_below MPX.out.1 (Nat.le_refl _) _ _ _ _ _ _ _,MPX.out.2.1.set _ _ _ _ _ _ _,boxTy_set7 MPX.out.2.2.1 _ _ _ _ _ _ _,SX.out.type hG et (Nat.le_refl _) (by decide) (by decide) (by decide) (by decide) (by decide)⟩,HM9.out,AX.out.type hG et (by decide) (by decide) (by decide),LX.out,FX.out⟩
      clear MPX SX AX LX FX HM9 BX
      go_wp2_with fail
      exact ⟨⟨k + 1,m9,r,_,_,by omega,by go_num,HE⟩,by simp [intOf]; omega⟩
  ·obtain rfl : k = len := by omega
   have HMm := Hid.mk9 hP.out.2.1.1
   have hgr8 : m.gr <= 8 := by have := hP.out.2.1.2.1.2.1; omega
   go_wp2_with fail
   generalize hwr : wr = wA at *
   clear hwr
   go_loopw [11] (fun i wr => ∃ g : Nat,(g : Int) <= m.gr /\ i = .int .i64 g /\ Hid (TrIn w m0 X (8 * k) k m s A vs wr)) (fun i _ => (m.gr - intOf i).toNat)
   case atStart => exact ⟨0,by have := HMm.out.cnt.2.2.1; omega,rfl,hP⟩
   case round =>
    clear hP
    obtain ⟨g,hg,rfl,hP⟩ := hrel
    obtain ⟨⟨c0,c1,c2,c3,c4,c5,c6⟩,-⟩ := hP.out.1.2.1
    by_cases hlg : (g : Int) < m.gr
    ·have HAC : Hid (∀ W,Below wr.heap.size wr W -> Calls Tryz.prog 25 #[.agg #[.int .i64 m.ep,.int .i64 m.size,.int .i64 m.mn,.int .i64 m.gr,.slice s.aN s.lN s.cN,.slice s.aT s.lT s.cT,.slice s.aR s.lR s.cR],.int .i64 (g : Int)] W fun e w' => IntsPost (actP m g) W e w') := fun W hW => by
      have := actX_may HMm.out (g := (g : Int)) ⟨by omega,hlg⟩ W (hP.out.1.2.2.2.map.below hW)
      rw [map_split] at this
      exact this
     have HSz := Hid.mk9 hP.out.1.1.size
     go_upto_region 21 with (go_at_call 25; refine (HAC.out _ (Below.refl _ _)).mono ?_; rintro e w6 ⟨hb6,aa,ca,rfl,hIO⟩)
     have hg8 : g < 8 := by omega
     have hgt : g < m.trs.length := by have := HMm.out.trs.1; omega
     have HPK : Hid (TrIn w m0 X (8 * k) k m s A vs w6 /\ w6.ownsRow w.heap.size 3 1 (.slice aa (actP m (g : Int)).length ca) (actP m (g : Int)).length (intCells (actP m (g : Int)))) := Hid.mk9 ⟨hP.out.below hb6,own_base hIO.2 HSz.out⟩
     clear c0 c1 c2 c3 c4 c5 c6 hIO HAC hP HSz hb6
     obtain ⟨n5,hn5⟩ : ∃ n5,(actP m (g : Int)).length = n5 := ⟨_,rfl⟩
     have HN5 := Hid.mk9 hn5
     have hn3 : (n5 : Int) <= 3 := by have := act_few HMm.out (g : Int); omega
     rw [hn5] at HPK ⊢
     clear hn5
     go_wp2_with fail
     generalize hwr2 : wr = wB at *
     clear hwr2
     go_loopw [13] (fun i wr => ∃ j : Nat,j <= (A g).length /\ i = .int .i64 j /\ Hid (TrIn w m0 X (8 * k) k m s A vs wr /\ wr.ownsRow w.heap.size 3 1 (.slice aa n5 ca) n5 (intCells (actP m (g : Int))))) (fun i _ => (A g).length - (intOf i).toNat)
     case atStart => exact ⟨0,Nat.zero_le _,rfl,HPK⟩
     case round =>
      clear HPK
      obtain ⟨j,hj,rfl,hQ⟩ := hrel
      obtain ⟨x0,-⟩ := hQ.out.1.2.2.1.box g hg8
      obtain ⟨L,hL,hLi⟩ := hQ.out.1.2.2.1.rows g hg8
      have hlen := hQ.out.1.2.2.2.1 g hg8
      obtain ⟨v9,hv9⟩ : ∃ v,vs g = v := ⟨_,rfl⟩
      rw [hv9] at x0 hL
      have hXl := hQ.out.1.2.2.1.lt
      by_cases hjl : j < (A g).length
      ·obtain ⟨gb,c9,rfl⟩ := own_form9 hL (by omega)
       have ej := hL.cellAt j (by omega)
       obtain ⟨ax,cx,eL,hox⟩ := hLi j hjl
       rw [eL] at ej
       have hgb := (hL.lt gb rfl).2
       have HFD := Hid.mk9 (hQ.out.1.2.2.2.2 g hgt ((A g).getD j []) (getD_memL hjl)).2
       have HOX := Hid.mk9 (own_rowL hox rfl)
       have HON := Hid.mk9 (own_rowL hQ.out.2 HN5.out)
       obtain ⟨n8,hn8⟩ : ∃ n8,(A g).length = n8 := ⟨_,rfl⟩
       have hj8 : (j : Int) < (n8 : Int) := by omega
       have hj0 : (0 : Int) <= (j : Int) := by omega
       have hn7 : (n8 : Int) <= 600 := by omega
       rw [hn8] at x0
       generalize (A g).getD j [] = x at *
       clear hLi hL eL hox
       go_upto_region 25 with (go_at_call 29; refine (set_any _ _ _ _ _ _ x (actP m (g : Int)) _ HOX.out HON.out).mono ?_; rintro e w7 ⟨hg7,q,rfl,hq⟩)
       have hb7 := grown_below hg7
       have HQ7 := Hid.mk9 (show TrIn w m0 X (8 * k) k m s A vs w7 /\ w7.ownsRow w.heap.size 3 1 (.slice aa n5 ca) n5 (intCells (actP m (g : Int))) from ⟨hQ.out.1.below hb7,own_below hQ.out.2 hb7⟩)
       replace x0 := (hb7.cell (p := ⟨X,g,none⟩) hXl).trans x0
       replace ej := (hb7.cell (p := ⟨gb,j,none⟩) hgb).trans ej
       replace HOX := Hid.mk9 (HOX.out.below hb7)
       have hX7 : X < w7.heap.size := Nat.lt_of_lt_of_le hXl hb7.size
       have hgb7 : gb < w7.heap.size := Nat.lt_of_lt_of_le hgb hb7.size
       have HQ0 := Hid.mk9 hq
       have HLR : Hid (m.trs.length = s.lR) := Hid.mk9 HQ7.out.1.1.2.2.2.map.trs.1
       obtain ⟨n6,hn6⟩ : ∃ n6,x.length = n6 := ⟨_,rfl⟩
       rw [hn6] at ej HOX ⊢
       obtain ⟨past,HPA⟩ : ∃ past,Hid ((m.trs.getD g tr0).past = past) := ⟨_,Hid.mk9 rfl⟩
       have HFD2 : Hid (SetP x (actP m (g : Int)) ∨ ∃ t ∈ past,SetP x t.ns) := Hid.mk9 (by rw [<- HPA.out]; exact HFD.out)
       clear HFD
       clear hb7 hg7 hXl hgb hQ hq HON
       go_wp2_with fail
       generalize hwr3 : wr = wD at *
       clear hwr3
       go_loopw [14,15] (fun f i wr => ∃ (kk : Nat) (q : Bool),kk <= past.length /\ i = .int .i64 kk /\ f = .bool q /\ Hid (Grown w7 wr) /\ Hid (q = true ↔ SetP x (actP m (g : Int)) ∨ ∃ t,t < kk /\ SetP x (past.getD t tm0).ns)) (fun _ i _ => past.length - (intOf i).toNat)
       case atStart => exact ⟨0,q,Nat.zero_le _,rfl,rfl,grown_refl _,Hid.mk9 (by rw [HQ0.out]; constructor; exact fun h => .inl h; rintro (h | ⟨t,ht,_⟩); exact h; omega)⟩
       case round =>
        clear HQ0
        obtain ⟨kk,q,hkk,rfl,rfl,hGr,hR⟩ := hrel
        have hbk := grown_below hGr.out
        have hQk := Hid.mk9 (show TrIn w m0 X (8 * k) k m s A vs wr /\ wr.ownsRow w.heap.size 3 1 (.slice aa n5 ca) n5 (intCells (actP m (g : Int))) from ⟨HQ7.out.1.below hbk,own_below HQ7.out.2 hbk⟩)
        have x1 := (hbk.cell (p := ⟨X,g,none⟩) hX7).trans x0
        have ej1 := (hbk.cell (p := ⟨gb,j,none⟩) hgb7).trans ej
        have hXk : X < wr.heap.size := Nat.lt_of_lt_of_le hX7 hbk.size
        have hgbk : gb < wr.heap.size := Nat.lt_of_lt_of_le hgb7 hbk.size
        have HOXk := Hid.mk9 (HOX.out.below hbk)
        obtain ⟨⟨c0,c1,c2,c3,c4,c5,c6⟩,-⟩ := hQk.out.1.1.2.1
        have hwl : w.heap.size < wr.heap.size := hQk.out.1.1.2.1.lt
        have hlr := HLR.out
        obtain ⟨tb,to,hae,htb,htc⟩ := hQk.out.1.1.2.2.2.map.trs.some (by omega)
        rw [hae] at c6
        obtain ⟨e0,ap,lp,cp,e1,hpast⟩ := htc g (by omega)
        have hgl : (g : Int) < (s.lR : Int) := by omega
        have hg8' : (g : Int) < 8 := by omega
        have hg0 : (0 : Int) <= (g : Int) := by omega
        rw [HPA.out] at hpast
        have hlp : past.length = lp := hpast.1
        have hlm : lp <= maxLen := Nat.le_trans hpast.2.1 hpast.2.2.1
        unfold maxLen at hlm
        clear htc c0 c1 c2 c3 c4 c5 e0 hae
        by_cases hkl : kk < lp
        ·obtain ⟨pb,po,hpe,hps,hpc⟩ := hpast.some (by omega)
         subst hpe
         obtain ⟨p0,ar,lr,cr,p1,hrow⟩ := hpc kk hkl
         obtain ⟨nk,HNK⟩ : ∃ nk,Hid ((past.getD kk tm0).ns = nk) := ⟨_,Hid.mk9 rfl⟩
         rw [HNK.out] at hrow
         have HST : Hid (∀ q9 : Bool,(q9 = true ↔ q = true ∨ SetP x nk) -> (q9 = true ↔ SetP x (actP m (g : Int)) ∨ ∃ t,t < kk + 1 /\ SetP x (past.getD t tm0).ns)) := fun q9 h9 => by
          rw [h9,hR.out]
          constructor
          ·rintro ((h | ⟨t,ht,hs⟩) | h)
           ·exact .inl h
           ·exact .inr ⟨t,by omega,hs⟩
           ·exact .inr ⟨kk,by omega,by rw [HNK.out]; exact h⟩
          ·rintro (h | ⟨t,ht,hs⟩)
           ·exact .inl (.inl h)
           ·by_cases e : t = kk
            ·subst e; rw [HNK.out] at hs; exact .inr hs
            ·exact .inl (.inr ⟨t,by omega,hs⟩)
         have hk1 : (kk : Int) < (lp : Int) := by omega
         have hk0 : (0 : Int) <= (kk : Int) := by omega
         have HGG : Hid (∀ n os,Grown w7 (Go.Sort.grow (wr.drewN n) os)) := fun n os => grown2 hGr.out ⟨n,os,rfl⟩
         have HRW := Hid.mk9 hrow.rowL
         have o0 := cell_grown (a := ⟨w.heap.size,6,none⟩) hwl c6
         have o1 := cell_grown (a := ⟨tb,to + g * 2 + 1,none⟩) htb e1
         have o2 := cell_grown (a := ⟨pb,po + kk * 2 + 1,none⟩) hps p1
         have o3 := cell_grown (a := ⟨X,g,none⟩) hXk x1
         have o4 := cell_grown (a := ⟨gb,j,none⟩) hgbk ej1
         clear hpc hR hrow hpast
         cases q with
         | true =>
          have HE := Hid.mk9 (HST.out true (by simp))
          clear HST
          go_wp2_with fail
          refine wp_region_QW mixed5 (by kernel_rfl) ?_
          repeat (refine QW_step (fun K hK => ?_); go_simp; first | (refine hK _ ?_; clear hK K) | (apply Exists.intro; refine ⟨fun _ => ?_,hK _ ?_⟩; fail; clear hK K))
          refine QW_nil ?_
          intro _ hw9
          obtain ⟨⟨nq,osq⟩,hw8⟩ := hw9
          subst hw8
          have hb := HGG.out nq osq
          go_wp2_with fail
          exact ⟨⟨kk + 1,true,by omega,by go_num,rfl,Hid.mk9 hb,Hid.mk9 (by simpa using HE.out)⟩,by simp [intOf]; omega⟩
         | false =>
          obtain ⟨q8,hq8⟩ : ∃ q8 : Bool,q8 = true ↔ SetP x nk := by
           have := Classical.propDecidable (SetP x nk)
           exact ⟨decide (SetP x nk),decide_eq_true_iff⟩
          have HE := Hid.mk9 (HST.out q8 (by rw [hq8]; constructor; exact fun h => .inr h; rintro (h | h); cases h; exact h))
          have HC : Hid (∀ n os,Calls Tryz.prog 29 #[.slice ax n6 cx,.slice ar lr cr] (Go.Sort.grow (wr.drewN n) os) fun e w' => e = .returned (.bool q8) /\ Grown (Go.Sort.grow (wr.drewN n) os) w') := fun n os => (set_any _ _ _ _ _ _ x nk _ (HOXk.out.below (below_grow _ _ _)) (HRW.out.below (below_grow _ _ _))).mono fun _ _ ⟨hgq,q7,he,hq7⟩ => ⟨by rw [he]; congr 2; cases q7 <;> cases q8 <;> simp_all,hgq⟩
          clear HST hq8
          go_wp2_with fail
          refine wp_region_QW mixed5 (by kernel_rfl) ?_
          repeat (refine QW_step (fun K hK => ?_); go_simp; first | (refine hK _ ?_; clear hK K) | (apply Exists.intro; refine ⟨fun _ => ?_,hK _ ?_⟩; (go_at_call 29; refine Calls.grown_of (HC.out _ _)); clear hK K))
          refine QW_nil ?_
          intro _ hw9
          obtain ⟨⟨nq,osq⟩,hw8⟩ := hw9
          subst hw8
          have hb := HGG.out nq osq
          go_wp2_with fail
          exact ⟨⟨kk + 1,q8,by omega,by go_num,rfl,Hid.mk9 hb,HE⟩,by simp [intOf]; omega⟩
        ·have hkl' : decide ((kk : Int) < (lp : Int)) = false := by simp; omega
         have hqt : q = true := hR.out.2 (by
          rcases HFD2.out with h | ⟨t,ht,hs⟩
          ·exact .inl h
          ·obtain ⟨i,hi,e⟩ := memT_getD ht
           exact .inr ⟨i,by omega,by rw [e]; exact hs⟩)
         subst hqt
         clear hR hpast
         go_wp2_with fail
         exact ⟨⟨j + 1,by omega,by go_num,hQk⟩,by simp [intOf]; omega⟩
      ·obtain ⟨a9,c9,rfl,hc9⟩ := own_slice hL
       have hjl' : decide ((j : Int) < ((A g).length : Int)) = false := by simp; omega
       have HE := Hid.mk9 hQ.out.1
       clear hL hLi hQ
       go_wp2_with fail
       exact ⟨⟨g + 1,by omega,by go_num,HE⟩,by simp [intOf]; omega⟩
    ·have HE := Hid.mk9 hP.out.1.1
     have hge : decide ((g : Int) < m.gr) = false := decide_eq_false hlg
     go_wp2_with (go_at_call 11; refine (awake9 _).mono ?_; rintro e w9 ⟨rfl,hb9⟩)
     go_ret
     exact ⟨rfl,below2 HE.out hb9⟩
end Go.Proofs.YtcncbjknfcjnmaaGreat.Tp
