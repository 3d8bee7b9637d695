/-
  The contract of loads over leafF.
  The contract of loads over rackF.
  The contracts of Zones, Racks and Leaves.
-/
import Derived.Test.YtcncbjknfcjnmaaGreatPr05
import Derived.WalkMore
import Derived.Deep.LoopGhost
namespace Go.Proofs.YtcncbjknfcjnmaaGreat.Tp
open Go.ChangeShapes Go.WideShapes Go.ChangeAt Go.RowKit
set_option maxHeartbeats 4000000 in
set_option maxRecDepth 60000 in
theorem loadsL_any (a : Option Addr) (len cap : Nat) (ls : List Nd) (zone rack : Int) (w : World) (h : NdsAt w a len cap ls) (hM : MayN ls) :
  Calls Tryz.prog 196 #[.slice a len cap,.int .i64 zone,.int .i64 rack,.func (.func 182) #[] #[]] w fun e w' => LoadsPost leafF zone rack ls w e w' := by
 have hl : ls.length = len := h.1
 have h12 : (len : Int) <= 12 := by have := hM.1; omega
 have HL : Hid (NdsAt w a len cap ls) := h
 have HM : Hid (∀ i,i < len -> InN (ls.getD i nd0)) := fun i hi => (hM.2 i (by omega)).1
 clear h hM
 go_enter Tryz.func196,Tryz.ntmps196
 go_wp2_with fail
 go_step3
 go_wp2_with fail
 go_step3
 go_wp2_with fail
 go_loopw [9,16] (fun l i wr => ∃ (k : Nat) (L : List Ld),k <= len /\ i = .int .i64 k /\ Hid (L = loadsF leafF zone rack (ls.take k)) /\ L.length <= k /\ Hid (BdL L (65536 * (k : Int))) /\ Hid (wr.ownsRow w.heap.size 212 3 l L.length (cellsLd L)) /\ Below w.heap.size w wr) (fun _ i _ => len - (intOf i).toNat)
 case atStart => exact ⟨0,[],Nat.zero_le _,rfl,rfl,Nat.le_refl _,fun c hc => absurd hc (by simp),World.ownsRow_nil _ _ _ _,Below.refl _ _⟩
 case round =>
  obtain ⟨k,L,hk,rfl,hT,hLk,hbd,hown,hbel⟩ := hrel
  by_cases hlt : k < len
  ·obtain ⟨b,off,rfl,hbs,hcell⟩ := (HL.out.below hbel).some (by omega)
   obtain ⟨e0,e1,e2,e3,e4,e5⟩ := hcell k hlt
   have hk1 : (k : Int) < (len : Int) := by omega
   have hk0 : (0 : Int) <= (k : Int) := by omega
   clear hcell
   have HT := loadsF_take (f := leafF) (zone := zone) (rack := rack) (ls := ls) (k := k) (by omega)
   rw [<- hT.out] at HT
   have hin := HM.out k hlt
   generalize ls.getD k nd0 = x at *
   obtain ⟨c1,c2,c3,c4,c5,c6⟩ := x
   simp only at e0 e1 e2 e3 e4 e5
   have hwt := wtN_bd hin
   clear hin hT
   have HC1 : Hid (∀ W : World,Calls Tryz.prog 203 #[.int .i64 zone,.int .i64 c2] W fun e w' => e = .returned (.bool (coversB zone c2)) /\ w' = W) := covers_any zone c2
   have HC2 : Hid (∀ W : World,Calls Tryz.prog 203 #[.int .i64 rack,.int .i64 c3] W fun e w' => e = .returned (.bool (coversB rack c3)) /\ w' = W) := covers_any rack c3
   have HT' : Hid (loadsF leafF zone rack (ls.take (k + 1)) = if (coversB zone c2 && coversB rack c3) = true then putL L c1 c2 (wtN ⟨c1,c2,c3,c4,c5,c6⟩) else L) := HT
   clear HT
   have HNO : Hid ((coversB zone c2 && coversB rack c3) = false -> Hid (L = loadsF leafF zone rack (ls.take (k + 1)))) := fun h => by
    show _ = _
    rw [HT'.out,h]
    rfl
   have HBD1 : Hid (BdL L (65536 * ((k + 1 : Nat) : Int))) := hbd.out.mono (by omega)
   have HO1 : Hid ((wr.alloc (.cells #[.int .i64 c1,.int .i64 c2,.int .i64 c3,.int .i64 c4,.bool c5,.bool c6] 72)).ownsRow w.heap.size 212 3 u9 L.length (cellsLd L)) := own_alloc hown.out _
   have hb1 : Below w.heap.size w (wr.alloc (.cells #[.int .i64 c1,.int .i64 c2,.int .i64 c3,.int .i64 c4,.bool c5,.bool c6] 72)) := below2 hbel (below_alloc _ _)
   generalize coversB zone c2 = b1 at *
   generalize coversB rack c3 = b2 at *
   cases b1 with
   | false =>
    have HY := HNO.out rfl
    clear HNO HT' hbd hown hwt
    go_wp2_with (go_at_call 203; refine (HC1.out _).mono ?_; rintro e w' ⟨rfl,rfl⟩)
    exact ⟨⟨k + 1,L,by omega,by go_num,HY,by omega,HBD1,HO1,hb1⟩,by simp [intOf]; omega⟩
   | true =>
    cases b2 with
    | false =>
     have HY := HNO.out rfl
     clear HNO HT' hbd hown hwt
     go_wp2_with (first | (go_at_call_of 203 zone; refine (HC1.out _).mono ?_; rintro e w' ⟨rfl,rfl⟩) | (go_at_call_of 203 rack; refine (HC2.out _).mono ?_; rintro e w' ⟨rfl,rfl⟩))
     exact ⟨⟨k + 1,L,by omega,by go_num,HY,by omega,HBD1,HO1,hb1⟩,by simp [intOf]; omega⟩
    | true =>
     have HY : Hid (loadsF leafF zone rack (ls.take (k + 1)) = putL L c1 c2 (wtN ⟨c1,c2,c3,c4,c5,c6⟩)) := HT'.out
     clear HNO HT'
     have HWT : Hid (0 <= wtN ⟨c1,c2,c3,c4,c5,c6⟩ /\ wtN ⟨c1,c2,c3,c4,c5,c6⟩ <= 65536) := hwt
     clear hwt
     have HLT : Hid (∀ j,u9.ownBlock = some j -> w.heap.size <= j /\ j < wr.heap.size) := hown.out.lt
     obtain ⟨al,capl,rfl,hcl⟩ := own_slice hown.out
     clear hown
     have HF : Hid (∀ W : World,Calls Tryz.prog 182 #[.agg #[.int .i64 c1,.int .i64 c2,.int .i64 c3,.int .i64 c4,.bool c5,.bool c6]] W fun e w' => e = .returned (.agg #[.int .i64 c1,.int .i64 c2]) /\ Grown W w') := leafOf_any c1 c2 c3 c4 c5 c6
     go_wp2_with (first | (go_at_call_of 203 zone; refine (HC1.out _).mono ?_; rintro e w' ⟨rfl,rfl⟩) | (go_at_call_of 203 rack; refine (HC2.out _).mono ?_; rintro e w' ⟨rfl,rfl⟩) | (go_at_call 182; refine (HF.out _).mono ?_; rintro e w2 ⟨rfl,hg2⟩))
     have hb12 := grown_below hg2
     clear hg2
     have hs12 : wr.heap.size + 1 <= w2.heap.size := by have := hb12.size; simpa using this
     have hb23 : Below (wr.alloc (.cells #[.int .i64 c1,.int .i64 c2,.int .i64 c3,.int .i64 c4,.bool c5,.bool c6] 72)).heap.size (wr.alloc (.cells #[.int .i64 c1,.int .i64 c2,.int .i64 c3,.int .i64 c4,.bool c5,.bool c6] 72)) (w2.alloc (.cells #[.int .i64 c1,.int .i64 c2] 200)) := below2 hb12 (below_alloc _ _)
     have hX1 : wr.heap.size < (wr.alloc (.cells #[.int .i64 c1,.int .i64 c2,.int .i64 c3,.int .i64 c4,.bool c5,.bool c6] 72)).heap.size := by simp
     have x0 := (hb23.cell (p := ⟨wr.heap.size,0,none⟩) hX1).trans (show _ = some (.int .i64 c1) by simp)
     have x1 := (hb23.cell (p := ⟨wr.heap.size,1,none⟩) hX1).trans (show _ = some (.int .i64 c2) by simp)
     have x2 := (hb23.cell (p := ⟨wr.heap.size,2,none⟩) hX1).trans (show _ = some (.int .i64 c3) by simp)
     have x3 := (hb23.cell (p := ⟨wr.heap.size,3,none⟩) hX1).trans (show _ = some (.int .i64 c4) by simp)
     have x4 := (hb23.cell (p := ⟨wr.heap.size,4,none⟩) hX1).trans (show _ = some (.bool c5) by simp)
     have x5 := (hb23.cell (p := ⟨wr.heap.size,5,none⟩) hX1).trans (show _ = some (.bool c6) by simp)
     have y0 : (w2.alloc (.cells #[.int .i64 c1,.int .i64 c2] 200)).cell? ⟨w2.heap.size,0,none⟩ = some (.int .i64 c1) := by simp
     have y1 : (w2.alloc (.cells #[.int .i64 c1,.int .i64 c2] 200)).cell? ⟨w2.heap.size,1,none⟩ = some (.int .i64 c2) := by simp
     have HO3 : Hid ((w2.alloc (.cells #[.int .i64 c1,.int .i64 c2] 200)).ownsRow w.heap.size 212 3 (.slice al L.length capl) L.length (cellsLd L)) := own_below HO1.out hb23
     have hb3 : Below w.heap.size w (w2.alloc (.cells #[.int .i64 c1,.int .i64 c2] 200)) := below2 hb1 hb23
     have hs3 : w2.heap.size < (w2.alloc (.cells #[.int .i64 c1,.int .i64 c2] 200)).heap.size := by simp
     have HNX : Hid ((Value.slice al L.length capl).ownBlock ≠ some wr.heap.size) := fun e => by have := (HLT.out _ e).2; omega
     have HNY : Hid ((Value.slice al L.length capl).ownBlock ≠ some w2.heap.size) := fun e => by have := (HLT.out _ e).2; omega
     have HLT' : Hid (∀ j,(Value.slice al L.length capl).ownBlock = some j -> w.heap.size <= j) := fun j e => (HLT.out _ e).1
     have hsw : w.heap.size <= wr.heap.size := hbel.size
     clear HO1 hb1 hb23 hb12 hX1 HLT HC1 HC2 HF hbel e0 e1 e2 e3 e4 e5
     generalize w2.alloc (.cells #[.int .i64 c1,.int .i64 c2] 200) = w3 at *
     generalize w2.heap.size = Y at *
     generalize wr.heap.size = X at *
     have HLN : Hid (L.length <= 12) := by show _ <= _; omega
     obtain ⟨n,hn⟩ : ∃ n,n = L.length := ⟨_,rfl⟩
     rw [<- hn] at HO3 HNX HNY HLT' hcl hLk
     rw [<- hn]
     have HN : Hid (n = L.length) := hn
     clear hn
     have hn12 : (n : Int) <= 12 := by have := HN.out; have := HLN.out; omega
     go_loopw [37] (fun i wi => ∃ j : Nat,j <= n /\ i = .int .i64 j /\ Hid (∀ i,i < j -> ¬ HitL L i c1 c2) /\ Below w3.heap.size w3 wi) (fun i _ => n - (intOf i).toNat)
     case atStart => exact ⟨0,Nat.zero_le _,rfl,fun i hi => absurd hi (Nat.not_lt_zero _),Below.refl _ _⟩
     case round =>
      obtain ⟨j,hj,rfl,hH,hbi⟩ := hrel
      have hXi : X < wr.heap.size := by have := hbi.size; omega
      have hYi : Y < wr.heap.size := by have := hbi.size; omega
      have hX3 : X < w3.heap.size := by omega
      have i0 := (hbi.cell (p := ⟨X,0,none⟩) hX3).trans x0
      have i1 := (hbi.cell (p := ⟨X,1,none⟩) hX3).trans x1
      have i2 := (hbi.cell (p := ⟨X,2,none⟩) hX3).trans x2
      have i3 := (hbi.cell (p := ⟨X,3,none⟩) hX3).trans x3
      have i4 := (hbi.cell (p := ⟨X,4,none⟩) hX3).trans x4
      have i5 := (hbi.cell (p := ⟨X,5,none⟩) hX3).trans x5
      have i6 := (hbi.cell (p := ⟨Y,0,none⟩) hs3).trans y0
      have i7 := (hbi.cell (p := ⟨Y,1,none⟩) hs3).trans y1
      have HOi : Hid (wr.ownsRow w.heap.size 212 3 (.slice al n capl) n (cellsLd L)) := own_below HO3.out hbi
      have hbw : Below w.heap.size w wr := below2 hb3 hbi
      clear x0 x1 x2 x3 x4 x5 y0 y1 HO3
      by_cases hjn : j < n
      ·obtain ⟨g,c',hv,hge,hgl,-⟩ := own_some HOi.out (by omega)
       injection hv with ha _ hc
       subst ha
       clear hc
       have hj1 : (j : Int) < (n : Int) := by omega
       have hj0 : (0 : Int) <= (j : Int) := by omega
       obtain ⟨q0,q1,q2⟩ := (lds_own HOi.out HN.out) j (by have := HN.out; omega)
       have HHIT : Hid (HitL L j c1 c2 ↔ (L.getD j ld0).1 = c1 /\ (L.getD j ld0).2.1 = c2) := Iff.rfl
       have HPUT : Hid (HitL L j c1 c2 -> loadsF leafF zone rack (ls.take (k + 1)) = L.set j (c1,c2,(L.getD j ld0).2.2 + wtN ⟨c1,c2,c3,c4,c5,c6⟩)) := fun h => by
        rw [HY.out]
        exact putL_hit (by have := HN.out; omega) h hH.out
       have HSET : Hid (∀ z,(cellsLd L).set (j * 3 + 2) (.int .i64 z) = cellsLd (L.set j ((L.getD j ld0).1,(L.getD j ld0).2.1,z))) := fun z => cellsLd_set (by have := HN.out; omega) z
       have hv0 : 0 <= (L.getD j ld0).2.2 /\ (L.getD j ld0).2.2 <= 65536 * (k : Int) := hbd.out _ (by
        have hjL : j < L.length := by have := HN.out; omega
        rw [show L.getD j ld0 = L[j] by simp [hjL]]
        exact List.getElem_mem hjL)
       generalize hy : L.getD j ld0 = y at *
       obtain ⟨z1,z2,z3⟩ := y
       simp only at q0 q1 q2 hv0
       clear hy
       have g0 := cell_grown (a := ⟨g,j * 3,none⟩) hgl q0
       have g1 := cell_grown (a := ⟨g,j * 3 + 1,none⟩) hgl q1
       have g2 := cell_grown (a := ⟨Y,0,none⟩) hYi i6
       have g3 := cell_grown (a := ⟨Y,1,none⟩) hYi i7
       have HB : Hid (∀ nn os,Below w3.heap.size w3 (Go.Sort.grow (wr.drewN nn) os)) := fun nn os => below2 hbi (below_grow _ _ _)
       have HMISS : Hid (¬ (z1 = c1 /\ z2 = c2) -> Hid (∀ i,i < j + 1 -> ¬ HitL L i c1 c2)) := fun hm i hi => by
        rcases Nat.lt_succ_iff_lt_or_eq.1 hi with h' | rfl
        ·exact hH.out i h'
        ·exact fun h => hm (HHIT.out.1 h)
       by_cases h1 : z1 = c1
       ·obtain rfl := h1.symm
        by_cases h2 : z2 = c2
        ·obtain rfl := h2.symm
         have HP : Hid (loadsF leafF zone rack (ls.take (k + 1)) = L.set j (c1,c2,z3 + wtN ⟨c1,c2,c3,c4,c5,c6⟩)) := HPUT.out (HHIT.out.2 ⟨rfl,rfl⟩)
         have HST : Hid (∀ z,(cellsLd L).set (j * 3 + 2) (.int .i64 z) = cellsLd (L.set j (c1,c2,z))) := HSET.out
         have HWR : Hid (IntKind.i64.wrap (z3 + wtN ⟨c1,c2,c3,c4,c5,c6⟩) = z3 + wtN ⟨c1,c2,c3,c4,c5,c6⟩) := by
          show _ = _
          have := HWT.out
          rw [IntKind.wrap_i64]
          omega
         have HV : Hid (0 <= z3 /\ z3 <= 65536 * (k : Int)) := hv0
         clear HPUT HSET HHIT hH HMISS HY h1 h2 hv0
         go_wp2_with fail
         refine wp_region_QW mixed5 (by kernel_rfl) ?_
         repeat (refine QW_step (fun K hK => ?_); go_simp; first | (refine hK _ ?_; clear hK K) | (apply Exists.intro; refine ⟨fun _ => ?_,hK _ ?_⟩; fail; clear hK K))
         refine QW_nil ?_
         intro _ hw9
         obtain ⟨⟨nq,osq⟩,hw8⟩ := hw9
         subst hw8
         have hb5 : Below wr.heap.size wr (Go.Sort.grow (wr.drewN nq) osq) := below_grow _ _ _
         show Exit.then _ _ _ _ (Go.Sort.grow (wr.drewN nq) osq)
         have r0 := (hb5.cell (p := ⟨X,0,none⟩) hXi).trans i0
         have r1 := (hb5.cell (p := ⟨X,1,none⟩) hXi).trans i1
         have r2 := (hb5.cell (p := ⟨X,2,none⟩) hXi).trans i2
         have r3 := (hb5.cell (p := ⟨X,3,none⟩) hXi).trans i3
         have r4 := (hb5.cell (p := ⟨X,4,none⟩) hXi).trans i4
         have r5 := (hb5.cell (p := ⟨X,5,none⟩) hXi).trans i5
         have r6 := (hb5.cell (p := ⟨g,j * 3 + 2,none⟩) hgl).trans q2
         have HO5 : Hid ((Go.Sort.grow (wr.drewN nq) osq).ownsRow w.heap.size 212 3 (.slice (some ⟨g,0,none⟩) n capl) n (cellsLd L)) := own_below HOi.out hb5
         have hf5 := HO5.out.frozenAt (j * 3 + 2)
         have hbw5 : Below w.heap.size w (Go.Sort.grow (wr.drewN nq) osq) := below2 hbw hb5
         have hX5 : X < (Go.Sort.grow (wr.drewN nq) osq).heap.size := Nat.lt_of_lt_of_le hXi hb5.size
         have hg5 : g < (Go.Sort.grow (wr.drewN nq) osq).heap.size := Nat.lt_of_lt_of_le hgl hb5.size
         clear g0 g1 g2 g3 HB HOi hb5 i0 i1 i2 i3 i4 i5 i6 i7 q0 q1 q2 hbw hgl hXi hYi hbi
         generalize Go.Sort.grow (wr.drewN nq) osq = w5 at *
         go_wp2_with fail
         refine load_add _ _ _ _ _ _ _ _ _ _ _ _ _ _ _ _ _ _ _ _ _ _ _ _ _ _ _ _ _ _ _ _ _ _ _ _ _ _ _ _ _ _ _ _ _ _ _ _ _ _ _ _ _ _ _ _ _ _ _ _ _ _ _ _ X g n capl j c1 c2 c3 c4 z3 c5 c6 w5 _ r0 r1 r2 r3 r4 r5 hX5 hg5 r6 hf5 hjn HWR.out (fun u47 u48 u49 u50 u51 u52 u53 u54 u55 u56 W hbW => ?_)
         have HO6 : Hid _ := ((own_below HO5.out hbW).stored (j * 3 + 2) (.int .i64 (z3 + wtN ⟨c1,c2,c3,c4,c5,c6⟩))).1
         rw [HST.out] at HO6
         have hb6 : Below w.heap.size w (W.setCell ⟨g,j * 3 + 2,none⟩ (.int .i64 (z3 + wtN ⟨c1,c2,c3,c4,c5,c6⟩))) := (below2 hbw5 hbW).setCell (p := ⟨g,j * 3 + 2,none⟩) hge _
         have HBD2 : Hid (BdL (L.set j (c1,c2,z3 + wtN ⟨c1,c2,c3,c4,c5,c6⟩)) (65536 * ((k + 1 : Nat) : Int))) := by
          intro c hc
          rcases List.mem_or_eq_of_mem_set hc with h | rfl
          ·exact HBD1.out c h
          ·have := HWT.out
           have := HV.out
           exact ⟨by show 0 <= z3 + _; omega,by show z3 + _ <= _; omega⟩
         have HLS : Hid ((L.set j (c1,c2,z3 + wtN ⟨c1,c2,c3,c4,c5,c6⟩)).length <= k + 1) := by
          show _ <= _
          rw [List.length_set]
          have := HN.out
          omega
         have HL2 : Hid (n = (L.set j (c1,c2,z3 + wtN ⟨c1,c2,c3,c4,c5,c6⟩)).length) := by show _ = _; rw [List.length_set]; exact HN.out
         generalize L.set j (c1,c2,z3 + wtN ⟨c1,c2,c3,c4,c5,c6⟩) = L2 at *
         generalize W.setCell ⟨g,j * 3 + 2,none⟩ (.int .i64 (z3 + wtN ⟨c1,c2,c3,c4,c5,c6⟩)) = w6 at *
         clear HO5 hbW hbw5 r0 r1 r2 r3 r4 r5 r6 hf5 hX5 hg5 HST HWT HV HWR
         have hLk2 : L2.length <= k + 1 := HLS.out
         have HP2 : Hid (L2 = loadsF leafF zone rack (ls.take (k + 1))) := HP.out.symm
         have HO7 : Hid (w6.ownsRow w.heap.size 212 3 (.slice (some ⟨g,0,none⟩) n capl) L2.length (cellsLd L2)) := by
          rw [<- HL2.out]
          exact HO6
         clear HO6
         dsimp only
         go_wp2_with fail
         exact ⟨⟨k + 1,L2,by omega,by go_num,HP2,hLk2,HBD2,HO7,hb6⟩,by simp [intOf]; omega⟩
        ·have HH := HMISS.out (fun h => h2 h.2)
         clear HPUT HSET HHIT hH HMISS h1
         go_wp2_with fail
         refine wp_region_QW mixed5 (by kernel_rfl) ?_
         repeat (refine QW_step (fun K hK => ?_); go_simp; first | (refine hK _ ?_; clear hK K) | (apply Exists.intro; refine ⟨fun _ => ?_,hK _ ?_⟩; fail; clear hK K))
         refine QW_nil ?_
         intro _ hw9
         obtain ⟨⟨nq,osq⟩,hw8⟩ := hw9
         subst hw8
         have hb := HB.out nq osq
         go_wp2_with fail
         exact ⟨⟨j + 1,by omega,by go_num,HH,hb⟩,by simp [intOf]; omega⟩
       ·have HH := HMISS.out (fun h => h1 h.1)
        clear HPUT HSET HHIT hH HMISS
        go_wp2_with fail
        refine wp_region_QW mixed5 (by kernel_rfl) ?_
        repeat (refine QW_step (fun K hK => ?_); go_simp; first | (refine hK _ ?_; clear hK K) | (apply Exists.intro; refine ⟨fun _ => ?_,hK _ ?_⟩; fail; clear hK K))
        refine QW_nil ?_
        intro _ hw9
        obtain ⟨⟨nq,osq⟩,hw8⟩ := hw9
        subst hw8
        have hb := HB.out nq osq
        go_wp2_with fail
        exact ⟨⟨j + 1,by omega,by go_num,HH,hb⟩,by simp [intOf]; omega⟩
      ·obtain rfl : j = n := by omega
       have HP : Hid (L ++ [(c1,c2,wtN ⟨c1,c2,c3,c4,c5,c6⟩)] = loadsF leafF zone rack (ls.take (k + 1))) := by
        show _ = _
        rw [HY.out]
        exact (putL_miss (fun i hi => hH.out i (by have := HN.out; omega))).symm
       have HBD2 : Hid (BdL (L ++ [(c1,c2,wtN ⟨c1,c2,c3,c4,c5,c6⟩)]) (65536 * ((k + 1 : Nat) : Int))) := by
        intro c hc
        rcases List.mem_append.1 hc with h | h
        ·exact HBD1.out c h
        ·obtain rfl := List.mem_singleton.1 h
         have := HWT.out
         exact ⟨this.1,by show wtN _ <= _; omega⟩
       have HL2 : Hid ((L ++ [(c1,c2,wtN ⟨c1,c2,c3,c4,c5,c6⟩)]).length <= k + 1) := by
        show _ <= _
        rw [List.length_append]
        have := HN.out
        simp
        omega
       have hjj : ¬ (j : Int) < (j : Int) := by omega
       clear hH HY
       go_wp2_with fail
       refine load_put _ _ _ _ _ _ _ _ _ _ _ _ _ _ _ _ _ _ _ _ _ _ _ _ _ _ _ _ _ _ _ _ _ _ _ _ _ _ _ _ _ _ _ _ _ _ _ _ _ _ _ _ _ _ _ _ _ _ _ _ _ _ _ _ X Y w.heap.size c1 c2 c3 c4 c1 c2 c5 c6 (.slice al j capl) L wr _ i0 i1 i2 i3 i4 i5 hXi hYi i6 i7 (by rw [<- HN.out]; exact HOi.out) (by have := hbw.size; omega) HNX.out HNY.out HLN.out (fun u58 u59 u60 u61 u62 u63 u64 v' wC hownC hgC => ?_)
       have hbC : Below w.heap.size w wC := hbw.grown hgC hbw.size (fun j hj => HLT'.out j hj)
       have HOC : Hid _ := hownC
       clear hgC hownC HOi hbw i0 i1 i2 i3 i4 i5 i6 i7 hXi hYi hbi HWT
       generalize L ++ [(c1,c2,wtN ⟨c1,c2,c3,c4,c5,c6⟩)] = L2 at *
       have hLk2 : L2.length <= k + 1 := HL2.out
       dsimp only
       go_wp2_with fail
       exact ⟨⟨k + 1,L2,by omega,by go_num,HP,hLk2,HBD2,HOC,hbC⟩,by simp [intOf]; omega⟩
  ·obtain rfl : k = len := by omega
   have HE : Hid (L = loadsF leafF zone rack ls) := by
    show _ = _
    rw [hT.out,List.take_of_length_le (by omega)]
   clear hT
   go_wp2_with fail
   go_ret
   exact ⟨_,rfl,by rw [<- HE.out]; exact hown.out,hbel⟩
end Go.Proofs.YtcncbjknfcjnmaaGreat.Tp
namespace Go.Proofs.YtcncbjknfcjnmaaGreat.Tp
open Go.ChangeShapes Go.WideShapes Go.ChangeAt Go.RowKit
set_option maxHeartbeats 4000000 in
set_option maxRecDepth 60000 in
theorem loadsR_any (a : Option Addr) (len cap : Nat) (ls : List Nd) (zone rack : Int) (w : World) (h : NdsAt w a len cap ls) (hM : MayN ls) :
  Calls Tryz.prog 196 #[.slice a len cap,.int .i64 zone,.int .i64 rack,.func (.func 181) #[] #[]] w fun e w' => LoadsPost rackF zone rack ls w e w' := by
 have hl : ls.length = len := h.1
 have h12 : (len : Int) <= 12 := by have := hM.1; omega
 have HL : Hid (NdsAt w a len cap ls) := h
 have HM : Hid (∀ i,i < len -> InN (ls.getD i nd0)) := fun i hi => (hM.2 i (by omega)).1
 clear h hM
 go_enter Tryz.func196,Tryz.ntmps196
 go_wp2_with fail
 go_step3
 go_wp2_with fail
 go_step3
 go_wp2_with fail
 go_loopw [9,16] (fun l i wr => ∃ (k : Nat) (L : List Ld),k <= len /\ i = .int .i64 k /\ Hid (L = loadsF rackF zone rack (ls.take k)) /\ L.length <= k /\ Hid (BdL L (65536 * (k : Int))) /\ Hid (wr.ownsRow w.heap.size 212 3 l L.length (cellsLd L)) /\ Below w.heap.size w wr) (fun _ i _ => len - (intOf i).toNat)
 case atStart => exact ⟨0,[],Nat.zero_le _,rfl,rfl,Nat.le_refl _,fun c hc => absurd hc (by simp),World.ownsRow_nil _ _ _ _,Below.refl _ _⟩
 case round =>
  obtain ⟨k,L,hk,rfl,hT,hLk,hbd,hown,hbel⟩ := hrel
  by_cases hlt : k < len
  ·obtain ⟨b,off,rfl,hbs,hcell⟩ := (HL.out.below hbel).some (by omega)
   obtain ⟨e0,e1,e2,e3,e4,e5⟩ := hcell k hlt
   have hk1 : (k : Int) < (len : Int) := by omega
   have hk0 : (0 : Int) <= (k : Int) := by omega
   clear hcell
   have HT := loadsF_take (f := rackF) (zone := zone) (rack := rack) (ls := ls) (k := k) (by omega)
   rw [<- hT.out] at HT
   have hin := HM.out k hlt
   generalize ls.getD k nd0 = x at *
   obtain ⟨c1,c2,c3,c4,c5,c6⟩ := x
   simp only at e0 e1 e2 e3 e4 e5
   have hwt := wtN_bd hin
   clear hin hT
   have HC1 : Hid (∀ W : World,Calls Tryz.prog 203 #[.int .i64 zone,.int .i64 c2] W fun e w' => e = .returned (.bool (coversB zone c2)) /\ w' = W) := covers_any zone c2
   have HC2 : Hid (∀ W : World,Calls Tryz.prog 203 #[.int .i64 rack,.int .i64 c3] W fun e w' => e = .returned (.bool (coversB rack c3)) /\ w' = W) := covers_any rack c3
   have HT' : Hid (loadsF rackF zone rack (ls.take (k + 1)) = if (coversB zone c2 && coversB rack c3) = true then putL L c3 c2 (wtN ⟨c1,c2,c3,c4,c5,c6⟩) else L) := HT
   clear HT
   have HNO : Hid ((coversB zone c2 && coversB rack c3) = false -> Hid (L = loadsF rackF zone rack (ls.take (k + 1)))) := fun h => by
    show _ = _
    rw [HT'.out,h]
    rfl
   have HBD1 : Hid (BdL L (65536 * ((k + 1 : Nat) : Int))) := hbd.out.mono (by omega)
   have HO1 : Hid ((wr.alloc (.cells #[.int .i64 c1,.int .i64 c2,.int .i64 c3,.int .i64 c4,.bool c5,.bool c6] 72)).ownsRow w.heap.size 212 3 u9 L.length (cellsLd L)) := own_alloc hown.out _
   have hb1 : Below w.heap.size w (wr.alloc (.cells #[.int .i64 c1,.int .i64 c2,.int .i64 c3,.int .i64 c4,.bool c5,.bool c6] 72)) := below2 hbel (below_alloc _ _)
   generalize coversB zone c2 = b1 at *
   generalize coversB rack c3 = b2 at *
   cases b1 with
   | false =>
    have HY := HNO.out rfl
    clear HNO HT' hbd hown hwt
    go_wp2_with (go_at_call 203; refine (HC1.out _).mono ?_; rintro e w' ⟨rfl,rfl⟩)
    exact ⟨⟨k + 1,L,by omega,by go_num,HY,by omega,HBD1,HO1,hb1⟩,by simp [intOf]; omega⟩
   | true =>
    cases b2 with
    | false =>
     have HY := HNO.out rfl
     clear HNO HT' hbd hown hwt
     go_wp2_with (first | (go_at_call_of 203 zone; refine (HC1.out _).mono ?_; rintro e w' ⟨rfl,rfl⟩) | (go_at_call_of 203 rack; refine (HC2.out _).mono ?_; rintro e w' ⟨rfl,rfl⟩))
     exact ⟨⟨k + 1,L,by omega,by go_num,HY,by omega,HBD1,HO1,hb1⟩,by simp [intOf]; omega⟩
    | true =>
     have HY : Hid (loadsF rackF zone rack (ls.take (k + 1)) = putL L c3 c2 (wtN ⟨c1,c2,c3,c4,c5,c6⟩)) := HT'.out
     clear HNO HT'
     have HWT : Hid (0 <= wtN ⟨c1,c2,c3,c4,c5,c6⟩ /\ wtN ⟨c1,c2,c3,c4,c5,c6⟩ <= 65536) := hwt
     clear hwt
     have HLT : Hid (∀ j,u9.ownBlock = some j -> w.heap.size <= j /\ j < wr.heap.size) := hown.out.lt
     obtain ⟨al,capl,rfl,hcl⟩ := own_slice hown.out
     clear hown
     have HF : Hid (∀ W : World,Calls Tryz.prog 181 #[.agg #[.int .i64 c1,.int .i64 c2,.int .i64 c3,.int .i64 c4,.bool c5,.bool c6]] W fun e w' => e = .returned (.agg #[.int .i64 c3,.int .i64 c2]) /\ Grown W w') := rackOf_any c1 c2 c3 c4 c5 c6
     go_wp2_with (first | (go_at_call_of 203 zone; refine (HC1.out _).mono ?_; rintro e w' ⟨rfl,rfl⟩) | (go_at_call_of 203 rack; refine (HC2.out _).mono ?_; rintro e w' ⟨rfl,rfl⟩) | (go_at_call 181; refine (HF.out _).mono ?_; rintro e w2 ⟨rfl,hg2⟩))
     have hb12 := grown_below hg2
     clear hg2
     have hs12 : wr.heap.size + 1 <= w2.heap.size := by have := hb12.size; simpa using this
     have hb23 : Below (wr.alloc (.cells #[.int .i64 c1,.int .i64 c2,.int .i64 c3,.int .i64 c4,.bool c5,.bool c6] 72)).heap.size (wr.alloc (.cells #[.int .i64 c1,.int .i64 c2,.int .i64 c3,.int .i64 c4,.bool c5,.bool c6] 72)) (w2.alloc (.cells #[.int .i64 c3,.int .i64 c2] 200)) := below2 hb12 (below_alloc _ _)
     have hX1 : wr.heap.size < (wr.alloc (.cells #[.int .i64 c1,.int .i64 c2,.int .i64 c3,.int .i64 c4,.bool c5,.bool c6] 72)).heap.size := by simp
     have x0 := (hb23.cell (p := ⟨wr.heap.size,0,none⟩) hX1).trans (show _ = some (.int .i64 c1) by simp)
     have x1 := (hb23.cell (p := ⟨wr.heap.size,1,none⟩) hX1).trans (show _ = some (.int .i64 c2) by simp)
     have x2 := (hb23.cell (p := ⟨wr.heap.size,2,none⟩) hX1).trans (show _ = some (.int .i64 c3) by simp)
     have x3 := (hb23.cell (p := ⟨wr.heap.size,3,none⟩) hX1).trans (show _ = some (.int .i64 c4) by simp)
     have x4 := (hb23.cell (p := ⟨wr.heap.size,4,none⟩) hX1).trans (show _ = some (.bool c5) by simp)
     have x5 := (hb23.cell (p := ⟨wr.heap.size,5,none⟩) hX1).trans (show _ = some (.bool c6) by simp)
     have y0 : (w2.alloc (.cells #[.int .i64 c3,.int .i64 c2] 200)).cell? ⟨w2.heap.size,0,none⟩ = some (.int .i64 c3) := by simp
     have y1 : (w2.alloc (.cells #[.int .i64 c3,.int .i64 c2] 200)).cell? ⟨w2.heap.size,1,none⟩ = some (.int .i64 c2) := by simp
     have HO3 : Hid ((w2.alloc (.cells #[.int .i64 c3,.int .i64 c2] 200)).ownsRow w.heap.size 212 3 (.slice al L.length capl) L.length (cellsLd L)) := own_below HO1.out hb23
     have hb3 : Below w.heap.size w (w2.alloc (.cells #[.int .i64 c3,.int .i64 c2] 200)) := below2 hb1 hb23
     have hs3 : w2.heap.size < (w2.alloc (.cells #[.int .i64 c3,.int .i64 c2] 200)).heap.size := by simp
     have HNX : Hid ((Value.slice al L.length capl).ownBlock ≠ some wr.heap.size) := fun e => by have := (HLT.out _ e).2; omega
     have HNY : Hid ((Value.slice al L.length capl).ownBlock ≠ some w2.heap.size) := fun e => by have := (HLT.out _ e).2; omega
     have HLT' : Hid (∀ j,(Value.slice al L.length capl).ownBlock = some j -> w.heap.size <= j) := fun j e => (HLT.out _ e).1
     have hsw : w.heap.size <= wr.heap.size := hbel.size
     clear HO1 hb1 hb23 hb12 hX1 HLT HC1 HC2 HF hbel e0 e1 e2 e3 e4 e5
     generalize w2.alloc (.cells #[.int .i64 c3,.int .i64 c2] 200) = w3 at *
     generalize w2.heap.size = Y at *
     generalize wr.heap.size = X at *
     have HLN : Hid (L.length <= 12) := by show _ <= _; omega
     obtain ⟨n,hn⟩ : ∃ n,n = L.length := ⟨_,rfl⟩
     rw [<- hn] at HO3 HNX HNY HLT' hcl hLk
     rw [<- hn]
     have HN : Hid (n = L.length) := hn
     clear hn
     have hn12 : (n : Int) <= 12 := by have := HN.out; have := HLN.out; omega
     go_loopw [37] (fun i wi => ∃ j : Nat,j <= n /\ i = .int .i64 j /\ Hid (∀ i,i < j -> ¬ HitL L i c3 c2) /\ Below w3.heap.size w3 wi) (fun i _ => n - (intOf i).toNat)
     case atStart => exact ⟨0,Nat.zero_le _,rfl,fun i hi => absurd hi (Nat.not_lt_zero _),Below.refl _ _⟩
     case round =>
      obtain ⟨j,hj,rfl,hH,hbi⟩ := hrel
      have hXi : X < wr.heap.size := by have := hbi.size; omega
      have hYi : Y < wr.heap.size := by have := hbi.size; omega
      have hX3 : X < w3.heap.size := by omega
      have i0 := (hbi.cell (p := ⟨X,0,none⟩) hX3).trans x0
      have i1 := (hbi.cell (p := ⟨X,1,none⟩) hX3).trans x1
      have i2 := (hbi.cell (p := ⟨X,2,none⟩) hX3).trans x2
      have i3 := (hbi.cell (p := ⟨X,3,none⟩) hX3).trans x3
      have i4 := (hbi.cell (p := ⟨X,4,none⟩) hX3).trans x4
      have i5 := (hbi.cell (p := ⟨X,5,none⟩) hX3).trans x5
      have i6 := (hbi.cell (p := ⟨Y,0,none⟩) hs3).trans y0
      have i7 := (hbi.cell (p := ⟨Y,1,none⟩) hs3).trans y1
      have HOi : Hid (wr.ownsRow w.heap.size 212 3 (.slice al n capl) n (cellsLd L)) := own_below HO3.out hbi
      have hbw : Below w.heap.size w wr := below2 hb3 hbi
      clear x0 x1 x2 x3 x4 x5 y0 y1 HO3
      by_cases hjn : j < n
      ·obtain ⟨g,c',hv,hge,hgl,-⟩ := own_some HOi.out (by omega)
       injection hv with ha _ hc
       subst ha
       clear hc
       have hj1 : (j : Int) < (n : Int) := by omega
       have hj0 : (0 : Int) <= (j : Int) := by omega
       obtain ⟨q0,q1,q2⟩ := (lds_own HOi.out HN.out) j (by have := HN.out; omega)
       have HHIT : Hid (HitL L j c3 c2 ↔ (L.getD j ld0).1 = c3 /\ (L.getD j ld0).2.1 = c2) := Iff.rfl
       have HPUT : Hid (HitL L j c3 c2 -> loadsF rackF zone rack (ls.take (k + 1)) = L.set j (c3,c2,(L.getD j ld0).2.2 + wtN ⟨c1,c2,c3,c4,c5,c6⟩)) := fun h => by
        rw [HY.out]
        exact putL_hit (by have := HN.out; omega) h hH.out
       have HSET : Hid (∀ z,(cellsLd L).set (j * 3 + 2) (.int .i64 z) = cellsLd (L.set j ((L.getD j ld0).1,(L.getD j ld0).2.1,z))) := fun z => cellsLd_set (by have := HN.out; omega) z
       have hv0 : 0 <= (L.getD j ld0).2.2 /\ (L.getD j ld0).2.2 <= 65536 * (k : Int) := hbd.out _ (by
        have hjL : j < L.length := by have := HN.out; omega
        rw [show L.getD j ld0 = L[j] by simp [hjL]]
        exact List.getElem_mem hjL)
       generalize hy : L.getD j ld0 = y at *
       obtain ⟨z1,z2,z3⟩ := y
       simp only at q0 q1 q2 hv0
       clear hy
       have g0 := cell_grown (a := ⟨g,j * 3,none⟩) hgl q0
       have g1 := cell_grown (a := ⟨g,j * 3 + 1,none⟩) hgl q1
       have g2 := cell_grown (a := ⟨Y,0,none⟩) hYi i6
       have g3 := cell_grown (a := ⟨Y,1,none⟩) hYi i7
       have HB : Hid (∀ nn os,Below w3.heap.size w3 (Go.Sort.grow (wr.drewN nn) os)) := fun nn os => below2 hbi (below_grow _ _ _)
       have HMISS : Hid (¬ (z1 = c3 /\ z2 = c2) -> Hid (∀ i,i < j + 1 -> ¬ HitL L i c3 c2)) := fun hm i hi => by
        rcases Nat.lt_succ_iff_lt_or_eq.1 hi with h' | rfl
        ·exact hH.out i h'
        ·exact fun h => hm (HHIT.out.1 h)
       by_cases h1 : z1 = c3
       ·obtain rfl := h1.symm
        by_cases h2 : z2 = c2
        ·obtain rfl := h2.symm
         have HP : Hid (loadsF rackF zone rack (ls.take (k + 1)) = L.set j (c3,c2,z3 + wtN ⟨c1,c2,c3,c4,c5,c6⟩)) := HPUT.out (HHIT.out.2 ⟨rfl,rfl⟩)
         have HST : Hid (∀ z,(cellsLd L).set (j * 3 + 2) (.int .i64 z) = cellsLd (L.set j (c3,c2,z))) := HSET.out
         have HWR : Hid (IntKind.i64.wrap (z3 + wtN ⟨c1,c2,c3,c4,c5,c6⟩) = z3 + wtN ⟨c1,c2,c3,c4,c5,c6⟩) := by
          show _ = _
          have := HWT.out
          rw [IntKind.wrap_i64]
          omega
         have HV : Hid (0 <= z3 /\ z3 <= 65536 * (k : Int)) := hv0
         clear HPUT HSET HHIT hH HMISS HY h1 h2 hv0
         go_wp2_with fail
         refine wp_region_QW mixed5 (by kernel_rfl) ?_
         repeat (refine QW_step (fun K hK => ?_); go_simp; first | (refine hK _ ?_; clear hK K) | (apply Exists.intro; refine ⟨fun _ => ?_,hK _ ?_⟩; fail; clear hK K))
         refine QW_nil ?_
         intro _ hw9
         obtain ⟨⟨nq,osq⟩,hw8⟩ := hw9
         subst hw8
         have hb5 : Below wr.heap.size wr (Go.Sort.grow (wr.drewN nq) osq) := below_grow _ _ _
         show Exit.then _ _ _ _ (Go.Sort.grow (wr.drewN nq) osq)
         have r0 := (hb5.cell (p := ⟨X,0,none⟩) hXi).trans i0
         have r1 := (hb5.cell (p := ⟨X,1,none⟩) hXi).trans i1
         have r2 := (hb5.cell (p := ⟨X,2,none⟩) hXi).trans i2
         have r3 := (hb5.cell (p := ⟨X,3,none⟩) hXi).trans i3
         have r4 := (hb5.cell (p := ⟨X,4,none⟩) hXi).trans i4
         have r5 := (hb5.cell (p := ⟨X,5,none⟩) hXi).trans i5
         have r6 := (hb5.cell (p := ⟨g,j * 3 + 2,none⟩) hgl).trans q2
         have HO5 : Hid ((Go.Sort.grow (wr.drewN nq) osq).ownsRow w.heap.size 212 3 (.slice (some ⟨g,0,none⟩) n capl) n (cellsLd L)) := own_below HOi.out hb5
         have hf5 := HO5.out.frozenAt (j * 3 + 2)
         have hbw5 : Below w.heap.size w (Go.Sort.grow (wr.drewN nq) osq) := below2 hbw hb5
         have hX5 : X < (Go.Sort.grow (wr.drewN nq) osq).heap.size := Nat.lt_of_lt_of_le hXi hb5.size
         have hg5 : g < (Go.Sort.grow (wr.drewN nq) osq).heap.size := Nat.lt_of_lt_of_le hgl hb5.size
         clear g0 g1 g2 g3 HB HOi hb5 i0 i1 i2 i3 i4 i5 i6 i7 q0 q1 q2 hbw hgl hXi hYi hbi
         generalize Go.Sort.grow (wr.drewN nq) osq = w5 at *
         go_wp2_with fail
         refine load_add _ _ _ _ _ _ _ _ _ _ _ _ _ _ _ _ _ _ _ _ _ _ _ _ _ _ _ _ _ _ _ _ _ _ _ _ _ _ _ _ _ _ _ _ _ _ _ _ _ _ _ _ _ _ _ _ _ _ _ _ _ _ _ _ X g n capl j c1 c2 c3 c4 z3 c5 c6 w5 _ r0 r1 r2 r3 r4 r5 hX5 hg5 r6 hf5 hjn HWR.out (fun u47 u48 u49 u50 u51 u52 u53 u54 u55 u56 W hbW => ?_)
         have HO6 : Hid _ := ((own_below HO5.out hbW).stored (j * 3 + 2) (.int .i64 (z3 + wtN ⟨c1,c2,c3,c4,c5,c6⟩))).1
         rw [HST.out] at HO6
         have hb6 : Below w.heap.size w (W.setCell ⟨g,j * 3 + 2,none⟩ (.int .i64 (z3 + wtN ⟨c1,c2,c3,c4,c5,c6⟩))) := (below2 hbw5 hbW).setCell (p := ⟨g,j * 3 + 2,none⟩) hge _
         have HBD2 : Hid (BdL (L.set j (c3,c2,z3 + wtN ⟨c1,c2,c3,c4,c5,c6⟩)) (65536 * ((k + 1 : Nat) : Int))) := by
          intro c hc
          rcases List.mem_or_eq_of_mem_set hc with h | rfl
          ·exact HBD1.out c h
          ·have := HWT.out
           have := HV.out
           exact ⟨by show 0 <= z3 + _; omega,by show z3 + _ <= _; omega⟩
         have HLS : Hid ((L.set j (c3,c2,z3 + wtN ⟨c1,c2,c3,c4,c5,c6⟩)).length <= k + 1) := by
          show _ <= _
          rw [List.length_set]
          have := HN.out
          omega
         have HL2 : Hid (n = (L.set j (c3,c2,z3 + wtN ⟨c1,c2,c3,c4,c5,c6⟩)).length) := by show _ = _; rw [List.length_set]; exact HN.out
         generalize L.set j (c3,c2,z3 + wtN ⟨c1,c2,c3,c4,c5,c6⟩) = L2 at *
         generalize W.setCell ⟨g,j * 3 + 2,none⟩ (.int .i64 (z3 + wtN ⟨c1,c2,c3,c4,c5,c6⟩)) = w6 at *
         clear HO5 hbW hbw5 r0 r1 r2 r3 r4 r5 r6 hf5 hX5 hg5 HST HWT HV HWR
         have hLk2 : L2.length <= k + 1 := HLS.out
         have HP2 : Hid (L2 = loadsF rackF zone rack (ls.take (k + 1))) := HP.out.symm
         have HO7 : Hid (w6.ownsRow w.heap.size 212 3 (.slice (some ⟨g,0,none⟩) n capl) L2.length (cellsLd L2)) := by
          rw [<- HL2.out]
          exact HO6
         clear HO6
         dsimp only
         go_wp2_with fail
         exact ⟨⟨k + 1,L2,by omega,by go_num,HP2,hLk2,HBD2,HO7,hb6⟩,by simp [intOf]; omega⟩
        ·have HH := HMISS.out (fun h => h2 h.2)
         clear HPUT HSET HHIT hH HMISS h1
         go_wp2_with fail
         refine wp_region_QW mixed5 (by kernel_rfl) ?_
         repeat (refine QW_step (fun K hK => ?_); go_simp; first | (refine hK _ ?_; clear hK K) | (apply Exists.intro; refine ⟨fun _ => ?_,hK _ ?_⟩; fail; clear hK K))
         refine QW_nil ?_
         intro _ hw9
         obtain ⟨⟨nq,osq⟩,hw8⟩ := hw9
         subst hw8
         have hb := HB.out nq osq
         go_wp2_with fail
         exact ⟨⟨j + 1,by omega,by go_num,HH,hb⟩,by simp [intOf]; omega⟩
       ·have HH := HMISS.out (fun h => h1 h.1)
        clear HPUT HSET HHIT hH HMISS
        go_wp2_with fail
        refine wp_region_QW mixed5 (by kernel_rfl) ?_
        repeat (refine QW_step (fun K hK => ?_); go_simp; first | (refine hK _ ?_; clear hK K) | (apply Exists.intro; refine ⟨fun _ => ?_,hK _ ?_⟩; fail; clear hK K))
        refine QW_nil ?_
        intro _ hw9
        obtain ⟨⟨nq,osq⟩,hw8⟩ := hw9
        subst hw8
        have hb := HB.out nq osq
        go_wp2_with fail
        exact ⟨⟨j + 1,by omega,by go_num,HH,hb⟩,by simp [intOf]; omega⟩
      ·obtain rfl : j = n := by omega
       have HP : Hid (L ++ [(c3,c2,wtN ⟨c1,c2,c3,c4,c5,c6⟩)] = loadsF rackF zone rack (ls.take (k + 1))) := by
        show _ = _
        rw [HY.out]
        exact (putL_miss (fun i hi => hH.out i (by have := HN.out; omega))).symm
       have HBD2 : Hid (BdL (L ++ [(c3,c2,wtN ⟨c1,c2,c3,c4,c5,c6⟩)]) (65536 * ((k + 1 : Nat) : Int))) := by
        intro c hc
        rcases List.mem_append.1 hc with h | h
        ·exact HBD1.out c h
        ·obtain rfl := List.mem_singleton.1 h
         have := HWT.out
         exact ⟨this.1,by show wtN _ <= _; omega⟩
       have HL2 : Hid ((L ++ [(c3,c2,wtN ⟨c1,c2,c3,c4,c5,c6⟩)]).length <= k + 1) := by
        show _ <= _
        rw [List.length_append]
        have := HN.out
        simp
        omega
       have hjj : ¬ (j : Int) < (j : Int) := by omega
       clear hH HY
       go_wp2_with fail
       refine load_put _ _ _ _ _ _ _ _ _ _ _ _ _ _ _ _ _ _ _ _ _ _ _ _ _ _ _ _ _ _ _ _ _ _ _ _ _ _ _ _ _ _ _ _ _ _ _ _ _ _ _ _ _ _ _ _ _ _ _ _ _ _ _ _ X Y w.heap.size c1 c2 c3 c4 c3 c2 c5 c6 (.slice al j capl) L wr _ i0 i1 i2 i3 i4 i5 hXi hYi i6 i7 (by rw [<- HN.out]; exact HOi.out) (by have := hbw.size; omega) HNX.out HNY.out HLN.out (fun u58 u59 u60 u61 u62 u63 u64 v' wC hownC hgC => ?_)
       have hbC : Below w.heap.size w wC := hbw.grown hgC hbw.size (fun j hj => HLT'.out j hj)
       have HOC : Hid _ := hownC
       clear hgC hownC HOi hbw i0 i1 i2 i3 i4 i5 i6 i7 hXi hYi hbi HWT
       generalize L ++ [(c3,c2,wtN ⟨c1,c2,c3,c4,c5,c6⟩)] = L2 at *
       have hLk2 : L2.length <= k + 1 := HL2.out
       dsimp only
       go_wp2_with fail
       exact ⟨⟨k + 1,L2,by omega,by go_num,HP,hLk2,HBD2,HOC,hbC⟩,by simp [intOf]; omega⟩
  ·obtain rfl : k = len := by omega
   have HE : Hid (L = loadsF rackF zone rack ls) := by
    show _ = _
    rw [hT.out,List.take_of_length_le (by omega)]
   clear hT
   go_wp2_with fail
   go_ret
   exact ⟨_,rfl,by rw [<- HE.out]; exact hown.out,hbel⟩
end Go.Proofs.YtcncbjknfcjnmaaGreat.Tp
namespace Go.Proofs.YtcncbjknfcjnmaaGreat.Tp
open Go.ChangeShapes Go.WideShapes Go.ChangeAt Go.RowKit
theorem zones_any (a : Option Addr) (len cap : Nat) (ls : List Nd) (w : World) (h : NdsAt w a len cap ls) :
  Calls Tryz.prog 166 #[.slice a len cap] w fun e w' => WeighPost zoneF 0 0 ls w e w' := by
 have HW : Hid (Calls Tryz.prog 179 #[.slice a len cap,.int .i64 0,.int .i64 0,.func (.func 180) #[] #[]] w fun e w' => WeighPost zoneF 0 0 ls w e w') := weigh_of zoneF _ a len cap ls 0 0 w h (fun hM W hW => loadsZ_any a len cap ls 0 0 W hW hM)
 clear h
 go_enter Tryz.func166,Tryz.ntmps166
 go_wp2_with fail
 refine HW.out.mono ?_
 rintro e w2 ⟨hb2,a',cap',out,rfl,hc,h12,hI⟩
 have HP : Hid (WeighPost zoneF 0 0 ls w (.returned (.slice a' out.length cap')) w2) := ⟨hb2,a',cap',out,rfl,hc,h12,hI⟩
 clear hb2 hc h12 hI HW
 go_wp2_with fail
 go_ret
 exact HP.out
theorem racks_any (a : Option Addr) (len cap : Nat) (ls : List Nd) (zone : Int) (w : World) (h : NdsAt w a len cap ls) :
  Calls Tryz.prog 167 #[.slice a len cap,.int .i64 zone] w fun e w' => WeighPost rackF zone 0 ls w e w' := by
 have HW : Hid (Calls Tryz.prog 179 #[.slice a len cap,.int .i64 zone,.int .i64 0,.func (.func 181) #[] #[]] w fun e w' => WeighPost rackF zone 0 ls w e w') := weigh_of rackF _ a len cap ls zone 0 w h (fun hM W hW => loadsR_any a len cap ls zone 0 W hW hM)
 clear h
 go_enter Tryz.func167,Tryz.ntmps167
 go_wp2_with fail
 refine HW.out.mono ?_
 rintro e w2 ⟨hb2,a',cap',out,rfl,hc,h12,hI⟩
 have HP : Hid (WeighPost rackF zone 0 ls w (.returned (.slice a' out.length cap')) w2) := ⟨hb2,a',cap',out,rfl,hc,h12,hI⟩
 clear hb2 hc h12 hI HW
 go_wp2_with fail
 go_ret
 exact HP.out
theorem leaves_any (a : Option Addr) (len cap : Nat) (ls : List Nd) (zone rack : Int) (w : World) (h : NdsAt w a len cap ls) :
  Calls Tryz.prog 168 #[.slice a len cap,.int .i64 zone,.int .i64 rack] w fun e w' => WeighPost leafF zone rack ls w e w' := by
 have HW : Hid (Calls Tryz.prog 179 #[.slice a len cap,.int .i64 zone,.int .i64 rack,.func (.func 182) #[] #[]] w fun e w' => WeighPost leafF zone rack ls w e w') := weigh_of leafF _ a len cap ls zone rack w h (fun hM W hW => loadsL_any a len cap ls zone rack W hW hM)
 clear h
 go_enter Tryz.func168,Tryz.ntmps168
 go_wp2_with fail
 refine HW.out.mono ?_
 rintro e w2 ⟨hb2,a',cap',out,rfl,hc,h12,hI⟩
 have HP : Hid (WeighPost leafF zone rack ls w (.returned (.slice a' out.length cap')) w2) := ⟨hb2,a',cap',out,rfl,hc,h12,hI⟩
 clear hb2 hc h12 hI HW
 go_wp2_with fail
 go_ret
 exact HP.out
end Go.Proofs.YtcncbjknfcjnmaaGreat.Tp
