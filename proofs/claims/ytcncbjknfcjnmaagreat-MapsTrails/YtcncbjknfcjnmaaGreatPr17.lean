/-
  The contracts of mayBe, added, turned, concerns and refusal, for a node added and a node that goes up.
  The contracts of refusalToAdd, refusalOfNode and refusal, for a node added to none and a node that goes up.
  The contract of refusal, for a node added to none and a node that goes up.
  What a turn keeps; a bare map in a box of one's own; the contract of leave where too few acted.
  The contracts of slices.Equal over ints and of the answer's Ints; of leave where too few acted.
-/
import Derived.Test.YtcncbjknfcjnmaaGreatPr16
namespace Go.Proofs.YtcncbjknfcjnmaaGreat.Tp
open Go.ChangeShapes Go.WideShapes Go.ChangeAt Go.RowKit
theorem ret_nd {fn : Func} {p : Tmp} (h : fn.results = #[.cell p 72]) (tmps : Array Value) (w : World) (b : Nat) (v0 v1 v2 v3 v4 v5 : Value) (hp : tmps.getD p undef = .pointer (some ⟨b,0,none⟩)) (hb : Six w b v0 v1 v2 v3 v4 v5) : (results fn tmps).run Tryz.prog w = .ok (.agg #[v0,v1,v2,v3,v4,v5]) w := by
 obtain ⟨h0,h1,h2,h3,h4,h5⟩ := hb
 simp only [Array.getD_eq_getD_getElem?] at hp
 simp only [results,h]
 simp [go_sem,hp,h0,h1,h2,h3,h4,h5]
set_option maxRecDepth 60000 in
theorem added_any (k id z r wt g : Int) (a : Option Addr) (len cap : Nat) (w : World) : Calls Tryz.prog 88 #[.agg #[.int .i64 k,.int .i64 id,.int .i64 z,.int .i64 r,.int .i64 wt,.int .i64 g,.slice a len cap]] w fun e w' => e = .returned (.agg #[.int .i64 id,.int .i64 z,.int .i64 r,.int .i64 wt,.bool false,.bool true]) /\ Grown w w' := by
 have HG : Hid (Grown w ((w.alloc (.cells #[.int .i64 k,.int .i64 id,.int .i64 z,.int .i64 r,.int .i64 wt,.int .i64 g,.slice a len cap] 37)).alloc (.cells #[.int .i64 id,.int .i64 z,.int .i64 r,.int .i64 wt,.bool false,.bool true] 72))) := grown2 (grown_alloc _ _) (grown_alloc _ _)
 go_enter Tryz.func88,Tryz.ntmps88
 go_wp2_with fail
 refine bodyPost_ret (ret_nd rfl _ _ (w.heap.size + 1) (.int .i64 id) (.int .i64 z) (.int .i64 r) (.int .i64 wt) (.bool false) (.bool true) rfl (by unfold Six; simp)) rfl ?_
 exact ⟨rfl,HG.out⟩
theorem six_new (W : World) (v0 v1 v2 v3 v4 v5 : Value) (t : TypeId) : Six (W.alloc (.cells #[v0,v1,v2,v3,v4,v5] t)) W.heap.size v0 v1 v2 v3 v4 v5 := by unfold Six; simp
end Go.Proofs.YtcncbjknfcjnmaaGreat.Tp
namespace Go.Proofs.YtcncbjknfcjnmaaGreat.Tp
open Go.ChangeShapes Go.WideShapes Go.ChangeAt Go.RowKit
theorem one_at (w : World) (x : Nd) : NdsAt (w.alloc (.cells (ndCells x).toArray 72)) (some ⟨w.heap.size,0,none⟩) 1 1 [x] := by
 refine ⟨rfl,Nat.le_refl _,by unfold maxLen; omega,.inr ⟨w.heap.size,0,rfl,fun i hi => ?_⟩⟩
 obtain rfl : i = 0 := by omega
 exact ⟨by simp [ndCells],by simp [ndCells],by simp [ndCells],by simp [ndCells],by simp [ndCells],by simp [ndCells]⟩
theorem one_may {x : Nd} (h : InN x) : MayN [x] := ⟨by simp,fun i hi => by
 obtain rfl : i = 0 := by simp at hi; omega
 exact ⟨h,fun h => absurd h (by decide)⟩⟩
end Go.Proofs.YtcncbjknfcjnmaaGreat.Tp
namespace Go.Proofs.YtcncbjknfcjnmaaGreat.Tp
open Go.ChangeShapes Go.WideShapes Go.ChangeAt Go.RowKit
end Go.Proofs.YtcncbjknfcjnmaaGreat.Tp
namespace Go.Proofs.YtcncbjknfcjnmaaGreat.Tp
open Go.ChangeShapes Go.WideShapes Go.ChangeAt Go.RowKit
def TurnT (T : TypeId) : Prop := T = 26 ∨ T = 72 ∨ T = 59 ∨ T = 53 ∨ T = 55
structure Kp (w w' : World) : Prop where
 os : w'.os = w.os
 tape : w'.tape = w.tape
 output : w'.output = w.output
 size : w.heap.size <= w'.heap.size
 block : ∀ (k : Nat) (cur : Array Value) (T : TypeId) (fz : Nat × Nat),w.heap[k]? = some (Obj.cells cur T fz) -> ¬ TurnT T -> w'.heap[k]? = w.heap[k]?
 ty : ∀ (k : Nat) (cur : Array Value) (T : TypeId),w.heap[k]? = some (Obj.cells cur T (0,0)) -> ∃ cur',w'.heap[k]? = some (Obj.cells cur' T (0,0))
theorem lt_of_get {w : World} {k : Nat} {o : Obj} (h : w.heap[k]? = some o) : k < w.heap.size := (Array.getElem?_eq_some_iff.1 h).1
theorem kp_below {w w' : World} (h : Below w.heap.size w w') : Kp w w' := by
 have hg := below_grownBy h none
 refine ⟨hg.os,hg.tape,hg.output,hg.size,fun k cur T fz hk _ => hg.block k (lt_of_get hk) (by simp),fun k cur T hk => ⟨cur,?_⟩⟩
 rw [hg.block k (lt_of_get hk) (by simp)]
 exact hk
def BoxTy (w : World) (b : Nat) (T : TypeId) : Prop := ∃ cur,w.heap[b]? = some (.cells cur T (0,0))
theorem BoxTy.kp {w w' : World} {b : Nat} {T : TypeId} (h : BoxTy w b T) (k : Kp w w') : BoxTy w' b T := by
 obtain ⟨cur,h⟩ := h
 exact k.ty b cur T h
theorem BoxTy.new (w : World) (c : Array Value) (T : TypeId) : BoxTy (w.alloc (.cells c T)) w.heap.size T := ⟨c,heap_alloc_new w _⟩
theorem kp_set {w : World} {b : Nat} {T : TypeId} (h : BoxTy w b T) (hT : TurnT T) (i : Nat) (v : Value) : Kp w (w.setCell ⟨b,i,none⟩ v) := by
 obtain ⟨cur,h⟩ := h
 have hg := set_grownBy w b i v
 refine ⟨hg.os,hg.tape,hg.output,hg.size,fun k c T' fz hk hT' => ?_,fun k c T' hk => ?_⟩
 ·refine hg.block k (lt_of_get hk) ?_
  intro e
  injection e with e
  subst e
  rw [h] at hk
  injection hk with hk
  injection hk with h1 h2 h3
  exact hT' (h2 ▸ hT)
 ·by_cases e : k = b
  ·subst e
   rw [h] at hk
   injection hk with hk
   injection hk with h1 h2 h3
   subst h2
   exact ⟨_,heap_setCell_same w k i cur T v h⟩
  ·rw [hg.block k (lt_of_get hk) (by simpa using e)]
   exact ⟨c,hk⟩
theorem row_ty {w : World} {B s n cap g : Nat} {E : TypeId} {xs : List Value} (h : w.ownsRow B E s (.slice (some ⟨g,0,none⟩) n cap) n xs) : BoxTy w g E /\ B <= g := by
 rcases h.2 with ⟨e,_⟩ | ⟨g',cap',cur,hv,hB,hh,_⟩
 ·simp at e
 ·injection hv with h1 h2 h3
  injection h1 with h1
  injection h1 with h1
  subst h1
  exact ⟨⟨cur,hh⟩,hB⟩
end Go.Proofs.YtcncbjknfcjnmaaGreat.Tp
namespace Go.Proofs.YtcncbjknfcjnmaaGreat.Tp
open Go.ChangeShapes Go.WideShapes Go.ChangeAt Go.RowKit
theorem eq_of_getD {l r : List Int} {n : Nat} (hl : l.length = n) (hr : r.length = n) (h : ∀ j,j < n -> l.getD j 0 = r.getD j 0) : l = r := by
 apply List.ext_getElem (by omega)
 intro i h1 h2
 have := h i (by omega)
 simpa [h1,h2] using this
theorem own_rowI {w : World} {B n cap : Nat} {a : Option Addr} {l : List Int} (h : w.ownsRow B 3 1 (.slice a n cap) n (intCells l)) : RowI w a n cap l := by
 have hl : l.length = n := by have := h.1; simpa [intCells] using this
 have hc := own_caps h
 refine ⟨hl,hc.1,hc.2.1,hc.2.2,?_⟩
 rcases own_lies h with h0 | ⟨b,off,e,hx⟩
 ·exact .inl h0
 ·exact .inr ⟨b,off,e,fun i hi => hx i _ (by simp [intCells,show i < l.length by omega])⟩
set_option maxHeartbeats 1000000 in
set_option maxRecDepth 60000 in
theorem eqInts (a b : Option Addr) (la ca lb cb : Nat) (l r : List Int) (w : World) (hl : RowI w a la ca l) (hr : RowI w b lb cb r) :
  Calls Tryz.prog 72 #[.slice a la ca,.slice b lb cb] w fun e w' => e = .returned (.bool (decide (l = r))) /\ Grown w w' := by
 have hla := hl.1
 have hlb := hr.1
 have hma : la <= maxLen := Nat.le_trans hl.2.1 hl.2.2.1
 unfold maxLen at hma
 have HL : Hid (RowI w a la ca l) := hl
 have HR : Hid (RowI w b lb cb r) := hr
 clear hl hr
 by_cases hn : la = lb
 ·subst hn
  have HE : Hid ((∀ j,j < la -> l.getD j 0 = r.getD j 0) -> decide (l = r) = true) := fun h => by simpa using eq_of_getD hla hlb h
  have HNE : Hid (∀ j,j < la -> l.getD j 0 ≠ r.getD j 0 -> decide (l = r) = false) := fun j hj h => by
   rw [decide_eq_false_iff_not]
   intro e
   rw [e] at h
   exact h rfl
  generalize decide (l = r) = q at *
  clear hla hlb
  go_enter Tryz.func72,Tryz.ntmps72
  go_wp2_with fail
  go_loopw [13] (fun i wr => ∃ k : Nat,k <= la /\ i = .int .i64 k /\ Grown w wr /\ Hid (∀ j,j < k -> l.getD j 0 = r.getD j 0)) (fun i _ => la - (intOf i).toNat)
  case atStart => exact ⟨0,Nat.zero_le _,rfl,grown_refl _,fun j hj => absurd hj (Nat.not_lt_zero _)⟩
  case round =>
   obtain ⟨k,hk,rfl,hgr,hT⟩ := hrel
   by_cases hlt : k < la
   ·have hk1 : (k : Int) < (la : Int) := by omega
    have hk0 : (0 : Int) <= (k : Int) := by omega
    obtain ⟨p,po,rfl,hp,hcp⟩ := (HL.out.below (grown_below hgr)).some (by omega)
    obtain ⟨q2,qo,rfl,hq,hcq⟩ := (HR.out.below (grown_below hgr)).some (by omega)
    have x0 := cell_grown (a := ⟨p,po + k,none⟩) hp (hcp k hlt)
    have x1 := cell_grown (a := ⟨q2,qo + k,none⟩) hq (hcq k hlt)
    have HG : Hid (∀ n os,Grown w (Go.Sort.grow (wr.drewN n) os)) := fun n os => grown2 hgr ⟨n,os,rfl⟩
    have HNX : Hid (l.getD k 0 = r.getD k 0 -> ∀ j,j < k + 1 -> l.getD j 0 = r.getD j 0) := fun h j hj => by
     by_cases e : j = k
     ·rw [e]; exact h
     ·exact hT.out j (by omega)
    have HNK := HNE.out k hlt
    clear hcp hcq hT
    generalize l.getD k 0 = y at *
    generalize r.getD k 0 = z at *
    by_cases hyz : y = z
    ·subst hyz
     have HX : Hid (∀ j,j < k + 1 -> l.getD j 0 = r.getD j 0) := HNX.out rfl
     clear HNX HNK
     go_wp2_with fail
     refine wp_region_QW mixed5 (by kernel_rfl) ?_
     repeat (refine QW_step (fun K hK => ?_); go_simp; first | (refine hK _ ?_; clear hK K) | (apply Exists.intro; refine ⟨fun _ => ?_,hK _ ?_⟩; fail; clear hK K))
     refine QW_nil ?_
     intro _ hw9
     obtain ⟨⟨nq,osq⟩,hw8⟩ := hw9
     subst hw8
     have hb := HG.out nq osq
     go_wp2_with fail
     exact ⟨⟨k + 1,by omega,by go_num,hb,HX⟩,by simp [intOf]; omega⟩
    ·have hq0 : q = false := HNK hyz
     subst hq0
     have hyd : (y == z) = false := by simpa using hyz
     clear HNX HNK HE HNE
     go_wp2_with fail
     refine wp_region_QW mixed5 (by kernel_rfl) ?_
     repeat (refine QW_step (fun K hK => ?_); go_simp; first | (refine hK _ ?_; clear hK K) | (apply Exists.intro; refine ⟨fun _ => ?_,hK _ ?_⟩; fail; clear hK K))
     refine QW_nil ?_
     intro _ hw9
     obtain ⟨⟨nq,osq⟩,hw8⟩ := hw9
     subst hw8
     have hb := HG.out nq osq
     go_wp2_with fail
     go_ret
     exact ⟨rfl,hb⟩
   ·obtain rfl : k = la := by omega
    have hq0 : q = true := HE.out hT.out
    subst hq0
    clear HE HNE hT
    go_wp2_with fail
    go_ret
    exact ⟨rfl,hgr⟩
 ·have hq0 : decide (l = r) = false := by
   rw [decide_eq_false_iff_not]
   intro e
   rw [e] at hla
   omega
  rw [hq0]
  have hnd : (la == lb) = false := by simpa using hn
  have hnd' : ((la : Int) == (lb : Int)) = false := beq_eq_false_iff_ne.2 (by omega)
  clear hq0 hla hlb
  go_enter Tryz.func72,Tryz.ntmps72
  go_wp2_with fail
  go_ret
  exact ⟨rfl,grown_refl _⟩
set_option maxHeartbeats 1000000 in
set_option maxRecDepth 60000 in
theorem refInts (a b : Option Addr) (la ca lb cb : Nat) (l r : List Int) (w : World) (hl : RowI w a la ca l) (hr : RowI w b lb cb r) :
  Calls Tryz.prog 22 #[.slice a la ca,.slice b lb cb] w fun e w' => e = .returned (.bool (decide (l = r))) /\ Grown w w' := by
 have hla := hl.1
 have hlb := hr.1
 have hma : la <= maxLen := Nat.le_trans hl.2.1 hl.2.2.1
 unfold maxLen at hma
 have HL : Hid (RowI w a la ca l) := hl
 have HR : Hid (RowI w b lb cb r) := hr
 clear hl hr
 by_cases hn : la = lb
 ·subst hn
  have HE : Hid ((∀ j,j < la -> l.getD j 0 = r.getD j 0) -> decide (l = r) = true) := fun h => by simpa using eq_of_getD hla hlb h
  have HNE : Hid (∀ j,j < la -> l.getD j 0 ≠ r.getD j 0 -> decide (l = r) = false) := fun j hj h => by
   rw [decide_eq_false_iff_not]
   intro e
   rw [e] at h
   exact h rfl
  generalize decide (l = r) = q at *
  clear hla hlb
  go_enter Tryz.func22,Tryz.ntmps22
  go_wp2_with fail
  go_loopw [5] (fun i wr => ∃ k : Nat,k <= la /\ i = .int .i64 k /\ Grown w wr /\ Hid (∀ j,j < k -> l.getD j 0 = r.getD j 0)) (fun i _ => la - (intOf i).toNat)
  case atStart => exact ⟨0,Nat.zero_le _,rfl,grown_refl _,fun j hj => absurd hj (Nat.not_lt_zero _)⟩
  case round =>
   obtain ⟨k,hk,rfl,hgr,hT⟩ := hrel
   by_cases hlt : k < la
   ·have hk1 : (k : Int) < (la : Int) := by omega
    have hk0 : (0 : Int) <= (k : Int) := by omega
    obtain ⟨p,po,rfl,hp,hcp⟩ := (HL.out.below (grown_below hgr)).some (by omega)
    obtain ⟨q2,qo,rfl,hq,hcq⟩ := (HR.out.below (grown_below hgr)).some (by omega)
    have x0 := cell_grown (a := ⟨p,po + k,none⟩) hp (hcp k hlt)
    have x1 := cell_grown (a := ⟨q2,qo + k,none⟩) hq (hcq k hlt)
    have HG : Hid (∀ n os,Grown w (Go.Sort.grow (wr.drewN n) os)) := fun n os => grown2 hgr ⟨n,os,rfl⟩
    have HNX : Hid (l.getD k 0 = r.getD k 0 -> ∀ j,j < k + 1 -> l.getD j 0 = r.getD j 0) := fun h j hj => by
     by_cases e : j = k
     ·rw [e]; exact h
     ·exact hT.out j (by omega)
    have HNK := HNE.out k hlt
    clear hcp hcq hT
    generalize l.getD k 0 = y at *
    generalize r.getD k 0 = z at *
    by_cases hyz : y = z
    ·subst hyz
     have HX : Hid (∀ j,j < k + 1 -> l.getD j 0 = r.getD j 0) := HNX.out rfl
     clear HNX HNK
     go_wp2_with fail
     refine wp_region_QW mixed5 (by kernel_rfl) ?_
     repeat (refine QW_step (fun K hK => ?_); go_simp; first | (refine hK _ ?_; clear hK K) | (apply Exists.intro; refine ⟨fun _ => ?_,hK _ ?_⟩; fail; clear hK K))
     refine QW_nil ?_
     intro _ hw9
     obtain ⟨⟨nq,osq⟩,hw8⟩ := hw9
     subst hw8
     have hb := HG.out nq osq
     go_wp2_with fail
     exact ⟨⟨k + 1,by omega,by go_num,hb,HX⟩,by simp [intOf]; omega⟩
    ·have hq0 : q = false := HNK hyz
     subst hq0
     have hyd : (y == z) = false := by simpa using hyz
     clear HNX HNK HE HNE
     go_wp2_with fail
     refine wp_region_QW mixed5 (by kernel_rfl) ?_
     repeat (refine QW_step (fun K hK => ?_); go_simp; first | (refine hK _ ?_; clear hK K) | (apply Exists.intro; refine ⟨fun _ => ?_,hK _ ?_⟩; fail; clear hK K))
     refine QW_nil ?_
     intro _ hw9
     obtain ⟨⟨nq,osq⟩,hw8⟩ := hw9
     subst hw8
     have hb := HG.out nq osq
     go_wp2_with fail
     go_ret
     exact ⟨rfl,hb⟩
   ·obtain rfl : k = la := by omega
    have hq0 : q = true := HE.out hT.out
    subst hq0
    clear HE HNE hT
    go_wp2_with fail
    go_ret
    exact ⟨rfl,hgr⟩
 ·have hq0 : decide (l = r) = false := by
   rw [decide_eq_false_iff_not]
   intro e
   rw [e] at hla
   omega
  rw [hq0]
  have hnd : (la == lb) = false := by simpa using hn
  have hnd' : ((la : Int) == (lb : Int)) = false := beq_eq_false_iff_ne.2 (by omega)
  clear hq0 hla hlb
  go_enter Tryz.func22,Tryz.ntmps22
  go_wp2_with fail
  go_ret
  exact ⟨rfl,grown_refl _⟩
end Go.Proofs.YtcncbjknfcjnmaaGreat.Tp
