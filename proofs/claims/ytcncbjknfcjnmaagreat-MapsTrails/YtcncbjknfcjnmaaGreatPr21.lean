/-
  Spans by their nodes in a map: plainly; the contract of mayPast.
  The contract of mayPast.
  The contracts of mayTrail and Check: which maps may be.
-/
import Derived.Test.YtcncbjknfcjnmaaGreatPr20
import Derived.Maps.Own
import Derived.Maps.OwnSet
import Derived.Maps.Views
import Derived.WalkArith
import Derived.WideKeyArr
import Derived.Laws.IdiomCopy
import Derived.Deep.Cut
import Derived.Test.YtcncbjknfcjnmaaGreatPr15
namespace Go.Proofs.YtcncbjknfcjnmaaGreat.Tp
open Go.ChangeShapes Go.WideShapes Go.ChangeAt Go.RowKit
open Go.Maps
theorem arr3 : WideMaps.ArrKey Tryz.prog 114 3 3 := ⟨Tryz.underlying114,by kernel_rfl,by kernel_rfl,by kernel_rfl⟩
theorem law3 : Keyed Tryz.prog 114 := Keyed.of_law arr3.law
theorem wf_in {x : Int} (h : -9223372036854775808 <= x /\ x <= 9223372036854775807) : (Lit.int .i64 x).wf = true := WalkArith.wf_i64 h
def key3 (a b c : Int) : Lit := .string (keyBytes [.int .i64 a,.int .i64 b,.int .i64 c])
theorem keyOf3 {a b c : Int} (wa : (Lit.int .i64 a).wf = true) (wb : (Lit.int .i64 b).wf = true) (wc : (Lit.int .i64 c).wf = true) : Go.keyOf Tryz.prog 114 (.agg #[.int .i64 a,.int .i64 b,.int .i64 c]) = some (key3 a b c) := by
 have he := Tryz.underlying3
 have hkt : Tryz.prog.keyType 114 = true := by kernel_rfl
 have hsz : ∃ m,Tryz.prog.types.size = m + 1 := ⟨_,rfl⟩
 obtain ⟨m,hm⟩ := hsz
 unfold Go.keyOf key3
 simp only [arr3.hu]
 rw [if_pos (by simp [hkt,Value.formed,arr3.hu,arr3.size]),hm]
 unfold Program.keyLits
 simp only [arr3.hu,Value.cells]
 rw [if_pos (by rw [arr3.size]; rfl),show List.range 3 = [0,1,2] from rfl,List.mapM_cons,List.mapM_cons,List.mapM_cons,List.mapM_nil]
 simp [arr3.one,Program.keyLits,he,wa,wb,wc]
def pad (ns : List Int) : Lit := key3 (ns.getD 0 0) (ns.getD 1 0) (ns.getD 2 0)
theorem ids_wf {ns : List Int} (h : IdsTo ns ns.length) (i : Nat) : (Lit.int .i64 (ns.getD i 0)).wf = true := by
 by_cases hi : i < ns.length
 ·have := (h i hi).1
  exact wf_in (by omega)
 ·rw [show ns.getD i 0 = 0 by simp [List.getD_eq_getElem?_getD,List.getElem?_eq_none (Nat.le_of_not_lt hi)]]
  exact wf_in (by omega)
theorem pad_of {ns : List Int} (h : IdsTo ns ns.length) : Go.keyOf Tryz.prog 114 (.agg #[.int .i64 (ns.getD 0 0),.int .i64 (ns.getD 1 0),.int .i64 (ns.getD 2 0)]) = some (pad ns) := keyOf3 (ids_wf h 0) (ids_wf h 1) (ids_wf h 2)
theorem pad_inj {a b : List Int} (ha : IdsTo a a.length) (hb : IdsTo b b.length) (la : a.length <= 3) (lb : b.length <= 3) (h : pad a = pad b) : a = b := by
 have h1 := pad_of ha
 have h2 := pad_of hb
 rw [h] at h1
 have h3 := law3.inj h1 h2
 simp only [Value.agg.injEq,Array.mk.injEq,List.cons.injEq,Value.int.injEq,true_and,and_true] at h3
 obtain ⟨e0,e1,e2⟩ := h3
 have key : ∀ i,a.getD i 0 = b.getD i 0 := fun i => by
  have hc : i = 0 ∨ i = 1 ∨ i = 2 ∨ 3 <= i := by omega
  rcases hc with rfl | rfl | rfl | h
  ·exact e0
  ·exact e1
  ·exact e2
  ·simp [List.getD_eq_getElem?_getD,List.getElem?_eq_none (Nat.le_trans la h),List.getElem?_eq_none (Nat.le_trans lb h)]
 have hl : a.length = b.length := by
  rcases Nat.lt_trichotomy a.length b.length with h | h | h
  ·have h5 := (hb a.length h).1
   rw [<- key a.length] at h5
   simp [List.getD_eq_getElem?_getD] at h5
  ·exact h
  ·have h5 := (ha b.length h).1
   rw [key b.length] at h5
   simp [List.getD_eq_getElem?_getD] at h5
 apply List.ext_getElem hl
 intro i h1 h2
 have := key i
 simpa [h1,h2] using this
def metTo (past : List Tm) : Nat -> DataW Unit
 | 0 => .map []
 | k + 1 => (metTo past k).put (pad (past.getD k tm0).ns) (.lit (.int .i64 (past.getD k tm0).g))
theorem met_isMap (past : List Tm) (k : Nat) : IsMap (metTo past k) := by
 induction k with
 | zero => exact isMap_empty
 | succ k ih => exact ih.put _ _
def PastTo (mn sz since : Int) (past : List Tm) (k : Nat) : Prop := ∀ i,i < k -> (0 <= (past.getD i tm0).g /\ (past.getD i tm0).g < since) /\ (0 < i -> (past.getD (i - 1) tm0).g < (past.getD i tm0).g) /\ SpanOk mn sz (past.getD i tm0).ns /\ ∀ j,j < i -> (past.getD j tm0).ns ≠ (past.getD i tm0).ns
def nextF (past : List Tm) (k : Nat) : Int := if k = 0 then 0 else (past.getD (k - 1) tm0).g + 1
theorem met_has {mn sz since : Int} {past : List Tm} (hs : sz <= 3) {ns : List Int} (hn : SpanOk mn sz ns) : ∀ {k : Nat},PastTo mn sz since past k -> (has (metTo past k) (pad ns) = true ↔ ∃ j,j < k /\ (past.getD j tm0).ns = ns) := by
 intro k
 induction k with
 | zero => intro _; exact ⟨fun h => by simp [metTo,has] at h,fun ⟨j,hj,_⟩ => absurd hj (Nat.not_lt_zero _)⟩
 | succ k ih =>
  intro hP
  have hP' : PastTo mn sz since past k := fun i hi => hP i (by omega)
  have hk := (hP k (by omega)).2.2.1
  by_cases e : (past.getD k tm0).ns = ns
  ·refine ⟨fun _ => ⟨k,by omega,e⟩,fun _ => ?_⟩
   unfold metTo
   rw [e]
   exact has_put_same (met_isMap past k) (law3.key (pad_of hn.2)) _
  ·have hne : pad ns ≠ pad (past.getD k tm0).ns := fun h => e (pad_inj hk.2 hn.2 (by have := hk.1; omega) (by have := hn.1; omega) h.symm)
   unfold metTo
   rw [has_put_other hne,ih hP']
   constructor
   ·rintro ⟨j,hj,h⟩
    exact ⟨j,by omega,h⟩
   ·rintro ⟨j,hj,h⟩
    by_cases ej : j = k
    ·subst ej; exact absurd h e
    ·exact ⟨j,by omega,h⟩
theorem nextF_bd {mn sz since : Int} {past : List Tm} {k : Nat} (h : PastTo mn sz since past k) (h0 : 0 <= since) : 0 <= nextF past k /\ nextF past k <= since := by
 unfold nextF
 split
 ·omega
 ·have := (h (k - 1) (by omega)).1
  omega
theorem nextF_yes {mn sz since : Int} {past : List Tm} {k : Nat} (h : PastTo mn sz since past k) (h0 : 0 <= since) (h1 : nextF past k <= (past.getD k tm0).g /\ (past.getD k tm0).g <= since - 1) (h2 : SpanOk mn sz (past.getD k tm0).ns) (h3 : ¬ ∃ j,j < k /\ (past.getD j tm0).ns = (past.getD k tm0).ns) : PastTo mn sz since past (k + 1) := fun i hi => by
 by_cases e : i = k
 ·subst e
  have hb := nextF_bd h h0
  refine ⟨by omega,fun hi0 => ?_,h2,fun j hj e => h3 ⟨j,hj,e⟩⟩
  have : nextF past i = (past.getD (i - 1) tm0).g + 1 := if_neg (by omega)
  omega
 ·exact h i (by omega)
theorem nextF_no {mn sz since : Int} {past : List Tm} {k n : Nat} (hk : k < n) (h1 : ¬ ((nextF past k <= (past.getD k tm0).g /\ (past.getD k tm0).g <= since - 1) /\ SpanOk mn sz (past.getD k tm0).ns /\ ¬ ∃ j,j < k /\ (past.getD j tm0).ns = (past.getD k tm0).ns)) : ¬ PastTo mn sz since past n := fun h => by
 obtain ⟨h2,h3,h4,h5⟩ := h k hk
 apply h1
 refine ⟨⟨?_,by omega⟩,h4,fun ⟨j,hj,e⟩ => h5 j hj e⟩
 unfold nextF
 split
 ·exact h2.1
 ·have := h3 (by omega)
  omega
theorem nextF_succ (past : List Tm) (k : Nat) : nextF past (k + 1) = (past.getD k tm0).g + 1 := if_neg (by omega)
theorem map_below {a b : World} {M n : Nat} {D : DataW Unit} (h : a.ownsMap Tryz.prog 114 (plainElem Tryz.prog 3) M n D) (hb : Below a.heap.size a b) : b.ownsMap Tryz.prog 114 (plainElem Tryz.prog 3) M n D := h.kept (below_grownBy hb none) (by simp)
end Go.Proofs.YtcncbjknfcjnmaaGreat.Tp
namespace Go.Proofs.YtcncbjknfcjnmaaGreat.Tp
open Go.ChangeShapes Go.WideShapes Go.ChangeAt Go.RowKit
open Go.Maps
theorem key_cells (W : World) (kb : Nat) (ns : List Int) (h3 : ns.length <= 3) (h : ∀ i,i < 3 -> W.cell? ⟨kb,i,none⟩ = some (.int .i64 0)) (i : Nat) (hi : i < 3) : (W.setCells kb 0 (intCells ns)).cell? ⟨kb,i,none⟩ = some (.int .i64 (ns.getD i 0)) := by
 have hl : (intCells ns).length = ns.length := by simp [intCells]
 by_cases hin : i < ns.length
 ·have := World.cell?_setCells_in kb (intCells ns) 0 W (fun j hj => by rw [Nat.zero_add,h j (by omega)]; rfl) i (by omega)
  rw [Nat.zero_add] at this
  rw [this]
  simp [intCells,hin]
 ·rw [World.cell?_setCells_out kb (intCells ns) 0 W ⟨kb,i,none⟩ (fun _ _ => by right; show 0 + _ <= i; omega),h i hi]
  simp [List.getD_eq_getElem?_getD,List.getElem?_eq_none (Nat.le_of_not_lt hin)]
theorem infoInt1 : (Tryz.prog.info? 3).map (·.size) = some 1 := by kernel_rfl
theorem zeroInt (w : World) : (zeroValue 3).run Tryz.prog w = .ok (.int .i64 0) w := Tryz.zeroValue3 w
set_option maxHeartbeats 4000000 in
set_option maxRecDepth 60000 in
theorem mayPast_any {m : Mp} {s : MV} (hc : CountOk m.size m.mn m.gr) {since : Int} (hsn : 0 <= since /\ since <= 2147483647) (a : Option Addr) (len cap : Nat) (past : List Tm) (w : World) (h : TmsAt w a len cap past) :
  Calls Tryz.prog 76 #[.agg (mapCells m s).toArray,.agg #[.int .i64 since,.slice a len cap]] w fun e w' => BoolPost (PastTo m.mn m.size since past past.length) w e w' := by
 have hl : past.length = len := h.1
 have hmx : len <= maxLen := Nat.le_trans h.2.1 h.2.2.1
 have hmx2 : Hid (len <= maxLen) := hmx
 unfold maxLen at hmx
 have HT : Hid (TmsAt w a len cap past) := h
 have HSP : Hid (∀ W f aq lq cq ns,RowI W aq lq cq ns -> Calls Tryz.prog 100 #[.agg #[.int .i64 m.ep,.int .i64 m.size,.int .i64 m.mn,.int .i64 m.gr,.slice s.aN s.lN s.cN,.slice s.aT s.lT s.cT,.slice s.aR s.lR s.cR],.agg #[.int .i64 f,.slice aq lq cq]] W fun e w' => BoolPost (SpanOk m.mn m.size ns) W e w') := fun W f aq lq cq ns hr => maySpan_any m s f aq lq cq ns W hr
 have HYES : Hid (PastTo m.mn m.size since past len -> PastTo m.mn m.size since past past.length) := fun h => by rw [hl]; exact h
 have HNO : Hid (¬ PastTo m.mn m.size since past len -> ¬ PastTo m.mn m.size since past past.length) := fun h => by rw [hl]; exact h
 have HBD : Hid (∀ k,PastTo m.mn m.size since past k -> 0 <= nextF past k /\ nextF past k <= since) := fun k h => nextF_bd h hsn.1
 have HSY : Hid (∀ k,PastTo m.mn m.size since past k -> (nextF past k <= (past.getD k tm0).g /\ (past.getD k tm0).g <= since - 1) -> SpanOk m.mn m.size (past.getD k tm0).ns -> ¬ (∃ j,j < k /\ (past.getD j tm0).ns = (past.getD k tm0).ns) -> PastTo m.mn m.size since past (k + 1)) := fun k h h1 h2 h3 => nextF_yes h hsn.1 h1 h2 h3
 have HSN : Hid (∀ k,k < len -> ¬ ((nextF past k <= (past.getD k tm0).g /\ (past.getD k tm0).g <= since - 1) /\ SpanOk m.mn m.size (past.getD k tm0).ns /\ ¬ ∃ j,j < k /\ (past.getD j tm0).ns = (past.getD k tm0).ns) -> ¬ PastTo m.mn m.size since past len) := fun k hk h => nextF_no hk h
 have HMH : Hid (∀ k ns,SpanOk m.mn m.size ns -> PastTo m.mn m.size since past k -> (has (metTo past k) (pad ns) = true ↔ ∃ j,j < k /\ (past.getD j tm0).ns = ns)) := fun k ns hn hp => met_has (by have := hc.1.2; omega) hn hp
 have HL3 : Hid (∀ ns,SpanOk m.mn m.size ns -> 1 <= ns.length /\ ns.length <= 3) := fun ns h => by have := h.1; have := hc.1; have := hc.2.1; omega
 have hsn0 : 0 <= since := hsn.1
 have hsn1 : since <= 2147483647 := hsn.2
 rw [map_split]
 obtain ⟨w1,hw1⟩ : ∃ w1,w1 = (w.alloc (.cells #[.int .i64 m.ep,.int .i64 m.size,.int .i64 m.mn,.int .i64 m.gr,.slice s.aN s.lN s.cN,.slice s.aT s.lT s.cT,.slice s.aR s.lR s.cR] 26)).alloc (.cells #[.int .i64 since,.slice a len cap] 53) := ⟨_,rfl⟩
 have hb1 : Below w.heap.size w w1 := by rw [hw1]; exact below2 (below_alloc _ _) (below_alloc _ _)
 have HBX : Hid (Box7 w1 w.heap.size (.int .i64 m.ep) (.int .i64 m.size) (.int .i64 m.mn) (.int .i64 m.gr) (.slice s.aN s.lN s.cN) (.slice s.aT s.lT s.cT) (.slice s.aR s.lR s.cR)) := by
  rw [hw1]
  exact (Box7.new w _ _ _ _ _ _ _ _).below (below_alloc _ _)
 have T0 : Hid (w1.cell? ⟨w.heap.size + 1,0,none⟩ = some (.int .i64 since)) := by unfold Hid; rw [hw1]; simp
 have T1 : Hid (w1.cell? ⟨w.heap.size + 1,1,none⟩ = some (.slice a len cap)) := by unfold Hid; rw [hw1]; simp
 have hlt : w.heap.size + 1 < w1.heap.size := World.block_lt_of_cell? w1 ⟨w.heap.size + 1,0,none⟩ T0.out
 have HMP : Hid ((w1.alloc (.map #[] 0)).ownsMap Tryz.prog 114 (plainElem Tryz.prog 3) w1.heap.size 0 (metTo past 0)) := World.ownsMap_made w1 Tryz.prog 114 (plainElem Tryz.prog 3)
 have hmm := @run_makeMap Tryz.prog
 have t1 := T1.out
 clear h hl hc hsn
 go_enter Tryz.func76,Tryz.ntmps76
 go_upto_region 1 with fail
 rw [<- hw1]
 clear hw1
 go_wp2_with fail
 clear hmm t1
 go_loopw [5,16] (fun nx i wr => ∃ k : Nat,k <= len /\ i = .int .i64 k /\ nx = .int .i64 (nextF past k) /\ Hid (PastTo m.mn m.size since past k) /\ Hid (wr.ownsMap Tryz.prog 114 (plainElem Tryz.prog 3) w1.heap.size k (metTo past k)) /\ Below w1.heap.size w1 wr) (fun _ i _ => len - (intOf i).toNat)
 case atStart => exact ⟨0,Nat.zero_le _,rfl,rfl,(fun i hi => absurd hi (Nat.not_lt_zero _)),HMP,below_alloc _ _⟩
 case round =>
  obtain ⟨k,hk,rfl,rfl,hP,hOM,hbel⟩ := hrel
  have hbw := below2 hb1 hbel
  obtain ⟨hn0,hn1⟩ := HBD.out k hP.out
  obtain ⟨⟨c0,c1,c2,c3,c4,c5,c6⟩,-⟩ := HBX.out.below hbel
  have hlw : w.heap.size < wr.heap.size := (HBX.out.below hbel).lt
  have hlw1 : w.heap.size + 1 < wr.heap.size := Nat.lt_of_lt_of_le hlt hbel.size
  have u0 := (hbel.cell (p := ⟨w.heap.size + 1,0,none⟩) hlt).trans T0.out
  by_cases hltk : k < len
  ·have hk1 : (k : Int) < (len : Int) := by omega
   have hk0 : (0 : Int) <= (k : Int) := by omega
   obtain ⟨b,off,hae,hbs,hcell⟩ := (HT.out.below hbw).some (by omega)
   obtain ⟨e0,aq,lq,cq,e1,hrow⟩ := hcell k hltk
   subst hae
   have hql : (past.getD k tm0).ns.length = lq := hrow.1
   have HY2 := show Hid _ from HSY.out k hP.out
   have HN2 := show Hid _ from HSN.out k hltk
   have HSC' : Hid (nextF past (k + 1) = (past.getD k tm0).g + 1) := nextF_succ past k
   have HMT : Hid (metTo past (k + 1) = (metTo past k).put (pad (past.getD k tm0).ns) (.lit (.int .i64 (past.getD k tm0).g))) := rfl
   have HMK := show Hid _ from HMH.out k (past.getD k tm0).ns
   have HP : Hid (PastTo m.mn m.size since past k) := hP.out
   have HROW : Hid (RowI wr aq lq cq (past.getD k tm0).ns) := hrow
   have HQL : Hid ((past.getD k tm0).ns.length = lq) := hql
   clear hcell hrow hP hql
   generalize (past.getD k tm0).ns = ns at *
   generalize (past.getD k tm0).g = y at *
   generalize nextF past k = nx at *
   have hba := below_alloc wr (.cells #[.int .i64 y,.slice aq lq cq] 55)
   have hlz : wr.heap.size < (wr.alloc (.cells #[.int .i64 y,.slice aq lq cq] 55)).heap.size := by simp
   have q0 : (wr.alloc (.cells #[.int .i64 y,.slice aq lq cq] 55)).cell? ⟨wr.heap.size,0,none⟩ = some (.int .i64 y) := by simp
   have q1 : (wr.alloc (.cells #[.int .i64 y,.slice aq lq cq] 55)).cell? ⟨wr.heap.size,1,none⟩ = some (.slice aq lq cq) := by simp
   by_cases h1 : nx <= y /\ y <= since - 1
   ·have HW1 : Hid (∀ w : World,Calls Tryz.prog 39 #[.int .i64 y,.int .i64 nx,.int .i64 (since - 1)] w fun e w' => e = .returned (.bool true) /\ w' = w) := mwithin_yes h1.1 h1.2
    by_cases h2 : SpanOk m.mn m.size ns
    ·have HS2 : Hid (∀ W,Below wr.heap.size wr W -> Calls Tryz.prog 100 #[.agg #[.int .i64 m.ep,.int .i64 m.size,.int .i64 m.mn,.int .i64 m.gr,.slice s.aN s.lN s.cN,.slice s.aT s.lT s.cT,.slice s.aR s.lR s.cR],.agg #[.int .i64 y,.slice aq lq cq]] W fun e w' => e = .returned (.bool true) /\ Below W.heap.size W w') := fun W hb => bool_is (HSP.out W y aq lq cq ns (HROW.out.below hb)) h2
     have hl3 := HL3.out ns h2
     have hlq1 : 1 <= lq := by have := HQL.out; omega
     have hlq3 : lq <= 3 := by have := HQL.out; omega
     have HMK2 : Hid (has (metTo past k) (pad ns) = true ↔ ∃ j,j < k /\ (past.getD j tm0).ns = ns) := HMK.out h2 HP.out
     have HPO : Hid (Go.keyOf Tryz.prog 114 (.agg #[.int .i64 (ns.getD 0 0),.int .i64 (ns.getD 1 0),.int .i64 (ns.getD 2 0)]) = some (pad ns)) := pad_of h2.2
     have HNS3 : Hid (ns.length <= 3) := hl3.2
     have hy0 : 0 <= y := by omega
     have hy1 : y <= 2147483647 := by omega
     go_upto_region 9 with (first
      | (go_at_call 39; refine (HW1.out _).mono ?_; rintro e w' ⟨rfl,hw'⟩; obtain rfl := hw'.symm)
      | (go_at_call 100; refine (HS2.out _ hba).mono ?_; rintro e w4 ⟨rfl,hb4⟩))
     have hb4r : Below wr.heap.size wr w4 := below2 hba hb4
     have hbk := below_alloc w4 (.cells #[.int .i64 0,.int .i64 0,.int .i64 0] 114)
     obtain ⟨bq,oq,haq,hbq,hcq⟩ := ((HROW.out.below hb4r).below hbk).some (by omega)
     subst haq
     have q1' := (hbk.cell (p := ⟨wr.heap.size,1,none⟩) (Nat.lt_of_lt_of_le hlz hb4.size)).trans ((hb4.cell (p := ⟨wr.heap.size,1,none⟩) hlz).trans q1)
     have q0' := (hbk.cell (p := ⟨wr.heap.size,0,none⟩) (Nat.lt_of_lt_of_le hlz hb4.size)).trans ((hb4.cell (p := ⟨wr.heap.size,0,none⟩) hlz).trans q0)
     have hkz : ∀ i,i < 3 -> (w4.alloc (.cells #[.int .i64 0,.int .i64 0,.int .i64 0] 114)).drew.cell? ⟨w4.heap.size,i,none⟩ = some (.int .i64 0) := fun i hi => by
      have hci : i = 0 ∨ i = 1 ∨ i = 2 := by omega
      rcases hci with rfl | rfl | rfl <;> simp
     have hkf : ∀ i,(w4.alloc (.cells #[.int .i64 0,.int .i64 0,.int .i64 0] 114)).drew.frozen? ⟨w4.heap.size,i,none⟩ = false := fun i => by simp
     have hil : (intCells ns).length = lq := by simp [intCells,HQL.out]
     have hcp : ∀ ty,(Builtin.copy_ #[35,35] ty #[.slice (some ⟨w4.heap.size,0,none⟩) 3 3,.slice (some ⟨bq,oq,none⟩) lq cq]).run Tryz.prog (w4.alloc (.cells #[.int .i64 0,.int .i64 0,.int .i64 0] 114)).drew = .ok (.int .i64 (lq : Int)) ((w4.alloc (.cells #[.int .i64 0,.int .i64 0,.int .i64 0] 114)).drew.setCells w4.heap.size 0 (intCells ns)) := fun ty => by
      have := run_copy_cells (P := Tryz.prog) (w4.alloc (.cells #[.int .i64 0,.int .i64 0,.int .i64 0] 114)).drew 35 35 ty 3 w4.heap.size 0 3 3 ⟨bq,oq,none⟩ lq cq (intCells ns) Tryz.underlying35 infoInt1 (by rw [hil]; exact (Nat.min_eq_left hlq3).symm) (fun j v hj => by
       have hj' : j < ns.length := by have := (List.getElem?_eq_some_iff.1 hj).1; rw [hil] at this; have := HQL.out; omega
       rw [addr_add]
       have h5 := hcq j (by have := HQL.out; omega)
       rw [show (intCells ns)[j]? = some (.int .i64 (ns.getD j 0)) by simp [intCells,hj']] at hj
       exact h5.trans hj) (fun j hj => by rw [Nat.zero_add,hkz j (by omega)]; rfl) (fun j hj => by rw [Nat.zero_add]; exact hkf j) (fun v hv => by
       obtain ⟨x,_,rfl⟩ := List.mem_map.1 hv
       rfl)
      rw [hil] at this
      exact this
     have K0 := key_cells _ w4.heap.size ns HNS3.out hkz 0 (by decide)
     have K1 := key_cells _ w4.heap.size ns HNS3.out hkz 1 (by decide)
     have K2 := key_cells _ w4.heap.size ns HNS3.out hkz 2 (by decide)
     have hne4 : wr.heap.size ≠ w4.heap.size := by have := hb4.size; omega
     have hbC : Below w4.heap.size w4 ((w4.alloc (.cells #[.int .i64 0,.int .i64 0,.int .i64 0] 114)).drew.setCells w4.heap.size 0 (intCells ns)) := below_setCells (Nat.le_refl _) _ _ _ (below2 hbk (below_drew _))
     have r0 := (hbC.cell (p := ⟨wr.heap.size,0,none⟩) (Nat.lt_of_lt_of_le hlz hb4.size)).trans ((hb4.cell (p := ⟨wr.heap.size,0,none⟩) hlz).trans q0)
     have hOC := map_below (map_below hOM.out hb4r) hbC
     have HOC : Hid (((w4.alloc (.cells #[.int .i64 0,.int .i64 0,.int .i64 0] 114)).drew.setCells w4.heap.size 0 (intCells ns)).ownsMap Tryz.prog 114 (plainElem Tryz.prog 3) w1.heap.size k (metTo past k)) := hOC
     have hbwC : Below w1.heap.size w1 ((w4.alloc (.cells #[.int .i64 0,.int .i64 0,.int .i64 0] 114)).drew.setCells w4.heap.size 0 (intCells ns)) := below2 hbel (below2 hb4r hbC)
     obtain ⟨vv,ps,hlk,-⟩ := hOC.look_ok law3 Tryz.underlying112 (zeroInt _) (plainElem_int Tryz.underlying3 (wf_in (by omega))) HPO.out
     have hMl := hOM.out.lt
     clear hkz hkf hcq hOM
     generalize ns.getD 0 0 = g0 at *
     generalize ns.getD 1 0 = g1 at *
     generalize ns.getD 2 0 = g2 at *
     go_region
     all_goals
      generalize hwC : (w4.alloc (.cells #[.int .i64 0,.int .i64 0,.int .i64 0] 114)).drew.setCells w4.heap.size 0 (intCells ns) = wC at *
      have hlC := hOC.lt
      cases hq : has (metTo past k) (pad ns) with
      | true =>
       rw [hq] at hlk
       have HBAD : Hid (¬ PastTo m.mn m.size since past past.length) := HNO.out (HN2.out fun h => h.2.2 (HMK2.out.1 hq))
       clear hwC hcp HY2 HN2 h1 h2 hq
       go_wp2_with fail
       go_ret
       exact bool_no (below2 hb1 hbwC) HBAD.out
      | false =>
       rw [hq] at hlk
       have HP3 : Hid (PastTo m.mn m.size since past (k + 1)) := HY2.out h1 h2 (fun h => by have := HMK2.out.2 h; rw [hq] at this; exact absurd this (by decide))
       have hsz1 : w1.heap.size <= w4.heap.size := Nat.le_trans hbel.size hb4r.size
       have hne1 : wr.heap.size ≠ w1.heap.size := by omega
       clear hwC hcp HY2 HN2 h1 h2 hq
       go_wp2_with (at_mapUpdate; refine wpList_mapUpdate_own _ rfl _ _ _ 112 rfl 114 3 law3 Tryz.underlying112 _ w1.heap.size k (metTo past k) rfl HOC.out (by have := hmx2.out; omega) _ _ (pad ns) rfl rfl HPO.out (.lit (.int .i64 y)) [] (plainElem_int Tryz.underlying3 (wf_in (by omega))) ?_)
       intro w7 hown7 hg7
       have HO7 : Hid (w7.ownsMap Tryz.prog 114 (plainElem Tryz.prog 3) w1.heap.size (k + 1) (metTo past (k + 1))) := by unfold Hid; rw [HMT.out]; exact hown7
       have hb7 : Below w1.heap.size w1 w7 := hbwC.grown hg7 hbwC.size (fun j hj => by injection hj with hj; omega)
       have z0 := (grownBy_cell hg7 (p := ⟨wr.heap.size,0,none⟩) (World.block_lt_of_cell? _ ⟨wr.heap.size,0,none⟩ r0) (by simpa using hne1)).trans r0
       clear hown7 hg7 HOC
       go_wp2_with fail
       exact ⟨⟨k + 1,by omega,by go_num,by rw [HSC'.out],HP3,HO7,hb7⟩,by simp [intOf]; omega⟩
    ·have HS2 : Hid (∀ W,Below wr.heap.size wr W -> Calls Tryz.prog 100 #[.agg #[.int .i64 m.ep,.int .i64 m.size,.int .i64 m.mn,.int .i64 m.gr,.slice s.aN s.lN s.cN,.slice s.aT s.lT s.cT,.slice s.aR s.lR s.cR],.agg #[.int .i64 y,.slice aq lq cq]] W fun e w' => e = .returned (.bool false) /\ Below W.heap.size W w') := fun W hb => bool_isnt (HSP.out W y aq lq cq ns (HROW.out.below hb)) h2
     have HBAD : Hid (¬ PastTo m.mn m.size since past past.length) := HNO.out (HN2.out fun h => h2 h.2.1)
     clear h1 h2 HY2 HN2
     go_wp2_with (first
      | (go_at_call 39; refine (HW1.out _).mono ?_; rintro e w' ⟨rfl,hw'⟩; obtain rfl := hw'.symm)
      | (go_at_call 100; refine (HS2.out _ hba).mono ?_; rintro e w4 ⟨rfl,hb4⟩))
     go_ret
     exact bool_no (below2 hbw (below2 hba hb4)) HBAD.out
   ·have HW1 : Hid (∀ w : World,Calls Tryz.prog 39 #[.int .i64 y,.int .i64 nx,.int .i64 (since - 1)] w fun e w' => e = .returned (.bool false) /\ w' = w) := mwithin_no h1
    have HBAD : Hid (¬ PastTo m.mn m.size since past past.length) := HNO.out (HN2.out fun h => h1 h.1)
    clear h1 HY2 HN2
    go_wp2_with (go_at_call 39; refine (HW1.out _).mono ?_; rintro e w' ⟨rfl,hw'⟩; obtain rfl := hw'.symm)
    go_ret
    exact bool_no (below2 hbw hba) HBAD.out
  ·obtain rfl : k = len := by omega
   have HOK : Hid (PastTo m.mn m.size since past past.length) := HYES.out hP.out
   clear hP
   go_wp2_with fail
   go_ret
   exact bool_yes hbw HOK.out
end Go.Proofs.YtcncbjknfcjnmaaGreat.Tp
namespace Go.Proofs.YtcncbjknfcjnmaaGreat.Tp
open Go.ChangeShapes Go.WideShapes Go.ChangeAt Go.RowKit
def TrailsTo (m : Mp) (k : Nat) : Prop := ∀ i,i < k -> (0 <= (m.trs.getD i tr0).since /\ (m.trs.getD i tr0).since <= m.ep) /\ PastTo m.mn m.size (m.trs.getD i tr0).since (m.trs.getD i tr0).past (m.trs.getD i tr0).past.length
def TrailsOk (m : Mp) : Prop := (m.trs.length : Int) = m.gr /\ TrailsTo m m.trs.length
theorem trails_next {m : Mp} {k : Nat} (h : TrailsTo m k) (h1 : (0 <= (m.trs.getD k tr0).since /\ (m.trs.getD k tr0).since <= m.ep) /\ PastTo m.mn m.size (m.trs.getD k tr0).since (m.trs.getD k tr0).past (m.trs.getD k tr0).past.length) : TrailsTo m (k + 1) := fun i hi => by
 by_cases e : i = k
 ·rw [e]; exact h1
 ·exact h i (by omega)
set_option maxHeartbeats 2000000 in
set_option maxRecDepth 60000 in
theorem mayTrail_any {m : Mp} {s : MV} (hc : CountOk m.size m.mn m.gr) (he : 0 <= m.ep /\ m.ep <= 2147483647) (w : World) (h : MapAt w m s) : Calls Tryz.prog 42 #[.agg (mapCells m s).toArray] w fun e w' => BoolPost (TrailsOk m) w e w' := by
 have HT : Hid (TrsAt w s.aR s.lR s.cR m.trs) := h.trs
 have hl : m.trs.length = s.lR := h.trs.1
 have hmx : s.lR <= maxLen := Nat.le_trans h.trs.2.1 h.trs.2.2.1
 unfold maxLen at hmx
 have HPA : Hid (∀ W sn b n c past,0 <= sn /\ sn <= m.ep -> TmsAt W b n c past -> Calls Tryz.prog 76 #[.agg #[.int .i64 m.ep,.int .i64 m.size,.int .i64 m.mn,.int .i64 m.gr,.slice s.aN s.lN s.cN,.slice s.aT s.lT s.cT,.slice s.aR s.lR s.cR],.agg #[.int .i64 sn,.slice b n c]] W fun e w' => BoolPost (PastTo m.mn m.size sn past past.length) W e w') := fun W sn b n c past h1 h2 => mayPast_any hc (by omega) b n c past W h2
 rw [map_split]
 obtain ⟨aN,lN,cN,aT,lT,cT,aR,lR,cR⟩ := s
 simp only at *
 have hb1 := below_alloc w (.cells #[.int .i64 m.ep,.int .i64 m.size,.int .i64 m.mn,.int .i64 m.gr,.slice aN lN cN,.slice aT lT cT,.slice aR lR cR] 26)
 have HBX : Hid (Box7 (w.alloc (.cells #[.int .i64 m.ep,.int .i64 m.size,.int .i64 m.mn,.int .i64 m.gr,.slice aN lN cN,.slice aT lT cT,.slice aR lR cR] 26)) w.heap.size (.int .i64 m.ep) (.int .i64 m.size) (.int .i64 m.mn) (.int .i64 m.gr) (.slice aN lN cN) (.slice aT lT cT) (.slice aR lR cR)) := Box7.new w _ _ _ _ _ _ _ _
 by_cases hn : (lR : Int) = m.gr
 ·rw [<- hn] at HPA HBX hb1 ⊢
  have HYES : Hid (TrailsTo m lR -> TrailsOk m) := fun h => ⟨by rw [hl]; exact hn,by rw [hl]; exact h⟩
  have HNO : Hid (¬ TrailsTo m lR -> ¬ TrailsOk m) := fun h h' => h (by have := h'.2; rw [hl] at this; exact this)
  clear h hl hn hc he
  go_enter Tryz.func42,Tryz.ntmps42
  go_wp2_with fail
  generalize w.alloc (.cells #[.int .i64 m.ep,.int .i64 m.size,.int .i64 m.mn,.int .i64 (lR : Int),.slice aN lN cN,.slice aT lT cT,.slice aR lR cR] 26) = w1 at *
  go_loopw [14] (fun i wr => ∃ k : Nat,k <= lR /\ i = .int .i64 k /\ Hid (TrailsTo m k) /\ Below w1.heap.size w1 wr) (fun i _ => lR - (intOf i).toNat)
  case atStart => exact ⟨0,Nat.zero_le _,rfl,(fun i hi => absurd hi (Nat.not_lt_zero _)),Below.refl _ _⟩
  case round =>
   obtain ⟨k,hk,rfl,hT,hbel⟩ := hrel
   have hbw := below2 hb1 hbel
   obtain ⟨⟨c0,c1,c2,c3,c4,c5,c6⟩,-⟩ := HBX.out.below hbel
   have hlw : w.heap.size < wr.heap.size := (HBX.out.below hbel).lt
   by_cases hlt : k < lR
   ·have hk1 : (k : Int) < (lR : Int) := by omega
    have hk0 : (0 : Int) <= (k : Int) := by omega
    obtain ⟨b,off,hae,hbs,hcell⟩ := (HT.out.below hbw).some (by omega)
    obtain ⟨e0,aq,lq,cq,e1,hpast⟩ := hcell k hlt
    have HP2 : Hid (∀ W,0 <= (m.trs.getD k tr0).since /\ (m.trs.getD k tr0).since <= m.ep -> Below wr.heap.size wr W -> Calls Tryz.prog 76 #[.agg #[.int .i64 m.ep,.int .i64 m.size,.int .i64 m.mn,.int .i64 (lR : Int),.slice aN lN cN,.slice aT lT cT,.slice aR lR cR],.agg #[.int .i64 (m.trs.getD k tr0).since,.slice aq lq cq]] W fun e w' => BoolPost (PastTo m.mn m.size (m.trs.getD k tr0).since (m.trs.getD k tr0).past (m.trs.getD k tr0).past.length) W e w') := fun W h1 hb => HPA.out W _ aq lq cq _ h1 (hpast.below hb)
    have HNX : Hid ((0 <= (m.trs.getD k tr0).since /\ (m.trs.getD k tr0).since <= m.ep) /\ PastTo m.mn m.size (m.trs.getD k tr0).since (m.trs.getD k tr0).past (m.trs.getD k tr0).past.length -> TrailsTo m (k + 1)) := fun h => trails_next hT.out h
    have HBD : Hid (¬ ((0 <= (m.trs.getD k tr0).since /\ (m.trs.getD k tr0).since <= m.ep) /\ PastTo m.mn m.size (m.trs.getD k tr0).since (m.trs.getD k tr0).past (m.trs.getD k tr0).past.length) -> ¬ TrailsTo m lR) := fun h h' => h (h' k hlt)
    clear hcell hpast hT
    generalize PastTo m.mn m.size (m.trs.getD k tr0).since (m.trs.getD k tr0).past (m.trs.getD k tr0).past.length = PP at *
    generalize (m.trs.getD k tr0).since = sn at *
    subst hae
    have hba := below_alloc wr (.cells #[.int .i64 sn,.slice aq lq cq] 53)
    by_cases h1 : 0 <= sn /\ sn <= m.ep
    ·have HW1 : Hid (∀ w : World,Calls Tryz.prog 39 #[.int .i64 sn,.int .i64 0,.int .i64 m.ep] w fun e w' => e = .returned (.bool true) /\ w' = w) := mwithin_yes h1.1 h1.2
     by_cases h2 : PP
     ·have HS2 := show Hid _ from fun W (hb : Below wr.heap.size wr W) => bool_is (HP2.out W h1 hb) h2
      have HT2 : Hid (TrailsTo m (k + 1)) := HNX.out ⟨h1,h2⟩
      clear h1 h2 HNX HBD HP2
      go_wp2_with (first
       | (go_at_call 39; refine (HW1.out _).mono ?_; rintro e w' ⟨rfl,hw'⟩; obtain rfl := hw'.symm)
       | (go_at_call 76; refine (HS2.out _ hba).mono ?_; rintro e w4 ⟨rfl,hb4⟩))
      exact ⟨⟨k + 1,by omega,by go_num,HT2,below2 hbel (below2 hba hb4)⟩,by simp [intOf]; omega⟩
     ·have HS2 := show Hid _ from fun W (hb : Below wr.heap.size wr W) => bool_isnt (HP2.out W h1 hb) h2
      have HB2 : Hid (¬ TrailsOk m) := HNO.out (HBD.out fun h => h2 h.2)
      clear h1 h2 HNX HBD HP2
      go_wp2_with (first
       | (go_at_call 39; refine (HW1.out _).mono ?_; rintro e w' ⟨rfl,hw'⟩; obtain rfl := hw'.symm)
       | (go_at_call 76; refine (HS2.out _ hba).mono ?_; rintro e w4 ⟨rfl,hb4⟩))
      go_ret
      exact bool_no (below2 hbw (below2 hba hb4)) HB2.out
    ·have HW1 : Hid (∀ w : World,Calls Tryz.prog 39 #[.int .i64 sn,.int .i64 0,.int .i64 m.ep] w fun e w' => e = .returned (.bool false) /\ w' = w) := mwithin_no h1
     have HB2 : Hid (¬ TrailsOk m) := HNO.out (HBD.out fun h => h1 h.1)
     clear h1 HNX HBD HP2
     go_wp2_with (go_at_call 39; refine (HW1.out _).mono ?_; rintro e w' ⟨rfl,hw'⟩; obtain rfl := hw'.symm)
     go_ret
     exact bool_no (below2 hbw hba) HB2.out
   ·obtain rfl : k = lR := by omega
    have HOK : Hid (TrailsOk m) := HYES.out hT.out
    clear hT
    go_wp2_with fail
    go_ret
    exact bool_yes hbw HOK.out
 ·have hnd : ((lR : Int) == m.gr) = false := by simpa using hn
  have HB2 : Hid (¬ TrailsOk m) := fun h => hn (by have := h.1; rw [hl] at this; exact this)
  clear h hl hn hc he
  go_enter Tryz.func42,Tryz.ntmps42
  go_wp2_with fail
  go_ret
  exact bool_no hb1 HB2.out
structure MayM (m : Mp) : Prop where
 ep : 0 <= m.ep /\ m.ep <= 2147483647
 cnt : CountOk m.size m.mn m.gr
 nds : MayN m.nds
 tms : TempsTo m m.tms.length
 trs : TrailsOk m
set_option maxHeartbeats 2000000 in
set_option maxRecDepth 60000 in
theorem mcheck_any {m : Mp} {s : MV} (w : World) (h : MapAt w m s) : Calls Tryz.prog 17 #[.agg (mapCells m s).toArray] w fun e w' => ErrPost (MayM m) w e w' := by
 have HE : Hid (∀ w : World,Calls Tryz.prog 39 #[.int .i64 m.ep,.int .i64 0,.int .i64 2147483647] w fun e w' => e = .returned (.bool (inB m.ep 0 2147483647)) /\ w' = w) := mwithin_any m.ep 0 2147483647
 have HC : Hid (∀ w : World,Calls Tryz.prog 30 #[.int .i64 m.size,.int .i64 m.mn,.int .i64 m.gr] w fun e w' => e = .returned (.bool (countB m.size m.mn m.gr)) /\ w' = w) := mayCount_any _ _ _
 have HN : Hid (∀ W,Below w.heap.size w W -> Calls Tryz.prog 40 #[.slice s.aN s.lN s.cN] W fun e w' => ErrPost (MayN m.nds) W e w') := fun W hb => check_any s.aN s.lN s.cN m.nds W (h.nds.below hb)
 have HS : Hid (CountOk m.size m.mn m.gr -> MayN m.nds -> ∀ W,Below w.heap.size w W -> Calls Tryz.prog 41 #[.agg #[.int .i64 m.ep,.int .i64 m.size,.int .i64 m.mn,.int .i64 m.gr,.slice s.aN s.lN s.cN,.slice s.aT s.lT s.cT,.slice s.aR s.lR s.cR]] W fun e w' => BoolPost (TempsTo m m.tms.length) W e w') := fun hc hM W hb => mayStand_any hc.2.2 hM W (h.below hb)
 have HT : Hid (CountOk m.size m.mn m.gr -> (0 <= m.ep /\ m.ep <= 2147483647) -> ∀ W,Below w.heap.size w W -> Calls Tryz.prog 42 #[.agg #[.int .i64 m.ep,.int .i64 m.size,.int .i64 m.mn,.int .i64 m.gr,.slice s.aN s.lN s.cN,.slice s.aT s.lT s.cT,.slice s.aR s.lR s.cR]] W fun e w' => BoolPost (TrailsOk m) W e w') := fun hc he W hb => mayTrail_any hc he W (h.below hb)
 rw [map_split]
 have hb1 := below_alloc w (.cells #[.int .i64 m.ep,.int .i64 m.size,.int .i64 m.mn,.int .i64 m.gr,.slice s.aN s.lN s.cN,.slice s.aT s.lT s.cT,.slice s.aR s.lR s.cR] 26)
 have HBX : Hid (Box7 (w.alloc (.cells #[.int .i64 m.ep,.int .i64 m.size,.int .i64 m.mn,.int .i64 m.gr,.slice s.aN s.lN s.cN,.slice s.aT s.lT s.cT,.slice s.aR s.lR s.cR] 26)) w.heap.size (.int .i64 m.ep) (.int .i64 m.size) (.int .i64 m.mn) (.int .i64 m.gr) (.slice s.aN s.lN s.cN) (.slice s.aT s.lT s.cT) (.slice s.aR s.lR s.cR)) := Box7.new w _ _ _ _ _ _ _ _
 clear h
 by_cases h0 : 0 <= m.ep /\ m.ep <= 2147483647
 ·have HE1 : Hid (∀ w : World,Calls Tryz.prog 39 #[.int .i64 m.ep,.int .i64 0,.int .i64 2147483647] w fun e w' => e = .returned (.bool true) /\ w' = w) := mwithin_yes h0.1 h0.2
  by_cases h1 : CountOk m.size m.mn m.gr
  ·have HC1 : Hid (∀ w : World,Calls Tryz.prog 30 #[.int .i64 m.size,.int .i64 m.mn,.int .i64 m.gr] w fun e w' => e = .returned (.bool true) /\ w' = w) := fun w => by have := HC.out w; rw [(countB_iff _ _ _).2 h1] at this; exact this
   by_cases h2 : MayN m.nds
   ·have HN1 : Hid (∀ W,Below w.heap.size w W -> Calls Tryz.prog 40 #[.slice s.aN s.lN s.cN] W fun e w' => e = .returned (.int .i64 0) /\ Below W.heap.size W w') := fun W hb => (HN.out W hb).mono fun e w' ⟨hb,hh⟩ => by
      rcases hh with ⟨he,hm⟩ | ⟨he,hm⟩
      ·exact ⟨he,hb⟩
      ·exact absurd h2 hm
    by_cases h3 : TempsTo m m.tms.length
    ·have HS1 := show Hid _ from fun W (hb : Below w.heap.size w W) => bool_is (HS.out h1 h2 W hb) h3
     by_cases h4 : TrailsOk m
     ·have HT1 := show Hid _ from fun W (hb : Below w.heap.size w W) => bool_is (HT.out h1 h0 W hb) h4
      have HFIN : Hid (MayM m) := ⟨h0,h1,h2,h3,h4⟩
      clear h0 h1 h2 h3 h4 HE HC HN HS HT
      go_enter Tryz.func17,Tryz.ntmps17
      go_wp2_with (first
       | (go_at_call 39; refine (HE1.out _).mono ?_; rintro e w' ⟨rfl,hw'⟩; obtain rfl := hw'.symm)
       | (go_at_call 30; refine (HC1.out _).mono ?_; rintro e w' ⟨rfl,hw'⟩; obtain rfl := hw'.symm)
       | (go_at_call 40; refine (HN1.out _ hb1).mono ?_; rintro e w2 ⟨rfl,hb2⟩; obtain ⟨⟨c0,c1,c2,c3,c4,c5,c6⟩,-⟩ := HBX.out.below hb2)
       | (go_at_call 41; refine (HS1.out _ (below2 hb1 hb2)).mono ?_; rintro e w3 ⟨rfl,hb3⟩; obtain ⟨⟨d0,d1,d2,d3,d4,d5,d6⟩,-⟩ := (HBX.out.below hb2).below hb3)
       | (go_at_call 42; refine (HT1.out _ (below2 hb1 (below2 hb2 hb3))).mono ?_; rintro e w4 ⟨rfl,hb4⟩))
      go_ret
      exact ⟨below2 hb1 (below2 hb2 (below2 hb3 hb4)),.inl ⟨rfl,HFIN.out⟩⟩
     ·have HT1 := show Hid _ from fun W (hb : Below w.heap.size w W) => bool_isnt (HT.out h1 h0 W hb) h4
      have HFIN : Hid (¬ MayM m) := fun h => h4 h.trs
      clear h0 h1 h2 h3 h4 HE HC HN HS HT
      go_enter Tryz.func17,Tryz.ntmps17
      go_wp2_with (first
       | (go_at_call 39; refine (HE1.out _).mono ?_; rintro e w' ⟨rfl,hw'⟩; obtain rfl := hw'.symm)
       | (go_at_call 30; refine (HC1.out _).mono ?_; rintro e w' ⟨rfl,hw'⟩; obtain rfl := hw'.symm)
       | (go_at_call 40; refine (HN1.out _ hb1).mono ?_; rintro e w2 ⟨rfl,hb2⟩; obtain ⟨⟨c0,c1,c2,c3,c4,c5,c6⟩,-⟩ := HBX.out.below hb2)
       | (go_at_call 41; refine (HS1.out _ (below2 hb1 hb2)).mono ?_; rintro e w3 ⟨rfl,hb3⟩; obtain ⟨⟨d0,d1,d2,d3,d4,d5,d6⟩,-⟩ := (HBX.out.below hb2).below hb3)
       | (go_at_call 42; refine (HT1.out _ (below2 hb1 (below2 hb2 hb3))).mono ?_; rintro e w4 ⟨rfl,hb4⟩))
      go_ret
      exact ⟨below2 hb1 (below2 hb2 (below2 hb3 hb4)),.inr ⟨rfl,HFIN.out⟩⟩
    ·have HS1 := show Hid _ from fun W (hb : Below w.heap.size w W) => bool_isnt (HS.out h1 h2 W hb) h3
     have HFIN : Hid (¬ MayM m) := fun h => h3 h.tms
     clear h0 h1 h2 h3 HE HC HN HS HT
     go_enter Tryz.func17,Tryz.ntmps17
     go_wp2_with (first
      | (go_at_call 39; refine (HE1.out _).mono ?_; rintro e w' ⟨rfl,hw'⟩; obtain rfl := hw'.symm)
      | (go_at_call 30; refine (HC1.out _).mono ?_; rintro e w' ⟨rfl,hw'⟩; obtain rfl := hw'.symm)
      | (go_at_call 40; refine (HN1.out _ hb1).mono ?_; rintro e w2 ⟨rfl,hb2⟩; obtain ⟨⟨c0,c1,c2,c3,c4,c5,c6⟩,-⟩ := HBX.out.below hb2)
      | (go_at_call 41; refine (HS1.out _ (below2 hb1 hb2)).mono ?_; rintro e w3 ⟨rfl,hb3⟩; obtain ⟨⟨d0,d1,d2,d3,d4,d5,d6⟩,-⟩ := (HBX.out.below hb2).below hb3))
     go_ret
     exact ⟨below2 hb1 (below2 hb2 hb3),.inr ⟨rfl,HFIN.out⟩⟩
   ·have HN1 : Hid (∀ W,Below w.heap.size w W -> Calls Tryz.prog 40 #[.slice s.aN s.lN s.cN] W fun e w' => e = .returned (.int .i64 1) /\ Below W.heap.size W w') := fun W hb => (HN.out W hb).mono fun e w' ⟨hb,hh⟩ => by
      rcases hh with ⟨he,hm⟩ | ⟨he,hm⟩
      ·exact absurd hm h2
      ·exact ⟨he,hb⟩
    have HFIN : Hid (¬ MayM m) := fun h => h2 h.nds
    clear h0 h1 h2 HE HC HN HS HT
    go_enter Tryz.func17,Tryz.ntmps17
    go_wp2_with (first
     | (go_at_call 39; refine (HE1.out _).mono ?_; rintro e w' ⟨rfl,hw'⟩; obtain rfl := hw'.symm)
     | (go_at_call 30; refine (HC1.out _).mono ?_; rintro e w' ⟨rfl,hw'⟩; obtain rfl := hw'.symm)
     | (go_at_call 40; refine (HN1.out _ hb1).mono ?_; rintro e w2 ⟨rfl,hb2⟩; obtain ⟨⟨c0,c1,c2,c3,c4,c5,c6⟩,-⟩ := HBX.out.below hb2))
    go_ret
    exact ⟨below2 hb1 hb2,.inr ⟨rfl,HFIN.out⟩⟩
  ·have HC1 : Hid (∀ w : World,Calls Tryz.prog 30 #[.int .i64 m.size,.int .i64 m.mn,.int .i64 m.gr] w fun e w' => e = .returned (.bool false) /\ w' = w) := fun w => by have := HC.out w; rw [countB_no h1] at this; exact this
   have HFIN : Hid (¬ MayM m) := fun h => h1 h.cnt
   clear h0 h1 HE HC HN HS HT
   go_enter Tryz.func17,Tryz.ntmps17
   go_wp2_with (first
    | (go_at_call 39; refine (HE1.out _).mono ?_; rintro e w' ⟨rfl,hw'⟩; obtain rfl := hw'.symm)
    | (go_at_call 30; refine (HC1.out _).mono ?_; rintro e w' ⟨rfl,hw'⟩; obtain rfl := hw'.symm))
   go_ret
   exact ⟨hb1,.inr ⟨rfl,HFIN.out⟩⟩
 ·have HE1 : Hid (∀ w : World,Calls Tryz.prog 39 #[.int .i64 m.ep,.int .i64 0,.int .i64 2147483647] w fun e w' => e = .returned (.bool false) /\ w' = w) := mwithin_no h0
  have HFIN : Hid (¬ MayM m) := fun h => h0 h.ep
  clear h0 HE HC HN HS HT
  go_enter Tryz.func17,Tryz.ntmps17
  go_wp2_with (first
   | (go_at_call 39; refine (HE1.out _).mono ?_; rintro e w' ⟨rfl,hw'⟩; obtain rfl := hw'.symm))
  go_ret
  exact ⟨hb1,.inr ⟨rfl,HFIN.out⟩⟩
end Go.Proofs.YtcncbjknfcjnmaaGreat.Tp
