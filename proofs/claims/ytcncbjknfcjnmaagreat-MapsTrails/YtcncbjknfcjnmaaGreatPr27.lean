/-
  clone of whatever map: all lists are one's own.
-/
import Derived.Test.YtcncbjknfcjnmaaGreatPr26
namespace Go.Proofs.YtcncbjknfcjnmaaGreat.Tp
open Go.ChangeShapes Go.WideShapes Go.ChangeAt Go.RowKit
structure OwnM (w : World) (B : Nat) (m : Mp) (s : MV) : Prop where
 nds : w.ownsRow B 72 6 (.slice s.aN s.lN s.cN) s.lN (ndsCells m.nds)
 ndl : m.nds.length = s.lN
 tms : TmRow B 59 m.tms (.slice s.aT s.lT s.cT) w
 tml : m.tms.length = s.lT
 trs : TrRow B m.trs (.slice s.aR s.lR s.cR) w
 trl : m.trs.length = s.lR
structure ClA (w : World) (ep sz mn gr : Int) (v4 v5 v6 : Value) (lN : Nat) (nds : List Nd) (wr : World) : Prop where
 box : Box7 wr w.heap.size (.int .i64 ep) (.int .i64 sz) (.int .i64 mn) (.int .i64 gr) v4 v5 v6
 res : Box7 wr (w.heap.size + 1) (.int .i64 0) (.int .i64 0) (.int .i64 0) (.int .i64 0) (.slice none 0 0) (.slice none 0 0) (.slice none 0 0)
 nds : wr.ownsRow (w.heap.size + 2) 72 6 v4 lN (ndsCells nds)
 below : Below w.heap.size w wr
theorem ClA.more {w : World} {ep sz mn gr : Int} {v4 v5 v6 : Value} {lN : Nat} {nds : List Nd} {wr w' : World} (h : ClA w ep sz mn gr v4 v5 v6 lN nds wr) (hb : Below wr.heap.size wr w') : ClA w ep sz mn gr v4 v5 v6 lN nds w' := ⟨h.box.below hb,h.res.below hb,own_below h.nds hb,below2 h.below hb⟩
theorem ClA.else {w : World} {ep sz mn gr : Int} {v4 v5 v6 : Value} {lN : Nat} {nds : List Nd} {wr : World} (h : ClA w ep sz mn gr v4 v5 v6 lN nds wr) {b : Nat} {cb : Array Value} {tb : TypeId} {fz : Nat × Nat} (hb : wr.heap[b]? = some (.cells cb tb fz)) (hB : w.heap.size + 2 <= b) (ht : tb ≠ 72) (i : Nat) (v : Value) : ClA w ep sz mn gr v4 v5 v6 lN nds (wr.setCell ⟨b,i,none⟩ v) :=
 ⟨h.box.else (set_grownBy _ _ _ _) (by omega),h.res.else (set_grownBy _ _ _ _) (by omega),own_type h.nds (set_grownBy _ _ _ _) hb ht,h.below.setCell (p := ⟨b,i,none⟩) (by show w.heap.size <= b; omega) _⟩
theorem own_box {w wr : World} {i : Nat} {u : Value} {E : TypeId} {s n : Nat} {v : Value} {xs : List Value} (h : wr.ownsRow (w.heap.size + 2) E s v n xs) : (wr.setCell ⟨w.heap.size,i,none⟩ u).ownsRow (w.heap.size + 2) E s v n xs := h.kept (set_grownBy _ _ _ _) (by
 cases hv : v.ownBlock with
 | none => exact .inl rfl
 | some k => right; have := (h.lt k hv).1; simp; omega)
theorem ClA.put5 {w : World} {ep sz mn gr : Int} {v4 v5 v6 : Value} {lN : Nat} {nds : List Nd} {wr : World} (h : ClA w ep sz mn gr v4 v5 v6 lN nds wr) (v : Value) : ClA w ep sz mn gr v4 v v6 lN nds (wr.setCell ⟨w.heap.size,5,none⟩ v) :=
 ⟨h.box.put5 v,h.res.else (set_grownBy _ _ _ _) (by omega),own_box h.nds,h.below.setCell (p := ⟨w.heap.size,5,none⟩) (Nat.le_refl _) _⟩
theorem ClA.put6 {w : World} {ep sz mn gr : Int} {v4 v5 v6 : Value} {lN : Nat} {nds : List Nd} {wr : World} (h : ClA w ep sz mn gr v4 v5 v6 lN nds wr) (v : Value) : ClA w ep sz mn gr v4 v5 v lN nds (wr.setCell ⟨w.heap.size,6,none⟩ v) :=
 ⟨h.box.put6 v,h.res.else (set_grownBy _ _ _ _) (by omega),own_box h.nds,h.below.setCell (p := ⟨w.heap.size,6,none⟩) (Nat.le_refl _) _⟩
theorem TmPart.box {V : Nat -> Value} {w wr : World} {E : TypeId} {ts : List Tm} {k i : Nat} {v u : Value} (h : TmPart V (w.heap.size + 2) E ts k v wr) : TmPart V (w.heap.size + 2) E ts k v (wr.setCell ⟨w.heap.size,i,none⟩ u) := by
 obtain ⟨L,h1,h2,h3⟩ := h
 exact ⟨L,h1,own_box h2,fun i hi => ⟨(h3 i hi).1,fun hk => own_box ((h3 i hi).2.1 hk),(h3 i hi).2.2⟩⟩
theorem own_block {w : World} {B s n cap g : Nat} {E : TypeId} {xs : List Value} (h : w.ownsRow B E s (.slice (some ⟨g,0,none⟩) n cap) n xs) : (∃ cur,w.heap[g]? = some (.cells cur E (0,0))) /\ B <= g /\ g < w.heap.size := by
 have hl := h.lt g rfl
 rcases h.2 with ⟨e,_⟩ | ⟨g',cap',cur,e,_,hh,_⟩
 ·cases e
 ·injection e with e1 e2 e3
  injection e1 with e1
  injection e1 with e1
  subst e1
  exact ⟨⟨cur,hh⟩,hl⟩
theorem TmPart.own {V : Nat -> Value} {B : Nat} {E : TypeId} {ts : List Tm} {k : Nat} {v : Value} {w : World} (h : TmPart V B E ts k v w) : ∃ xs,w.ownsRow B E 2 v ts.length xs := by
 obtain ⟨L,_,h2,_⟩ := h
 exact ⟨_,h2⟩
def TrLow (V : Nat -> Value) (B : Nat) (ts : List Tr) (k : Nat) (v : Value) (N : Nat) (w : World) : Prop :=
 ∃ L : List (Int × Value),L.length = ts.length /\ w.ownsRow B 53 2 v ts.length (pairCells L) /\ (∀ i,i < ts.length -> (L.getD i nilP).1 = (ts.getD i tr0).since /\ (i < k -> TmRow B 55 (ts.getD i tr0).past (L.getD i nilP).2 w) /\ (k <= i -> (L.getD i nilP).2 = V i)) /\ (∀ i j,i < j -> j < k -> j < ts.length -> ∀ b,(L.getD i nilP).2.ownBlock = some b -> (L.getD j nilP).2.ownBlock ≠ some b) /\ ∀ i,i < k -> i < ts.length -> ∀ b,(L.getD i nilP).2.ownBlock = some b -> b < N
theorem TrPart.low {V : Nat -> Value} {B : Nat} {ts : List Tr} {k : Nat} {v : Value} {w : World} (h : TrPart V B ts k v w) : TrLow V B ts k v w.heap.size w := by
 obtain ⟨L,h1,h2,h3,h4⟩ := h
 refine ⟨L,h1,h2,h3,h4,fun i hi hl b hb => ?_⟩
 obtain ⟨xs,ho⟩ := TmPart.own ((h3 i hl).2.1 hi)
 exact (ho.lt b hb).2
theorem TrLow.below {V : Nat -> Value} {B : Nat} {ts : List Tr} {k : Nat} {v : Value} {N : Nat} {w w' : World} (h : TrLow V B ts k v N w) (hb : Below w.heap.size w w') : TrLow V B ts k v N w' := by
 obtain ⟨L,h1,h2,h3,h4,h5⟩ := h
 exact ⟨L,h1,own_below h2 hb,fun i hi => ⟨(h3 i hi).1,fun hk => TmPart.below ((h3 i hi).2.1 hk) hb,(h3 i hi).2.2⟩,h4,h5⟩
theorem TrLow.span {V : Nat -> Value} {B : Nat} {ts : List Tr} {k : Nat} {v : Value} {N : Nat} {w w' : World} (h : TrLow V B ts k v N w) {b : Nat} {cb : Array Value} {fz : Nat × Nat} (hg : w.grownBy w' (some b)) (hb : w.heap[b]? = some (.cells cb 55 fz)) (hN : N <= b) : TrLow V B ts k v N w' := by
 obtain ⟨L,h1,h2,h3,h4,h5⟩ := h
 refine ⟨L,h1,own_type h2 hg hb (by decide),fun i hi => ⟨(h3 i hi).1,fun hk => ?_,(h3 i hi).2.2⟩,h4,h5⟩
 have hlow := h5 i hk hi
 obtain ⟨M,m1,m2,m3⟩ := (h3 i hi).2.1 hk
 refine ⟨M,m1,m2.kept hg ?_,fun j hj => ⟨(m3 j hj).1,fun hjk => own_type ((m3 j hj).2.1 hjk) hg hb (by decide),(m3 j hj).2.2⟩⟩
 cases hv : (L.getD i nilP).2.ownBlock with
 | none => exact .inl rfl
 | some q => right; intro e; have := hlow q hv; injection e with e; omega
theorem TrLow.put {V : Nat -> Value} {B : Nat} {ts : List Tr} {k : Nat} {g cap N : Nat} {w : World} (h : TrLow V B ts k (.slice (some ⟨g,0,none⟩) ts.length cap) N w) (hk : k < ts.length) (v : Value) : TrLow (fun i => if i = k then v else V i) B ts k (.slice (some ⟨g,0,none⟩) ts.length cap) N (w.setCell ⟨g,k * 2 + 1,none⟩ v) := by
 obtain ⟨L,h1,h2,h3,h4,h5⟩ := h
 obtain ⟨s1,s2⟩ := h2.stored (k * 2 + 1) v
 obtain ⟨⟨cur,hcur⟩,-⟩ := own_block h2
 rw [pairCells_set L k (by omega)] at s1
 have ge : ∀ i,i ≠ k -> (L.set k ((L[k]).1,v)).getD i nilP = L.getD i nilP := fun i hi => getD_set_ne _ _ _ _ hi
 refine ⟨L.set k ((L[k]).1,v),by simpa using h1,s1,fun i hi => ?_,fun i j hij hj hl b hb => ?_,fun i hi hl b hb => ?_⟩
 ·by_cases e : i = k
  ·subst e
   rw [getD_set_eq _ _ _ (by omega)]
   have h6 := h3 i hi
   rw [getD_lt (by omega)] at h6
   exact ⟨h6.1,fun h => by omega,fun _ => by simp⟩
  ·rw [ge i e]
   refine ⟨(h3 i hi).1,fun hik => TmPart.type ((h3 i hi).2.1 hik) s2 hcur (by decide) (by decide),fun hki => ?_⟩
   simp only [e,if_false]
   exact (h3 i hi).2.2 hki
 ·rw [ge j (by omega)]
  rw [ge i (by omega)] at hb
  exact h4 i j hij hj hl b hb
 ·rw [ge i (by omega)] at hb
  exact h5 i hi hl b hb
theorem TrLow.close {V : Nat -> Value} {B : Nat} {ts : List Tr} {k : Nat} {vR : Value} {N : Nat} {v : Value} {w : World} (h : TrLow (fun i => if i = k then v else V i) B ts k vR N w) (hk : k < ts.length) (hv : TmRow B 55 (ts.getD k tr0).past v w) (hN : ∀ b,v.ownBlock = some b -> N <= b) : TrPart V B ts (k + 1) vR w := by
 obtain ⟨L,h1,h2,h3,h4,h5⟩ := h
 have hLk : (L.getD k nilP).2 = v := by
  have := (h3 k hk).2.2 (Nat.le_refl _)
  simpa using this
 refine ⟨L,h1,h2,fun i hi => ⟨(h3 i hi).1,fun hik => ?_,fun hki => ?_⟩,fun i j hij hj hl b hb => ?_⟩
 ·by_cases e : i = k
  ·subst e
   rw [hLk]
   exact hv
  ·exact (h3 i hi).2.1 (by omega)
 ·have := (h3 i hi).2.2 (by omega)
  rw [this]
  exact if_neg (by omega)
 ·by_cases e : j = k
  ·subst e
   rw [hLk]
   intro hb2
   have h6 := h5 i hij (by omega) b hb
   have h7 := hN b hb2
   omega
  ·exact h4 i j hij (by omega) hl b hb
theorem TrLow.cell {V : Nat -> Value} {B : Nat} {ts : List Tr} {k : Nat} {g cap N : Nat} {w : World} (h : TrLow V B ts k (.slice (some ⟨g,0,none⟩) ts.length cap) N w) (hk : k < ts.length) : w.cell? ⟨g,k * 2 + 1,none⟩ = some (V k) /\ g < w.heap.size := by
 obtain ⟨L,h1,h2,h3,-⟩ := h
 have hp := pairCells_get L k (by omega)
 have e := getD_lt (L := L) (k := k) (by omega)
 have h4 := h3 k hk
 rw [e] at h4
 exact ⟨by rw [h2.cellAt (k * 2 + 1) (by omega),hp.2,h4.2.2 (Nat.le_refl _)],(h2.lt g rfl).2⟩
theorem Lies.pair {w : World} {a : Option Addr} {n : Nat} {f : Nat -> Int} {V : Nat -> Value} (h : Lies w a n (pairCells (mkP f V n))) (h0 : 0 < n) : ∃ b off,a = some ⟨b,off,none⟩ /\ ∀ i,i < n -> w.cell? ⟨b,off + i * 2,none⟩ = some (.int .i64 (f i)) /\ w.cell? ⟨b,off + i * 2 + 1,none⟩ = some (V i) := by
 rcases h with h | ⟨b,off,e,h⟩
 ·omega
 ·refine ⟨b,off,e,fun i hi => ?_⟩
  have hp := pairCells_get (mkP f V n) i (by rw [mkP_len]; exact hi)
  have em : (mkP f V n)[i]'(by rw [mkP_len]; exact hi) = (f i,V i) := by simp [mkP]
  rw [em] at hp
  exact ⟨h _ _ hp.1,h _ _ hp.2⟩
theorem copySpans (a : Option Addr) (len cap : Nat) (xs : List Value) (w : World) (hl : xs.length = len * 2) (hm : len <= 1000) (hx : Lies w a len xs) (ha : a = none -> cap = 0) (h1 : ∀ u ∈ xs,u.oneCell' = true) : Calls Tryz.prog 63 #[.slice a len cap] w fun e w' => ∃ a' c',e = .returned (.slice a' len c') /\ w'.ownsRow w.heap.size 55 2 (.slice a' len c') len xs /\ Below w.heap.size w w' := by
 refine (copiedSpan a len cap xs w hl hm hx ha h1).mono fun e w' ⟨hb,v,he,ho,_⟩ => ?_
 obtain ⟨a',c',rfl,-⟩ := own_slice ho
 exact ⟨a',c',he,ho,hb⟩
theorem copyRow (a : Option Addr) (len cap : Nat) (l : List Int) (w : World) (h : RowI w a len cap l) (hm : len <= 1000) : Calls Tryz.prog 61 #[.slice a len cap] w fun e w' => ∃ a' c',e = .returned (.slice a' len c') /\ w'.ownsRow w.heap.size 3 1 (.slice a' len c') len (intCells l) /\ Below w.heap.size w w' := by
 refine (copyInts a len cap l w h hm).mono fun e w' ⟨hb,a',c',he,ho⟩ => ?_
 have hl := h.1
 subst hl
 exact ⟨a',c',he,ho.2,hb⟩
def CloneM (m : Mp) (w : World) (e : Ending) (w' : World) : Prop := Below w.heap.size w w' /\ ∃ s,e = .returned (.agg (mapCells m s).toArray) /\ OwnM w' w.heap.size m s
structure Small (m : Mp) : Prop where
 nds : m.nds.length <= 12
 tms : m.tms.length <= 8
 trs : m.trs.length <= 8
 tns : ∀ i,i < m.tms.length -> (m.tms.getD i tm0).ns.length <= 1000
 past : ∀ i,i < m.trs.length -> (m.trs.getD i tr0).past.length <= 1000
 pns : ∀ i,i < m.trs.length -> ∀ j,j < (m.trs.getD i tr0).past.length -> ((m.trs.getD i tr0).past.getD j tm0).ns.length <= 1000
set_option maxHeartbeats 8000000 in
set_option maxRecDepth 60000 in
theorem clone_any {m : Mp} {s : MV} (hm : Small m) (w : World) (h : MapAt w m s) : Calls Tryz.prog 36 #[.agg (mapCells m s).toArray] w fun e w' => CloneM m w e w' := by
 obtain ⟨VT,hVT,hLT⟩ := h.tms.pairs
 obtain ⟨VR,hVR,hLR⟩ := h.trs.pairs
 have hNl := h.nds.1
 have hTl := h.tms.1
 have hRl := h.trs.1
 have HN0 : Hid (NdsAt w s.aN s.lN s.cN m.nds) := h.nds
 have HnN := h.nilN
 have HnT := h.tms.2.2.2.1
 have HnR := h.trs.2.2.2.1
 have HSM : Hid (Small m) := hm
 obtain ⟨ep,sz,mn,gr,nds,tms,trs⟩ := m
 obtain ⟨aN,lN,cN,aT,lT,cT,aR,lR,cR⟩ := s
 simp only at *
 subst hTl hRl
 obtain ⟨w1,hw1⟩ : ∃ w1,w1 = (w.alloc (.cells #[.int .i64 ep,.int .i64 sz,.int .i64 mn,.int .i64 gr,.slice aN lN cN,.slice aT tms.length cT,.slice aR trs.length cR] 26)).alloc (.cells #[.int .i64 0,.int .i64 0,.int .i64 0,.int .i64 0,.slice none 0 0,.slice none 0 0,.slice none 0 0] 26) := ⟨_,rfl⟩
 have hb1 : Below w.heap.size w w1 := by rw [hw1]; exact below2 (below_alloc _ _) (below_alloc _ _)
 have HA : Hid (Box7 w1 w.heap.size (.int .i64 ep) (.int .i64 sz) (.int .i64 mn) (.int .i64 gr) (.slice aN lN cN) (.slice aT tms.length cT) (.slice aR trs.length cR)) := by
  rw [hw1]
  exact (Box7.new w _ _ _ _ _ _ _ _).below (below_alloc _ _)
 have HB : Hid (Box7 w1 (w.heap.size + 1) (.int .i64 0) (.int .i64 0) (.int .i64 0) (.int .i64 0) (.slice none 0 0) (.slice none 0 0) (.slice none 0 0)) := by
  rw [hw1]
  have := Box7.new (w.alloc (.cells #[.int .i64 ep,.int .i64 sz,.int .i64 mn,.int .i64 gr,.slice aN lN cN,.slice aT tms.length cT,.slice aR trs.length cR] 26)) (.int .i64 0) (.int .i64 0) (.int .i64 0) (.int .i64 0) (.slice none 0 0) (.slice none 0 0) (.slice none 0 0) 26
  rwa [show (w.alloc (.cells #[.int .i64 ep,.int .i64 sz,.int .i64 mn,.int .i64 gr,.slice aN lN cN,.slice aT tms.length cT,.slice aR trs.length cR] 26)).heap.size = w.heap.size + 1 by simp] at this
 have HCN : Hid (Calls Tryz.prog 59 #[.slice aN lN cN] w1 fun e w' => CopyPost 72 6 lN (ndsCells nds) w1 e w') := copiedNode aN lN cN _ w1 (by rw [ndsCells_len,hNl]) (by have := hm.nds; simp only at this; omega) ((nds_lies HN0.out).below hb1) HnN (ndsCells_one nds)
 have HCT : Hid (∀ W,Below w.heap.size w W -> Calls Tryz.prog 60 #[.slice aT tms.length cT] W fun e w' => CopyPost 59 2 tms.length (pairCells (mkP (fun i => (tms.getD i tm0).g) VT tms.length)) W e w') := fun W hb => copiedTemp aT tms.length cT _ W (by rw [pairCells_len,mkP_len]) (by have := hm.tms; simp only at this; omega) (hLT.below hb) HnT (mkP_one _ _ _ fun i hi => by obtain ⟨a,l,c,e,_⟩ := hVT i hi; exact ⟨a,l,c,e⟩)
 have HCR : Hid (∀ W,Below w.heap.size w W -> Calls Tryz.prog 62 #[.slice aR trs.length cR] W fun e w' => CopyPost 53 2 trs.length (pairCells (mkP (fun i => (trs.getD i tr0).since) VR trs.length)) W e w') := fun W hb => copiedTrail aR trs.length cR _ W (by rw [pairCells_len,mkP_len]) (by have := hm.trs; simp only at this; omega) (hLR.below hb) HnR (mkP_one _ _ _ fun i hi => by obtain ⟨a,l,c,e,_⟩ := hVR i hi; exact ⟨a,l,c,e⟩)
 have HVT : Hid (∀ i,i < tms.length -> ∃ a l c,VT i = .slice a l c /\ RowI w a l c (tms.getD i tm0).ns) := hVT
 have HVR : Hid (∀ i,i < trs.length -> ∃ a l c,VR i = .slice a l c /\ TmsAt w a l c (trs.getD i tr0).past) := hVR
 have HNL : Hid (nds.length = lN) := hNl
 have h8T : (tms.length : Int) <= 8 := by have := hm.tms; simp only at this; omega
 have h8R : (trs.length : Int) <= 8 := by have := hm.trs; simp only at this; omega
 clear hVT hLT hVR hLR hNl HN0 HnN HnT HnR hm h
 have ls1 : w.heap.size < w1.heap.size := HA.out.lt
 have ls2 : w.heap.size + 1 < w1.heap.size := HB.out.lt
 obtain ⟨⟨c0,c1,c2,c3,c4,c5,c6⟩,⟨f0,f1,f2,f3,f4,f5,f6⟩⟩ := HA.out
 show Calls Tryz.prog 36 #[.agg #[.int .i64 ep,.int .i64 sz,.int .i64 mn,.int .i64 gr,.slice aN lN cN,.slice aT tms.length cT,.slice aR trs.length cR]] w _
 go_enter Tryz.func36,Tryz.ntmps36
 go_upto_region 1 with fail
 rw [<- hw1]
 clear hw1
 go_upto_region 2 with (go_at_call 59; refine HCN.out.mono ?_; rintro e w2 ⟨hb2,v2,rfl,hown2,hnil2⟩; obtain ⟨a2,cap2,rfl,hcap2⟩ := own_slice hown2; obtain ⟨⟨d0,d1,d2,d3,d4,d5,d6⟩,⟨g0,g1,g2,g3,g4,g5,g6⟩⟩ := HA.out.below hb2)
 have HC3 : Hid (ClA w ep sz mn gr (.slice a2 lN cap2) (.slice aT tms.length cT) (.slice aR trs.length cR) lN nds (w2.setCell ⟨w.heap.size,4,none⟩ (.slice a2 lN cap2))) := ⟨(HA.out.below hb2).put4 _,(HB.out.below hb2).else (set_grownBy _ _ _ _) (by omega),own_box (own_base hown2 (by omega)),(below2 hb1 hb2).setCell (p := ⟨w.heap.size,4,none⟩) (Nat.le_refl _) _⟩
 clear hown2 hnil2 HCN HA HB c0 c1 c2 c3 c4 c5 c6 f0 f1 f2 f3 f4 f5 f6 d0 d1 d2 d3 d4 d5 d6 g0 g1 g2 g3 g4 g5 g6 hb1
 generalize hw3 : w2.setCell ⟨w.heap.size,4,none⟩ (.slice a2 lN cap2) = w3 at *
 clear hw3 hb2 ls1 ls2
 obtain ⟨⟨c0,c1,c2,c3,c4,c5,c6⟩,⟨f0,f1,f2,f3,f4,f5,f6⟩⟩ := HC3.out.box
 go_upto_region 3 with (go_at_call 60; refine (HCT.out _ HC3.out.below).mono ?_; rintro e w4 ⟨hb4,v4,rfl,hown4,hnil4⟩; obtain ⟨a4,cap4,rfl,hcap4⟩ := own_slice hown4; obtain ⟨⟨d0,d1,d2,d3,d4,d5,d6⟩,⟨g0,g1,g2,g3,g4,g5,g6⟩⟩ := HC3.out.box.below hb4)
 have hs3 : w.heap.size + 2 <= w3.heap.size := HC3.out.res.lt
 have HC5 : Hid (ClA w ep sz mn gr (.slice a2 lN cap2) (.slice a4 tms.length cap4) (.slice aR trs.length cR) lN nds (w4.setCell ⟨w.heap.size,5,none⟩ (.slice a4 tms.length cap4))) := (HC3.out.more hb4).put5 _
 have HT5 : Hid (TmPart VT (w.heap.size + 2) 59 tms 0 (.slice a4 tms.length cap4) (w4.setCell ⟨w.heap.size,5,none⟩ (.slice a4 tms.length cap4))) := (TmPart.start rfl (own_base hown4 hs3)).box
 clear hown4 hnil4 HCT HC3 c0 c1 c2 c3 c4 c5 c6 f0 f1 f2 f3 f4 f5 f6 d0 d1 d2 d3 d4 d5 d6 g0 g1 g2 g3 g4 g5 g6 hs3
 generalize hw5 : w4.setCell ⟨w.heap.size,5,none⟩ (.slice a4 tms.length cap4) = w5 at *
 clear hw5 hb4
 obtain ⟨⟨c0,c1,c2,c3,c4,c5,c6⟩,-⟩ := HC5.out.box
 go_wp2_with fail
 clear c0 c1 c2 c3 c4 c5 c6
 go_loopw [20] (fun i wr => ∃ k : Nat,k <= tms.length /\ i = .int .i64 k /\ Hid (ClA w ep sz mn gr (.slice a2 lN cap2) (.slice a4 tms.length cap4) (.slice aR trs.length cR) lN nds wr) /\ Hid (TmPart VT (w.heap.size + 2) 59 tms k (.slice a4 tms.length cap4) wr)) (fun i _ => tms.length - (intOf i).toNat)
 case atStart => exact ⟨0,Nat.zero_le _,rfl,HC5,HT5⟩
 case round =>
  clear HC5 HT5
  obtain ⟨k,hk,rfl,HC,HT⟩ := hrel
  by_cases hlt : k < tms.length
  ·obtain ⟨xs,hown⟩ := HT.out.own
   obtain ⟨g,cg,hv,hgB,hgs,hgc⟩ := own_some hown (by omega)
   injection hv with hv1 hv2 hv3
   subst hv1 hv3
   obtain ⟨⟨cur,hcur⟩,-⟩ := own_block hown
   have hk1 : (k : Int) < (tms.length : Int) := by omega
   obtain ⟨r0,r1,r2⟩ := HT.out.cells hlt
   obtain ⟨aq,lq,cq,hVk,hrow⟩ := HVT.out k hlt
   rw [hVk] at r1
   generalize (tms.getD k tm0).g = gg at r0
   have hlq : lq <= 1000 := by rw [<- hrow.1]; exact HSM.out.tns k hlt
   have HBX : Hid (Below wr.heap.size wr (wr.alloc (.cells #[.int .i64 gg,.slice aq lq cq] 59))) := below_alloc _ _
   have HX1 : Hid ((wr.alloc (.cells #[.int .i64 gg,.slice aq lq cq] 59)).cell? ⟨wr.heap.size,1,none⟩ = some (.slice aq lq cq)) := by
    have := cells_lit wr [.int .i64 gg,.slice aq lq cq] 59 1 (.slice aq lq cq) rfl
    rw [addr_add,Nat.zero_add] at this
    exact this
   have HCY : Hid (∀ W,Below wr.heap.size wr W -> Calls Tryz.prog 61 #[.slice aq lq cq] W fun e w' => ∃ a' c',e = .returned (.slice a' lq c') /\ w'.ownsRow W.heap.size 3 1 (.slice a' lq c') lq (intCells (tms.getD k tm0).ns) /\ Below W.heap.size W w') := fun W hb => copyRow aq lq cq _ W (hrow.below (below2 HC.out.below hb)) hlq
   have HLQ : Hid ((tms.getD k tm0).ns.length = lq) := hrow.1
   have HCU : Hid (wr.heap[g]? = some (.cells cur 59 (0,0)) /\ w.heap.size + 2 <= g /\ g < wr.heap.size) := ⟨hcur,hgB,hgs⟩
   clear hown hVk hrow hlq hcur hgB
   go_upto_region 6 with fail
   generalize wr.alloc (.cells #[.int .i64 gg,.slice aq lq cq] 59) = wx at *
   have hC5 := (HC.out.more HBX.out).box.1.2.2.2.2.2.1
   refine clone_t _ _ _ _ _ _ _ _ _ _ _ _ _ _ _ _ _ _ _ _ _ _ _ _ _ _ _ _ _ _ _ _ _ _ _ _ _ _ _ _ _ _ _ _ _ _ _ _ _ _ _ _ _ _ _ _ _ _ _ _ _ _ _ _ _ _ _ _ _ _ _ _ _ _ w.heap.size wr.heap.size g tms.length cap4 k aq lq cq (tms.getD k tm0).ns wx _ hk1 ⟨hC5,HX1.out,(HBX.out.cell (p := ⟨g,k * 2 + 1,none⟩) hgs).trans r1,(HBX.out.frozen (p := ⟨g,k * 2 + 1,none⟩) hgs).trans r2⟩ (fun W hb => HCY.out W (below2 HBX.out hb)) (fun u25 u26 u27 u28 u29 u30 u31 u32 a' c' w3 hO hb3 => ?_)
   have HN1 : Hid (ClA w ep sz mn gr (.slice a2 lN cap2) (.slice (some ⟨g,0,none⟩) tms.length cap4) (.slice aR trs.length cR) lN nds (w3.setCell ⟨g,k * 2 + 1,none⟩ (.slice a' lq c')) /\ TmPart VT (w.heap.size + 2) 59 tms (k + 1) (.slice (some ⟨g,0,none⟩) tms.length cap4) (w3.setCell ⟨g,k * 2 + 1,none⟩ (.slice a' lq c'))) := by
    obtain ⟨W,hbW,hoW⟩ := hO
    have hbb := below2 HBX.out hb3
    obtain ⟨hc1,hc2,hc3⟩ := HCU.out
    have hcz : w3.heap[g]? = some (.cells cur 59 (0,0)) := (hbb.block g hc3).trans hc1
    refine ⟨(HC.out.more hbb).else hcz hc2 (by decide) _ _,(HT.out.below hbb).step hlt ?_ (by decide)⟩
    show w3.ownsRow _ _ _ _ _ _
    rw [HLQ.out]
    exact own_base hoW (Nat.le_trans HC.out.res.lt (Nat.le_trans HBX.out.size hbW.size))
   clear hO hb3 hC5 r0 r1 r2 HCY HBX HX1 HCU
   first | go_wp2_with fail | skip
   go_roundw
   case rel => exact ⟨k + 1,by omega,by go_num,HN1.out.1,HN1.out.2⟩
   case measure => simp [intOf]; omega
  ·obtain rfl : k = tms.length := by omega
   have HTD : Hid (TmRow (w.heap.size + 2) 59 tms (.slice a4 tms.length cap4) wr) := HT.out.done
   obtain ⟨⟨c0,c1,c2,c3,c4,c5,c6⟩,⟨f0,f1,f2,f3,f4,f5,f6⟩⟩ := HC.out.box
   clear HT
   go_upto_region 9 with (go_at_call 62; refine (HCR.out _ HC.out.below).mono ?_; rintro e w6 ⟨hb6,v6,rfl,hown6,hnil6⟩; obtain ⟨a6,cap6,rfl,hcap6⟩ := own_slice hown6; obtain ⟨⟨d0,d1,d2,d3,d4,d5,d6⟩,⟨g0,g1,g2,g3,g4,g5,g6⟩⟩ := HC.out.box.below hb6)
   have HC7 : Hid (ClA w ep sz mn gr (.slice a2 lN cap2) (.slice a4 tms.length cap4) (.slice a6 trs.length cap6) lN nds (w6.setCell ⟨w.heap.size,6,none⟩ (.slice a6 trs.length cap6))) := (HC.out.more hb6).put6 _
   have HT7 : Hid (TmRow (w.heap.size + 2) 59 tms (.slice a4 tms.length cap4) (w6.setCell ⟨w.heap.size,6,none⟩ (.slice a6 trs.length cap6))) := TmPart.box (TmPart.below HTD.out hb6)
   have HR7 : Hid (TrPart VR (w.heap.size + 2) trs 0 (.slice a6 trs.length cap6) (w6.setCell ⟨w.heap.size,6,none⟩ (.slice a6 trs.length cap6))) := TrPart.start rfl (own_box (own_base hown6 HC.out.res.lt))
   clear hown6 hnil6 HCR HC HTD c0 c1 c2 c3 c4 c5 c6 f0 f1 f2 f3 f4 f5 f6 d0 d1 d2 d3 d4 d5 d6 g0 g1 g2 g3 g4 g5 g6
   generalize hw7 : w6.setCell ⟨w.heap.size,6,none⟩ (.slice a6 trs.length cap6) = w7 at *
   clear hw7 hb6
   obtain ⟨⟨c0,c1,c2,c3,c4,c5,c6⟩,-⟩ := HC7.out.box
   go_wp2_with fail
   clear c0 c1 c2 c3 c4 c5 c6
   go_loopw [41] (fun i wr => ∃ k : Nat,k <= trs.length /\ i = .int .i64 k /\ Hid (ClA w ep sz mn gr (.slice a2 lN cap2) (.slice a4 tms.length cap4) (.slice a6 trs.length cap6) lN nds wr) /\ Hid (TmRow (w.heap.size + 2) 59 tms (.slice a4 tms.length cap4) wr) /\ Hid (TrPart VR (w.heap.size + 2) trs k (.slice a6 trs.length cap6) wr)) (fun i _ => trs.length - (intOf i).toNat)
   case atStart => exact ⟨0,Nat.zero_le _,rfl,HC7,HT7,HR7⟩
   case round =>
    clear HC7 HT7 HR7
    obtain ⟨k,hk,rfl,HC,HT,HR⟩ := hrel
    by_cases hlt : k < trs.length
    ·obtain ⟨L0,-,hownR,-⟩ := HR.out
     obtain ⟨g,cg,hv,hgB,hgs,hgc⟩ := own_some hownR (by omega)
     injection hv with hv1 hv2 hv3
     subst hv1 hv3
     obtain ⟨⟨cur,hcur⟩,-⟩ := own_block hownR
     have hk1 : (k : Int) < (trs.length : Int) := by omega
     obtain ⟨r0,r1,r2⟩ := HR.out.cells hlt
     obtain ⟨aq,lq,cq,hVk,hpast⟩ := HVR.out k hlt
     rw [hVk] at r1
     have hlq : lq <= 1000 := by rw [<- hpast.1]; exact HSM.out.past k hlt
     obtain ⟨ps,hps⟩ : ∃ ps,(trs.getD k tr0).past = ps := ⟨_,rfl⟩
     have HPS : Hid ((trs.getD k tr0).past = ps) := hps
     have HPN : Hid (∀ j,j < ps.length -> (ps.getD j tm0).ns.length <= 1000) := fun j hj => by
      have := HSM.out.pns k hlt j (by simp only; rw [hps]; exact hj)
      simp only at this
      rwa [hps] at this
     rw [hps] at hpast
     obtain rfl : ps.length = lq := hpast.1
     obtain ⟨VS,hVS,hLS⟩ := hpast.pairs
     generalize (trs.getD k tr0).since = gg at r0
     have HBX : Hid (Below wr.heap.size wr (wr.alloc (.cells #[.int .i64 gg,.slice aq ps.length cq] 53))) := below_alloc _ _
     have HX1 : Hid ((wr.alloc (.cells #[.int .i64 gg,.slice aq ps.length cq] 53)).cell? ⟨wr.heap.size,1,none⟩ = some (.slice aq ps.length cq)) := by
      have := cells_lit wr [.int .i64 gg,.slice aq ps.length cq] 53 1 (.slice aq ps.length cq) rfl
      rw [addr_add,Nat.zero_add] at this
      exact this
     have HXS : Hid ((wr.alloc (.cells #[.int .i64 gg,.slice aq ps.length cq] 53)).heap.size = wr.heap.size + 1) := by
      show _ = _
      simp
     have HCY : Hid (∀ W,Below wr.heap.size wr W -> Calls Tryz.prog 63 #[.slice aq ps.length cq] W fun e w' => ∃ a' c',e = .returned (.slice a' ps.length c') /\ w'.ownsRow W.heap.size 55 2 (.slice a' ps.length c') ps.length (pairCells (mkP (fun i => (ps.getD i tm0).g) VS ps.length)) /\ Below W.heap.size W w') := fun W hb => copySpans aq ps.length cq _ W (by rw [pairCells_len,mkP_len]) hlq (hLS.below (below2 HC.out.below hb)) hpast.2.2.2.1 (mkP_one _ _ _ fun i hi => by obtain ⟨a,l,c,e,_⟩ := hVS i hi; exact ⟨a,l,c,e⟩)
     have HVS : Hid (∀ i,i < ps.length -> ∃ a l c,VS i = .slice a l c /\ RowI w a l c (ps.getD i tm0).ns) := hVS
     have HLS : Hid (Lies w aq ps.length (pairCells (mkP (fun i => (ps.getD i tm0).g) VS ps.length))) := hLS
     have HCU : Hid (wr.heap[g]? = some (.cells cur 53 (0,0)) /\ w.heap.size + 2 <= g /\ g < wr.heap.size) := ⟨hcur,hgB,hgs⟩
     have hps1 : (ps.length : Int) <= 1000 := by omega
     clear hownR hVk hpast hlq hcur hgB hVS hLS hps
     go_upto_region 12 with fail
     generalize wr.alloc (.cells #[.int .i64 gg,.slice aq ps.length cq] 53) = wx at *
     have hC6 := (HC.out.more HBX.out).box.1.2.2.2.2.2.2
     refine clone_r _ _ _ _ _ _ _ _ _ _ _ _ _ _ _ _ _ _ _ _ _ _ _ _ _ _ _ _ _ _ _ _ _ _ _ _ _ _ _ _ _ _ _ _ _ _ _ _ _ _ _ _ _ _ _ _ _ _ _ _ _ _ _ _ _ _ _ _ _ _ _ _ _ _ w.heap.size wr.heap.size g trs.length cap6 k aq ps.length cq _ wx _ hk1 ⟨hC6,HX1.out,(HBX.out.cell (p := ⟨g,k * 2 + 1,none⟩) hgs).trans r1,(HBX.out.frozen (p := ⟨g,k * 2 + 1,none⟩) hgs).trans r2⟩ (fun W hb => HCY.out W (below2 HBX.out hb)) (fun u46 u47 u48 u49 u50 u51 u52 u53 a' c' w3 hO hb3 => ?_)
     have HN1 : Hid ((ClA w ep sz mn gr (.slice a2 lN cap2) (.slice a4 tms.length cap4) (.slice (some ⟨g,0,none⟩) trs.length cap6) lN nds (w3.setCell ⟨g,k * 2 + 1,none⟩ (.slice a' ps.length c')) /\ TmRow (w.heap.size + 2) 59 tms (.slice a4 tms.length cap4) (w3.setCell ⟨g,k * 2 + 1,none⟩ (.slice a' ps.length c'))) /\ (TrLow (fun i => if i = k then .slice a' ps.length c' else VR i) (w.heap.size + 2) trs k (.slice (some ⟨g,0,none⟩) trs.length cap6) wr.heap.size (w3.setCell ⟨g,k * 2 + 1,none⟩ (.slice a' ps.length c')) /\ TmPart VS (w.heap.size + 2) 55 ps 0 (.slice a' ps.length c') (w3.setCell ⟨g,k * 2 + 1,none⟩ (.slice a' ps.length c'))) /\ (w3.setCell ⟨g,k * 2 + 1,none⟩ (.slice a' ps.length c')).cell? ⟨wr.heap.size,1,none⟩ = some (.slice aq ps.length cq) /\ ∀ b,(Value.slice a' ps.length c').ownBlock = some b -> wr.heap.size <= b) := by
      obtain ⟨W,hbW,hoW⟩ := hO
      have hbb := below2 HBX.out hb3
      obtain ⟨hc1,hc2,hc3⟩ := HCU.out
      have hcz : w3.heap[g]? = some (.cells cur 53 (0,0)) := (hbb.block g hc3).trans hc1
      have hws : wr.heap.size + 1 <= W.heap.size := by rw [<- HXS.out]; exact hbW.size
      have hlb := HC.out.res.lt
      refine ⟨⟨(HC.out.more hbb).else hcz hc2 (by decide) _ _,TmPart.type (TmPart.below HT.out hbb) (set_grownBy _ _ _ _) hcz (by decide) (by decide)⟩,⟨(HR.out.low.below hbb).put hlt _,TmPart.start rfl (own_type (own_base hoW (by omega)) (set_grownBy _ _ _ _) hcz (by decide))⟩,?_,fun b hb => ?_⟩
      ·rw [World.cell?_setCell_other _ _ _ _ (by intro e; injection e with e; omega)]
       exact (hb3.cell (p := ⟨wr.heap.size,1,none⟩) (by rw [HXS.out]; exact Nat.lt_succ_self _)).trans HX1.out
      ·have := (hoW.lt b hb).1
       omega
     have hx2 := HN1.out.2.2.1
     clear hO hb3 hC6 r0 r1 r2 HCY HBX HX1 HCU HXS HC HT HR hgs
     generalize w3.setCell ⟨g,k * 2 + 1,none⟩ (.slice a' ps.length c') = w8 at *
     generalize wr.heap.size = N0 at *
     go_wp2_with fail
     clear hx2
     go_loopw [57] (fun i wq => ∃ j : Nat,j <= ps.length /\ i = .int .i64 j /\ Hid (ClA w ep sz mn gr (.slice a2 lN cap2) (.slice a4 tms.length cap4) (.slice (some ⟨g,0,none⟩) trs.length cap6) lN nds wq /\ TmRow (w.heap.size + 2) 59 tms (.slice a4 tms.length cap4) wq /\ TrLow (fun i => if i = k then .slice a' ps.length c' else VR i) (w.heap.size + 2) trs k (.slice (some ⟨g,0,none⟩) trs.length cap6) N0 wq /\ TmPart VS (w.heap.size + 2) 55 ps j (.slice a' ps.length c') wq)) (fun i _ => ps.length - (intOf i).toNat)
     case atStart => exact ⟨0,Nat.zero_le _,rfl,HN1.out.1.1,HN1.out.1.2,HN1.out.2.1.1,HN1.out.2.1.2⟩
     case round =>
      obtain ⟨j,hj,rfl,HJ⟩ := hrel
      by_cases hjt : j < ps.length
      ·have hps0 : 0 < ps.length := by omega
       obtain ⟨xs5,hown5⟩ := HJ.out.2.2.2.own
       obtain ⟨h,ch,hv,hhB,hhs,hhc⟩ := own_some hown5 hps0
       injection hv with hv1 hv2 hv3
       subst hv1 hv3
       obtain ⟨⟨curh,hcurh⟩,-⟩ := own_block hown5
       have hj1 : (j : Int) < (ps.length : Int) := by omega
       obtain ⟨q0,q1,q2⟩ := HJ.out.2.2.2.cells hjt
       obtain ⟨ar,lr,cr,hVj,hrow⟩ := HVS.out j hjt
       rw [hVj] at q1
       obtain ⟨bs,offs,rfl,hsrc⟩ := HLS.out.pair hps0
       obtain ⟨z0,z1⟩ := hsrc j hjt
       rw [hVj] at z1
       have hlr : lr <= 1000 := by rw [<- hrow.1]; exact HPN.out j hjt
       have hbsl : bs < w.heap.size := World.block_lt_of_cell? w ⟨bs,offs + j * 2,none⟩ z0
       have y0 := (HJ.out.1.below.cell (p := ⟨bs,offs + j * 2,none⟩) hbsl).trans z0
       have y1 := (HJ.out.1.below.cell (p := ⟨bs,offs + j * 2 + 1,none⟩) hbsl).trans z1
       obtain ⟨kc,kg⟩ := HJ.out.2.2.1.cell hlt
       simp only [if_true] at kc
       generalize (ps.getD j tm0).g = gh at q0 z0 y0
       have HBX : Hid (Below wr.heap.size wr (wr.alloc (.cells #[.int .i64 gh,.slice ar lr cr] 55))) := below_alloc _ _
       have HX1 : Hid ((wr.alloc (.cells #[.int .i64 gh,.slice ar lr cr] 55)).cell? ⟨wr.heap.size,1,none⟩ = some (.slice ar lr cr)) := by
        have := cells_lit wr [.int .i64 gh,.slice ar lr cr] 55 1 (.slice ar lr cr) rfl
        rw [addr_add,Nat.zero_add] at this
        exact this
       have HCY : Hid (∀ W,Below wr.heap.size wr W -> Calls Tryz.prog 61 #[.slice ar lr cr] W fun e w' => ∃ a' c',e = .returned (.slice a' lr c') /\ w'.ownsRow W.heap.size 3 1 (.slice a' lr c') lr (intCells (ps.getD j tm0).ns) /\ Below W.heap.size W w') := fun W hb => copyRow ar lr cr _ W (hrow.below (below2 HJ.out.1.below hb)) hlr
       have HLQ : Hid ((ps.getD j tm0).ns.length = lr) := hrow.1
       have HCU : Hid (wr.heap[h]? = some (.cells curh 55 (0,0)) /\ w.heap.size + 2 <= h /\ h < wr.heap.size) := ⟨hcurh,hhB,hhs⟩
       have HN0 : Hid (N0 <= h) := HN1.out.2.2.2 h rfl
       clear hown5 hVj hrow hlr hcurh hhB hsrc z0 z1
       go_upto_region 16 with fail
       generalize wr.alloc (.cells #[.int .i64 gh,.slice ar lr cr] 55) = wx at *
       have hC6 := (HJ.out.1.more HBX.out).box.1.2.2.2.2.2.2
       refine clone_s _ _ _ _ _ _ _ _ _ _ _ _ _ _ _ _ _ _ _ _ _ _ _ _ _ _ _ _ _ _ _ _ _ _ _ _ _ _ _ _ _ _ _ _ _ _ _ _ _ _ _ _ _ _ _ _ _ _ _ _ _ _ _ _ _ _ _ _ _ _ _ _ _ w.heap.size wr.heap.size g trs.length cap6 k h ps.length c' j ar lr cr (ps.getD j tm0).ns wx _ hk1 hj1 ⟨hC6,(HBX.out.cell (p := ⟨g,k * 2 + 1,none⟩) kg).trans kc,HX1.out,(HBX.out.cell (p := ⟨h,j * 2 + 1,none⟩) hhs).trans q1,(HBX.out.frozen (p := ⟨h,j * 2 + 1,none⟩) hhs).trans q2⟩ (fun W hb => HCY.out W (below2 HBX.out hb)) (fun u62 u63 u64 u65 u66 u67 u68 u69 u70 u71 u72 u73 a9 c9 w9 hO hb9 => ?_)
       have HN9 : Hid (ClA w ep sz mn gr (.slice a2 lN cap2) (.slice a4 tms.length cap4) (.slice (some ⟨g,0,none⟩) trs.length cap6) lN nds (w9.setCell ⟨h,j * 2 + 1,none⟩ (.slice a9 lr c9)) /\ TmRow (w.heap.size + 2) 59 tms (.slice a4 tms.length cap4) (w9.setCell ⟨h,j * 2 + 1,none⟩ (.slice a9 lr c9)) /\ TrLow (fun i => if i = k then .slice (some ⟨h,0,none⟩) ps.length c' else VR i) (w.heap.size + 2) trs k (.slice (some ⟨g,0,none⟩) trs.length cap6) N0 (w9.setCell ⟨h,j * 2 + 1,none⟩ (.slice a9 lr c9)) /\ TmPart VS (w.heap.size + 2) 55 ps (j + 1) (.slice (some ⟨h,0,none⟩) ps.length c') (w9.setCell ⟨h,j * 2 + 1,none⟩ (.slice a9 lr c9))) := by
        obtain ⟨W,hbW,hoW⟩ := hO
        have hbb := below2 HBX.out hb9
        obtain ⟨hc1,hc2,hc3⟩ := HCU.out
        have hcz : w9.heap[h]? = some (.cells curh 55 (0,0)) := (hbb.block h hc3).trans hc1
        have hlb := HJ.out.1.res.lt
        have hws : wr.heap.size <= W.heap.size := Nat.le_trans HBX.out.size hbW.size
        refine ⟨(HJ.out.1.more hbb).else hcz hc2 (by decide) _ _,TmPart.type (TmPart.below HJ.out.2.1 hbb) (set_grownBy _ _ _ _) hcz (by decide) (by decide),(HJ.out.2.2.1.below hbb).span (set_grownBy _ _ _ _) hcz HN0.out,(HJ.out.2.2.2.below hbb).step hjt ?_ (by decide)⟩
        show w9.ownsRow _ _ _ _ _ _
        rw [HLQ.out]
        exact own_base hoW (by omega)
       clear hO hb9 hC6 q0 q1 q2 y0 y1 kc kg HCY HBX HX1 HCU
       first | go_wp2_with fail | skip
       go_roundw
       case rel => exact ⟨j + 1,by omega,by go_num,HN9⟩
       case measure => simp [intOf]; omega
      ·obtain rfl : j = ps.length := by omega
       have HN2 : Hid (TrPart VR (w.heap.size + 2) trs (k + 1) (.slice (some ⟨g,0,none⟩) trs.length cap6) wr) := HJ.out.2.2.1.close hlt (by rw [HPS.out]; exact HJ.out.2.2.2.done) HN1.out.2.2.2
       go_wp2_with fail
       go_roundw
       case rel => exact ⟨k + 1,by omega,by go_num,HJ.out.1,HJ.out.2.1,HN2⟩
       case measure => simp [intOf]; omega
    ·obtain rfl : k = trs.length := by omega
     obtain ⟨⟨c0,c1,c2,c3,c4,c5,c6⟩,-⟩ := HC.out.box
     obtain ⟨⟨d0,d1,d2,d3,d4,d5,d6⟩,⟨f0,f1,f2,f3,f4,f5,f6⟩⟩ := HC.out.res
     have hg7 := set7_grownBy wr (w.heap.size + 1) (.int .i64 ep) (.int .i64 sz) (.int .i64 mn) (.int .i64 gr) (.slice a2 lN cap2) (.slice a4 tms.length cap4) (.slice a6 trs.length cap6)
     have hkept : ∀ (E : TypeId) (s n : Nat) (v : Value) (xs : List Value),wr.ownsRow (w.heap.size + 2) E s v n xs -> (set7 wr (w.heap.size + 1) (.int .i64 ep) (.int .i64 sz) (.int .i64 mn) (.int .i64 gr) (.slice a2 lN cap2) (.slice a4 tms.length cap4) (.slice a6 trs.length cap6)).ownsRow w.heap.size E s v n xs := fun E s n v xs h => own_base (h.kept hg7 (by
      cases hv : v.ownBlock with
      | none => exact .inl rfl
      | some j => right; have := (h.lt j hv).1; simp; omega)) (by omega)
     have hkT : ∀ (E : TypeId) (ts : List Tm) (v : Value),TmRow (w.heap.size + 2) E ts v wr -> TmRow w.heap.size E ts v (set7 wr (w.heap.size + 1) (.int .i64 ep) (.int .i64 sz) (.int .i64 mn) (.int .i64 gr) (.slice a2 lN cap2) (.slice a4 tms.length cap4) (.slice a6 trs.length cap6)) := fun E ts v ⟨L,l1,l2,l3⟩ => ⟨L,l1,hkept _ _ _ _ _ l2,fun i hi => ⟨(l3 i hi).1,fun hk => hkept _ _ _ _ _ ((l3 i hi).2.1 hk),(l3 i hi).2.2⟩⟩
     have HFIN : Hid (OwnM (set7 wr (w.heap.size + 1) (.int .i64 ep) (.int .i64 sz) (.int .i64 mn) (.int .i64 gr) (.slice a2 lN cap2) (.slice a4 tms.length cap4) (.slice a6 trs.length cap6)) w.heap.size ⟨ep,sz,mn,gr,nds,tms,trs⟩ ⟨a2,lN,cap2,a4,tms.length,cap4,a6,trs.length,cap6⟩) := by
      obtain ⟨L,l1,l2,l3,l4⟩ := HR.out.done
      exact ⟨hkept _ _ _ _ _ HC.out.nds,HNL.out,hkT _ _ _ HT.out,rfl,⟨L,l1,hkept _ _ _ _ _ l2,fun i hi => ⟨(l3 i hi).1,fun hk => hkT _ _ _ ((l3 i hi).2.1 hk),(l3 i hi).2.2⟩,l4⟩,rfl⟩
     clear hg7 hkept hkT
     go_wp2_with fail
     refine bodyPost_ret (ret_map rfl _ _ (w.heap.size + 1) _ _ _ _ _ _ _ rfl (HC.out.res.set _ _ _ _ _ _ _)) rfl ?_
     exact ⟨set7_below HC.out.below (by omega) _ _ _ _ _ _ _,_,rfl,HFIN.out⟩
end Go.Proofs.YtcncbjknfcjnmaaGreat.Tp
