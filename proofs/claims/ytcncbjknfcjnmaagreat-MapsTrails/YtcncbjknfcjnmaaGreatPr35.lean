/-
  The changed map stands; change of whatever map that may be.
  turn, plainly; those who acted, as they lie.
  turn of whatever map.
-/
import Derived.Test.YtcncbjknfcjnmaaGreatPr34
namespace Go.Proofs.YtcncbjknfcjnmaaGreat.Tp
open Go.ChangeShapes Go.WideShapes Go.ChangeAt Go.RowKit
variable {G : Nat -> Prop}
theorem intGetD {l : List Int} {i : Nat} (h : i < l.length) : l.getD i 0 = l[i] := by simp [h]
theorem memT_getD {ts : List Tm} {t : Tm} (h : t ∈ ts) : ∃ i,i < ts.length /\ ts.getD i tm0 = t := by
 obtain ⟨i,hi,rfl⟩ := List.getElem_of_mem h
 exact ⟨i,hi,by simp [hi]⟩
theorem pin_behind {ts : List Tm} {g : Int} (hR : (ts.map (·.g)).Pairwise (· < ·)) : ∀ x ∈ (ts.map (·.g)).drop (if foundT ts g = true then insPos (ts.map (·.g)) g + 1 else insPos (ts.map (·.g)) g),g < x := by
 intro x hx
 have hsp := (insPos_split hR g).2
 have hri := (rising_iff _).2 hR
 obtain ⟨i,hi,rfl⟩ := List.getElem_of_mem hx
 rw [List.length_drop] at hi
 rw [List.getElem_drop]
 generalize hq : (if foundT ts g = true then insPos (ts.map (·.g)) g + 1 else insPos (ts.map (·.g)) g) = q at *
 have hpq : insPos (ts.map (·.g)) g <= q := by
  rw [<- hq]
  split <;> omega
 have hle : g <= (ts.map (·.g))[q + i] := by
  apply hsp
  have : (ts.map (·.g))[q + i] = ((ts.map (·.g)).drop (insPos (ts.map (·.g)) g))[q + i - insPos (ts.map (·.g)) g]'(by rw [List.length_drop]; omega) := by
   rw [List.getElem_drop]
   congr 1
   omega
  rw [this]
  exact List.getElem_mem _
 have hlt : ∀ j,j < q + i -> (hj : j < (ts.map (·.g)).length) -> (ts.map (·.g))[j] < (ts.map (·.g))[q + i] := fun j hj hjl => by
  have := hri j (q + i) hj (by omega)
  rw [intGetD hjl,intGetD (show q + i < (ts.map (·.g)).length by omega)] at this
  exact this
 have hpl : insPos (ts.map (·.g)) g < (ts.map (·.g)).length := by omega
 have hgp : g <= (ts.map (·.g))[insPos (ts.map (·.g)) g] := by
  have := (insPos_all (ts.map (·.g)) g).2.2 hpl
  rw [intGetD hpl] at this
  exact this
 by_cases hf : foundT ts g = true
 ·rw [if_pos hf] at hq
  have := hlt (insPos (ts.map (·.g)) g) (by omega) hpl
  omega
 ·rw [if_neg hf] at hq
  by_cases h0 : i = 0
  ·have hne : (ts.map (·.g))[insPos (ts.map (·.g)) g] ≠ g := by
    intro e
    apply hf
    unfold foundT
    rw [decide_eq_true_eq]
    rw [List.length_map] at hpl
    refine ⟨hpl,?_⟩
    simpa [hpl] using e
   have e2 : (ts.map (·.g))[q + i] = (ts.map (·.g))[insPos (ts.map (·.g)) g] := by
    congr 1
    omega
   rw [e2]
   omega
  ·have := hlt (insPos (ts.map (·.g)) g) (by omega) hpl
   omega
theorem pinT_rise {ts : List Tm} (g : Int) (ns : List Int) (hR : (ts.map (·.g)).Pairwise (· < ·)) : ((pinT ts g ns).map (·.g)).Pairwise (· < ·) := by
 have hb := pin_behind (g := g) hR
 have hpq : insPos (ts.map (·.g)) g <= (if foundT ts g = true then insPos (ts.map (·.g)) g + 1 else insPos (ts.map (·.g)) g) := by split <;> omega
 unfold pinT
 rw [List.map_append,List.map_append,List.map_take,List.map_drop]
 generalize (if foundT ts g = true then insPos (ts.map (·.g)) g + 1 else insPos (ts.map (·.g)) g) = q at *
 split
 ·exact rising_cut hR _ _ hpq
 ·exact rising_put hR g q hpq hb
theorem pinT_mem {ts : List Tm} {g : Int} {ns : List Int} {t : Tm} (h : t ∈ pinT ts g ns) : t ∈ ts ∨ t = ⟨g,ns⟩ := by
 unfold pinT at h
 rcases List.mem_append.1 h with h | h
 ·exact .inl (List.mem_of_mem_take h)
 ·rcases List.mem_append.1 h with h | h
  ·split at h
   ·simp at h
   ·exact .inr (by simpa using h)
  ·exact .inl (List.mem_of_mem_drop h)
theorem stand_ch {m : Mp} {k id z r wt g : Int} {ns : List Int} (hM : MayM m) (h : refP m k id z r wt g ns = 0) : StandOk (chM m k id z r wt g ns) := by
 have hS := hM.stand
 obtain ⟨-,-,-,h8,-,-⟩ := ref_may h
 unfold chM
 split
 ·exact hS
 rename_i n9
 split
 ·rename_i k8
  obtain ⟨hg,hns⟩ := h8 k8
  have hR := pinT_rise g ns ((rising_iff _).1 hS.rise)
  have hin : ∀ x ∈ (pinT m.tms g ns).map (·.g),0 <= x /\ x < m.gr := fun x hx => by
   obtain ⟨t,ht,rfl⟩ := List.mem_map.1 hx
   rcases pinT_mem ht with ht | rfl
   ·obtain ⟨i,hi,rfl⟩ := memT_getD ht
    exact (hM.tms i hi).1
   ·exact hg
  refine ⟨hS.size,hS.nds,(rising_iff _).2 hR,?_,fun t ht => ?_⟩
  ·have := hM.cnt.2.2
   rcases rising_few hR hin with h | h
   ·rw [List.length_map] at h
    show (pinT m.tms g ns).length <= 8
    omega
   ·have e := congrArg List.length h
    rw [List.length_map] at e
    show (pinT m.tms g ns).length <= 8
    rw [e]
    exact Nat.zero_le _
  ·rcases pinT_mem ht with ht | rfl
   ·exact hS.ns t ht
   ·exact hns
 rename_i n8
 split
 ·exact ⟨hS.size,hS.nds,hS.rise,hS.few,hS.ns⟩
 rename_i n10
 exact ⟨hS.size,mayN_ch hM.nds h n8 n9 n10,hS.rise,hS.few,hS.ns⟩
theorem change_any {pm N : Nat} {m : Mp} {s : MV} {k id z r wt g : Int} {ns : List Int} (hM : MayM m) (href : refP m k id z r wt g ns = 0) (ad : Option Addr) (ld cd : Nat) (w : World) (hL : LiveM G w pm N m s) (hN : N <= w.heap.size) (hD : ∀ W,Below N w W -> RowI W ad ld cd ns) (hG : ∀ b,w.heap.size <= b -> G b) :
  Calls Tryz.prog 71 #[.pointer (some ⟨pm,0,none⟩),.agg #[.int .i64 k,.int .i64 id,.int .i64 z,.int .i64 r,.int .i64 wt,.int .i64 g,.slice ad ld cd]] w fun e w' => ChgPost G w pm N (chM m k id z r wt g ns) e w' := by
 obtain ⟨hK,-,h1,h8,h10,h6⟩ := ref_may href
 have hk := mayK_range hK
 have hS := hM.stand
 by_cases k9 : k = 9
 ·subst k9
  have e : chM m 9 id z r wt g ns = m := if_pos rfl
  rw [e]
  exact change_none id z r wt g ad ld cd w hL hN
 by_cases k8 : k = 8
 ·subst k8
  have e : chM m 8 id z r wt g ns = { m with tms := pinT m.tms g ns } := by
   unfold chM
   rw [if_neg (by decide),if_pos rfl]
  rw [e]
  obtain ⟨-,hns⟩ := h8 rfl
  have := hS.size
  exact change_pin id z r wt g _ ad ld cd w hL hN fun W hb hl hNW => pin_any hS.rise hS.few 8 id z r wt g ad ld cd ns W hl hNW (fun W' hb' => hD W' (hb.trans hb')) (by omega) fun b hb2 => hG b (Nat.le_trans hb.size hb2)
 by_cases k10 : k = 10
 ·subst k10
  have e : chM m 10 id z r wt g ns = { m with trs := cleanT m.trs g.toNat } := by
   unfold chM
   rw [if_neg (by decide),if_neg (by decide),if_pos rfl]
  rw [e]
  obtain ⟨g0,g1⟩ := h10 rfl
  have hl := hM.trs.1
  have := change_clean (G := G) id z r wt g.toNat (by omega) ad ld cd w hL hN
  rw [Int.toNat_of_nonneg g0] at this
  exact this
 have e : chM m k id z r wt g ns = { m with nds := chNd m.nds k id z r wt } := by
  unfold chM
  rw [if_neg k9,if_neg k8,if_neg k10]
 rw [e]
 refine change_node k id z r wt g _ ⟨k9,k8,k10⟩ ad ld cd w hL hN fun W hl hNW => ?_
 unfold chNd
 by_cases k1 : k = 1
 ·rw [if_pos k1]
  exact changeNode_add9 hS.nds k id z r wt g k1 (h1 k1).1 ad ld cd W hl hNW
 ·rw [if_neg k1]
  obtain ⟨hf,-⟩ := h6 k1 k8 k9 k10
  by_cases k7 : k = 7
  ·rw [if_pos k7]
   exact changeNode_rem9 hS.nds k id z r wt g k7 hf ad ld cd W hl hNW
  ·rw [if_neg k7]
   exact changeNode_set9 hS.nds k id z r wt g (by omega) hf ad ld cd W hl hNW
end Go.Proofs.YtcncbjknfcjnmaaGreat.Tp
namespace Go.Proofs.YtcncbjknfcjnmaaGreat.Tp
open Go.ChangeShapes Go.WideShapes Go.ChangeAt Go.RowKit
variable {G : Nat -> Prop}
def turnTrs9 (m m1 : Mp) (cn : Nat -> Bool) : Nat -> List Tr
 | 0 => m1.trs
 | k + 1 => if cn k = true /\ actP m k ≠ actP m1 k then (if m.mn <= ((actP m k).length : Int) then leftT (turnTrs9 m m1 cn k) k (actP m k) (m.ep + 1) else sinceT (turnTrs9 m m1 cn k) k (m.ep + 1)) else turnTrs9 m m1 cn k
def turnM9 (m m1 : Mp) (cn : Nat -> Bool) (k : Nat) : Mp := { m1 with ep := m.ep + 1,trs := turnTrs9 m m1 cn k }
theorem turnTrs9_len (m m1 : Mp) (cn : Nat -> Bool) (k : Nat) : (turnTrs9 m m1 cn k).length = m1.trs.length := by
 induction k with
 | zero => rfl
 | succ k ih =>
  unfold turnTrs9
  split
  ·split
   ·rw [leftT,List.length_set]; exact ih
   ·rw [sinceT,List.length_set]; exact ih
  ·exact ih
theorem turnTrs9_at (m m1 : Mp) (cn : Nat -> Bool) (k j : Nat) (h : k <= j) : (turnTrs9 m m1 cn k).getD j tr0 = m1.trs.getD j tr0 := by
 induction k with
 | zero => rfl
 | succ k ih =>
  unfold turnTrs9
  split
  ·split
   ·rw [leftT,trGetD_ne _ _ _ _ (by omega)]; exact ih (by omega)
   ·rw [sinceT,trGetD_ne _ _ _ _ (by omega)]; exact ih (by omega)
  ·exact ih (by omega)
def ActR (G : Nat -> Prop) (w : World) (N : Nat) (m : Mp) (cn : Nat -> Bool) (L : List Value) (i : Nat) : Prop := ∃ a l c,L[i]? = some (.slice a l c) /\ (cn i = true -> IRow w N (.slice a l c) (actP m i) /\ ∀ b,(Value.slice a l c).ownBlock = some b -> ¬ G b)
theorem ActR.below {w w' : World} {N : Nat} {m : Mp} {cn : Nat -> Bool} {L : List Value} {i : Nat} (h : ActR G w N m cn L i) (hb : Below w.heap.size w w') : ActR G w' N m cn L i := by
 obtain ⟨a,l,c,h1,h2⟩ := h
 exact ⟨a,l,c,h1,fun hc => ⟨own_below (h2 hc).1 hb,(h2 hc).2⟩⟩
theorem ActR.kq {w w' : World} {N : Nat} {m : Mp} {cn : Nat -> Bool} {L : List Value} {i : Nat} (h : ActR G w N m cn L i) (hb : Kq w w') : ActR G w' N m cn L i := by
 obtain ⟨a,l,c,h1,h2⟩ := h
 exact ⟨a,l,c,h1,fun hc => ⟨own_kq (h2 hc).1 hb (by unfold TurnT; decide),(h2 hc).2⟩⟩
theorem own_kz {w w' : World} {ga B s n : Nat} {E : TypeId} {v : Value} {xs : List Value} (h : w.ownsRow B E s v n xs) (k : Kz ga w w') (hE : ¬ TurnT E) (hne : v.ownBlock ≠ some ga) : w'.ownsRow B E s v n xs := by
 refine ⟨h.1,?_⟩
 rcases h.2 with h | ⟨g,cap,cur,hv,hB,hh,r⟩
 ·exact .inl h
 ·refine .inr ⟨g,cap,cur,hv,hB,(k.block g cur E _ hh hE ?_).trans hh,r⟩
  rintro rfl
  rw [hv] at hne
  exact hne rfl
theorem ActR.kz {w w' : World} {ga N : Nat} {m : Mp} {cn : Nat -> Bool} {L : List Value} {i : Nat} (h : ActR G w N m cn L i) (hb : Kz ga w w') (hd : ∀ v,L[i]? = some v -> cn i = true -> v.ownBlock ≠ some ga) : ActR (fun b => G b ∨ b = ga) w' N m cn L i := by
 obtain ⟨a,l,c,h1,h2⟩ := h
 refine ⟨a,l,c,h1,fun hc => ⟨own_kz (h2 hc).1 hb (by unfold TurnT; decide) (hd _ h1 hc),fun b hb2 => ?_⟩⟩
 rintro (hg | rfl)
 ·exact (h2 hc).2 b hb2 hg
 ·exact hd _ h1 hc hb2
def DistL (cn : Nat -> Bool) (L : List Value) (k : Nat) : Prop := ∀ i j,i < j -> j < k -> cn i = true -> cn j = true -> ∀ u v,L[i]? = some u -> L[j]? = some v -> ∀ b,u.ownBlock = some b -> v.ownBlock ≠ some b
theorem LiveM.else9 {w w' : World} {pm N b : Nat} {T : TypeId} {m : Mp} {s : MV} (h : LiveM G w pm N m s) (hg : w.grownBy w' (some b)) (ht : BoxTy w b T) (h1 : T ≠ 26) (h2 : T ≠ 72) (h3 : T ≠ 59) (h4 : T ≠ 53) (h5 : T ≠ 55) (h6 : T ≠ 3) : LiveM G w' pm N m s := by
 have hne : pm ≠ b := boxTy_ne h.ty ht (Ne.symm h1)
 obtain ⟨cur,hc⟩ := ht
 refine ⟨h.box.else hg hne,?_,⟨own_type h.own.nds hg hc h2,h.own.ndl,h.own.tms.type hg hc h3 h6,h.own.tml,h.own.trs.type hg hc h4 h5 h6,h.own.trl⟩,h.ge⟩
 obtain ⟨cm,hcm⟩ := h.ty
 exact ⟨cm,(hg.block pm (lt_of_get hcm) (by simpa using hne)).trans hcm⟩
theorem LiveM.epoch9 {w : World} {pm N : Nat} {m : Mp} {s : MV} (h : LiveM G w pm N m s) (z : Int) : LiveM G (w.setCell ⟨pm,0,none⟩ (.int .i64 z)) pm N { m with ep := z } s /\ Kq w (w.setCell ⟨pm,0,none⟩ (.int .i64 z)) := by
 have hgr := set_grownBy w pm 0 (.int .i64 z)
 have hkp := kp_set h.ty (.inl rfl) 0 (.int .i64 z)
 obtain ⟨cm,hcm⟩ := h.ty
 exact ⟨⟨h.box.put0 _,BoxTy.kp ⟨cm,hcm⟩ hkp,⟨own_type h.own.nds hgr hcm (by decide),h.own.ndl,h.own.tms.type hgr hcm (by decide) (by decide),h.own.tml,h.own.trs.type hgr hcm (by decide) (by decide) (by decide),h.own.trl⟩,h.ge⟩,hkp.kq⟩
theorem box_kz {w w' : World} {ga b : Nat} {T : TypeId} {v0 v1 v2 v3 v4 v5 v6 : Value} (h : Box7 w b v0 v1 v2 v3 v4 v5 v6) (ht : BoxTy w b T) (k : Kz ga w w') (hT : ¬ TurnT T) (hne : b ≠ ga) : Box7 w' b v0 v1 v2 v3 v4 v5 v6 /\ BoxTy w' b T := by
 obtain ⟨cur,ht⟩ := ht
 have hb := k.block b cur T _ ht hT hne
 obtain ⟨⟨h0,h1,h2,h3,h4,h5,h6⟩,⟨f0,f1,f2,f3,f4,f5,f6⟩⟩ := h
 exact ⟨⟨⟨(World.cell?_of_block (a := ⟨b,0,none⟩) hb).trans h0,(World.cell?_of_block (a := ⟨b,1,none⟩) hb).trans h1,(World.cell?_of_block (a := ⟨b,2,none⟩) hb).trans h2,(World.cell?_of_block (a := ⟨b,3,none⟩) hb).trans h3,(World.cell?_of_block (a := ⟨b,4,none⟩) hb).trans h4,(World.cell?_of_block (a := ⟨b,5,none⟩) hb).trans h5,(World.cell?_of_block (a := ⟨b,6,none⟩) hb).trans h6⟩,
  ⟨(World.frozen?_of_block (a := ⟨b,0,none⟩) hb).trans f0,(World.frozen?_of_block (a := ⟨b,1,none⟩) hb).trans f1,(World.frozen?_of_block (a := ⟨b,2,none⟩) hb).trans f2,(World.frozen?_of_block (a := ⟨b,3,none⟩) hb).trans f3,(World.frozen?_of_block (a := ⟨b,4,none⟩) hb).trans f4,(World.frozen?_of_block (a := ⟨b,5,none⟩) hb).trans f5,(World.frozen?_of_block (a := ⟨b,6,none⟩) hb).trans f6⟩⟩,⟨cur,hb.trans ht⟩⟩
theorem box_kq {w w' : World} {b : Nat} {T : TypeId} {v0 v1 v2 v3 v4 v5 v6 : Value} (h : Box7 w b v0 v1 v2 v3 v4 v5 v6) (ht : BoxTy w b T) (k : Kq w w') (hT : ¬ TurnT T) : Box7 w' b v0 v1 v2 v3 v4 v5 v6 /\ BoxTy w' b T := box_kz h ht (k.kz (b + 1)) hT (by omega)
end Go.Proofs.YtcncbjknfcjnmaaGreat.Tp
namespace Go.Proofs.YtcncbjknfcjnmaaGreat.Tp
open Go.ChangeShapes Go.WideShapes Go.ChangeAt Go.RowKit
variable {G : Nat -> Prop}
theorem turnM9_same {m m1 : Mp} {cn : Nat -> Bool} {k : Nat} (h : ¬ (cn k = true /\ actP m k ≠ actP m1 k)) : turnM9 m m1 cn (k + 1) = turnM9 m m1 cn k := by
 unfold turnM9
 rw [show turnTrs9 m m1 cn (k + 1) = turnTrs9 m m1 cn k from if_neg h]
theorem turnM9_long {m m1 : Mp} {cn : Nat -> Bool} {k : Nat} (h : cn k = true /\ actP m k ≠ actP m1 k) (hl : m.mn <= ((actP m k).length : Int)) : turnM9 m m1 cn (k + 1) = { turnM9 m m1 cn k with trs := leftT (turnM9 m m1 cn k).trs k (actP m k) (turnM9 m m1 cn k).ep } := by
 unfold turnM9
 rw [show turnTrs9 m m1 cn (k + 1) = leftT (turnTrs9 m m1 cn k) k (actP m k) (m.ep + 1) from (if_pos h).trans (if_pos hl)]
theorem turnM9_short {m m1 : Mp} {cn : Nat -> Bool} {k : Nat} (h : cn k = true /\ actP m k ≠ actP m1 k) (hl : ¬ m.mn <= ((actP m k).length : Int)) : turnM9 m m1 cn (k + 1) = { turnM9 m m1 cn k with trs := sinceT (turnM9 m m1 cn k).trs k (turnM9 m m1 cn k).ep } := by
 unfold turnM9
 rw [show turnTrs9 m m1 cn (k + 1) = sinceT (turnTrs9 m m1 cn k) k (m.ep + 1) from (if_pos h).trans (if_neg hl)]
set_option maxHeartbeats 4000000 in
set_option maxRecDepth 60000 in
theorem turn_any {pm N n : Nat} {m m1 : Mp} {s : MV} (e0 e1 e2 e3 e4 e5 e6 : Value) (cn : Nat -> Bool) (hS : StandOk m) (hS' : StandOk m1) (hgr : m.gr = (n : Int)) (hn8 : n <= 8) (htl : m1.trs.length = n) (hep : 0 <= m.ep /\ m.ep < 2147483647) (hmn : 1 <= m.mn /\ m.mn <= 3)
  (hm1 : m1.mn = m.mn /\ m1.ep = m.ep) (hpast : ∀ k,k < n -> (m1.trs.getD k tr0).past.length <= 100) (hlen : ∀ k : Nat,k < n -> (actP m k).length <= 64)
  (w : World)
  (hCon : ∀ W (g : Nat),Calls Tryz.prog 70 #[.agg #[e0,e1,e2,e3,e4,e5,e6],.int .i64 (g : Int)] W fun e w' => e = .returned (.bool (cn g)) /\ Below W.heap.size W w')
  (hCh : ∀ (G1 : Nat -> Prop) W,Below N w W -> LiveM G1 W pm N m s -> N <= W.heap.size -> (∀ b,W.heap.size <= b -> G1 b) -> Calls Tryz.prog 71 #[.pointer (some ⟨pm,0,none⟩),.agg #[e0,e1,e2,e3,e4,e5,e6]] W fun e w' => ChgPost G1 W pm N m1 e w')
  (hL : LiveM (fun b => b < w.heap.size) w pm N m s) (hN : N <= w.heap.size) :
  Calls Tryz.prog 38 #[.pointer (some ⟨pm,0,none⟩),.agg #[e0,e1,e2,e3,e4,e5,e6]] w fun e w' => e = .returned (.tuple #[]) /\ (∃ G' s',LiveM G' w' pm N (turnM9 m m1 cn n) s') /\ Below N w w' := by
 have hb1 := below_alloc w (.cells #[e0,e1,e2,e3,e4,e5,e6] 37)
 have HL1 : Hid (LiveM (fun b => b < w.heap.size) (w.alloc (.cells #[e0,e1,e2,e3,e4,e5,e6] 37)) pm N m s) := hL.below hb1
 have HBD : Hid (Box7 (w.alloc (.cells #[e0,e1,e2,e3,e4,e5,e6] 37)) w.heap.size e0 e1 e2 e3 e4 e5 e6) := Box7.new w _ _ _ _ _ _ _ _
 have HTD : Hid (BoxTy (w.alloc (.cells #[e0,e1,e2,e3,e4,e5,e6] 37)) w.heap.size 37) := BoxTy.new _ _ _
 generalize hw1 : w.alloc (.cells #[e0,e1,e2,e3,e4,e5,e6] 37) = w1 at *
 obtain ⟨i0,hi,hz0,hz1,hz2⟩ := info_parts infoInts8
 have hn8' : (n : Int) <= 8 := by omega
 obtain ⟨wM,hmk,hownM,hgM⟩ := run_make_full (P := Tryz.prog) w1 w1.heap.size 49 35 i0 (.slice none 0 0) 1 Tryz.underlying49 hi hz0 hz1 .i64 .i64 n (by rw [hz2]; omega) (by unfold maxLen; omega) (Nat.le_refl _)
 have hbM : Below w1.heap.size w1 wM := ⟨hgM.os,hgM.tape,hgM.output,hgM.size,fun k hk => hgM.block k hk (by simp)⟩
 have hxs : (madeCells (Value.slice none 0 0).cells (n * 1)).toList = List.replicate n (Value.slice none 0 0) := by
  rw [Nat.mul_one]
  exact toList_madeCells_one _ _
 rw [hxs] at hownM
 have HOM : Hid (wM.ownsRow N 35 1 (.slice (some ⟨w1.heap.size,0,none⟩) n n) n (List.replicate n (.slice none 0 0))) := own_base hownM (Nat.le_trans hN hb1.size)
 have HLM : Hid (LiveM (fun b => b < w.heap.size) wM pm N m s) := HL1.out.below hbM
 have HDM : Hid (Box7 wM w.heap.size e0 e1 e2 e3 e4 e5 e6) := HBD.out.below hbM
 have HTM : Hid (BoxTy wM w.heap.size 37) := HTD.out.kp (kp_below hbM)
 have hbwM : Below N w wM := (below2 hb1 hbM).mono hN
 have HCon : Hid (∀ W (g : Nat),Calls Tryz.prog 70 #[.agg #[e0,e1,e2,e3,e4,e5,e6],.int .i64 (g : Int)] W fun e w' => e = .returned (.bool (cn g)) /\ Below W.heap.size W w') := hCon
 have HCh : Hid (∀ (G1 : Nat -> Prop) W,Below N w W -> LiveM G1 W pm N m s -> N <= W.heap.size -> (∀ b,W.heap.size <= b -> G1 b) -> Calls Tryz.prog 71 #[.pointer (some ⟨pm,0,none⟩),.agg #[e0,e1,e2,e3,e4,e5,e6]] W fun e w' => ChgPost G1 W pm N m1 e w') := hCh
 have HACT : Hid (∀ W (k : Nat),k < n -> LiveM (fun b => b < w.heap.size) W pm N m s -> Calls Tryz.prog 56 #[.agg (mapCells m s).toArray,.int .i64 (k : Int)] W fun e w' => IntsPost (actP m k) W e w') := fun W k hk hl => acting_any hS (by omega) W hl.own.map.nds hl.own.map.tms
 have HACT' : Hid (∀ (G1 : Nat -> Prop) W (k j : Nat) s',k < n -> LiveM G1 W pm N (turnM9 m m1 cn j) s' -> Calls Tryz.prog 56 #[.agg (mapCells (turnM9 m m1 cn j) s').toArray,.int .i64 (k : Int)] W fun e w' => IntsPost (actP m1 k) W e w') := fun G1 W k j s' hk hl => by
  have := acting_any (m := turnM9 m m1 cn j) (s := s') (g := (k : Int)) (stand_more hS' _ _) (by omega) W hl.own.map.nds hl.own.map.tms
  rw [show actP (turnM9 m m1 cn j) (k : Int) = actP m1 k from rfl] at this
  exact this
 have HPA := Hid.mk9 hpast
 have HLN := Hid.mk9 hlen
 have HMN := Hid.mk9 hm1
 have HTL := Hid.mk9 htl
 have HEP := Hid.mk9 hep
 have HM3 := Hid.mk9 hmn
 have HNW := Hid.mk9 hN
 have hNw1 : N <= w1.heap.size := Nat.le_trans hN hb1.size
 have hpd : w.heap.size < w1.heap.size := HBD.out.lt
 have hgd := HL1.out.box
 rw [hgr] at hgd
 obtain ⟨⟨c0,c1,c2,c3,c4,c5,c6⟩,-⟩ := hgd
 clear hgr hownM hgM hxs hi hz0 hz1 hz2 hL hCon hCh hS hS' hpast hlen hm1 htl hep hmn HL1 HBD HTD
 go_enter Tryz.func38,Tryz.ntmps38
 go_upto_region 1 with fail
 clear hw1
 go_wp2_with fail
 clear hmk c0 c1 c2 c3 c4 c5 c6
 go_loopw [5,15] (fun _ i wr => ∃ (k : Nat) (L : List Value),k <= n /\ i = .int .i64 k /\ L.length = n /\ Hid (∀ j,j < n -> ∃ a l c,L[j]? = some (.slice a l c)) /\ Hid (∀ j,j < k -> ActR (fun b => b < w.heap.size) wr N m cn L j) /\ Hid (DistL cn L k) /\ Hid (wr.ownsRow N 35 1 (.slice (some ⟨w1.heap.size,0,none⟩) n n) n L) /\ Hid (LiveM (fun b => b < w.heap.size) wr pm N m s) /\ Hid (Box7 wr w.heap.size e0 e1 e2 e3 e4 e5 e6) /\ Hid (BoxTy wr w.heap.size 37) /\ Below N w wr) (fun _ i _ => n - (intOf i).toNat)
 case atStart => exact ⟨0,_,Nat.zero_le _,rfl,by simp,(fun j hj => ⟨none,0,0,by simp [hj]⟩),(fun j hj => absurd hj (Nat.not_lt_zero _)),(fun i j _ hj => absurd hj (Nat.not_lt_zero _)),HOM,HLM,HDM,HTM,hbwM⟩
 case round =>
  obtain ⟨k,L,hk,rfl,hLl,hSl,hA,hDi,hE,hLv,hD,hTD,hbel⟩ := hrel
  clear HOM HLM HDM HTM hbwM
  by_cases hlt : k < n
  ·have hk1 : (k : Int) < (n : Int) := by omega
   have hk0 : (0 : Int) <= (k : Int) := by omega
   obtain ⟨⟨d0,d1,d2,d3,d4,d5,d6⟩,-⟩ := hD.out
   have hlw := hE.out.lt w1.heap.size rfl
   have HC1 := Hid.mk9 (HCon.out wr k)
   have hNr : N <= wr.heap.size := Nat.le_trans hNw1 (Nat.le_of_lt hlw.2)
   cases hcn : cn k with
   | false =>
    have HNX : Hid (∀ w2,Below wr.heap.size wr w2 -> (∀ j,j < k + 1 -> ActR (fun b => b < w.heap.size) w2 N m cn L j) /\ DistL cn L (k + 1)) := fun w2 hb2 => ⟨fun j hj => by
     by_cases e : j = k
     ·subst e
      obtain ⟨a,l,c,h⟩ := hSl.out j hlt
      exact ⟨a,l,c,h,fun h => by rw [hcn] at h; cases h⟩
     ·exact (hA.out j (by omega)).below hb2,fun i j hij hj ci cj => by
     by_cases e : j = k
     ·subst e
      rw [hcn] at cj
      cases cj
     ·exact hDi.out i j hij (by omega) ci cj⟩
    rw [hcn] at HC1
    clear hA hDi hcn
    go_wp2_with (go_at_call 70; refine (HC1.out).mono ?_; rintro e w2 ⟨rfl,hb2⟩)
    have h9 := HNX.out w2 hb2
    exact ⟨⟨k + 1,L,by omega,by go_num,hLl,hSl,h9.1,h9.2,own_below hE.out hb2,hLv.out.below hb2,hD.out.below hb2,hTD.out.kp (kp_below hb2),hbel.trans (hb2.mono hNr)⟩,by simp [intOf]; omega⟩
   | true =>
    rw [hcn] at HC1
    have HCN := Hid.mk9 hcn
    clear hcn
    go_upto_region 6 with (go_at_call 70; refine (HC1.out).mono ?_; rintro e w2 ⟨rfl,hb2⟩)
    have HLv2 : Hid (LiveM (fun b => b < w.heap.size) w2 pm N m s) := hLv.out.below hb2
    obtain ⟨⟨c0,c1,c2,c3,c4,c5,c6⟩,-⟩ := HLv2.out.box
    have HAC : Hid (Calls Tryz.prog 56 #[.agg #[.int .i64 m.ep,.int .i64 m.size,.int .i64 m.mn,.int .i64 m.gr,.slice s.aN s.lN s.cN,.slice s.aT s.lT s.cT,.slice s.aR s.lR s.cR],.int .i64 (k : Int)] w2 fun e w' => IntsPost (actP m k) w2 e w') := HACT.out w2 k hlt HLv2.out
    obtain ⟨xk,hxk⟩ : ∃ xk,L[k]? = some xk := ⟨_,List.getElem?_eq_getElem (by omega)⟩
    have HFA : Hid (∀ w3 a3 cp3,Below w2.heap.size w2 w3 -> IntsOwn w2.heap.size w3 a3 cp3 (actP m k) ->
      (w3.cell? ⟨w1.heap.size,k,none⟩ = some xk /\ w3.frozen? ⟨w1.heap.size,k,none⟩ = false) /\
      (∀ j,j < n -> ∃ a l c,(L.set k (.slice a3 (actP m k).length cp3))[j]? = some (.slice a l c)) /\
      (∀ j,j < k + 1 -> ActR (fun b => b < w.heap.size) (w3.setCell ⟨w1.heap.size,k,none⟩ (.slice a3 (actP m k).length cp3)) N m cn (L.set k (.slice a3 (actP m k).length cp3)) j) /\
      DistL cn (L.set k (.slice a3 (actP m k).length cp3)) (k + 1) /\
      (w3.setCell ⟨w1.heap.size,k,none⟩ (.slice a3 (actP m k).length cp3)).ownsRow N 35 1 (.slice (some ⟨w1.heap.size,0,none⟩) n n) n (L.set k (.slice a3 (actP m k).length cp3)) /\
      LiveM (fun b => b < w.heap.size) (w3.setCell ⟨w1.heap.size,k,none⟩ (.slice a3 (actP m k).length cp3)) pm N m s /\
      Box7 (w3.setCell ⟨w1.heap.size,k,none⟩ (.slice a3 (actP m k).length cp3)) w.heap.size e0 e1 e2 e3 e4 e5 e6 /\
      BoxTy (w3.setCell ⟨w1.heap.size,k,none⟩ (.slice a3 (actP m k).length cp3)) w.heap.size 37 /\
      Below N w (w3.setCell ⟨w1.heap.size,k,none⟩ (.slice a3 (actP m k).length cp3))) := fun w3 a3 cp3 hb3 hO3 => by
     have hb23 := below2 hb2 hb3
     have hE3 := own_below hE.out hb23
     have hgr3 := set_grownBy w3 w1.heap.size k (.slice a3 (actP m k).length cp3)
     obtain ⟨⟨ce,hce⟩,-⟩ := row_ty hE3
     have hww2 : w.heap.size <= w2.heap.size := Nat.le_trans (Nat.le_of_lt hpd) (Nat.le_trans (Nat.le_of_lt hlw.2) hb2.size)
     have hN2 : N <= w2.heap.size := Nat.le_trans hNw1 (Nat.le_trans (Nat.le_of_lt hlw.2) hb2.size)
     refine ⟨⟨(hE3.cellAt k (by omega)).trans hxk,hE3.frozenAt k⟩,fun j hj => ?_,fun j hj => ?_,fun i j hij hj ci cj u v hu hv b hb => ?_,(hE3.stored k _).1,(hLv.out.below hb23).else9 hgr3 ⟨ce,hce⟩ (by decide) (by decide) (by decide) (by decide) (by decide) (by decide),(hD.out.below hb23).else hgr3 (by omega),?_,(hbel.trans (hb23.mono hNr)).setCell (p := ⟨w1.heap.size,k,none⟩) hNw1 _⟩
     ·by_cases hjk : j = k
      ·subst hjk
       exact ⟨_,_,_,List.getElem?_set_self (by omega)⟩
      ·obtain ⟨a,l,c,q1⟩ := hSl.out j hj
       exact ⟨a,l,c,by rw [List.getElem?_set_ne (by omega)]; exact q1⟩
     ·by_cases hjk : j = k
      ·subst hjk
       refine ⟨a3,_,cp3,List.getElem?_set_self (by omega),fun _ => ⟨own_type (own_base hO3.2 hN2) hgr3 hce (by decide),fun b hb hlt => ?_⟩⟩
       have := (hO3.2.lt b hb).1
       omega
      ·obtain ⟨a,l,c,q1,q2⟩ := hA.out j (by omega)
       exact ⟨a,l,c,by rw [List.getElem?_set_ne (by omega)]; exact q1,fun hc => ⟨own_type (own_below (q2 hc).1 hb23) hgr3 hce (by decide),(q2 hc).2⟩⟩
     ·rw [List.getElem?_set_ne (by omega)] at hu
      by_cases hjk : j = k
      ·subst hjk
       rw [List.getElem?_set_self (by omega)] at hv
       injection hv with hv
       subst hv
       intro hb'
       obtain ⟨a,l,c,q1,q2⟩ := hA.out i (by omega)
       rw [q1] at hu
       injection hu with hu
       subst hu
       have := ((q2 ci).1.lt b hb).2
       have := (hO3.2.lt b hb').1
       have := hb2.size
       omega
      ·rw [List.getElem?_set_ne (by omega)] at hv
       exact hDi.out i j hij (by omega) ci cj u v hu hv b hb
     ·obtain ⟨cd,hcd⟩ := hTD.out.kp (kp_below hb23)
      exact ⟨cd,(hgr3.block w.heap.size (lt_of_get hcd) (by simp; omega)).trans hcd⟩
    clear hA hE hLv hD hTD hbel d0 d1 d2 d3 d4 d5 d6 HLv2 hDi hSl
    generalize actP m k = ac at *
    go_wp2_with (go_at_call 56; refine HAC.out.mono ?_; rintro e w3 ⟨hb3,a3,cp3,rfl,hO3⟩; obtain ⟨⟨xi,fi⟩,y0,y1,y2,y3,y4,y5,y6,y7⟩ := HFA.out w3 a3 cp3 hb3 hO3; have Y0 := Hid.mk9 y0; have Y1 := Hid.mk9 y1; have Y2 := Hid.mk9 y2; have Y3 := Hid.mk9 y3; have Y4 := Hid.mk9 y4; have Y5 := Hid.mk9 y5; have Y6 := Hid.mk9 y6; clear y0 y1 y2 y3 y4 y5 y6 hO3)
    exact ⟨⟨k + 1,_,by omega,by go_num,by simp [hLl],Y0,Y1,Y2,Y3,Y4,Y5,Y6,y7⟩,by simp [intOf]; omega⟩
  ·obtain rfl : k = n := by omega
   obtain ⟨⟨d0,d1,d2,d3,d4,d5,d6⟩,-⟩ := hD.out
   have hNr : N <= wr.heap.size := Nat.le_trans HNW.out hbel.size
   have hlw : w1.heap.size = w1.heap.size := rfl
   have HC2 : Hid (Calls Tryz.prog 71 #[.pointer (some ⟨pm,0,none⟩),.agg #[e0,e1,e2,e3,e4,e5,e6]] wr fun e w' => ChgPost (fun b => b < w.heap.size ∨ wr.heap.size <= b) wr pm N m1 e w') := HCh.out _ wr hbel (hLv.out.weak fun b hb => .inl hb) hNr (fun b hb => .inr hb)
   have HA1 : Hid (∀ j,j < k -> ActR (fun b => b < w.heap.size ∨ wr.heap.size <= b) wr N m cn L j) := fun j hj => by
    obtain ⟨a,l,c,q1,q2⟩ := hA.out j hj
    refine ⟨a,l,c,q1,fun hc => ⟨(q2 hc).1,fun b hb hg => ?_⟩⟩
    rcases hg with hg | hg
    ·exact (q2 hc).2 b hb hg
    ·have := ((q2 hc).1.lt b hb).2
     omega
   clear hA hLv
   generalize (fun b => b < w.heap.size ∨ wr.heap.size <= b) = G1 at HC2 HA1
   go_upto_region 9 with (go_at_call 71; refine HC2.out.mono ?_; rintro e w2 ⟨rfl,⟨s2,hl2⟩,hk2,hb2⟩; have HL2 := Hid.mk9 hl2; clear hl2)
   have hbw2 : Below N w w2 := hbel.trans hb2
   have HA2 : Hid (∀ j,j < k -> ActR G1 w2 N m cn L j) := fun j hj => (HA1.out j hj).kq hk2
   have HE2 : Hid (w2.ownsRow N 35 1 (.slice (some ⟨w1.heap.size,0,none⟩) k k) k L) := own_kq hE.out hk2 (by unfold TurnT; decide)
   have HD2 := Hid.mk9 (box_kq hD.out hTD.out hk2 (by unfold TurnT; decide))
   clear hE hD hTD hbel hk2 hb2 HC2 d0 d1 d2 d3 d4 d5 d6 hlw hNr HCh HACT HA1
   obtain ⟨⟨c0,c1,c2,c3,c4,c5,c6⟩,⟨f0,-⟩⟩ := HL2.out.box
   rw [HMN.out.2] at c0
   obtain ⟨hl3,hk3⟩ := HL2.out.epoch9 (m.ep + 1)
   have hb3 : Below N w (w2.setCell ⟨pm,0,none⟩ (.int .i64 (m.ep + 1))) := hbw2.setCell (p := ⟨pm,0,none⟩) HL2.out.ge _
   have HL3 : Hid (LiveM G1 (w2.setCell ⟨pm,0,none⟩ (.int .i64 (m.ep + 1))) pm N (turnM9 m m1 cn 0) s2) := hl3
   have HA3 : Hid (∀ j,j < k -> ActR G1 (w2.setCell ⟨pm,0,none⟩ (.int .i64 (m.ep + 1))) N m cn L j) := fun j hj => (HA2.out j hj).kq hk3
   have HE3 : Hid ((w2.setCell ⟨pm,0,none⟩ (.int .i64 (m.ep + 1))).ownsRow N 35 1 (.slice (some ⟨w1.heap.size,0,none⟩) k k) k L) := own_kq HE2.out hk3 (by unfold TurnT; decide)
   have HD3 := Hid.mk9 (box_kq HD2.out.1 HD2.out.2 hk3 (by unfold TurnT; decide))
   clear hl3 hk3 HL2 HA2 HE2 HD2 hbw2
   obtain ⟨he0,he1⟩ := HEP.out
   generalize hw3 : (w2.setCell ⟨pm,0,none⟩ (.int .i64 (m.ep + 1))) = w3 at *
   go_upto_region 10 with fail
   clear hw3 c0 c1 c2 c3 c4 c5 c6 f0 he0 he1
   go_wp2_with fail
   go_loopw [6,7,42] (fun _ _ i wr => ∃ (j : Nat),j <= k /\ i = .int .i64 j /\ Hid (∃ G' s',LiveM G' wr pm N (turnM9 m m1 cn j) s' /\ ∀ i,j <= i -> i < k -> ActR G' wr N m cn L i) /\ Hid (wr.ownsRow N 35 1 (.slice (some ⟨w1.heap.size,0,none⟩) k k) k L) /\ Hid (Box7 wr w.heap.size e0 e1 e2 e3 e4 e5 e6) /\ Hid (BoxTy wr w.heap.size 37) /\ Below N w wr) (fun _ _ i _ => k - (intOf i).toNat)
   case atStart => exact ⟨0,Nat.zero_le _,rfl,⟨G1,s2,HL3.out,fun i _ hi => HA3.out i hi⟩,HE3,HD3.out.1,HD3.out.2,hb3⟩
   case round =>
    obtain ⟨j,hj,rfl,hLv,hE,hD,hTD,hbel⟩ := hrel
    clear HA3 HE3 HL3 HD3 hb3
    obtain ⟨G2,s3,hl3,hA⟩ := hLv.out
    by_cases hlt : j < k
    ·have hj1 : (j : Int) < (k : Int) := by omega
     have hj0 : (0 : Int) <= (j : Int) := by omega
     obtain ⟨⟨d0,d1,d2,d3,d4,d5,d6⟩,-⟩ := hD.out
     have hlw := hE.out.lt w1.heap.size rfl
     obtain ⟨aj,lj,cj,hLj,hrow⟩ := hA j (Nat.le_refl _) hlt
     have xj := (hE.out.cellAt j (by omega)).trans hLj
     have HLJ := Hid.mk9 hLj
     have HA := Hid.mk9 hA
     have HLV := Hid.mk9 hl3
     have HRW := Hid.mk9 hrow
     have HLR : Hid (s3.lR = k) := by
      have h1 := hl3.own.trl
      have h2 : (turnM9 m m1 cn j).trs.length = m1.trs.length := turnTrs9_len m m1 cn j
      have := HTL.out
      show _ = _
      omega
     have hNr : N <= wr.heap.size := Nat.le_trans hNw1 (Nat.le_of_lt hlw.2)
     have HC1 : Hid (∀ W,Calls Tryz.prog 70 #[.agg #[e0,e1,e2,e3,e4,e5,e6],.int .i64 (j : Int)] W fun e w' => e = .returned (.bool (cn j)) /\ Below W.heap.size W w') := fun W => HCon.out W j
     clear hLj hrow hl3 hLv hA
     cases hcn : cn j with
     | false =>
      have HM2 : Hid (turnM9 m m1 cn (j + 1) = turnM9 m m1 cn j) := turnM9_same (by rw [hcn]; simp)
      rw [hcn] at HC1
      clear hcn
      go_wp2_with (go_at_call 70; refine (HC1.out _).mono ?_; rintro e w2 ⟨rfl,hb2⟩)
      exact ⟨⟨j + 1,by omega,by go_num,⟨G2,s3,by rw [HM2.out]; exact HLV.out.below hb2,fun i h1 h2 => (HA.out i (by omega) h2).below hb2⟩,own_below hE.out hb2,hD.out.below hb2,hTD.out.kp (kp_below hb2),hbel.trans (hb2.mono hNr)⟩,by simp [intOf]; omega⟩
     | true =>
      rw [hcn] at HC1
      obtain ⟨hI0,hG0⟩ := HRW.out hcn
      have hlj : lj = (actP m j).length := by
       obtain ⟨a9,c9,e9,-⟩ := own_slice hI0
       injection e9
      subst hlj
      have HROW := Hid.mk9 hI0
      have HGN := Hid.mk9 hG0
      have HA2 : Hid (∀ W,LiveM G2 W pm N (turnM9 m m1 cn j) s3 -> Calls Tryz.prog 56 #[.agg #[.int .i64 (turnM9 m m1 cn j).ep,.int .i64 (turnM9 m m1 cn j).size,.int .i64 (turnM9 m m1 cn j).mn,.int .i64 (turnM9 m m1 cn j).gr,.slice s3.aN s3.lN s3.cN,.slice s3.aT s3.lT s3.cT,.slice s3.aR s3.lR s3.cR],.int .i64 (j : Int)] W fun e w' => IntsPost (actP m1 j) W e w') := fun W hl => HACT'.out G2 W j j s3 hlt hl
      have HSAME : Hid (actP m j = actP m1 j -> turnM9 m m1 cn (j + 1) = turnM9 m m1 cn j) := fun h => turnM9_same (by rw [h]; simp)
      have HLONG : Hid (actP m j ≠ actP m1 j -> m.mn <= ((actP m j).length : Int) -> turnM9 m m1 cn (j + 1) = { turnM9 m m1 cn j with trs := leftT (turnM9 m m1 cn j).trs j (actP m j) (turnM9 m m1 cn j).ep }) := fun h hl => turnM9_long ⟨hcn,h⟩ hl
      have HSHORT : Hid (actP m j ≠ actP m1 j -> ¬ m.mn <= ((actP m j).length : Int) -> turnM9 m m1 cn (j + 1) = { turnM9 m m1 cn j with trs := sinceT (turnM9 m m1 cn j).trs j (turnM9 m m1 cn j).ep }) := fun h hl => turnM9_short ⟨hcn,h⟩ hl
      have HMM : Hid ((turnM9 m m1 cn j).mn = m.mn) := HMN.out.1
      have HPP : Hid (((turnM9 m m1 cn j).trs.getD j tr0).past.length <= 100) := by
       show ((turnTrs9 m m1 cn j).getD j tr0).past.length <= 100
       rw [turnTrs9_at _ _ _ _ _ (Nat.le_refl _)]
       exact HPA.out j hlt
      have HL64 := Hid.mk9 (HLN.out j hlt)
      have HDS : Hid (∀ ga,(Value.slice aj (actP m j).length cj).ownBlock = some ga -> ∀ i,j + 1 <= i -> i < k -> ∀ v,L[i]? = some v -> cn i = true -> v.ownBlock ≠ some ga) := fun ga hga i h1 h2 v hv hc => hDi.out j i (by omega) h2 hcn hc _ v HLJ.out hv ga hga
      clear HRW hI0 hG0 hcn HLJ
      generalize turnM9 m m1 cn j = M at *
      generalize actP m j = ac at *
      generalize actP m1 j = ac' at *
      by_cases hq : ac = ac'
      ·have HM2 : Hid (turnM9 m m1 cn (j + 1) = M) := HSAME.out hq
       have hdq : decide (ac = ac') = true := by simpa using hq
       have HEQ : Hid (∀ W a3 cp3,RowI W aj ac.length cj ac -> RowI W a3 ac'.length cp3 ac' -> Calls Tryz.prog 72 #[.slice aj ac.length cj,.slice a3 ac'.length cp3] W fun e w' => e = .returned (.bool true) /\ Grown W w') := fun W a3 cp3 h1 h2 => by
        have := eqInts aj a3 _ _ _ _ ac ac' W h1 h2
        rw [hdq] at this
        exact this
       clear HSAME HLONG HSHORT hq hdq
       go_wp2_with (first
       | (go_at_call 70; refine (HC1.out _).mono ?_; rintro e w2 ⟨rfl,hb2⟩; have HLV2 := Hid.mk9 (HLV.out.below hb2); obtain ⟨⟨c0,c1,c2,c3,c4,c5,c6⟩,-⟩ := HLV2.out.box)
       | (go_at_call 56; refine (HA2.out _ HLV2.out).mono ?_; rintro e w3 ⟨hb3,a3,cp3,rfl,hO3⟩; have HO3 := Hid.mk9 hO3; clear hO3)
       | (go_at_call 72; refine (HEQ.out _ _ _ (own_rowI (own_below (own_below HROW.out hb2) hb3)) (own_rowI HO3.out.2)).mono ?_; rintro e w4 ⟨rfl,hg4⟩))
       have hb4 := below2 hb2 (below2 hb3 (grown_below hg4))
       exact ⟨⟨j + 1,by omega,by go_num,⟨G2,s3,by rw [HM2.out]; exact HLV.out.below hb4,fun i h1 h2 => (HA.out i (by omega) h2).below hb4⟩,own_below hE.out hb4,hD.out.below hb4,hTD.out.kp (kp_below hb4),hbel.trans (hb4.mono hNr)⟩,by simp [intOf]; omega⟩
      ·have hdq : decide (ac = ac') = false := by simpa using hq
       by_cases hln : m.mn <= (ac.length : Int)
       ·have HM2 := Hid.mk9 (HLONG.out hq hln)
        obtain ⟨ga,cg,hv,-,-,-⟩ := own_some HROW.out (by have := HM3.out; omega)
        injection hv with hv1 hv2 hv3
        subst hv1
        have HEQ : Hid (∀ W a3 cp3,RowI W (some ⟨ga,0,none⟩) ac.length cj ac -> RowI W a3 ac'.length cp3 ac' -> Calls Tryz.prog 72 #[.slice (some ⟨ga,0,none⟩) ac.length cj,.slice a3 ac'.length cp3] W fun e w' => e = .returned (.bool false) /\ Grown W w') := fun W a3 cp3 h1 h2 => by
         have := eqInts (some ⟨ga,0,none⟩) a3 _ _ _ _ ac ac' W h1 h2
         rw [hdq] at this
         exact this
        have HLE : Hid (∀ W,Below wr.heap.size wr W -> Calls Tryz.prog 73 #[.pointer (some ⟨pm,0,none⟩),.int .i64 (j : Int),.slice (some ⟨ga,0,none⟩) ac.length cj] W fun e w' => LvPost G2 W pm N ga { M with trs := leftT M.trs j ac M.ep } e w') := fun W hb => leave_long (by have := HLR.out; omega) (by have := HLR.out; omega) ga _ cj ac rfl (by rw [HMM.out]; exact hln) HL64.out HPP.out W (HLV.out.below hb) (Nat.le_trans hNr hb.size) (own_below HROW.out hb) (HGN.out ga rfl)
        clear HSAME HLONG HSHORT hq hdq hln hv2 hv3
        go_wp2_with (first
       | (go_at_call 70; refine (HC1.out _).mono ?_; rintro e w2 ⟨rfl,hb2⟩; have HLV2 := Hid.mk9 (HLV.out.below hb2); obtain ⟨⟨c0,c1,c2,c3,c4,c5,c6⟩,-⟩ := HLV2.out.box)
       | (go_at_call 56; refine (HA2.out _ HLV2.out).mono ?_; rintro e w3 ⟨hb3,a3,cp3,rfl,hO3⟩; have HO3 := Hid.mk9 hO3; clear hO3)
       | (go_at_call 72; refine (HEQ.out _ _ _ (own_rowI (own_below (own_below HROW.out hb2) hb3)) (own_rowI HO3.out.2)).mono ?_; rintro e w4 ⟨rfl,hg4⟩)
       | (go_at_call 73; refine (HLE.out _ (below2 hb2 (below2 hb3 (grown_below hg4)))).mono ?_; rintro e w5 ⟨rfl,hE5⟩; have HE5 := Hid.mk9 hE5; clear hE5))
        have hb4 := below2 hb2 (below2 hb3 (grown_below hg4))
        have hro := own_below HROW.out hb4
        have hga := (row_ty hro).1
        have hE4 := own_below hE.out hb4
        have hT4 := hTD.out.kp (kp_below hb4)
        obtain ⟨⟨s5,hl5⟩,hk5,hb5⟩ := HE5.out
        have hbx := box_kz (hD.out.below hb4) hT4 hk5 (by unfold TurnT; decide) (boxTy_ne hT4 hga (by decide))
        exact ⟨⟨j + 1,by omega,by go_num,⟨_,s5,by rw [HM2.out]; exact hl5,fun i h1 h2 => ((HA.out i (by omega) h2).below hb4).kz hk5 (fun v hv hc => HDS.out ga rfl i h1 h2 v hv hc)⟩,own_kz hE4 hk5 (by unfold TurnT; decide) (by have := boxTy_ne (row_ty hE4).1 hga (by decide); simpa [Value.ownBlock] using this),hbx.1,hbx.2,(hbel.trans (hb4.mono hNr)).trans hb5⟩,by simp [intOf]; omega⟩
       ·have HM2 := Hid.mk9 (HSHORT.out hq hln)
        have HEQ : Hid (∀ W a3 cp3,RowI W aj ac.length cj ac -> RowI W a3 ac'.length cp3 ac' -> Calls Tryz.prog 72 #[.slice aj ac.length cj,.slice a3 ac'.length cp3] W fun e w' => e = .returned (.bool false) /\ Grown W w') := fun W a3 cp3 h1 h2 => by
         have := eqInts aj a3 _ _ _ _ ac ac' W h1 h2
         rw [hdq] at this
         exact this
        have HLE : Hid (∀ W,Below wr.heap.size wr W -> Calls Tryz.prog 73 #[.pointer (some ⟨pm,0,none⟩),.int .i64 (j : Int),.slice aj ac.length cj] W fun e w' => e = .returned (.tuple #[]) /\ LiveM G2 w' pm N { M with trs := sinceT M.trs j M.ep } s3 /\ Kq W w' /\ Below N W w') := fun W hb => leave_short9 (by have := HLR.out; omega) (by have := HLR.out; omega) aj _ cj (by rw [HMM.out]; omega) (by rw [HMM.out]; exact HM3.out.2) W (HLV.out.below hb) (Nat.le_trans hNr hb.size)
        clear HSAME HLONG HSHORT hq hdq hln
        go_wp2_with (first
       | (go_at_call 70; refine (HC1.out _).mono ?_; rintro e w2 ⟨rfl,hb2⟩; have HLV2 := Hid.mk9 (HLV.out.below hb2); obtain ⟨⟨c0,c1,c2,c3,c4,c5,c6⟩,-⟩ := HLV2.out.box)
       | (go_at_call 56; refine (HA2.out _ HLV2.out).mono ?_; rintro e w3 ⟨hb3,a3,cp3,rfl,hO3⟩; have HO3 := Hid.mk9 hO3; clear hO3)
       | (go_at_call 72; refine (HEQ.out _ _ _ (own_rowI (own_below (own_below HROW.out hb2) hb3)) (own_rowI HO3.out.2)).mono ?_; rintro e w4 ⟨rfl,hg4⟩)
       | (go_at_call 73; refine (HLE.out _ (below2 hb2 (below2 hb3 (grown_below hg4)))).mono ?_; rintro e w5 ⟨rfl,hE5⟩; have HE5 := Hid.mk9 hE5; clear hE5))
        have hb4 := below2 hb2 (below2 hb3 (grown_below hg4))
        obtain ⟨hl5,hk5,hb5⟩ := HE5.out
        have hbx := box_kq (hD.out.below hb4) (hTD.out.kp (kp_below hb4)) hk5 (by unfold TurnT; decide)
        exact ⟨⟨j + 1,by omega,by go_num,⟨G2,s3,by rw [HM2.out]; exact hl5,fun i h1 h2 => ((HA.out i (by omega) h2).below hb4).kq hk5⟩,own_kq (own_below hE.out hb4) hk5 (by unfold TurnT; decide),hbx.1,hbx.2,(hbel.trans (hb4.mono hNr)).trans hb5⟩,by simp [intOf]; omega⟩
    ·obtain rfl : j = k := by omega
     have HF := Hid.mk9 hl3
     clear hl3 hLv hE hD hTD hA
     go_wp2_with fail
     go_returns
     exact ⟨rfl,⟨G2,s3,HF.out⟩,hbel⟩
end Go.Proofs.YtcncbjknfcjnmaaGreat.Tp
