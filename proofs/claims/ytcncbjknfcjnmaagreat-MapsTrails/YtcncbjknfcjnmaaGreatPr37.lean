/-
  Who stands behind a turn, plainly.
  Pins behind a turn; the Temps of the turned map may be.
  The turned map may be.
-/
import Derived.Test.YtcncbjknfcjnmaaGreatPr36
namespace Go.Proofs.YtcncbjknfcjnmaaGreat.Tp
open Go.ChangeShapes Go.WideShapes Go.ChangeAt Go.RowKit
theorem sel_same (cost : Int -> Int) : ∀ (N n n' : Nat) (l l' : List Dr.Ch),Dr.Rise l -> Dr.Rise l' -> (∀ c ∈ l,0 <= c.2) -> (∀ c ∈ l',0 <= c.2) -> Dr.heavy l = Dr.heavy l' -> (Dr.heavy l).length <= N -> (Dr.heavy l).length <= n -> (Dr.heavy l).length <= n' -> Dr.selC cost n l = Dr.selC cost n' l' := by
 intro N
 induction N with
 | zero =>
  intro n n' l l' hr hr' hw hw' he h0 _ _
  have e : Dr.heavy l = [] := List.length_eq_zero_iff.1 (by omega)
  have e' : Dr.heavy l' = [] := he.symm.trans e
  have key : ∀ (k : Nat) (q : List Dr.Ch),Dr.Rise q -> (∀ c ∈ q,0 <= c.2) -> Dr.heavy q = [] -> Dr.selC cost k q = [] := fun k q hq hp hh => by
   cases k with
   | zero => rfl
   | succ k => exact Dr.selC_none cost (Dr.bestC_eq cost hq hp ((Dr.isBest_nobody cost hp).2 hh))
  rw [key n l hr hw e,key n' l' hr' hw' e']
 | succ N ih =>
  intro n n' l l' hr hr' hw hw' he hN hn hn'
  cases e : Dr.heavy l with
  | nil => exact ih n n' l l' hr hr' hw hw' he (by rw [e]; exact Nat.zero_le _) hn hn'
  | cons a s =>
   have b := Dr.minC_best cost hr hw e
   have b' := Dr.minC_best cost hr' hw' (he.symm.trans e)
   have hb := Dr.bestC_is cost hr hw
   rw [b] at hb
   have ha := ((Dr.isBest_heavy cost).1 hb).1
   have hp : (Dr.heavy l).Perm (_ :: (Dr.heavy l).filter _) := perm_out (Dr.rise_filter hr _ : Dr.Rise (Dr.heavy l)) ha
   have hpl := hp.length_eq
   rw [List.length_cons] at hpl
   have hl : (Dr.heavy l).length = s.length + 1 := by rw [e]; rfl
   obtain ⟨n0,rfl⟩ : ∃ n0,n = n0 + 1 := ⟨n - 1,by omega⟩
   obtain ⟨n1,rfl⟩ : ∃ n1,n' = n1 + 1 := ⟨n' - 1,by omega⟩
   rw [Dr.selC_some cost b,Dr.selC_some cost b']
   refine congrArg _ (ih n0 n1 _ _ (Dr.rise_filter hr _) (Dr.rise_filter hr' _) (fun c hc => hw c (List.mem_filter.1 hc).1) (fun c hc => hw' c (List.mem_filter.1 hc).1) ?_ ?_ ?_ ?_)
   ·rw [heavy_filter,heavy_filter,he]
   all_goals
    rw [heavy_filter]
    omega
theorem ord_same (key : Nat) {l l' : List Ch} (h : Dr.MayC l) (h' : Dr.MayC l') (he : Dr.heavy l = Dr.heavy l') : ordF key l = ordF key l' :=
 sel_same _ _ _ _ _ _ (Dr.may_rise h) (Dr.may_rise h') (Dr.may_w h) (Dr.may_w h') he (Nat.le_refl _) (Dr.heavy_len l) (by rw [he]; exact Dr.heavy_len l')
theorem heavy_sumF (g : Nd -> Int) (ls : List Nd) (c : Ch) : c ∈ Dr.heavy (sumF g ls) ↔ (1 <= c.1 /\ c.1 <= 999) /\ c.2 = sumAt g ls c.1 /\ 0 < c.2 := by
 rw [Dr.heavy_mem]
 unfold sumF
 rw [mem_upTo]
 constructor
 ·rintro ⟨⟨h1,-,h2⟩,h3⟩
  exact ⟨h1,h2,h3⟩
 ·rintro ⟨h1,h2,h3⟩
  refine ⟨⟨h1,?_,h2⟩,h3⟩
  cases e : ls.filter (fun x => decide (g x = c.1)) with
  | nil =>
   exfalso
   unfold sumAt at h2
   rw [e] at h2
   simp only [wsum] at h2
   omega
  | cons x r =>
   have hx : x ∈ ls.filter (fun x => decide (g x = c.1)) := by rw [e]; exact List.mem_cons_self ..
   obtain ⟨h4,h5⟩ := List.mem_filter.1 hx
   exact ⟨x,h4,of_decide_eq_true h5⟩
theorem sumF_same {g : Nd -> Int} {ls ls' : List Nd} (h : ∀ id,sumAt g ls id = sumAt g ls' id) : Dr.heavy (sumF g ls) = Dr.heavy (sumF g ls') := by
 refine rise_ext (Dr.rise_filter (rise_upTo g ls 999) _) (Dr.rise_filter (rise_upTo g ls' 999) _) fun c => ?_
 rw [heavy_sumF,heavy_sumF,h]
def PlaceG (g : Nd -> Int) : Prop := ∀ x y : Nd,x.id = y.id -> x.zone = y.zone -> x.rack = y.rack -> g x = g y
theorem zoneG_place : PlaceG zoneG := fun _ _ _ h _ => h
theorem rackG_place (z : Int) : PlaceG (rackG z) := fun x y _ h1 h2 => by
 unfold rackG
 rw [h1,h2]
theorem leafG_place (z r : Int) : PlaceG (leafG z r) := fun x y h h1 h2 => by
 unfold leafG selN
 rw [h,h1,h2]
theorem of_same {ls ls' : List Nd} (hM : MayN ls) (hM' : MayN ls') (h : ∀ g,PlaceG g -> ∀ id,sumAt g ls id = sumAt g ls' id) (g : Int) (n : Nat) : ofP ls g n = ofP ls' g n := by
 have hc : ∀ lev z r,Dr.heavy (childrenOf ls lev z r) = Dr.heavy (childrenOf ls' lev z r) := fun lev z r => by
  unfold childrenOf
  split
  ·exact sumF_same (h _ zoneG_place)
  ·split
   ·exact sumF_same (h _ (rackG_place z))
   ·exact sumF_same (h _ (leafG_place z r))
 have hi : ∀ lev,idsOf ls g lev = idsOf ls' g lev := fun lev => by
  funext k x
  unfold idsOf
  rw [ord_same _ (children_may hM _ _ _) (children_may hM' _ _ _) (hc lev x.1 x.2.1)]
 have hch : ∀ lev k H,chooseP ls g lev k H = chooseP ls' g lev k H := fun lev k H => by
  unfold chooseP
  have : chosen1 ls g lev k = chosen1 ls' g lev k := by
   funext x
   unfold chosen1
   rw [hi]
  rw [this]
 unfold ofP hand3 hand2 hand1
 rw [hch,hch,hch]
theorem wsum_set (P : Nd -> Bool) : ∀ (ls : List Nd) (p : Nat) (y : Nd),p < ls.length -> P y = P (ls.getD p nd0) -> wtN y = wtN (ls.getD p nd0) -> wsum ((ls.set p y).filter P) = wsum (ls.filter P)
 | [],_,_,h,_,_ => absurd h (by simp)
 | x :: l,0,y,_,h1,h2 => by
  simp only [List.getD_cons_zero] at h1 h2
  rw [List.set_cons_zero,List.filter_cons,List.filter_cons,h1]
  split
  ·simp only [wsum,h2]
  ·rfl
 | x :: l,p + 1,y,h,h1,h2 => by
  simp only [List.getD_cons_succ] at h1 h2
  have ih := wsum_set P l p y (by simpa using h) h1 h2
  rw [List.set_cons_succ,List.filter_cons,List.filter_cons]
  split
  ·simp only [wsum,ih]
  ·exact ih
theorem wsum_rem (P : Nd -> Bool) : ∀ (ls : List Nd) (p : Nat),p < ls.length -> wtN (ls.getD p nd0) = 0 -> wsum ((ls.take p ++ ls.drop (p + 1)).filter P) = wsum (ls.filter P)
 | [],_,h,_ => absurd h (by simp)
 | x :: l,0,_,h1 => by
  simp only [List.getD_cons_zero] at h1
  rw [List.take_zero,List.nil_append,List.drop_succ_cons,List.drop_zero,List.filter_cons]
  split
  ·simp only [wsum,h1]
   omega
  ·rfl
 | x :: l,p + 1,h,h1 => by
  simp only [List.getD_cons_succ] at h1
  have ih := wsum_rem P l p (by simpa using h) h1
  rw [List.take_succ_cons,List.cons_append,List.drop_succ_cons,List.filter_cons,List.filter_cons]
  split
  ·simp only [wsum,ih]
  ·exact ih
theorem node_here {nds : List Nd} (hM : MayN nds) {id : Int} (h : (findN nds id).isSome = true) : insPos (nds.map (·.id)) id < nds.length /\ (nds.getD (insPos (nds.map (·.id)) id) nd0).id = id /\ findN nds id = some (nds.getD (insPos (nds.map (·.id)) id) nd0) := by
 have hI := srch_nodes hM id
 rw [h] at hI
 have h1 := (srch_up hM hI).1 rfl
 refine ⟨h1.1,?_,h1.2.2⟩
 have := h1.2.2
 unfold findN at this
 have := List.find?_some this
 simpa using this
theorem ref_away {m : Mp} {k id z r wt g : Int} {ns : List Int} (hM : MayN m.nds) (k7 : k = 7) (href : refP m k id z r wt g ns = 0) : (m.nds.getD (insPos (m.nds.map (·.id)) id) nd0).up ≠ true /\ ¬ ((m.nds.getD (insPos (m.nds.map (·.id)) id) nd0).inn = true /\ 0 < (m.nds.getD (insPos (m.nds.map (·.id)) id) nd0).weight) /\ ¬ NeedP m id := by
 obtain ⟨hK,-,-,-,-,h6⟩ := ref_may href
 obtain ⟨hs,-⟩ := h6 (by omega) (by omega) (by omega) (by omega)
 obtain ⟨-,hid,hf⟩ := node_here hM hs
 have e := href
 unfold refP at e
 rw [if_neg (fun c => c hK)] at e
 split at e
 ·exact absurd e (by decide)
 rw [if_neg (by omega),if_neg (by omega),if_neg (by omega),if_neg (by omega),hf] at e
 simp only at e
 unfold refNode at e
 rw [if_pos k7] at e
 split at e
 ·exact absurd e (by decide)
 rename_i h1
 split at e
 ·exact absurd e (by decide)
 rename_i h2
 split at e
 ·exact absurd e (by decide)
 rename_i h3
 rw [hid] at h3
 exact ⟨h1,h2,h3⟩
theorem of_ch {m : Mp} {k id z r wt g : Int} {ns : List Int} (hM : MayM m) (href : refP m k id z r wt g ns = 0) (hk : k = 3 ∨ k = 4 ∨ k = 7) (q : Int) (n : Nat) : ofP (chNd m.nds k id z r wt) q n = ofP m.nds q n := by
 obtain ⟨hK,-,-,-,-,h6⟩ := ref_may href
 obtain ⟨hs,-⟩ := h6 (by omega) (by omega) (by omega) (by omega)
 obtain ⟨hp,hid,hf⟩ := node_here hM.nds hs
 refine of_same (mayN_ch hM.nds href (by omega) (by omega) (by omega)) hM.nds (fun G hG j => ?_) q n
 unfold sumAt
 congr 1
 unfold chNd
 rw [if_neg (by omega)]
 by_cases k7 : k = 7
 ·rw [if_pos k7]
  refine wsum_rem _ _ _ hp ?_
  obtain ⟨-,hn,-⟩ := ref_away hM.nds k7 href
  have hin := (hM.nds.2 _ hp).1.2.2.2.1
  unfold wtN
  split
  ·rename_i hi
   by_cases h0 : 0 < (m.nds.getD (insPos (m.nds.map (·.id)) id) nd0).weight
   ·exact absurd ⟨hi,h0⟩ hn
   ·omega
  ·rfl
 ·rw [if_neg k7]
  have ht : ∀ x : Nd,(turnN x k wt).id = x.id /\ (turnN x k wt).zone = x.zone /\ (turnN x k wt).rack = x.rack /\ wtN (turnN x k wt) = wtN x := fun x => by
   unfold turnN
   rcases hk with rfl | rfl | rfl
   ·exact ⟨rfl,rfl,rfl,rfl⟩
   ·exact ⟨rfl,rfl,rfl,rfl⟩
   ·exact absurd rfl k7
  obtain ⟨t1,t2,t3,t4⟩ := ht (m.nds.getD (insPos (m.nds.map (·.id)) id) nd0)
  refine wsum_set _ _ _ _ hp ?_ t4
  rw [hG _ _ t1 t2 t3]
theorem raw_still {m : Mp} {k id z r wt g : Int} {ns : List Int} (hM : MayM m) (href : refP m k id z r wt g ns = 0) (hk : k = 3 ∨ k = 4 ∨ k = 9 ∨ k = 7 ∨ k = 10) (q : Int) : rawP (tnM m k id z r wt g ns) q = rawP m q := by
 have e : rawP (tnM m k id z r wt g ns) q = rawP (chM m k id z r wt g ns) q := rfl
 rw [e]
 unfold chM
 split
 ·rfl
 split
 ·omega
 split
 ·rfl
 unfold rawP
 simp only
 rw [of_ch hM href (by omega)]
end Go.Proofs.YtcncbjknfcjnmaaGreat.Tp
namespace Go.Proofs.YtcncbjknfcjnmaaGreat.Tp
open Go.ChangeShapes Go.WideShapes Go.ChangeAt Go.RowKit
theorem find_tm {q : Int} {t : Tm} : ∀ {ts : List Tm},(ts.map (·.g)).Pairwise (· < ·) -> t ∈ ts -> t.g = q -> ts.find? (fun t => t.g == q) = some t
 | [],_,h,_ => absurd h (by simp)
 | x :: l,hR,h,e => by
  rw [List.map_cons,List.pairwise_cons] at hR
  rcases List.mem_cons.1 h with rfl | h
  ·exact List.find?_cons_of_pos (by simpa using e)
  ·have := hR.1 t.g (List.mem_map_of_mem h)
   rw [List.find?_cons_of_neg (by simp; omega)]
   exact find_tm hR.2 h e
theorem find_tm_same {q : Int} {ts ts' : List Tm} (hR : (ts.map (·.g)).Pairwise (· < ·)) (h : ∀ t : Tm,t.g = q -> (t ∈ ts ↔ t ∈ ts')) : ts.find? (fun t => t.g == q) = ts'.find? (fun t => t.g == q) := by
 cases e : ts'.find? (fun t => t.g == q) with
 | none =>
  rw [List.find?_eq_none] at e ⊢
  intro x hx hq
  exact e x ((h x (by simpa using hq)).1 hx) hq
 | some t =>
  have h1 := List.mem_of_find?_eq_some e
  have h2 : t.g = q := by simpa using List.find?_some e
  exact find_tm hR ((h t h2).2 h1) h2
theorem pin_else {ts : List Tm} {g : Int} {ns : List Int} {t : Tm} (hne : t.g ≠ g) : t ∈ pinT ts g ns ↔ t ∈ ts := by
 constructor
 ·intro h
  rcases pinT_mem h with h | rfl
  ·exact h
  ·exact absurd rfl hne
 ·intro h
  unfold pinT
  rw [<- List.take_append_drop (insPos (ts.map (·.g)) g) ts] at h
  rcases List.mem_append.1 h with h | h
  ·exact List.mem_append_left _ h
  ·refine List.mem_append_right _ (List.mem_append_right _ ?_)
   by_cases hf : foundT ts g = true
   ·rw [if_pos hf]
    unfold foundT at hf
    obtain ⟨h1,h2⟩ := of_decide_eq_true hf
    rw [List.drop_eq_getElem_cons h1] at h
    rcases List.mem_cons.1 h with rfl | h
    ·exfalso
     exact hne (by simpa [h1] using h2)
    ·exact h
   ·rw [if_neg hf]
    exact h
theorem pin_from {ts : List Tm} {g : Int} {ns : List Int} {t : Tm} (h : t ∈ pinT ts g ns) : t ∈ ts ∨ (t = ⟨g,ns⟩ /\ ns ≠ []) := by
 by_cases h0 : ns = []
 ·unfold pinT at h
  rw [if_pos h0,List.nil_append] at h
  rcases List.mem_append.1 h with h | h
  ·exact .inl (List.mem_of_mem_take h)
  ·exact .inl (List.mem_of_mem_drop h)
 ·rcases pinT_mem h with h | h
  ·exact .inl h
  ·exact .inr ⟨h,h0⟩
theorem chM_pin (m : Mp) (id z r wt g : Int) (ns : List Int) : chM m 8 id z r wt g ns = { m with tms := pinT m.tms g ns } := by
 unfold chM
 rw [if_neg (by decide),if_pos rfl]
theorem raw_other {m : Mp} {id z r wt g : Int} {ns : List Int} (hM : MayM m) (q : Int) (hq : q ≠ g) : rawP (tnM m 8 id z r wt g ns) q = rawP m q := by
 have e : rawP (tnM m 8 id z r wt g ns) q = rawP (chM m 8 id z r wt g ns) q := rfl
 have hR := (rising_iff _).1 hM.stand.rise
 rw [e,chM_pin]
 unfold rawP
 simp only
 rw [find_tm_same (pinT_rise g ns hR) fun t ht => pin_else (by omega)]
theorem find_nd {nds : List Nd} (hM : MayN nds) {x : Nd} (hx : x ∈ nds) : findN nds x.id = some x := by
 cases e : findN nds x.id with
 | none =>
  unfold findN at e
  rw [List.find?_eq_none] at e
  exact absurd (by simp) (e x hx)
 | some y =>
  unfold findN at e
  have h1 := List.mem_of_find?_eq_some e
  have h2 : y.id = x.id := by simpa using List.find?_some e
  rw [id_inj hM h1 hx h2]
theorem find_is {nds : List Nd} {i : Int} (h : (findN nds i).isSome = true) : ∃ x ∈ nds,x.id = i /\ findN nds i = some x := by
 obtain ⟨x,hx⟩ := Option.isSome_iff_exists.1 h
 have e := hx
 unfold findN at e
 exact ⟨x,List.mem_of_find?_eq_some e,by simpa using List.find?_some e,hx⟩
theorem turnN_zone (x : Nd) (k wt : Int) : (turnN x k wt).zone = x.zone := by
 unfold turnN
 repeat' split
 all_goals rfl
theorem ch_node {m : Mp} {k id z r wt g : Int} {ns : List Int} (hM : MayN m.nds) (h : refP m k id z r wt g ns = 0) (h8 : k ≠ 8) (h9 : k ≠ 9) (h10 : k ≠ 10) {x : Nd} (hx : x ∈ m.nds) (h7 : k = 7 -> x.id ≠ id) : ∃ y ∈ chNd m.nds k id z r wt,y.id = x.id /\ y.zone = x.zone := by
 obtain ⟨hK,-,h1,-,-,h6⟩ := ref_may h
 have hx' := hx
 rw [<- List.take_append_drop (insPos (m.nds.map (·.id)) id) m.nds] at hx'
 unfold chNd
 split
 ·refine ⟨x,?_,rfl,rfl⟩
  rcases List.mem_append.1 hx' with h | h
  ·exact List.mem_append_left _ h
  ·exact List.mem_append_right _ (List.mem_cons_of_mem _ h)
 ·rename_i n1
  obtain ⟨hp,hid,-⟩ := node_here hM (h6 n1 h8 h9 h10).1
  split
  ·rename_i k7
   refine ⟨x,?_,rfl,rfl⟩
   rcases List.mem_append.1 hx' with h | h
   ·exact List.mem_append_left _ h
   ·refine List.mem_append_right _ ?_
    rw [List.drop_eq_getElem_cons hp] at h
    rcases List.mem_cons.1 h with rfl | h
    ·exfalso
     exact h7 k7 (by simpa [hp] using hid)
    ·exact h
  ·obtain ⟨j,hj,rfl⟩ := List.getElem_of_mem hx
   by_cases e : insPos (m.nds.map (·.id)) id = j
   ·refine ⟨_,List.mem_set hp _,?_,?_⟩
    ·rw [turnN_id]
     simp [e,hj]
    ·rw [turnN_zone]
     simp [e,hj]
   ·refine ⟨m.nds[j],?_,rfl,rfl⟩
    rw [List.mem_iff_getElem]
    exact ⟨j,by rw [List.length_set]; exact hj,by rw [List.getElem_set_ne e]⟩
theorem apart_ch {m : Mp} {k id z r wt g : Int} {ns l : List Int} (hM : MayN m.nds) (h : refP m k id z r wt g ns = 0) (h8 : k ≠ 8) (h9 : k ≠ 9) (h10 : k ≠ 10) (h7 : k = 7 -> id ∉ l) (hA : ApartP m.nds l) : ApartP (chNd m.nds k id z r wt) l := by
 have hM' := mayN_ch hM h h8 h9 h10
 have key : ∀ i,i < l.length -> (findN (chNd m.nds k id z r wt) (l.getD i 0)).isSome = true /\ zoneN (chNd m.nds k id z r wt) (l.getD i 0) = zoneN m.nds (l.getD i 0) := fun i hi => by
  obtain ⟨x,hx,hxi,hf⟩ := find_is (hA.1 i hi)
  obtain ⟨y,hy,y1,y2⟩ := ch_node hM h h8 h9 h10 hx fun k7 e => h7 k7 (by
   rw [<- e,hxi]
   rw [intGetD hi]
   exact List.getElem_mem _)
  have := find_nd hM' hy
  rw [y1,hxi] at this
  unfold zoneN
  rw [this,hf]
  exact ⟨rfl,y2⟩
 refine ⟨fun i hi => (key i hi).1,fun i j hj hi => ?_⟩
 rw [(key i hi).2,(key j (by omega)).2]
 exact hA.2 i j hj hi
theorem ref_pin {m : Mp} {id z r wt g : Int} {ns : List Int} (h : refP m 8 id z r wt g ns = 0) : ApartP m.nds ns := by
 have e := h
 unfold refP at e
 rw [if_neg (fun c => c (ref_may h).1)] at e
 split at e
 ·exact absurd e (by decide)
 rw [if_neg (by decide),if_neg (by decide),if_pos rfl] at e
 unfold refPin at e
 split at e
 ·exact absurd e (by decide)
 split at e
 ·exact absurd e (by decide)
 split at e
 ·assumption
 ·exact absurd e (by decide)
def TempOk (m : Mp) (t : Tm) : Prop := (0 <= t.g /\ t.g < m.gr) /\ (1 <= (t.ns.length : Int) /\ (t.ns.length : Int) <= m.size) /\ ApartP m.nds t.ns
theorem temps_of {m : Mp} (hR : Rising (m.tms.map (·.g))) (h : ∀ t ∈ m.tms,TempOk m t) : TempsTo m m.tms.length := fun i hi => by
 have e : m.tms.getD i tm0 = m.tms[i] := by simp [hi]
 have ht := h (m.tms.getD i tm0) (by rw [e]; exact List.getElem_mem _)
 refine ⟨ht.1,fun h0 => ?_,ht.2.1,ht.2.2⟩
 have := hR (i - 1) i (by omega) (by simpa using hi)
 have h1 : i - 1 < m.tms.length := by omega
 simpa [hi,h1] using this
theorem temp_at {m : Mp} (hM : MayM m) {t : Tm} (h : t ∈ m.tms) : TempOk m t := by
 obtain ⟨i,hi,rfl⟩ := memT_getD h
 have := hM.tms i hi
 exact ⟨this.1,this.2.2.1,this.2.2.2⟩
theorem temps_ch {m : Mp} {k id z r wt g : Int} {ns : List Int} (hM : MayM m) (h : refP m k id z r wt g ns = 0) : TempsTo (chM m k id z r wt g ns) (chM m k id z r wt g ns).tms.length := by
 refine temps_of (stand_ch hM h).rise fun t ht => ?_
 revert ht
 unfold chM
 split
 ·exact fun ht => temp_at hM ht
 rename_i n9
 split
 ·rename_i k8
  subst k8
  intro ht
  rcases pin_from ht with ht | ⟨rfl,h0⟩
  ·exact temp_at hM ht
  ·obtain ⟨hg,hl⟩ := (ref_may h).2.2.2.1 rfl
   refine ⟨hg,⟨?_,hl⟩,(ref_pin h : ApartP m.nds ns)⟩
   have : ns.length ≠ 0 := fun e => h0 (List.length_eq_zero_iff.1 e)
   show (1 : Int) <= (ns.length : Int)
   omega
 rename_i n8
 split
 ·exact fun ht => temp_at hM ht
 rename_i n10
 intro ht
 obtain ⟨h1,h2,h3⟩ := temp_at hM ht
 refine ⟨h1,h2,apart_ch hM.nds h n8 n9 n10 (fun k7 hin => ?_) h3⟩
 obtain ⟨i,hi,e⟩ := memT_getD ht
 exact (ref_away hM.nds k7 h).2.2 (.inl ⟨i,hi,by rw [e]; exact hin⟩)
end Go.Proofs.YtcncbjknfcjnmaaGreat.Tp
namespace Go.Proofs.YtcncbjknfcjnmaaGreat.Tp
open Go.ChangeShapes Go.WideShapes Go.ChangeAt Go.RowKit
theorem past_rise {mn sz since : Int} {past : List Tm} {n : Nat} (h : PastTo mn sz since past n) : ∀ d i,i + d + 1 < n -> (past.getD i tm0).g < (past.getD (i + d + 1) tm0).g := by
 intro d
 induction d with
 | zero =>
  intro i hi
  have := (h (i + 1) hi).2.1 (by omega)
  simpa using this
 | succ d ih =>
  intro i hi
  have h1 := ih i (by omega)
  have h2 := (h (i + d + 1 + 1) (by omega)).2.1 (by omega)
  rw [show i + d + 1 + 1 - 1 = i + d + 1 by omega] at h2
  rw [show i + (d + 1) + 1 = i + d + 1 + 1 by omega]
  omega
def PastOk (mn sz since : Int) (past : List Tm) : Prop := (∀ t ∈ past,(0 <= t.g /\ t.g < since) /\ SpanOk mn sz t.ns) /\ past.Pairwise fun a b => a.g < b.g /\ a.ns ≠ b.ns
theorem past_iff {mn sz since : Int} {past : List Tm} : PastTo mn sz since past past.length ↔ PastOk mn sz since past := by
 constructor
 ·intro h
  refine ⟨fun t ht => ?_,?_⟩
  ·obtain ⟨i,hi,rfl⟩ := memT_getD ht
   exact ⟨(h i hi).1,(h i hi).2.2.1⟩
  ·rw [List.pairwise_iff_getElem]
   intro i j hi hj hij
   have h1 := past_rise h (j - i - 1) i (by omega)
   rw [show i + (j - i - 1) + 1 = j by omega] at h1
   have h2 := (h j hj).2.2.2 i hij
   rw [show past.getD i tm0 = past[i] by simp [hi],show past.getD j tm0 = past[j] by simp [hj]] at h1 h2
   exact ⟨h1,h2⟩
 ·rintro ⟨h1,h2⟩ i hi
  rw [List.pairwise_iff_getElem] at h2
  have e : ∀ j,(hj : j < past.length) -> past.getD j tm0 = past[j] := fun j hj => by simp [hj]
  have hm := h1 past[i] (List.getElem_mem _)
  rw [<- e i hi] at hm
  refine ⟨hm.1,fun h0 => ?_,hm.2,fun j hj => ?_⟩
  ·have := (h2 (i - 1) i (by omega) hi (by omega)).1
   rw [e i hi,e (i - 1) (by omega)]
   exact this
  ·have := (h2 j i (by omega) hi hj).2
   rw [e i hi,e j (by omega)]
   exact this
def TrOk (mn sz ep : Int) (t : Tr) : Prop := (0 <= t.since /\ t.since <= ep) /\ PastOk mn sz t.since t.past
theorem left_ok {mn sz ep : Int} {t : Tr} {act : List Int} (h : TrOk mn sz ep t) (hs : SpanOk mn sz (sortI act)) : TrOk mn sz (ep + 1) ⟨ep + 1,otherT t.past (sortI act) ++ [⟨t.since,sortI act⟩]⟩ := by
 obtain ⟨⟨h1,h2⟩,h3,h4⟩ := h
 refine ⟨⟨by show (0 : Int) <= ep + 1; omega,Int.le_refl _⟩,fun x hx => ?_,?_⟩
 ·show (0 <= x.g /\ x.g < ep + 1) /\ SpanOk mn sz x.ns
  rcases List.mem_append.1 hx with hx | hx
  ·have := h3 x (List.mem_filter.1 hx).1
   exact ⟨⟨this.1.1,by have := this.1.2; omega⟩,this.2⟩
  ·rw [List.mem_singleton] at hx
   subst hx
   exact ⟨⟨h1,by show t.since < ep + 1; omega⟩,hs⟩
 ·rw [List.pairwise_append]
  refine ⟨h4.filter _,List.pairwise_singleton _ _,fun a ha b hb => ?_⟩
  rw [List.mem_singleton] at hb
  subst hb
  obtain ⟨ha,hn⟩ := List.mem_filter.1 ha
  refine ⟨(h3 a ha).1.2,?_⟩
  simpa using hn
theorem since_ok {mn sz ep : Int} {t : Tr} (h : TrOk mn sz ep t) : TrOk mn sz (ep + 1) ⟨ep + 1,t.past⟩ := by
 obtain ⟨⟨h1,h2⟩,h3,h4⟩ := h
 refine ⟨⟨by show (0 : Int) <= ep + 1; omega,Int.le_refl _⟩,fun x hx => ?_,h4⟩
 have := h3 x hx
 exact ⟨⟨this.1.1,by have := this.1.2; show x.g < ep + 1; omega⟩,this.2⟩
theorem same_ok {mn sz ep : Int} {t : Tr} (h : TrOk mn sz ep t) : TrOk mn sz (ep + 1) t := ⟨⟨h.1.1,by have := h.1.2; omega⟩,h.2⟩
theorem trSet_ne (ts : List Tr) (j i : Nat) (y : Tr) (h : j ≠ i) : (ts.set j y).getD i tr0 = ts.getD i tr0 := by
 rw [List.getD_eq_getElem?_getD,List.getD_eq_getElem?_getD,List.getElem?_set_ne h]
theorem raw_ids {m : Mp} (hM : MayM m) (q : Int) : (rawP m q).Nodup /\ ∀ i ∈ rawP m q,1 <= i /\ i <= 999 := by
 unfold rawP
 split
 ·rename_i t ht
  obtain ⟨-,-,hA⟩ := temp_at hM (List.mem_of_find?_eq_some ht)
  constructor
  ·unfold List.Nodup
   rw [List.pairwise_iff_getElem]
   intro i j hi hj hij e
   refine hA.2 j i hij hj ?_
   rw [intGetD hi,intGetD hj,e]
  ·intro x hx
   obtain ⟨i,hi,rfl⟩ := List.getElem_of_mem hx
   have := hA.1 i hi
   rw [intGetD hi] at this
   obtain ⟨y,hy,hyi,-⟩ := find_is this
   rw [<- hyi]
   exact (may_in hM.nds y hy).1
 ·rw [of_eq hM.nds]
  constructor
  ·unfold List.Nodup
   rw [List.pairwise_map]
   refine List.Pairwise.imp_of_mem (R := fun a b => a ≠ b) (fun {a b} ha hb hne e => ?_) (zs_nodup hM.nds q _)
   obtain ⟨n,n1,n2,_,_,n3⟩ := pk_one hM.nds q (zs_mem hM.nds ha)
   obtain ⟨m',m1,m2,_,_,m3⟩ := pk_one hM.nds q (zs_mem hM.nds hb)
   have := id_inj hM.nds n1 m1 (by rw [<- n3,<- m3,e])
   subst this
   exact hne (n2.symm.trans m2)
  ·intro x hx
   obtain ⟨a,ha,rfl⟩ := List.mem_map.1 hx
   obtain ⟨n,n1,-,_,_,n3⟩ := pk_one hM.nds q (zs_mem hM.nds ha)
   rw [n3]
   exact (may_in hM.nds n n1).1
theorem span_act {m : Mp} (hM : MayM m) (q : Int) (hl : m.mn <= ((actP m q).length : Int)) : SpanOk m.mn m.size (sortI (actP m q)) := by
 obtain ⟨h1,h2⟩ := raw_ids hM q
 have hraw := raw_len hM.stand q
 have hfl := List.length_filter_le (upB m.nds) (rawP m q)
 have hperm : (sortI (actP m q)).Perm (actP m q) := List.mergeSort_perm _ _
 have hnd : (sortI (actP m q)).Nodup := hperm.nodup_iff.2 (h1.filter _)
 have hso : (sortI (actP m q)).Pairwise fun x y => decide (x <= y) = true := List.pairwise_mergeSort (fun a b c hab hbc => by simp at *; omega) (fun a b => by simp; omega) _
 refine ⟨⟨?_,?_⟩,fun i hi => ⟨?_,fun h0 => ?_⟩⟩
 ·rw [sortI_len]
  exact hl
 ·rw [sortI_len]
  unfold actP
  omega
 ·rw [intGetD hi]
  have : (sortI (actP m q))[i] ∈ actP m q := hperm.mem_iff.1 (List.getElem_mem _)
  exact h2 _ (List.mem_filter.1 this).1
 ·rw [intGetD hi,intGetD (show i - 1 < (sortI (actP m q)).length by omega)]
  unfold List.Nodup at hnd
  rw [List.pairwise_iff_getElem] at hnd hso
  have a1 := hnd (i - 1) i (by omega) hi (by omega)
  have a2 := of_decide_eq_true (hso (i - 1) i (by omega) hi (by omega))
  omega
theorem trail_at {m : Mp} (hM : MayM m) (i : Nat) (hi : i < m.trs.length) : TrOk m.mn m.size m.ep (m.trs.getD i tr0) := ⟨(hM.trs.2 i hi).1,past_iff.1 (hM.trs.2 i hi).2⟩
theorem trail_ch {m : Mp} (k id z r wt g : Int) (ns : List Int) (hM : MayM m) (i : Nat) (hi : i < m.trs.length) : TrOk m.mn m.size m.ep ((chM m k id z r wt g ns).trs.getD i tr0) := by
 have ht := trail_at hM i hi
 unfold chM
 split
 ·exact ht
 split
 ·exact ht
 split
 ·show TrOk m.mn m.size m.ep ((m.trs.set g.toNat _).getD i tr0)
  by_cases e : g.toNat = i
  ·subst e
   rw [trGetD_eq _ _ _ hi]
   exact ⟨ht.1,fun t h => absurd h (by simp),List.Pairwise.nil⟩
  ·rw [trSet_ne _ _ _ _ e]
   exact ht
 ·exact ht
theorem trails_turn {m m1 : Mp} (cn : Nat -> Bool) (hM : MayM m) (hl : m1.trs.length = m.trs.length) (h1 : ∀ i,i < m.trs.length -> TrOk m.mn m.size m.ep (m1.trs.getD i tr0)) : ∀ j i,i < m.trs.length -> TrOk m.mn m.size (m.ep + 1) ((turnTrs9 m m1 cn j).getD i tr0) := by
 intro j
 induction j with
 | zero => exact fun i hi => same_ok (h1 i hi)
 | succ j ih =>
  intro i hi
  have hlen := turnTrs9_len m m1 cn j
  rw [hl] at hlen
  unfold turnTrs9
  split
  ·by_cases e : j = i
   ·subst e
    have hat := turnTrs9_at m m1 cn j j (Nat.le_refl _)
    have hb := h1 j hi
    rw [<- hat] at hb
    split
    ·rename_i hlg
     unfold leftT
     rw [trGetD_eq _ _ _ (by omega)]
     exact left_ok hb (span_act hM _ hlg)
    ·unfold sinceT
     rw [trGetD_eq _ _ _ (by omega)]
     exact since_ok hb
   ·split
    ·unfold leftT
     rw [trSet_ne _ _ _ _ e]
     exact ih i hi
    ·unfold sinceT
     rw [trSet_ne _ _ _ _ e]
     exact ih i hi
  ·exact ih i hi
theorem tn_may {m : Mp} {k id z r wt g : Int} {ns : List Int} (hM : MayM m) (h : refP m k id z r wt g ns = 0) : MayM (tnM m k id z r wt g ns) := by
 obtain ⟨c1,c2,c3,c4,c5⟩ := chM_same m k id z r wt g ns
 have hlen : (tnM m k id z r wt g ns).trs.length = m.trs.length := (turnTrs9_len _ _ _ _).trans c5
 have hsz : (tnM m k id z r wt g ns).size = m.size := c3
 have hmn : (tnM m k id z r wt g ns).mn = m.mn := c1
 have hgr : (tnM m k id z r wt g ns).gr = m.gr := c4
 have hep : (tnM m k id z r wt g ns).ep = m.ep + 1 := rfl
 have hre := (ref_may h).2.1
 have h0 := hM.ep
 refine ⟨by rw [hep]; omega,by rw [hsz,hmn,hgr]; exact hM.cnt,(stand_ch hM h).nds,temps_ch hM h,?_,?_⟩
 ·rw [hlen,hgr]
  exact hM.trs.1
 ·rw [hlen]
  intro i hi
  have := trails_turn (fun j => concP k g (j : Int)) hM c5 (trail_ch k id z r wt g ns hM) m.trs.length i hi
  rw [hmn,hsz,hep]
  exact ⟨this.1,past_iff.2 this.2⟩
end Go.Proofs.YtcncbjknfcjnmaaGreat.Tp
