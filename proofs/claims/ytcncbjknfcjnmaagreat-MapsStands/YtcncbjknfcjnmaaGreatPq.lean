/-
  Who is drawn, chosen and told, plainly; no two of one zone.
-/
import Derived.Test.YtcncbjknfcjnmaaGreatPp
namespace Go.Proofs.YtcncbjknfcjnmaaGreat
open Tp
theorem perm_out {L : List Dr.Ch} {a : Dr.Ch} (hr : Dr.Rise L) (ha : a ∈ L) : L.Perm (a :: L.filter fun c => decide (c.1 ≠ a.1)) := by
  induction L with
  | nil => simp at ha
  | cons c L ih =>
    obtain ⟨h1, h2⟩ := List.pairwise_cons.1 hr
    rcases List.mem_cons.1 ha with rfl | ha
    · rw [List.filter_cons_of_neg (by simp), List.filter_eq_self.2 (fun d hd => by have := h1 d hd; simp; omega)]
    · have := h1 a ha
      rw [List.filter_cons_of_pos (by simp; omega)]
      exact ((ih h2 ha).cons c).trans (List.Perm.swap a c _)
theorem heavy_filter (l : List Dr.Ch) (p : Dr.Ch → Bool) : Dr.heavy (l.filter p) = (Dr.heavy l).filter p := by
  unfold Dr.heavy
  rw [List.filter_filter, List.filter_filter]
  apply List.filter_congr
  intro c _
  exact Bool.and_comm _ _
theorem sel_perm (cost : Int → Int) : ∀ (n : Nat) (l : List Dr.Ch), Dr.Rise l → (∀ c ∈ l, 0 ≤ c.2) → (Dr.heavy l).length ≤ n → (Dr.selC cost n l).Perm ((Dr.heavy l).map (·.1)) := by
  intro n
  induction n with
  | zero =>
    intro l _ _ h
    have : Dr.heavy l = [] := List.length_eq_zero_iff.1 (by omega)
    rw [this, Dr.selC_zero]
    exact List.Perm.refl _
  | succ n ih =>
    intro l hr hw h
    have hb := Dr.bestC_is cost hr hw
    cases e : Dr.bestC cost l with
    | none =>
      rw [e] at hb
      rw [(Dr.isBest_nobody cost hw).1 hb, Dr.selC_none cost e]
      exact List.Perm.refl _
    | some a =>
      rw [e] at hb
      have ha := ((Dr.isBest_heavy cost).1 hb).1
      have hrh : Dr.Rise (Dr.heavy l) := Dr.rise_filter hr _
      have hp : (Dr.heavy l).Perm (a :: (Dr.heavy l).filter fun c => decide (c.1 ≠ a.1)) := perm_out hrh ha
      rw [Dr.selC_some cost e]
      have h1 := ih (l.filter fun c => decide (c.1 ≠ a.1)) (Dr.rise_filter hr _) (fun c hc => hw c (List.mem_filter.1 hc).1) (by
        rw [heavy_filter]
        have := hp.length_eq
        rw [List.length_cons] at this
        omega)
      rw [heavy_filter] at h1
      exact (h1.cons a.1).trans (hp.map (fun x : Dr.Ch => x.1)).symm
/-- the order of choices -/
def ordF (key : Nat) (l : List Ch) : List Int := Dr.selC (Dr.costOf key) l.length l
theorem ord_perm (key : Nat) {l : List Ch} (hM : Dr.MayC l) : (ordF key l).Perm ((Dr.heavy l).map (·.1)) := sel_perm _ _ _ (Dr.may_rise hM) (Dr.may_w hM) (Dr.heavy_len l)
theorem ord_mem {key : Nat} {l : List Ch} (hM : Dr.MayC l) {id : Int} : id ∈ ordF key l ↔ ∃ c ∈ l, 0 < c.2 ∧ c.1 = id := by
  rw [(ord_perm key hM).mem_iff, List.mem_map]
  constructor
  · rintro ⟨c, hc, rfl⟩
    exact ⟨c, (Dr.heavy_mem.1 hc).1, (Dr.heavy_mem.1 hc).2, rfl⟩
  · rintro ⟨c, hc, h, rfl⟩
    exact ⟨c, Dr.heavy_mem.2 ⟨hc, h⟩, rfl⟩
theorem ord_nodup (key : Nat) {l : List Ch} (hM : Dr.MayC l) : (ordF key l).Nodup := by
  refine (ord_perm key hM).nodup_iff.2 ?_
  unfold List.Nodup
  rw [List.pairwise_map]
  have h : Dr.Rise (Dr.heavy l) := Dr.rise_filter (Dr.may_rise hM) _
  exact h.imp fun {a b} h e => by omega
theorem ord_some {key : Nat} {l : List Ch} (hM : Dr.MayC l) (h : ∃ c ∈ l, 0 < c.2) : ∃ c ∈ l, 0 < c.2 ∧ (ordF key l).take 1 = [c.1] := by
  cases e : ordF key l with
  | nil =>
    obtain ⟨c, hc, h0⟩ := h
    have : c.1 ∈ ordF key l := (ord_mem hM).2 ⟨c, hc, h0, rfl⟩
    rw [e] at this
    simp at this
  | cons i s =>
    obtain ⟨c, hc, h0, rfl⟩ := (ord_mem (key := key) hM).1 (by rw [e]; simp : i ∈ ordF key l)
    exact ⟨c, hc, h0, rfl⟩
def keyOf (g lev z r : Int) : Nat := Dr.foldN (Dr.bitsOf g) [Dr.bitsOf lev, Dr.bitsOf z, Dr.bitsOf r]
theorem keyOf_lt (g lev z r : Int) : keyOf g lev z r < 18446744073709551616 := Dr.foldN_lt _ _
def childrenOf (ls : List Nd) (lev z r : Int) : List Ch := if lev = 1 then zonesOf ls else if lev = 2 then racksOf ls z else leavesOf ls z r
def childOf (x : Sp) (lev id : Int) : Sp := if lev = 1 then (id, x.2.1, x.2.2) else if lev = 2 then (x.1, id, x.2.2) else (x.1, x.2.1, id)
theorem children_may {ls : List Nd} (hM : MayN ls) (lev z r : Int) : Dr.MayC (childrenOf ls lev z r) := by
  unfold childrenOf
  split
  · exact sumF_may hM
  · split
    · exact sumF_may hM
    · exact sumF_may hM
/-- the first n of the order of one's children -/
def idsOf (ls : List Nd) (g lev : Int) (n : Nat) (x : Sp) : List Int := (ordF (keyOf g lev x.1 x.2.1) (childrenOf ls lev x.1 x.2.1)).take n
def chosen1 (ls : List Nd) (g lev : Int) (n : Nat) (x : Sp) : List Sp := (idsOf ls g lev n x).map (childOf x lev)
def chooseP (ls : List Nd) (g lev : Int) (n : Nat) (H : List Sp) : List Sp := H.flatMap (chosen1 ls g lev n)
def emit1 (size : Nat) (out : List Int) (x : Sp) : List Int := if out.length < size ∧ x.2.2 ∉ out then out ++ [x.2.2] else out
def emitP (size : Nat) (out : List Int) (H : List Sp) : List Int := H.foldl (emit1 size) out
def hand1 (ls : List Nd) (g : Int) (size : Nat) : List Sp := chooseP ls g 1 size [(0, 0, 0)]
def hand2 (ls : List Nd) (g : Int) (size : Nat) : List Sp := chooseP ls g 2 1 (hand1 ls g size)
def hand3 (ls : List Nd) (g : Int) (size : Nat) : List Sp := chooseP ls g 3 1 (hand2 ls g size)
/-- the nodes that the common rule tells -/
def ofP (ls : List Nd) (g : Int) (size : Nat) : List Int := emitP size [] (hand3 ls g size)
/-- the zones that are drawn -/
def zsOf (ls : List Nd) (g : Int) (size : Nat) : List Int := (ordF (keyOf g 1 0 0) (zonesOf ls)).take size
/-- the node of a zone -/
def pk (ls : List Nd) (g z : Int) : Int := (((chooseP ls g 3 1 (chosen1 ls g 2 1 (z, 0, 0))).headD (0, 0, 0)).2.2)
theorem wsum_pos {l : List Nd} (hI : ∀ x ∈ l, InN x) (h : 0 < wsum l) : ∃ x ∈ l, 0 < wtN x := by
  induction l with
  | nil => simp [wsum] at h
  | cons x l ih =>
    by_cases hx : 0 < wtN x
    · exact ⟨x, by simp, hx⟩
    · have h1 := (wtN_bd (hI x (by simp))).1
      obtain ⟨y, hy, h2⟩ := ih (fun y hy => hI y (by simp [hy])) (by simp only [wsum] at h; omega)
      exact ⟨y, by simp [hy], h2⟩
theorem wsum_ge {l : List Nd} (hI : ∀ x ∈ l, InN x) {x : Nd} (hx : x ∈ l) : wtN x ≤ wsum l := by
  induction l with
  | nil => simp at hx
  | cons y l ih =>
    have h1 := (wtN_bd (hI y (by simp))).1
    have h2 := wsum_nn (l := l) fun z hz => hI z (by simp [hz])
    simp only [wsum]
    rcases List.mem_cons.1 hx with rfl | hx
    · omega
    · have := ih (fun z hz => hI z (by simp [hz])) hx
      omega
theorem wt_node {x : Nd} (h : 0 < wtN x) : x.inn = true ∧ 0 < x.weight := by
  unfold wtN at h
  split at h
  · rename_i h1; exact ⟨h1, h⟩
  · omega
/-- who goes by a number that weighs something -/
theorem sum_heavy {g : Nd → Int} {ls : List Nd} (hM : MayN ls) {c : Ch} (hc : c ∈ sumF g ls) (h : 0 < c.2) : ∃ x ∈ ls, g x = c.1 ∧ 0 < wtN x := by
  obtain ⟨_, _, h2⟩ := (mem_upTo g ls c 999).1 hc
  have h3 : 0 < wsum (ls.filter fun x => decide (g x = c.1)) := by unfold sumAt at h2; omega
  obtain ⟨x, hx, h4⟩ := wsum_pos (fun x hx => may_in hM x (List.mem_filter.1 hx).1) h3
  obtain ⟨h5, h6⟩ := List.mem_filter.1 hx
  exact ⟨x, h5, by simpa using h6, h4⟩
theorem heavy_sum {g : Nd → Int} {ls : List Nd} (hM : MayN ls) {x : Nd} (hx : x ∈ ls) (h : 0 < wtN x) (h1 : 1 ≤ g x) (h2 : g x ≤ 999) : ∃ c ∈ sumF g ls, 0 < c.2 := by
  refine ⟨(g x, sumAt g ls (g x)), (mem_upTo g ls _ 999).2 ⟨⟨h1, h2⟩, ⟨x, hx, rfl⟩, rfl⟩, ?_⟩
  have := wsum_ge (l := ls.filter fun y => decide (g y = g x)) (fun y hy => may_in hM y (List.mem_filter.1 hy).1) (List.mem_filter.2 ⟨hx, by simp⟩)
  show 0 < sumAt g ls (g x)
  unfold sumAt
  omega
theorem pick_one {ls : List Nd} (hM : MayN ls) (g : Int) {z : Int} (hz : ∃ c ∈ zonesOf ls, 0 < c.2 ∧ c.1 = z) :
    ∃ r n, n ∈ ls ∧ n.zone = z ∧ n.inn = true ∧ 0 < n.weight ∧ chosen1 ls g 2 1 (z, 0, 0) = [(z, r, 0)] ∧ chosen1 ls g 3 1 (z, r, 0) = [(z, r, n.id)] := by
  obtain ⟨c, hc, h0, rfl⟩ := hz
  obtain ⟨x, hx, e1, h1⟩ := sum_heavy hM hc h0
  have e1' : x.zone = c.1 := e1
  have hI := may_in hM x hx
  have hz0 : c.1 ≠ 0 := by have := hI.2.1.1; omega
  obtain ⟨d, hd, hd0, hd1⟩ := ord_some (key := keyOf g 2 c.1 0) (sumF_may hM : Dr.MayC (racksOf ls c.1)) (heavy_sum (g := rackG c.1) hM hx h1 (by unfold rackG; rw [if_pos e1']; exact hI.2.2.1.1) (by unfold rackG; rw [if_pos e1']; have := hI.2.2.1.2; omega))
  obtain ⟨y, hy, e2, h2⟩ := sum_heavy hM hd hd0
  obtain ⟨⟨hd2, _⟩, _⟩ := (mem_upTo _ ls d 999).1 hd
  have hyz : y.zone = c.1 := by
    unfold rackG at e2
    split at e2
    · assumption
    · omega
  have hyr : y.rack = d.1 := by
    unfold rackG at e2
    rw [if_pos hyz] at e2
    exact e2
  have hIy := may_in hM y hy
  have hsel : selN c.1 d.1 y = true := by simp [selN, coversB, hyz, hyr]
  obtain ⟨f, hf, hf0, hf1⟩ := ord_some (key := keyOf g 3 c.1 d.1) (sumF_may hM : Dr.MayC (leavesOf ls c.1 d.1)) (heavy_sum (g := leafG c.1 d.1) hM hy h2 (by unfold leafG; rw [if_pos hsel]; exact hIy.1.1) (by unfold leafG; rw [if_pos hsel]; exact hIy.1.2))
  obtain ⟨n, hn, e3, h3⟩ := sum_heavy hM hf hf0
  obtain ⟨⟨hf2, _⟩, _⟩ := (mem_upTo _ ls f 999).1 hf
  have hsn : selN c.1 d.1 n = true := by
    unfold leafG at e3
    split at e3
    · assumption
    · omega
  have hni : n.id = f.1 := by
    unfold leafG at e3
    rw [if_pos hsn] at e3
    exact e3
  have hnz : n.zone = c.1 := by
    simp only [selN, coversB, Bool.and_eq_true, Bool.or_eq_true, beq_iff_eq] at hsn
    rcases hsn.1 with h | h
    · exact absurd h hz0
    · exact h.symm
  obtain ⟨h4, h5⟩ := wt_node h3
  refine ⟨d.1, n, hn, hnz, h4, h5, ?_, ?_⟩
  · show ((ordF (keyOf g 2 c.1 0) (racksOf ls c.1)).take 1).map (childOf (c.1, 0, 0) 2) = _
    have hd1' : (ordF (keyOf g 2 c.1 0) (racksOf ls c.1)).take 1 = [d.1] := hd1
    rw [hd1']
    rfl
  · show ((ordF (keyOf g 3 c.1 d.1) (leavesOf ls c.1 d.1)).take 1).map (childOf (c.1, d.1, 0) 3) = _
    have hf1' : (ordF (keyOf g 3 c.1 d.1) (leavesOf ls c.1 d.1)).take 1 = [f.1] := hf1
    rw [hf1', hni]
    rfl
theorem emit_all (size : Nat) : ∀ (H : List Sp) (out : List Int), (out ++ H.map (·.2.2)).Nodup → out.length + H.length ≤ size → emitP size out H = out ++ H.map (·.2.2) := by
  intro H
  induction H with
  | nil => intro out _ _; simp [emitP]
  | cons x H ih =>
    intro out hn hl
    have h1 : x.2.2 ∉ out := fun h => by
      rw [List.map_cons, List.nodup_append] at hn
      exact hn.2.2 _ h _ (by simp) rfl
    have e : emit1 size out x = out ++ [x.2.2] := if_pos ⟨by simp at hl; omega, h1⟩
    show emitP size (emit1 size out x) H = _
    rw [e, ih _ (by simpa using hn) (by simp at hl ⊢; omega)]
    simp
theorem zs_mem {ls : List Nd} (hM : MayN ls) {g : Int} {size : Nat} {z : Int} (h : z ∈ zsOf ls g size) : ∃ c ∈ zonesOf ls, 0 < c.2 ∧ c.1 = z := (ord_mem (sumF_may hM : Dr.MayC (zonesOf ls))).1 (List.mem_of_mem_take h)
theorem zs_nodup {ls : List Nd} (hM : MayN ls) (g : Int) (size : Nat) : (zsOf ls g size).Nodup := (ord_nodup _ (sumF_may hM : Dr.MayC (zonesOf ls))).sublist (List.take_sublist _ _)
/-- the node of a zone that is drawn -/
theorem pk_one {ls : List Nd} (hM : MayN ls) (g : Int) {z : Int} (hz : ∃ c ∈ zonesOf ls, 0 < c.2 ∧ c.1 = z) : ∃ n, n ∈ ls ∧ n.zone = z ∧ n.inn = true ∧ 0 < n.weight ∧ pk ls g z = n.id := by
  obtain ⟨r, n, h1, h2, h3, h4, h5, h6⟩ := pick_one hM g hz
  refine ⟨n, h1, h2, h3, h4, ?_⟩
  unfold pk chooseP
  rw [h5, List.flatMap_cons, h6]
  rfl
theorem hand1_eq (ls : List Nd) (g : Int) (size : Nat) : hand1 ls g size = (zsOf ls g size).map fun z => (z, 0, 0) := by
  unfold hand1 chooseP zsOf
  rw [List.flatMap_cons, List.flatMap_nil, List.append_nil]
  rfl
theorem hands {ls : List Nd} (hM : MayN ls) (g : Int) : ∀ Z : List Int, (∀ z ∈ Z, ∃ c ∈ zonesOf ls, 0 < c.2 ∧ c.1 = z) → (chooseP ls g 3 1 (chooseP ls g 2 1 (Z.map fun z => (z, 0, 0)))).map (·.2.2) = Z.map (pk ls g) := by
  intro Z
  induction Z with
  | nil => intro _; rfl
  | cons z Z ih =>
    intro h
    have h1 := ih fun y hy => h y (by simp [hy])
    obtain ⟨r, n, _, _, _, _, h5, h6⟩ := pick_one hM g (h z (by simp))
    have e : pk ls g z = n.id := by
      unfold pk chooseP
      rw [h5, List.flatMap_cons, h6]
      rfl
    rw [List.map_cons, List.map_cons, e, ← h1]
    unfold chooseP
    rw [List.flatMap_cons, h5, List.flatMap_append, List.flatMap_cons, h6, List.flatMap_nil, List.append_nil, List.map_append]
    rfl
theorem of_eq {ls : List Nd} (hM : MayN ls) (g : Int) (size : Nat) : ofP ls g size = (zsOf ls g size).map (pk ls g) := by
  have h1 := hands hM g (zsOf ls g size) fun z hz => zs_mem hM hz
  rw [← hand1_eq] at h1
  have h2 : (hand3 ls g size).map (·.2.2) = (zsOf ls g size).map (pk ls g) := h1
  unfold ofP
  rw [emit_all size _ [], List.nil_append, h2]
  · rw [List.nil_append, h2]
    unfold List.Nodup
    rw [List.pairwise_map]
    refine List.Pairwise.imp_of_mem (R := fun a b => a ≠ b) (fun {a b} ha hb hne e => ?_) (zs_nodup hM g size)
    obtain ⟨n, n1, n2, _, _, n3⟩ := pk_one hM g (zs_mem hM ha)
    obtain ⟨m, m1, m2, _, _, m3⟩ := pk_one hM g (zs_mem hM hb)
    have := id_inj hM n1 m1 (by rw [← n3, ← m3, e])
    subst this
    exact hne (n2.symm.trans m2)
  · have := congrArg List.length h2
    simp at this
    rw [List.length_nil, Nat.zero_add, this]
    unfold zsOf
    rw [List.length_take]
    exact Nat.min_le_left _ _
theorem of_len {ls : List Nd} (hM : MayN ls) (g : Int) (size : Nat) : (ofP ls g size).length ≤ size := by
  rw [of_eq hM]
  unfold zsOf
  simp
  exact Nat.min_le_left _ _
end Go.Proofs.YtcncbjknfcjnmaaGreat
