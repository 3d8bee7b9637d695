/-
  The theorem of weights, plainly.
-/
import Derived.Test.YtcncbjknfcjnmaaGreatTpJ
namespace Go.Proofs.YtcncbjknfcjnmaaGreat.Tp
open Go.ChangeShapes Go.WideShapes Go.ChangeAt Go.RowKit
/-- what these weigh together -/
def wsum : List Nd → Int
  | [] => 0
  | x :: l => wtN x + wsum l
def sumL : List Ld → Int
  | [] => 0
  | c :: L => c.2.2 + sumL L
def sumC : List Ch → Int
  | [] => 0
  | c :: L => c.2 + sumC L
theorem putL_sum (L : List Ld) (p q v : Int) : sumL (putL L p q v) = sumL L + v := by
  induction L with
  | nil => simp [putL, sumL]
  | cons c L ih =>
    unfold putL
    split
    · simp only [sumL]; omega
    · simp only [sumL]; omega
theorem fold_sum (f : Nd → Int × Int) (l : List Nd) : ∀ L, sumL (l.foldl (stepL f) L) = sumL L + wsum l := by
  induction l with
  | nil => intro L; simp [wsum]
  | cons x l ih =>
    intro L
    rw [List.foldl_cons, ih, stepL, putL_sum]
    simp only [wsum]
    omega
theorem loadsF_sum (f : Nd → Int × Int) (zone rack : Int) (ls : List Nd) : sumL (loadsF f zone rack ls) = wsum (ls.filter (selN zone rack)) := by
  unfold loadsF
  rw [fold_sum]
  simp [sumL]
/-- what stands there weighs -/
def getW : List Ld → Int → Int → Int
  | [], _, _ => 0
  | c :: L, p, q => if c.1 = p ∧ c.2.1 = q then c.2.2 else getW L p q
theorem getW_same (L : List Ld) (p q v : Int) : getW (putL L p q v) p q = getW L p q + v := by
  induction L with
  | nil => simp [putL, getW]
  | cons c L ih =>
    unfold putL
    by_cases h : c.1 = p ∧ c.2.1 = q
    · rw [if_pos h]
      simp only [getW, and_self, if_true, if_pos h]
    · rw [if_neg h]
      simp only [getW, if_neg h]
      exact ih
theorem getW_other (L : List Ld) (p q v r s : Int) (h : ¬ (p = r ∧ q = s)) : getW (putL L p q v) r s = getW L r s := by
  induction L with
  | nil => simp only [putL, getW, if_neg h]
  | cons c L ih =>
    unfold putL
    by_cases h1 : c.1 = p ∧ c.2.1 = q
    · rw [if_pos h1]
      have h2 : ¬ (c.1 = r ∧ c.2.1 = s) := fun h3 => h ⟨h1.1.symm.trans h3.1, h1.2.symm.trans h3.2⟩
      simp only [getW, if_neg h, if_neg h2]
    · rw [if_neg h1]
      by_cases h2 : c.1 = r ∧ c.2.1 = s
      · simp only [getW, if_pos h2]
      · simp only [getW, if_neg h2]
        exact ih
theorem fold_get (f : Nd → Int × Int) (p q : Int) (l : List Nd) : ∀ L, getW (l.foldl (stepL f) L) p q = getW L p q + wsum (l.filter fun x => decide ((f x).1 = p ∧ (f x).2 = q)) := by
  induction l with
  | nil => intro L; simp [wsum]
  | cons x l ih =>
    intro L
    rw [List.foldl_cons, ih, stepL]
    by_cases h : (f x).1 = p ∧ (f x).2 = q
    · rw [List.filter_cons_of_pos (by simpa using h)]
      have := getW_same L (f x).1 (f x).2 (wtN x)
      rw [h.1, h.2] at this
      rw [h.1, h.2, this]
      simp only [wsum]
      omega
    · rw [List.filter_cons_of_neg (by simpa using h), getW_other _ _ _ _ _ _ h]
/-- no spot twice -/
def Once (L : List Ld) : Prop := L.Pairwise fun c d => ¬ (c.1 = d.1 ∧ c.2.1 = d.2.1)
theorem putL_mem {L : List Ld} {p q v : Int} {c : Ld} (h : c ∈ putL L p q v) : (c.1 = p ∧ c.2.1 = q) ∨ c ∈ L := by
  induction L with
  | nil => simp [putL] at h; subst h; exact .inl ⟨rfl, rfl⟩
  | cons d L ih =>
    unfold putL at h
    split at h
    · rcases List.mem_cons.1 h with rfl | h
      · exact .inl ⟨rfl, rfl⟩
      · exact .inr (List.mem_cons_of_mem _ h)
    · rcases List.mem_cons.1 h with rfl | h
      · exact .inr (by simp)
      · rcases ih h with h | h
        · exact .inl h
        · exact .inr (List.mem_cons_of_mem _ h)
theorem putL_once {L : List Ld} {p q v : Int} (h : Once L) : Once (putL L p q v) := by
  induction L with
  | nil => simp [putL, Once]
  | cons d L ih =>
    obtain ⟨h1, h2⟩ := List.pairwise_cons.1 h
    unfold putL
    split
    · rename_i hd
      refine List.pairwise_cons.2 ⟨fun c hc => ?_, h2⟩
      have := h1 c hc
      rw [hd.1, hd.2] at this
      exact this
    · rename_i hd
      refine List.pairwise_cons.2 ⟨fun c hc => ?_, ih h2⟩
      rcases putL_mem hc with h | h
      · rw [h.1, h.2]; exact hd
      · exact h1 c h
theorem fold_once (f : Nd → Int × Int) (l : List Nd) : ∀ L, Once L → Once (l.foldl (stepL f) L) := by
  induction l with
  | nil => intro L h; exact h
  | cons x l ih => intro L h; rw [List.foldl_cons]; exact ih _ (putL_once h)
theorem fold_mem (f : Nd → Int × Int) (l : List Nd) : ∀ L c, c ∈ l.foldl (stepL f) L → c ∈ L ∨ ∃ x ∈ l, (f x).1 = c.1 ∧ (f x).2 = c.2.1 := by
  induction l with
  | nil => intro L c h; exact .inl h
  | cons x l ih =>
    intro L c h
    rw [List.foldl_cons] at h
    rcases ih _ c h with h | ⟨y, hy, h⟩
    · rcases putL_mem h with h | h
      · exact .inr ⟨x, by simp, h.1.symm, h.2.symm⟩
      · exact .inl h
    · exact .inr ⟨y, by simp [hy], h⟩
theorem once_get {L : List Ld} (h : Once L) {c : Ld} (hc : c ∈ L) : getW L c.1 c.2.1 = c.2.2 := by
  induction L with
  | nil => simp at hc
  | cons d L ih =>
    obtain ⟨h1, h2⟩ := List.pairwise_cons.1 h
    rcases List.mem_cons.1 hc with rfl | hc
    · simp [getW]
    · have := h1 c hc
      simp only [getW, if_neg this]
      exact ih h2 hc
theorem fold_bd (f : Nd → Int × Int) (l : List Nd) (hl : ∀ x ∈ l, InN x) : ∀ L m, 0 ≤ m → BdL L m → ∃ k, BdL (l.foldl (stepL f) L) k := by
  induction l with
  | nil => intro L m _ h; exact ⟨m, h⟩
  | cons x l ih =>
    intro L m h0 h
    rw [List.foldl_cons]
    have hx := wtN_bd (hl x (by simp))
    exact ih (fun y hy => hl y (by simp [hy])) _ (m + 65536) (by omega) (putL_bd h h0 hx.1 hx.2)
theorem may_in {ls : List Nd} (h : MayN ls) : ∀ x ∈ ls, InN x := fun x hx => by
  obtain ⟨i, hi, rfl⟩ := List.getElem_of_mem hx
  have := (h.2 i hi).1
  rw [getN_get hi] at this
  exact this
theorem loadsF_nn {f : Nd → Int × Int} {zone rack : Int} {ls : List Nd} (h : MayN ls) : ∀ c ∈ loadsF f zone rack ls, 0 ≤ c.2.2 := fun c hc => by
  obtain ⟨k, hk⟩ := fold_bd f (ls.filter (selN zone rack)) (fun x hx => may_in h x ((List.mem_filter.1 hx).1)) [] 0 (by omega) (fun c hc => absurd hc (by simp))
  exact (hk c hc).1
theorem may_rise {ls : List Nd} (h : MayN ls) : ls.Pairwise fun x y => x.id < y.id := by
  rw [List.pairwise_iff_getElem]
  intro i j hi hj hij
  obtain ⟨d, rfl⟩ : ∃ d, j = i + 1 + d := ⟨j - (i + 1), by omega⟩
  clear hij
  induction d with
  | zero =>
    have := (h.2 (i + 1) hj).2 (by omega)
    rw [Nat.add_sub_cancel, getN_get hi, getN_get hj] at this
    exact this
  | succ d ih =>
    have h1 := ih (by omega)
    have := (h.2 (i + 1 + (d + 1)) hj).2 (by omega)
    rw [show i + 1 + (d + 1) - 1 = i + 1 + d by omega, getN_get (show i + 1 + d < ls.length by omega), getN_get hj] at this
    exact Int.lt_trans h1 this
def leafL (x : Nd) : Ld := (x.id, x.zone, wtN x)
theorem leaf_fold (l : List Nd) : ∀ L : List Ld, l.Pairwise (fun x y => x.id < y.id) → (∀ c ∈ L, ∀ x ∈ l, c.1 ≠ x.id) → l.foldl (stepL leafF) L = L ++ l.map leafL := by
  induction l with
  | nil => intro L _ _; simp
  | cons x l ih =>
    intro L h hL
    obtain ⟨h1, h2⟩ := List.pairwise_cons.1 h
    have e : stepL leafF L x = L ++ [leafL x] := putL_miss fun i hi hh => hL (L.getD i ld0) (by rw [show L.getD i ld0 = L[i] by simp [hi]]; exact List.getElem_mem hi) x (by simp) hh.1
    rw [List.foldl_cons, e, ih _ h2 (fun c hc y hy => ?_)]
    · simp
    · rcases List.mem_append.1 hc with hc | hc
      · exact hL c hc y (by simp [hy])
      · obtain rfl := List.mem_singleton.1 hc
        have := h1 y hy
        show x.id ≠ y.id
        omega
theorem sel_all (ls : List Nd) : ls.filter (selN 0 0) = ls := by
  rw [List.filter_eq_self]
  intro x _
  simp [selN, coversB]
theorem leaves_eq {ls : List Nd} (h : MayN ls) : loadsF leafF 0 0 ls = ls.map leafL := by
  unfold loadsF
  rw [sel_all, leaf_fold ls [] (may_rise h) (fun c hc => absurd hc (by simp))]
  simp
theorem sumC_perm {l r : List Ch} (h : l.Perm r) : sumC l = sumC r := by
  induction h with
  | nil => rfl
  | cons c _ ih => simp only [sumC, ih]
  | swap c d l => simp only [sumC]; omega
  | trans _ _ h1 h2 => exact h1.trans h2
theorem cap_sum {L : List Ld} (h : ∀ c ∈ L, 0 ≤ c.2.2) : 0 ≤ sumL L ∧ (sumL L < 65536 → sumC (L.map told) = sumL L) ∧ min (sumL L) 65536 ≤ sumC (L.map told) := by
  induction L with
  | nil => exact ⟨by simp [sumL], fun _ => rfl, by show min (0 : Int) 65536 ≤ 0; omega⟩
  | cons c L ih =>
    have hc := h c (by simp)
    obtain ⟨h0, h1, h2⟩ := ih fun d hd => h d (by simp [hd])
    rw [List.map_cons]
    simp only [sumL, sumC, told]
    refine ⟨by omega, fun hlt => ?_, ?_⟩
    · rw [h1 (by omega)]; omega
    · omega
/-- weights that can be -/
def WOK (l : List Ch) : Prop := ∀ c ∈ l, 0 ≤ c.2 ∧ c.2 ≤ 65536
theorem told_ok {L L' : List Ld} (hp : L'.Perm L) (h : ∀ c ∈ L, 0 ≤ c.2.2) : WOK (L'.map told) := fun c hc => by
  obtain ⟨d, hd, rfl⟩ := List.mem_map.1 hc
  have := h d (hp.mem_iff.1 hd)
  simp only [told]
  omega
theorem weigh_yes {f : Nd → Int × Int} {zone rack : Int} {ls : List Nd} {out : List Ch} (hM : MayN ls) (h : WeighIs f zone rack ls out) : ∃ L' : List Ld, L'.Perm (loadsF f zone rack ls) ∧ out = L'.map told := by
  rcases h with ⟨_, L', hp, _, rfl⟩ | ⟨h, _⟩
  · exact ⟨L', hp, rfl⟩
  · exact absurd hM h
theorem sums_leaves {ls : List Nd} {out : List Ch} (hM : MayN ls) (h : WeighIs leafF 0 0 ls out) : out.length = ls.length ∧ sumC out = wsum ls ∧ WOK out := by
  obtain ⟨L', hp, rfl⟩ := weigh_yes hM h
  refine ⟨?_, ?_, told_ok hp (loadsF_nn hM)⟩
  · rw [List.length_map, hp.length_eq, leaves_eq hM, List.length_map]
  · rw [sumC_perm (hp.map told), leaves_eq hM, List.map_map]
    have h2 := may_in hM
    clear hM hp h
    induction ls with
    | nil => rfl
    | cons x l ih =>
      have hx := wtN_bd (h2 x (by simp))
      have := ih fun y hy => h2 y (by simp [hy])
      rw [List.map_cons]
      simp only [sumC, wsum, this]
      show min (wtN x) 65536 + _ = _
      omega
theorem rack_sum {ls : List Nd} {z : Int} (hz : z ≠ 0) : sumL (loadsF rackF z 0 ls) = wsum (ls.filter fun x => decide ((zoneF x).1 = z ∧ (zoneF x).2 = z)) := by
  rw [loadsF_sum]
  congr 1
  apply List.filter_congr
  intro x _
  unfold selN coversB zoneF
  by_cases h : x.zone = z
  · simp [h]
  · have : ¬ z = x.zone := fun e => h e.symm
    simp [h, hz, this]
theorem sums_zones {ls : List Nd} {Z : List Ch} (hM : MayN ls) (h : WeighIs zoneF 0 0 ls Z) : WOK Z ∧ (wsum ls < 65536 → sumC Z = wsum ls) ∧ ∀ c ∈ Z, ∀ R, WeighIs rackF c.1 0 ls R → WOK R ∧ (c.2 < 65536 → sumC R = c.2) ∧ c.2 ≤ sumC R := by
  obtain ⟨L', hp, rfl⟩ := weigh_yes hM h
  have hnn := loadsF_nn (f := zoneF) (zone := 0) (rack := 0) hM
  refine ⟨told_ok hp hnn, fun hlt => ?_, fun c hc R hR => ?_⟩
  · have hs : sumL (loadsF zoneF 0 0 ls) = wsum ls := by rw [loadsF_sum, sel_all]
    have := (cap_sum hnn).2.1 (by omega)
    rw [sumC_perm (hp.map told), this, hs]
  · obtain ⟨d, hd, rfl⟩ := List.mem_map.1 hc
    have hd' := hp.mem_iff.1 hd
    have hmem : ∃ x ∈ ls, (zoneF x).1 = d.1 ∧ (zoneF x).2 = d.2.1 := by
      have hd2 := hd'
      unfold loadsF at hd2
      rw [sel_all] at hd2
      rcases fold_mem zoneF ls [] d hd2 with h | h
      · simp at h
      · exact h
    obtain ⟨x, hx, e1, e2⟩ := hmem
    have hz : d.1 ≠ 0 := by
      have := (may_in hM x hx).2.1.1
      have e3 : x.zone = d.1 := e1
      omega
    have e12 : d.2.1 = d.1 := e2.symm.trans e1
    have hget : d.2.2 = wsum (ls.filter fun x => decide ((zoneF x).1 = d.1 ∧ (zoneF x).2 = d.1)) := by
      have hd2 := hd'
      unfold loadsF at hd2
      rw [sel_all] at hd2
      have h1 := once_get (fold_once zoneF ls [] (by simp [Once])) hd2
      rw [fold_get] at h1
      rw [← h1]
      simp only [getW, e12]
      omega
    obtain ⟨R', hpR, rfl⟩ := weigh_yes hM hR
    have hnr := loadsF_nn (f := rackF) (zone := (told d).1) (rack := 0) hM
    have hcap := cap_sum hnr
    have hrs : sumL (loadsF rackF (told d).1 0 ls) = d.2.2 := by
      rw [hget]
      exact rack_sum hz
    rw [hrs] at hcap
    rw [sumC_perm (hpR.map told)]
    refine ⟨told_ok hpR hnr, fun hlt => ?_, hcap.2.2⟩
    have hlt' : min d.2.2 65536 < 65536 := hlt
    show _ = min d.2.2 65536
    rw [hcap.2.1 (by omega)]
    omega
theorem sumC_take {l : List Ch} {k : Nat} (h : k < l.length) : sumC (l.take (k + 1)) = sumC (l.take k) + (l.getD k ch0).2 := by
  induction l generalizing k with
  | nil => simp at h
  | cons c l ih =>
    cases k with
    | zero => simp [sumC]
    | succ k =>
      have := ih (k := k) (by simpa using h)
      rw [List.take_succ_cons, List.take_succ_cons]
      simp only [sumC, this]
      show _ = c.2 + _ + (l.getD k ch0).2
      omega
theorem sumC_bd {l : List Ch} (h : WOK l) (k : Nat) : 0 ≤ sumC (l.take k) ∧ sumC (l.take k) ≤ 65536 * (k : Int) := by
  induction l generalizing k with
  | nil => simp [sumC]; omega
  | cons c l ih =>
    cases k with
    | zero => simp [sumC]
    | succ k =>
      have hc := h c (by simp)
      have := ih (fun d hd => h d (by simp [hd])) k
      rw [List.take_succ_cons]
      simp only [sumC]
      omega
end Go.Proofs.YtcncbjknfcjnmaaGreat.Tp
