/-
  Where groups stand by the common rule, plainly: no Go in sight.
-/
import Derived.Test.YtcncbjknfcjnmaaGreatDrK
import Derived.Test.YtcncbjknfcjnmaaGreatTpQ
namespace Go.Proofs.YtcncbjknfcjnmaaGreat
open Tp
abbrev Sp := Int × Int × Int
/-- what those weigh together that go by a number; nothing above 65536 -/
def sumAt (g : Nd → Int) (ls : List Nd) (id : Int) : Int := min (wsum (ls.filter fun x => decide (g x = id))) 65536
/-- one by one, rising, up to a number -/
def upTo (g : Nd → Int) (ls : List Nd) : Nat → List Ch
  | 0 => []
  | k + 1 => if ls.any (fun x => decide (g x = ((k + 1 : Nat) : Int))) then upTo g ls k ++ [(((k + 1 : Nat) : Int), sumAt g ls ((k + 1 : Nat) : Int))] else upTo g ls k
def sumF (g : Nd → Int) (ls : List Nd) : List Ch := upTo g ls 999
theorem mem_upTo (g : Nd → Int) (ls : List Nd) (c : Ch) : ∀ k, c ∈ upTo g ls k ↔ (1 ≤ c.1 ∧ c.1 ≤ (k : Int)) ∧ (∃ x ∈ ls, g x = c.1) ∧ c.2 = sumAt g ls c.1 := by
  intro k
  induction k with
  | zero => simp [upTo]; omega
  | succ k ih =>
    unfold upTo
    by_cases h : ls.any (fun x => decide (g x = ((k + 1 : Nat) : Int))) = true
    · rw [if_pos h, List.mem_append, ih]
      simp only [List.any_eq_true, decide_eq_true_eq] at h
      constructor
      · rintro (⟨⟨h1, h2⟩, h3, h4⟩ | h1)
        · exact ⟨⟨h1, by omega⟩, h3, h4⟩
        · obtain rfl := List.mem_singleton.1 h1
          exact ⟨⟨by show (1 : Int) ≤ ((k + 1 : Nat) : Int); omega, Int.le_refl _⟩, h, rfl⟩
      · rintro ⟨⟨h1, h2⟩, h3, h4⟩
        by_cases e : c.1 = ((k + 1 : Nat) : Int)
        · right
          obtain ⟨c1, c2⟩ := c
          simp only at e h4
          subst e
          subst h4
          simp
        · exact .inl ⟨⟨h1, by omega⟩, h3, h4⟩
    · rw [if_neg h, ih]
      simp only [List.any_eq_true, decide_eq_true_eq] at h
      constructor
      · rintro ⟨⟨h1, h2⟩, h3, h4⟩
        exact ⟨⟨h1, by omega⟩, h3, h4⟩
      · rintro ⟨⟨h1, h2⟩, ⟨x, hx, hgx⟩, h4⟩
        have e : c.1 ≠ ((k + 1 : Nat) : Int) := fun e => h ⟨x, hx, hgx.trans e⟩
        exact ⟨⟨h1, by omega⟩, ⟨x, hx, hgx⟩, h4⟩
theorem rise_upTo (g : Nd → Int) (ls : List Nd) : ∀ k, Dr.Rise (upTo g ls k) := by
  intro k
  induction k with
  | zero => exact List.Pairwise.nil
  | succ k ih =>
    unfold upTo
    split
    · refine List.pairwise_append.2 ⟨ih, by simp, fun a ha b hb => ?_⟩
      obtain rfl := List.mem_singleton.1 hb
      have := ((mem_upTo g ls a k).1 ha).1.2
      show a.1 < ((k + 1 : Nat) : Int)
      omega
    · exact ih
theorem rise_ext {l r : List Ch} (hl : Dr.Rise l) (hr : Dr.Rise r) (h : ∀ c, c ∈ l ↔ c ∈ r) : l = r := by
  induction l generalizing r with
  | nil =>
    cases r with
    | nil => rfl
    | cons d r => exact absurd ((h d).2 (by simp)) (by simp)
  | cons c l ih =>
    cases r with
    | nil => exact absurd ((h c).1 (by simp)) (by simp)
    | cons d r =>
      obtain ⟨hc, hl'⟩ := List.pairwise_cons.1 hl
      obtain ⟨hd, hr'⟩ := List.pairwise_cons.1 hr
      have e : c = d := by
        rcases List.mem_cons.1 ((h c).1 (by simp)) with e | h1
        · exact e
        · rcases List.mem_cons.1 ((h d).2 (by simp)) with e | h2
          · exact e.symm
          · have h3 := hd c h1
            have h4 := hc d h2
            omega
      subst e
      congr 1
      refine ih hl' hr' fun x => ?_
      have hx := h x
      simp only [List.mem_cons] at hx
      constructor
      · intro h1
        rcases hx.1 (.inr h1) with rfl | h2
        · exact absurd (hc x h1) (by omega)
        · exact h2
      · intro h1
        rcases hx.2 (.inr h1) with rfl | h2
        · exact absurd (hd x h1) (by omega)
        · exact h2
theorem upTo_len (g : Nd → Int) (ls : List Nd) : ∀ k, (upTo g ls k).length ≤ ls.countP (fun x => decide (1 ≤ g x ∧ g x ≤ (k : Int))) := by
  intro k
  induction k with
  | zero => simp [upTo]
  | succ k ih =>
    have hs : ls.countP (fun x => decide (1 ≤ g x ∧ g x ≤ ((k + 1 : Nat) : Int))) = ls.countP (fun x => decide (1 ≤ g x ∧ g x ≤ (k : Int))) + ls.countP (fun x => decide (g x = ((k + 1 : Nat) : Int))) := by
      clear ih
      induction ls with
      | nil => rfl
      | cons x ls ihl =>
        simp only [List.countP_cons]
        rw [ihl]
        by_cases h1 : g x = ((k + 1 : Nat) : Int)
        · have a1 : 1 ≤ g x ∧ g x ≤ ((k + 1 : Nat) : Int) := by omega
          have a2 : ¬ (1 ≤ g x ∧ g x ≤ (k : Int)) := by omega
          rw [decide_eq_true a1, decide_eq_false a2, decide_eq_true h1]
          simp only [if_true, Bool.false_eq_true, if_false]
          omega
        · by_cases h2 : 1 ≤ g x ∧ g x ≤ (k : Int)
          · have a1 : 1 ≤ g x ∧ g x ≤ ((k + 1 : Nat) : Int) := by omega
            rw [decide_eq_true a1, decide_eq_true h2, decide_eq_false h1]
            simp only [if_true, Bool.false_eq_true, if_false]
            omega
          · have a1 : ¬ (1 ≤ g x ∧ g x ≤ ((k + 1 : Nat) : Int)) := by omega
            rw [decide_eq_false a1, decide_eq_false h2, decide_eq_false h1]
            simp only [Bool.false_eq_true, if_false]
            omega
    rw [hs]
    unfold upTo
    split
    · rename_i h
      have : 0 < ls.countP (fun x => decide (g x = ((k + 1 : Nat) : Int))) := by
        rw [List.countP_pos_iff]
        simpa using h
      rw [List.length_append, List.length_singleton]
      omega
    · omega
theorem sumF_len (g : Nd → Int) (ls : List Nd) : (sumF g ls).length ≤ ls.length := Nat.le_trans (upTo_len g ls 999) (List.countP_le_length)
theorem wsum_nn {l : List Nd} (h : ∀ x ∈ l, InN x) : 0 ≤ wsum l := by
  induction l with
  | nil => exact Int.le_refl _
  | cons x l ih =>
    have h1 := (wtN_bd (h x (by simp))).1
    have h2 := ih fun y hy => h y (by simp [hy])
    simp only [wsum]
    omega
theorem sumAt_bd {g : Nd → Int} {ls : List Nd} (hM : MayN ls) (id : Int) : 0 ≤ sumAt g ls id ∧ sumAt g ls id ≤ 65536 := by
  have h := wsum_nn (l := ls.filter fun x => decide (g x = id)) fun x hx => may_in hM x (List.mem_filter.1 hx).1
  unfold sumAt
  omega
theorem sumF_may {g : Nd → Int} {ls : List Nd} (hM : MayN ls) : Dr.MayC (sumF g ls) := by
  rw [Dr.may_iff]
  refine ⟨Nat.le_trans (sumF_len g ls) (Nat.le_trans hM.1 (by decide)), fun c hc => ?_, rise_upTo g ls 999⟩
  obtain ⟨⟨h1, h2⟩, _, h4⟩ := (mem_upTo g ls c 999).1 hc
  have := sumAt_bd (g := g) hM c.1
  refine ⟨by omega, by omega, by omega, by omega⟩
/-- what is kept is kept -/
theorem putL_keep {L : List Ld} {p q v : Int} {a b : Int} (h : ∃ d ∈ L, d.1 = a ∧ d.2.1 = b) : ∃ d ∈ putL L p q v, d.1 = a ∧ d.2.1 = b := by
  induction L with
  | nil => simp at h
  | cons c L ih =>
    obtain ⟨d, hd, h1, h2⟩ := h
    unfold putL
    split
    · rename_i he
      rcases List.mem_cons.1 hd with rfl | hd
      · exact ⟨(p, q, d.2.2 + v), by simp, by rw [← h1]; exact he.1.symm, by rw [← h2]; exact he.2.symm⟩
      · exact ⟨d, by simp [hd], h1, h2⟩
    · rcases List.mem_cons.1 hd with rfl | hd
      · exact ⟨d, by simp, h1, h2⟩
      · obtain ⟨d', h3, h4⟩ := ih ⟨d, hd, h1, h2⟩
        exact ⟨d', by simp [h3], h4⟩
theorem putL_new (L : List Ld) (p q v : Int) : ∃ d ∈ putL L p q v, d.1 = p ∧ d.2.1 = q := by
  induction L with
  | nil => exact ⟨(p, q, v), by simp [putL], rfl, rfl⟩
  | cons c L ih =>
    unfold putL
    split
    · exact ⟨(p, q, c.2.2 + v), by simp, rfl, rfl⟩
    · obtain ⟨d, h3, h4⟩ := ih
      exact ⟨d, by simp [h3], h4⟩
theorem fold_keep (f : Nd → Int × Int) (l : List Nd) : ∀ (L : List Ld) (a b : Int), (∃ d ∈ L, d.1 = a ∧ d.2.1 = b) → ∃ d ∈ l.foldl (stepL f) L, d.1 = a ∧ d.2.1 = b := by
  induction l with
  | nil => intro L a b h; exact h
  | cons x l ih => intro L a b h; rw [List.foldl_cons]; exact ih _ a b (putL_keep h)
theorem fold_new (f : Nd → Int × Int) (l : List Nd) : ∀ (L : List Ld) (x : Nd), x ∈ l → ∃ d ∈ l.foldl (stepL f) L, d.1 = (f x).1 ∧ d.2.1 = (f x).2 := by
  induction l with
  | nil => intro L x h; simp at h
  | cons y l ih =>
    intro L x h
    rw [List.foldl_cons]
    rcases List.mem_cons.1 h with rfl | h
    · exact fold_keep f l _ _ _ (putL_new _ _ _ _)
    · exact ih _ x h
theorem sorted_rise {L : List Ld} (hs : SortedL L) (ho : Once L) (hd : ∀ c ∈ L, ∀ d ∈ L, c.1 = d.1 → c.2.1 = d.2.1) : Dr.Rise (L.map told) := by
  unfold Dr.Rise
  rw [List.pairwise_map, List.pairwise_iff_getElem]
  intro i j hi hj hij
  show L[i].1 < L[j].1
  have h1 := hs i j hij hj
  rw [show L.getD j ld0 = L[j] by simp [hj], show L.getD i ld0 = L[i] by simp [hi]] at h1
  have h2 := (List.pairwise_iff_getElem.1 ho) i j hi hj hij
  have h3 := hd L[i] (List.getElem_mem hi) L[j] (List.getElem_mem hj)
  unfold ltL at h1
  have h4 : ¬ L[j].1 < L[i].1 := fun h => h1 (.inl h)
  have h5 : L[i].1 ≠ L[j].1 := fun h => h2 ⟨h, h3 h⟩
  omega
theorem weigh_sum {f : Nd → Int × Int} {g : Nd → Int} {zone rack : Int} {ls : List Nd} {Z : List Ch} (hM : MayN ls) (h : WeighIs f zone rack ls Z)
    (hg : ∀ x ∈ ls, ∀ id, 1 ≤ id → (g x = id ↔ (selN zone rack x = true ∧ (f x).1 = id)))
    (hdet : ∀ x ∈ ls, ∀ y ∈ ls, selN zone rack x = true → selN zone rack y = true → (f x).1 = (f y).1 → (f x).2 = (f y).2)
    (hpos : ∀ x ∈ ls, 1 ≤ (f x).1 ∧ (f x).1 ≤ 999) : Z = sumF g ls := by
  have hex : ∃ L' : List Ld, L'.Perm (loadsF f zone rack ls) ∧ SortedL L' ∧ Z = L'.map told := by
    rcases h with ⟨_, L', hp, hs, e⟩ | ⟨h, _⟩
    · exact ⟨L', hp, hs, e⟩
    · exact absurd hM h
  obtain ⟨L', hp, hs, rfl⟩ := hex
  have ho : Once (loadsF f zone rack ls) := fold_once f _ [] (by simp [Once])
  have hmem : ∀ c ∈ loadsF f zone rack ls, ∃ x ∈ ls, selN zone rack x = true ∧ (f x).1 = c.1 ∧ (f x).2 = c.2.1 := fun c hc => by
    rcases fold_mem f _ [] c hc with h | ⟨x, hx, h1, h2⟩
    · simp at h
    · obtain ⟨hx1, hx2⟩ := List.mem_filter.1 hx
      exact ⟨x, hx1, hx2, h1, h2⟩
  have hd : ∀ c ∈ loadsF f zone rack ls, ∀ d ∈ loadsF f zone rack ls, c.1 = d.1 → c.2.1 = d.2.1 := fun c hc d hd e => by
    obtain ⟨x, hx, sx, x1, x2⟩ := hmem c hc
    obtain ⟨y, hy, sy, y1, y2⟩ := hmem d hd
    have := hdet x hx y hy sx sy (by rw [x1, y1, e])
    rw [← x2, ← y2, this]
  have hW : ∀ c ∈ loadsF f zone rack ls, c.2.2 = wsum (ls.filter fun x => decide (g x = c.1)) := fun c hc => by
    have h1 := once_get ho hc
    unfold loadsF at h1
    rw [fold_get] at h1
    rw [← h1]
    simp only [getW, Int.zero_add]
    rw [List.filter_filter]
    congr 1
    apply List.filter_congr
    intro x hx
    obtain ⟨y, hy, sy, y1, y2⟩ := hmem c hc
    have hc1 : 1 ≤ c.1 := by rw [← y1]; exact (hpos y hy).1
    have h2 := hg x hx c.1 hc1
    by_cases hgx : g x = c.1
    · obtain ⟨a1, a2⟩ := h2.1 hgx
      have a3 : (f x).2 = c.2.1 := by rw [← y2]; exact hdet x hx y hy a1 sy (by rw [a2, y1])
      simp [hgx, a1, a2, a3]
    · have : ¬ (((f x).1 = c.1 ∧ (f x).2 = c.2.1) ∧ selN zone rack x = true) := fun h3 => hgx (h2.2 ⟨h3.2, h3.1.1⟩)
      have e2 : decide (g x = c.1) = false := decide_eq_false hgx
      rw [e2]
      cases hsx : selN zone rack x with
      | false => simp
      | true =>
        have : ¬ ((f x).1 = c.1 ∧ (f x).2 = c.2.1) := fun h3 => this ⟨h3, hsx⟩
        simp [this]
  refine rise_ext (sorted_rise hs (hp.symm.pairwise ho fun {a b} h e => h ⟨e.1.symm, e.2.symm⟩) fun c hc d hd' => hd c (hp.mem_iff.1 hc) d (hp.mem_iff.1 hd')) (rise_upTo g ls 999) fun c => ?_
  show _ ↔ c ∈ upTo g ls 999
  rw [mem_upTo, List.mem_map]
  constructor
  · rintro ⟨d, hd1, rfl⟩
    have hd2 := hp.mem_iff.1 hd1
    obtain ⟨x, hx, sx, x1, x2⟩ := hmem d hd2
    have hb := hpos x hx
    refine ⟨⟨by show 1 ≤ d.1; omega, by show d.1 ≤ ((999 : Nat) : Int); omega⟩, ⟨x, hx, (hg x hx d.1 (by omega)).2 ⟨sx, x1⟩⟩, ?_⟩
    show min d.2.2 65536 = min _ 65536
    rw [hW d hd2]
    rfl
  · rintro ⟨⟨h1, h2⟩, ⟨x, hx, hgx⟩, h4⟩
    obtain ⟨a1, a2⟩ := (hg x hx c.1 h1).1 hgx
    obtain ⟨d, hd1, hd2, _⟩ := fold_new f (ls.filter (selN zone rack)) [] x (List.mem_filter.2 ⟨hx, a1⟩)
    refine ⟨d, hp.mem_iff.2 hd1, ?_⟩
    have hw := hW d hd1
    have e1 : d.1 = c.1 := hd2.trans a2
    obtain ⟨c1, c2⟩ := c
    simp only at h4 e1
    unfold told
    rw [hw, e1, h4]
    rfl
def zoneG (x : Nd) : Int := x.zone
def rackG (z : Int) (x : Nd) : Int := if x.zone = z then x.rack else 0
def leafG (z r : Int) (x : Nd) : Int := if selN z r x then x.id else 0
def zonesOf (ls : List Nd) : List Ch := sumF zoneG ls
def racksOf (ls : List Nd) (z : Int) : List Ch := sumF (rackG z) ls
def leavesOf (ls : List Nd) (z r : Int) : List Ch := sumF (leafG z r) ls
theorem zones_is {ls : List Nd} {Z : List Ch} (hM : MayN ls) (h : WeighIs zoneF 0 0 ls Z) : Z = zonesOf ls :=
  weigh_sum hM h (fun x _ id _ => by simp [zoneG, zoneF, selN, coversB]) (fun x _ y _ _ _ h => h) (fun x hx => by have := may_in hM x hx; exact ⟨this.2.1.1, by have := this.2.1.2; show x.zone ≤ 999; omega⟩)
theorem racks_is {ls : List Nd} {z : Int} {Z : List Ch} (hM : MayN ls) (hz : z ≠ 0) (h : WeighIs rackF z 0 ls Z) : Z = racksOf ls z := by
  have hs : ∀ x, selN z 0 x = true ↔ x.zone = z := fun x => by
    simp only [selN, coversB, Bool.and_eq_true, Bool.or_eq_true, beq_iff_eq]
    constructor
    · rintro ⟨h | h, _⟩
      · exact absurd h hz
      · exact h.symm
    · intro h; exact ⟨.inr h.symm, .inl trivial⟩
  refine weigh_sum hM h (fun x hx id hid => ?_) (fun x _ y _ hx hy _ => ((hs x).1 hx).trans ((hs y).1 hy).symm) (fun x hx => by have := (may_in hM x hx).2.2.1; exact ⟨this.1, by have := this.2; show x.rack ≤ 999; omega⟩)
  rw [hs]
  unfold rackG rackF
  by_cases h1 : x.zone = z
  · simp [h1]
  · simp [h1]; omega
theorem id_inj {ls : List Nd} (hM : MayN ls) {x y : Nd} (hx : x ∈ ls) (hy : y ∈ ls) (h : x.id = y.id) : x = y := by
  have hr := may_rise hM
  obtain ⟨i, hi, rfl⟩ := List.getElem_of_mem hx
  obtain ⟨j, hj, rfl⟩ := List.getElem_of_mem hy
  rw [List.pairwise_iff_getElem] at hr
  rcases Nat.lt_trichotomy i j with h1 | rfl | h1
  · have := hr i j hi hj h1; omega
  · rfl
  · have := hr j i hj hi h1; omega
theorem leaves_is {ls : List Nd} {z r : Int} {Z : List Ch} (hM : MayN ls) (h : WeighIs leafF z r ls Z) : Z = leavesOf ls z r := by
  refine weigh_sum hM h (fun x hx id hid => ?_) (fun x hx y hy _ _ h => by rw [id_inj hM hx hy h]) (fun x hx => (may_in hM x hx).1)
  unfold leafG leafF
  by_cases h1 : selN z r x = true
  · simp [h1]
  · simp [h1]; omega
/-- as the answer has them -/
theorem leaves_ref {ls : List Nd} (z r : Int) (hM : MayN ls) : (ls.filter (selN z r)).map (fun x => (x.id, wtN x)) = leavesOf ls z r := by
  refine rise_ext ?_ (rise_upTo _ ls 999) fun c => ?_
  · unfold Dr.Rise
    rw [List.pairwise_map]
    exact List.Pairwise.filter _ (may_rise hM)
  · show _ ↔ c ∈ upTo (leafG z r) ls 999
    rw [mem_upTo, List.mem_map]
    have hone : ∀ x ∈ ls, selN z r x = true → sumAt (leafG z r) ls x.id = wtN x := fun x hx hs => by
      have hb := wtN_bd (may_in hM x hx)
      have : ls.filter (fun y => decide (leafG z r y = x.id)) = [x] := by
        have h1 : ls.filter (fun y => decide (leafG z r y = x.id)) = ls.filter (fun y => decide (y.id = x.id)) := by
          apply List.filter_congr
          intro y hy
          by_cases e : y.id = x.id
          · obtain rfl := id_inj hM hy hx e
            simp [leafG, hs]
          · have hx1 := (may_in hM x hx).1.1
            have : leafG z r y ≠ x.id := by unfold leafG; split <;> omega
            simp [e, this]
        rw [h1]
        have hr := may_rise hM
        clear h1 hM hb
        induction ls with
        | nil => simp at hx
        | cons a ls ih =>
          obtain ⟨ha, hr'⟩ := List.pairwise_cons.1 hr
          rcases List.mem_cons.1 hx with rfl | hx
          · rw [List.filter_cons_of_pos (by simp)]
            congr 1
            rw [List.filter_eq_nil_iff]
            intro y hy
            have := ha y hy
            simp
            omega
          · have := ha x hx
            rw [List.filter_cons_of_neg (by simp; omega)]
            exact ih hx hr'
      unfold sumAt
      rw [this]
      simp only [wsum]
      omega
    constructor
    · rintro ⟨x, hx, rfl⟩
      obtain ⟨h1, h2⟩ := List.mem_filter.1 hx
      have hi := (may_in hM x h1).1
      exact ⟨⟨hi.1, hi.2⟩, ⟨x, h1, by simp [leafG, h2]⟩, (hone x h1 h2).symm⟩
    · rintro ⟨⟨h1, h2⟩, ⟨x, hx, hgx⟩, h4⟩
      have hs : selN z r x = true := by
        cases hs : selN z r x with
        | true => rfl
        | false => simp [leafG, hs] at hgx; omega
      have e : x.id = c.1 := by simpa [leafG, hs] using hgx
      refine ⟨x, List.mem_filter.2 ⟨hx, hs⟩, ?_⟩
      obtain ⟨c1, c2⟩ := c
      simp only at e h4
      rw [← e] at h4 ⊢
      rw [h4, hone x hx hs]
end Go.Proofs.YtcncbjknfcjnmaaGreat
