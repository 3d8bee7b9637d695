/-
  Choices and draws, plainly: which may be, who is the best one, the order; what follows if one weighs otherwise: no Go in sight.
-/
namespace Go.Proofs.YtcncbjknfcjnmaaGreat.Dr
/-- a choice: its number, its weight -/
abbrev Ch := Int × Int
def ch0 : Ch := (0, 0)
def InC (c : Ch) : Prop := 0 ≤ c.1 ∧ c.1 ≤ 2147483647 ∧ 0 ≤ c.2 ∧ c.2 ≤ 65536
def OkC (ls : List Ch) (i : Nat) : Prop := InC (ls.getD i ch0) ∧ (0 < i → (ls.getD (i - 1) ch0).1 < (ls.getD i ch0).1)
/-- which choices may be -/
def MayC (ls : List Ch) : Prop := ls.length ≤ 64 ∧ ∀ i, i < ls.length → OkC ls i
def Rise (ls : List Ch) : Prop := ls.Pairwise fun a b => a.1 < b.1
theorem getD_get {ls : List Ch} {i : Nat} (h : i < ls.length) : ls.getD i ch0 = ls[i] := by simp [h]
theorem may_iff (ls : List Ch) : MayC ls ↔ ls.length ≤ 64 ∧ (∀ c ∈ ls, InC c) ∧ Rise ls := by
  constructor
  · rintro ⟨h1, h2⟩
    refine ⟨h1, fun c hc => ?_, ?_⟩
    · obtain ⟨i, hi, rfl⟩ := List.mem_iff_getElem.1 hc
      have := (h2 i hi).1
      rwa [getD_get hi] at this
    · unfold Rise
      rw [List.pairwise_iff_getElem]
      intro i j hi hj hij
      obtain ⟨d, rfl⟩ : ∃ d, j = i + 1 + d := ⟨j - (i + 1), by omega⟩
      clear hij
      induction d with
      | zero =>
        have := (h2 (i + 1) hj).2 (by omega)
        rw [Nat.add_sub_cancel, getD_get hi, getD_get (i := i + 1) (by omega)] at this
        exact this
      | succ d ih =>
        have h3 := ih (by omega)
        have := (h2 (i + 1 + (d + 1)) hj).2 (by omega)
        rw [show i + 1 + (d + 1) - 1 = i + 1 + d from by omega, getD_get (i := i + 1 + d) (by omega), getD_get hj] at this
        exact Int.lt_trans h3 this
  · rintro ⟨h1, h2, h3⟩
    refine ⟨h1, fun i hi => ⟨?_, fun h0 => ?_⟩⟩
    · rw [getD_get hi]; exact h2 _ (List.getElem_mem hi)
    · rw [getD_get hi, getD_get (i := i - 1) (by omega)]
      unfold Rise at h3
      rw [List.pairwise_iff_getElem] at h3
      exact h3 (i - 1) i (by omega) hi (by omega)

variable (cost : Int → Int)
/-- the better one -/
def ltC (a b : Ch) : Prop := cost a.1 * b.2 < cost b.1 * a.2 ∨ (cost a.1 * b.2 = cost b.1 * a.2 ∧ a.1 < b.1)
theorem ltC_asymm {a b : Ch} (h : ltC cost a b) (h' : ltC cost b a) : False := by
  unfold ltC at *
  generalize cost a.1 * b.2 = x at *
  generalize cost b.1 * a.2 = y at *
  omega
theorem ltC_irrefl (a : Ch) : ¬ ltC cost a a := fun h => ltC_asymm cost h h
theorem ltC_total {a b : Ch} (h : a.1 ≠ b.1) : ltC cost a b ∨ ltC cost b a := by
  unfold ltC
  generalize cost a.1 * b.2 = x
  generalize cost b.1 * a.2 = y
  omega
theorem ltC_trans {a b c : Ch} (ha : 0 < a.2) (hb : 0 < b.2) (hc : 0 < c.2) (h1 : ltC cost a b) (h2 : ltC cost b c) : ltC cost a c := by
  unfold ltC at *
  have e1 : cost a.1 * b.2 * c.2 = cost a.1 * c.2 * b.2 := Int.mul_right_comm _ _ _
  have e2 : cost b.1 * a.2 * c.2 = cost b.1 * c.2 * a.2 := Int.mul_right_comm _ _ _
  have e3 : cost c.1 * b.2 * a.2 = cost c.1 * a.2 * b.2 := Int.mul_right_comm _ _ _
  have key : cost a.1 * c.2 * b.2 ≤ cost c.1 * a.2 * b.2 := by
    have p1 : cost a.1 * b.2 * c.2 ≤ cost b.1 * a.2 * c.2 := Int.mul_le_mul_of_nonneg_right (by omega) (by omega)
    have p2 : cost b.1 * c.2 * a.2 ≤ cost c.1 * b.2 * a.2 := Int.mul_le_mul_of_nonneg_right (by omega) (by omega)
    omega
  have le : cost a.1 * c.2 ≤ cost c.1 * a.2 := Int.le_of_mul_le_mul_right key hb
  rcases Int.lt_or_eq_of_le le with h | h
  · exact .inl h
  · refine .inr ⟨h, ?_⟩
    rw [h] at e1
    rcases h1 with h1 | ⟨q, h1⟩
    · have p1 : cost a.1 * b.2 * c.2 < cost b.1 * a.2 * c.2 := Int.mul_lt_mul_of_pos_right h1 hc
      have p2 : cost b.1 * c.2 * a.2 ≤ cost c.1 * b.2 * a.2 := Int.mul_le_mul_of_nonneg_right (by omega) (by omega)
      omega
    · rcases h2 with h2 | ⟨_, h2⟩
      · have p1 : cost a.1 * b.2 * c.2 = cost b.1 * a.2 * c.2 := by rw [q]
        have p2 : cost b.1 * c.2 * a.2 < cost c.1 * b.2 * a.2 := Int.mul_lt_mul_of_pos_right h2 ha
        omega
      · omega

/-- what is known of the best one -/
def IsBest (l : List Ch) : Option Ch → Prop
  | none => ∀ c ∈ l, c.2 = 0
  | some a => a ∈ l ∧ 0 < a.2 ∧ ∀ c ∈ l, 0 < c.2 → c = a ∨ ltC cost a c
theorem isBest_one {l : List Ch} {a b : Ch} (h : IsBest cost l (some a)) (h' : IsBest cost l (some b)) : a = b := by
  obtain ⟨h1, h2, h3⟩ := h
  obtain ⟨g1, g2, g3⟩ := h'
  rcases h3 b g1 g2 with e | e
  · exact e.symm
  · rcases g3 a h1 h2 with e' | e'
    · exact e'
    · exact (ltC_asymm cost e e').elim
theorem isBest_det {l : List Ch} {r r' : Option Ch} (h : IsBest cost l r) (h' : IsBest cost l r') : r = r' := by
  cases r with
  | none =>
    cases r' with
    | none => rfl
    | some b => have := h b h'.1; have := h'.2.1; omega
  | some a =>
    cases r' with
    | none => have := h' a h.1; have := h.2.1; omega
    | some b => rw [isBest_one cost h h']
def stepC (acc : Option Ch) (c : Ch) : Option Ch :=
  if c.2 = 0 then acc else match acc with
    | none => some c
    | some a => if cost c.1 * a.2 < cost a.1 * c.2 then some c else some a
theorem stepC_zero {acc : Option Ch} {c : Ch} (h : c.2 = 0) : stepC cost acc c = acc := if_pos h
theorem stepC_none {c : Ch} (h : ¬ c.2 = 0) : stepC cost none c = some c := if_neg h
theorem stepC_yes {a c : Ch} (h : ¬ c.2 = 0) (h' : cost c.1 * a.2 < cost a.1 * c.2) : stepC cost (some a) c = some c := by
  unfold stepC; rw [if_neg h]; exact if_pos h'
theorem stepC_no {a c : Ch} (h : ¬ c.2 = 0) (h' : ¬ cost c.1 * a.2 < cost a.1 * c.2) : stepC cost (some a) c = some a := by
  unfold stepC; rw [if_neg h]; exact if_neg h'
def bestC (l : List Ch) : Option Ch := l.foldl (stepC cost) none
theorem isBest_step {l : List Ch} {r : Option Ch} {c : Ch} (h : IsBest cost l r) (hr : ∀ x ∈ l, x.1 < c.1) (hc : 0 ≤ c.2) : IsBest cost (l ++ [c]) (stepC cost r c) := by
  by_cases h0 : c.2 = 0
  · rw [stepC_zero cost h0]
    cases r with
    | none =>
      intro x hx
      rcases List.mem_append.1 hx with hx | hx
      · exact h x hx
      · simp at hx; subst hx; exact h0
    | some a =>
      refine ⟨List.mem_append_left _ h.1, h.2.1, fun x hx hp => ?_⟩
      rcases List.mem_append.1 hx with hx | hx
      · exact h.2.2 x hx hp
      · simp at hx; subst hx; omega
  · cases r with
    | none =>
      rw [stepC_none cost h0]
      refine ⟨by simp, by omega, fun x hx hp => ?_⟩
      rcases List.mem_append.1 hx with hx | hx
      · have := h x hx; omega
      · simp at hx; exact .inl hx
    | some a =>
      obtain ⟨h1, h2, h3⟩ := h
      have hac := hr a h1
      by_cases hl : cost c.1 * a.2 < cost a.1 * c.2
      · rw [stepC_yes cost h0 hl]
        refine ⟨by simp, by omega, fun x hx hp => ?_⟩
        rcases List.mem_append.1 hx with hx | hx
        · right
          rcases h3 x hx hp with e | e
          · subst e; exact .inl hl
          · exact ltC_trans cost (by omega) h2 hp (.inl hl) e
        · simp at hx; exact .inl hx
      · rw [stepC_no cost h0 hl]
        refine ⟨List.mem_append_left _ h1, h2, fun x hx hp => ?_⟩
        rcases List.mem_append.1 hx with hx | hx
        · exact h3 x hx hp
        · simp at hx; subst hx
          right
          unfold ltC
          omega
theorem isBest_fold (l2 : List Ch) : ∀ (l1 : List Ch) (r : Option Ch), IsBest cost l1 r → Rise (l1 ++ l2) → (∀ c ∈ l2, 0 ≤ c.2) → IsBest cost (l1 ++ l2) (l2.foldl (stepC cost) r) := by
  induction l2 with
  | nil => intro l1 r h _ _; simpa using h
  | cons c l2 ih =>
    intro l1 r h hr hw
    have e : l1 ++ c :: l2 = (l1 ++ [c]) ++ l2 := by simp
    rw [List.foldl_cons, e]
    have hr' := hr
    unfold Rise at hr
    rw [List.pairwise_append] at hr
    refine ih (l1 ++ [c]) _ (isBest_step cost h (fun x hx => hr.2.2 x hx c (by simp)) (hw c (by simp))) ?_ (fun x hx => hw x (by simp [hx]))
    rw [← e]
    exact hr'
theorem bestC_is {l : List Ch} (hr : Rise l) (hw : ∀ c ∈ l, 0 ≤ c.2) : IsBest cost l (bestC cost l) := by
  have := isBest_fold cost l [] none (fun c hc => by simp at hc) (by simpa using hr) hw
  rwa [List.nil_append] at this
theorem bestC_eq {l : List Ch} (hr : Rise l) (hw : ∀ c ∈ l, 0 ≤ c.2) {r : Option Ch} (h : IsBest cost l r) : bestC cost l = r := isBest_det cost (bestC_is cost hr hw) h

/-- those that have weight -/
def heavy (l : List Ch) : List Ch := l.filter fun c => decide (0 < c.2)
theorem heavy_mem {l : List Ch} {c : Ch} : c ∈ heavy l ↔ c ∈ l ∧ 0 < c.2 := by simp [heavy]
theorem isBest_heavy {l : List Ch} {a : Ch} : IsBest cost l (some a) ↔ a ∈ heavy l ∧ ∀ c ∈ heavy l, c = a ∨ ltC cost a c := by
  constructor
  · rintro ⟨h1, h2, h3⟩
    exact ⟨heavy_mem.2 ⟨h1, h2⟩, fun c hc => h3 c (heavy_mem.1 hc).1 (heavy_mem.1 hc).2⟩
  · rintro ⟨h1, h2⟩
    exact ⟨(heavy_mem.1 h1).1, (heavy_mem.1 h1).2, fun c hc hp => h2 c (heavy_mem.2 ⟨hc, hp⟩)⟩
theorem isBest_nobody {l : List Ch} (hw : ∀ c ∈ l, 0 ≤ c.2) : IsBest cost l none ↔ heavy l = [] := by
  constructor
  · intro h
    rw [List.eq_nil_iff_forall_not_mem]
    intro c hc
    have h1 := heavy_mem.1 hc
    have := h c h1.1
    omega
  · intro h c hc
    have h1 := hw c hc
    by_cases h0 : c.2 = 0
    · exact h0
    · have : c ∈ heavy l := heavy_mem.2 ⟨hc, by omega⟩
      rw [h] at this
      simp at this

/-- the best one first, then the best one of the others, and so on -/
def selC : Nat → List Ch → List Int
  | 0, _ => []
  | n + 1, l => match bestC cost l with
    | none => []
    | some a => a.1 :: selC n (l.filter fun c => decide (c.1 ≠ a.1))
theorem selC_zero (l : List Ch) : selC cost 0 l = [] := rfl
theorem selC_none {n : Nat} {l : List Ch} (h : bestC cost l = none) : selC cost (n + 1) l = [] := by
  rw [selC, h]
theorem selC_some {n : Nat} {l : List Ch} {a : Ch} (h : bestC cost l = some a) : selC cost (n + 1) l = a.1 :: selC cost n (l.filter fun c => decide (c.1 ≠ a.1)) := by
  rw [selC, h]
theorem rise_inj {l : List Ch} (hr : Rise l) {a b : Ch} (ha : a ∈ l) (hb : b ∈ l) (h : a.1 = b.1) : a = b := by
  unfold Rise at hr
  rw [List.pairwise_iff_getElem] at hr
  obtain ⟨i, hi, rfl⟩ := List.mem_iff_getElem.1 ha
  obtain ⟨j, hj, rfl⟩ := List.mem_iff_getElem.1 hb
  rcases Nat.lt_trichotomy i j with h' | h' | h'
  · have := hr i j hi hj h'; omega
  · subst h'; rfl
  · have := hr j i hj hi h'; omega
theorem rise_filter {l : List Ch} (hr : Rise l) (p : Ch → Bool) : Rise (l.filter p) := List.Pairwise.filter p hr
theorem sel_eq (s : List Ch) : ∀ (l : List Ch) (n : Nat), Rise l → (∀ c ∈ l, 0 ≤ c.2) → (heavy l).Perm s → s.Pairwise (ltC cost) → s.length ≤ n → selC cost n l = s.map (·.1) := by
  induction s with
  | nil =>
    intro l n hr hw hp _ _
    have h0 : heavy l = [] := List.perm_nil.1 hp
    have hb := bestC_eq cost hr hw ((isBest_nobody cost hw).2 h0)
    cases n with
    | zero => rfl
    | succ n => rw [selC_none cost hb]; rfl
  | cons a s ih =>
    intro l n hr hw hp hs hn
    obtain ⟨n, rfl⟩ : ∃ m, n = m + 1 := ⟨n - 1, by simp at hn; omega⟩
    have ha : a ∈ heavy l := hp.mem_iff.2 (by simp)
    have hs' := List.pairwise_cons.1 hs
    have hb : IsBest cost l (some a) := (isBest_heavy cost).2 ⟨ha, fun c hc => by
      have := hp.mem_iff.1 hc
      rcases List.mem_cons.1 this with e | e
      · exact .inl e
      · exact .inr (hs'.1 c e)⟩
    rw [selC_some cost (bestC_eq cost hr hw hb), List.map_cons]
    congr 1
    refine ih _ n (rise_filter hr _) (fun c hc => hw c (List.mem_filter.1 hc).1) ?_ hs'.2 (by simp at hn; omega)
    have e : heavy (l.filter fun c => decide (c.1 ≠ a.1)) = (heavy l).filter fun c => decide (c.1 ≠ a.1) := by
      unfold heavy
      rw [List.filter_filter, List.filter_filter]
      congr 1
      funext c
      exact Bool.and_comm _ _
    rw [e]
    have h1 := hp.filter fun c => decide (c.1 ≠ a.1)
    rw [List.filter_cons_of_neg (by simp)] at h1
    have h2 : s.filter (fun c => decide (c.1 ≠ a.1)) = s := by
      rw [List.filter_eq_self]
      intro c hc
      have hcl : c ∈ l := (heavy_mem.1 (hp.mem_iff.2 (by simp [hc]))).1
      by_cases e : c.1 = a.1
      · have := rise_inj hr hcl (heavy_mem.1 ha).1 e
        subst this
        exact (ltC_irrefl cost _ (hs'.1 _ hc)).elim
      · simpa using e
    rw [h2] at h1
    exact h1

/-- the first that none is better than -/
def minC : List Ch → Ch → Ch
  | [], m => m
  | c :: l, m => minC l (if cost c.1 * m.2 < cost m.1 * c.2 ∨ (cost c.1 * m.2 = cost m.1 * c.2 ∧ c.1 < m.1) then c else m)
theorem minC_is (l2 : List Ch) : ∀ (l1 : List Ch) (m : Ch), (m ∈ l1 ∧ ∀ c ∈ l1, c = m ∨ ltC cost m c) → (l1 ++ l2).Pairwise (fun a b => a.1 ≠ b.1) → (∀ c ∈ l1 ++ l2, 0 < c.2) →
    minC cost l2 m ∈ l1 ++ l2 ∧ ∀ c ∈ l1 ++ l2, c = minC cost l2 m ∨ ltC cost (minC cost l2 m) c := by
  induction l2 with
  | nil => intro l1 m h _ _; simpa [minC] using h
  | cons x l2 ih =>
    intro l1 m h hr hw
    have e : l1 ++ x :: l2 = (l1 ++ [x]) ++ l2 := by simp
    have hr' := List.pairwise_append.1 hr
    have hmx : m.1 ≠ x.1 := hr'.2.2 m h.1 x (by simp)
    have hm := hw m (List.mem_append_left _ h.1)
    have hx := hw x (by simp)
    rw [e] at hr hw ⊢
    rw [minC]
    refine ih (l1 ++ [x]) _ ?_ hr hw
    split
    · rename_i hl
      have hl' : ltC cost x m := hl
      refine ⟨by simp, fun c hc => ?_⟩
      rcases List.mem_append.1 hc with hc1 | hc1
      · right
        rcases h.2 c hc1 with e | e
        · rw [e]; exact hl'
        · exact ltC_trans cost hx hm (hw c (by simp [hc1])) hl' e
      · simp at hc1; exact .inl hc1
    · rename_i hl
      have hl' : ¬ ltC cost x m := hl
      refine ⟨List.mem_append_left _ h.1, fun c hc => ?_⟩
      rcases List.mem_append.1 hc with hc1 | hc1
      · exact h.2 c hc1
      · simp at hc1; subst hc1
        exact .inr ((ltC_total cost hmx).resolve_right hl')
theorem minC_best {l : List Ch} (hr : Rise l) (hw : ∀ c ∈ l, 0 ≤ c.2) {a : Ch} {s : List Ch} (h : heavy l = a :: s) : bestC cost l = some (minC cost s a) := by
  have h1 : Rise (heavy l) := rise_filter hr _
  have h2 : (heavy l).Pairwise (fun a b => a.1 ≠ b.1) := by
    unfold Rise at h1
    rw [List.pairwise_iff_getElem] at h1 ⊢
    intro i j hi hj hij
    have := h1 i j hi hj hij
    omega
  have h3 : ∀ c ∈ heavy l, 0 < c.2 := fun c hc => (heavy_mem.1 hc).2
  rw [h] at h2 h3
  have := minC_is cost s [a] a ⟨by simp, fun c hc => by simp at hc; exact .inl hc⟩ h2 h3
  refine bestC_eq cost hr hw ((isBest_heavy cost).2 ?_)
  rw [h]
  exact this

/-! one that weighs otherwise, or is there anew -/
/-- choices with one, at its place -/
def mergeX (x : Ch) (l : List Ch) : List Ch := l.filter (fun c => decide (c.1 < x.1)) ++ x :: l.filter (fun c => decide (x.1 < c.1))
def outX (x : Ch) (l : List Ch) (p : Bool) : List Ch := if p then mergeX x l else l
theorem outX_true (x : Ch) (l : List Ch) : outX x l true = mergeX x l := rfl
theorem outX_false (x : Ch) (l : List Ch) : outX x l false = l := rfl
theorem filter_all {l : List Ch} {p : Ch → Bool} (h : ∀ c ∈ l, p c = true) : l.filter p = l := List.filter_eq_self.2 h
theorem filter_none {l : List Ch} {p : Ch → Bool} (h : ∀ c ∈ l, p c = false) : l.filter p = [] := by
  rw [List.filter_eq_nil_iff]
  intro c hc
  rw [h c hc]
  simp
/-- all that came so far are less: the one stands behind them -/
theorem mergeX_end {x : Ch} {l : List Ch} (h : ∀ c ∈ l, c.1 < x.1) : mergeX x l = l ++ [x] := by
  unfold mergeX
  rw [filter_all (fun c hc => by simpa using h c hc), filter_none (fun c hc => by have := h c hc; simp; omega)]
theorem mergeX_at {x c : Ch} {l : List Ch} (h : ∀ c ∈ l, c.1 < x.1) (hc : c.1 = x.1) : mergeX x (l ++ [c]) = l ++ [x] := by
  unfold mergeX
  rw [List.filter_append, List.filter_append, filter_all (l := l) (fun c hc => by simpa using h c hc), filter_none (l := l) (fun c hc => by have := h c hc; simp; omega)]
  simp [hc]
theorem mergeX_new {x c : Ch} {l : List Ch} (h : ∀ c ∈ l, c.1 < x.1) (hc : x.1 < c.1) : mergeX x (l ++ [c]) = l ++ [x] ++ [c] := by
  unfold mergeX
  rw [List.filter_append, List.filter_append, filter_all (l := l) (fun c hc => by simpa using h c hc), filter_none (l := l) (fun c hc => by have := h c hc; simp; omega)]
  have : ¬ c.1 < x.1 := by omega
  simp [hc, this]
theorem mergeX_on {x c : Ch} {l : List Ch} (hc : x.1 < c.1) : mergeX x (l ++ [c]) = mergeX x l ++ [c] := by
  unfold mergeX
  have : ¬ c.1 < x.1 := by omega
  rw [List.filter_append, List.filter_append]
  simp [hc, this]
theorem mergeX_mem {x c : Ch} {l : List Ch} : c ∈ mergeX x l ↔ c = x ∨ (c ∈ l ∧ c.1 ≠ x.1) := by
  unfold mergeX
  simp only [List.mem_append, List.mem_cons, List.mem_filter, decide_eq_true_eq]
  constructor
  · rintro (⟨h1, h2⟩ | h1 | ⟨h1, h2⟩)
    · exact .inr ⟨h1, by omega⟩
    · exact .inl h1
    · exact .inr ⟨h1, by omega⟩
  · rintro (h1 | ⟨h1, h2⟩)
    · exact .inr (.inl h1)
    · rcases Int.lt_or_gt_of_ne h2 with h3 | h3
      · exact .inl ⟨h1, h3⟩
      · exact .inr (.inr ⟨h1, h3⟩)
theorem mergeX_rise {x : Ch} {l : List Ch} (hr : Rise l) : Rise (mergeX x l) := by
  unfold mergeX Rise
  rw [List.pairwise_append, List.pairwise_cons]
  refine ⟨rise_filter hr _, ⟨fun c hc => ?_, rise_filter hr _⟩, fun a ha b hb => ?_⟩
  · have := (List.mem_filter.1 hc).2; simpa using this
  · have h1 : a.1 < x.1 := by have := (List.mem_filter.1 ha).2; simpa using this
    rcases List.mem_cons.1 hb with e | e
    · rw [e]; exact h1
    · have h2 : x.1 < b.1 := by have := (List.mem_filter.1 e).2; simpa using this
      omega
theorem mergeX_len (x : Ch) (l : List Ch) : (mergeX x l).length ≤ l.length + 1 := by
  have key : (l.filter (fun c => decide (c.1 < x.1))).length + (l.filter (fun c => decide (x.1 < c.1))).length ≤ l.length := by
    induction l with
    | nil => simp
    | cons c l ih =>
      by_cases h1 : c.1 < x.1
      · have h2 : ¬ x.1 < c.1 := by omega
        simp [h1, h2]; omega
      · by_cases h2 : x.1 < c.1
        · simp [h1, h2]; omega
        · simp [h1, h2]; omega
  unfold mergeX
  simp
  omega
/-- what the one weighed -/
def wasX (x : Ch) (l : List Ch) : Int := l.foldl (fun a c => if c.1 = x.1 then c.2 else a) 0
theorem wasX_snoc (x c : Ch) (l : List Ch) : wasX x (l ++ [c]) = if c.1 = x.1 then c.2 else wasX x l := by
  unfold wasX
  rw [List.foldl_append, List.foldl_cons, List.foldl_nil]
theorem was_fold (x : Ch) (l : List Ch) : ∀ a, (∃ c ∈ l, c.1 = x.1 ∧ l.foldl (fun a c => if c.1 = x.1 then c.2 else a) a = c.2) ∨ ((∀ c ∈ l, c.1 ≠ x.1) ∧ l.foldl (fun a c => if c.1 = x.1 then c.2 else a) a = a) := by
  induction l with
  | nil => intro a; right; simp
  | cons d l ih =>
    intro a
    rw [List.foldl_cons]
    rcases ih (if d.1 = x.1 then d.2 else a) with ⟨c, h1, h2, h3⟩ | ⟨h1, h2⟩
    · exact .inl ⟨c, by simp [h1], h2, h3⟩
    · by_cases hd : d.1 = x.1
      · left
        refine ⟨d, by simp, hd, ?_⟩
        rw [h2, if_pos hd]
      · right
        refine ⟨fun c hc => ?_, by rw [h2, if_neg hd]⟩
        rcases List.mem_cons.1 hc with e | e
        · rw [e]; exact hd
        · exact h1 c e
theorem was_is (x : Ch) (l : List Ch) : (∃ c ∈ l, c.1 = x.1 ∧ wasX x l = c.2) ∨ ((∀ c ∈ l, c.1 ≠ x.1) ∧ wasX x l = 0) := was_fold x l 0
theorem merge_may {x : Ch} {l : List Ch} (hm : MayC l) (hl : l.length ≤ 60) (hx : InC x) : MayC (mergeX x l) := by
  rw [may_iff] at hm ⊢
  refine ⟨by have := mergeX_len x l; omega, fun c hc => ?_, mergeX_rise hm.2.2⟩
  rcases mergeX_mem.1 hc with e | e
  · rw [e]; exact hx
  · exact hm.2.1 c e.1

/-- little moving -/
def MovesC (x : Ch) (was : Int) (r r' : Option Ch) : Prop :=
  (∃ a b, r = some a ∧ r' = some b ∧ a.1 = b.1) ∨ (r = none ∧ r' = none) ∨
    (if was < x.2 then ∃ b, r' = some b ∧ b.1 = x.1 else ∃ a, r = some a ∧ a.1 = x.1 ∧ x.2 < was)
theorem moves {x : Ch} {l : List Ch} (hc : ∀ i, 0 ≤ cost i) (hm : MayC l) (hl : l.length ≤ 60) (hx : InC x) : MovesC x (wasX x l) (bestC cost l) (bestC cost (mergeX x l)) := by
  have hm' := merge_may hm hl hx
  rw [may_iff] at hm hm'
  have hw : ∀ c ∈ l, 0 ≤ c.2 := fun c h => (hm.2.1 c h).2.2.1
  have A := bestC_is cost hm.2.2 hw
  have B := bestC_is cost hm'.2.2 (fun c h => (hm'.2.1 c h).2.2.1)
  have W := was_is x l
  generalize wasX x l = was at *
  unfold MovesC
  cases hA : bestC cost l with
  | none =>
    rw [hA] at A
    have hwas : was = 0 := by
      rcases W with ⟨c, h1, _, h3⟩ | ⟨_, h3⟩
      · rw [h3]; exact A c h1
      · exact h3
    cases hB : bestC cost (mergeX x l) with
    | none => exact .inr (.inl ⟨rfl, rfl⟩)
    | some b =>
      rw [hB] at B
      refine .inr (.inr ?_)
      rcases mergeX_mem.1 B.1 with e | e
      · have := B.2.1
        rw [e] at this
        rw [if_pos (by omega)]
        exact ⟨b, rfl, by rw [e]⟩
      · have h1 := A b e.1
        have := B.2.1
        omega
  | some a =>
    rw [hA] at A
    obtain ⟨a1, a2, a3⟩ := A
    cases hB : bestC cost (mergeX x l) with
    | none =>
      rw [hB] at B
      refine .inr (.inr ?_)
      have hax : a.1 = x.1 := by
        by_cases e : a.1 = x.1
        · exact e
        · have := B a (mergeX_mem.2 (.inr ⟨a1, e⟩))
          omega
      have hxz := B x (mergeX_mem.2 (.inl rfl))
      have hwas : was = a.2 := by
        rcases W with ⟨c, h1, h2, h3⟩ | ⟨h2, _⟩
        · have := rise_inj hm.2.2 h1 a1 (by omega)
          rw [h3, this]
        · exact absurd hax (h2 a a1)
      rw [if_neg (by omega)]
      exact ⟨a, rfl, hax, by omega⟩
    | some b =>
      rw [hB] at B
      obtain ⟨b1, b2, b3⟩ := B
      by_cases hab : a.1 = b.1
      · exact .inl ⟨a, b, rfl, rfl, hab⟩
      refine .inr (.inr ?_)
      have hbm := mergeX_mem.1 b1
      by_cases hax : a.1 = x.1
      · have hwas : was = a.2 := by
          rcases W with ⟨c, h1, h2, h3⟩ | ⟨h2, _⟩
          · have := rise_inj hm.2.2 h1 a1 (by omega)
            rw [h3, this]
          · exact absurd hax (h2 a a1)
        have hbl : b ∈ l ∧ b.1 ≠ x.1 := by
          rcases hbm with e | e
          · rw [e] at hab; exact absurd hax hab
          · exact e
        have hlt : x.2 < was := by
          by_cases h : x.2 < was
          · exact h
          · have l1 : ltC cost a b := by
              rcases a3 b hbl.1 b2 with e | e
              · rw [e] at hab; exact absurd rfl hab
              · exact e
            have l2 : ltC cost b x := by
              rcases b3 x (mergeX_mem.2 (.inl rfl)) (by omega) with e | e
              · rw [← e] at hbl; exact absurd rfl hbl.2
              · exact e
            unfold ltC at l1 l2
            rw [hax] at l1
            have p : cost b.1 * a.2 ≤ cost b.1 * x.2 := Int.mul_le_mul_of_nonneg_left (by omega) (hc _)
            omega
        rw [if_neg (by omega)]
        exact ⟨a, rfl, hax, hlt⟩
      · by_cases hbx : b = x
        · have ham : a ∈ mergeX x l := mergeX_mem.2 (.inr ⟨a1, hax⟩)
          have l1 : ltC cost x a := by
            rcases b3 a ham a2 with e | e
            · rw [e] at hab; exact absurd rfl hab
            · rw [hbx] at e; exact e
          have hlt : was < x.2 := by
            by_cases h : was < x.2
            · exact h
            · rcases W with ⟨c, h1, h2, h3⟩ | ⟨_, h3⟩
              · rw [hbx] at b2
                have l2 : ltC cost a c := by
                  rcases a3 c h1 (by omega) with e | e
                  · rw [e] at h2; exact absurd h2 hax
                  · exact e
                unfold ltC at l1 l2
                rw [h2] at l2
                have p : cost a.1 * x.2 ≤ cost a.1 * c.2 := Int.mul_le_mul_of_nonneg_left (by omega) (hc _)
                omega
              · rw [hbx] at b2; omega
          rw [if_pos hlt]
          exact ⟨b, rfl, by rw [hbx]⟩
        · have hbl := hbm.resolve_left hbx
          have l1 : ltC cost a b := by
            rcases a3 b hbl.1 b2 with e | e
            · rw [e] at hab; exact absurd rfl hab
            · exact e
          have l2 : ltC cost b a := by
            rcases b3 a (mergeX_mem.2 (.inr ⟨a1, hax⟩)) a2 with e | e
            · rw [e] at hab; exact absurd rfl hab
            · exact e
          exact (ltC_asymm cost l1 l2).elim
end Go.Proofs.YtcncbjknfcjnmaaGreat.Dr
