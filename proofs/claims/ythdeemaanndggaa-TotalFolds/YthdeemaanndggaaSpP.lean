/-
  Rows of samples, plainly: the place of a time, one more by its time, both together; no Go in sight.
-/
import Derived.Test.YthdeemaanndggaaBkB
namespace Go.Proofs.Ythdeemaanndggaa.Bk
theorem getD_get {ls : List Sm} {i : Nat} (h : i < ls.length) : ls.getD i sm0 = ls[i] := by
  rw [List.getD_eq_getElem?_getD, List.getElem?_eq_getElem h]; rfl
def Sorted (l : List Sm) : Prop := l.Pairwise fun a b => a.1 < b.1
theorem may_iff (ls : List Sm) : MayS ls ↔ ls.length ≤ 64 ∧ (∀ x ∈ ls, InS x) ∧ Sorted ls := by
  constructor
  · intro h
    refine ⟨h.1, fun x hx => ?_, ?_⟩
    · obtain ⟨i, hi, rfl⟩ := List.getElem_of_mem hx
      rw [← getD_get hi]; exact (h.2 i hi).1
    · refine List.pairwise_iff_getElem.2 fun i j hi hj hij => ?_
      induction j with
      | zero => omega
      | succ j ih =>
        have h1 := (h.2 (j + 1) hj).2 (by omega)
        rw [show j + 1 - 1 = j from rfl, getD_get hj, getD_get (by omega)] at h1
        by_cases e : i = j
        · subst e; exact h1
        · exact Int.lt_trans (ih (by omega) (by omega)) h1
  · rintro ⟨h1, h2, h3⟩
    refine ⟨h1, fun i hi => ⟨by rw [getD_get hi]; exact h2 _ (List.getElem_mem hi), fun h0 => ?_⟩⟩
    rw [getD_get hi, getD_get (by omega)]
    exact List.pairwise_iff_getElem.1 h3 (i - 1) i (by omega) hi (by omega)
/-- the place of the first sample of a time, or later -/
def Since (ls : List Sm) (t : Int) (k : Nat) : Prop := k ≤ ls.length ∧ (∀ j, j < k → (ls.getD j sm0).1 < t) ∧ (k < ls.length → t ≤ (ls.getD k sm0).1)
theorem since_take {ls : List Sm} {t : Int} {k : Nat} (h : Since ls t k) : ∀ x ∈ ls.take k, x.1 < t := by
  intro x hx
  obtain ⟨i, hi, rfl⟩ := List.mem_take_iff_getElem.1 hx
  have := h.2.1 i (by omega)
  rwa [getD_get (by omega)] at this
theorem since_drop {ls : List Sm} {t : Int} {k : Nat} (h : Since ls t k) (hs : Sorted ls) : ∀ x ∈ ls.drop k, t ≤ x.1 := by
  intro x hx
  obtain ⟨i, hi, rfl⟩ := List.mem_drop_iff_getElem.1 hx
  have hk : k < ls.length := by omega
  have h1 := h.2.2 hk
  rw [getD_get hk] at h1
  by_cases e : i = 0
  · subst e; simpa using h1
  · have := List.pairwise_iff_getElem.1 hs k (k + i) hk (by omega) (by omega)
    omega
theorem filter_tail {ls : List Sm} {p : Sm → Bool} {k : Nat} (h1 : ∀ x ∈ ls.take k, p x = false) (h2 : ∀ x ∈ ls.drop k, p x = true) : ls.filter p = ls.drop k := by
  have e : ls.filter p = (ls.take k ++ ls.drop k).filter p := by rw [List.take_append_drop]
  rw [e, List.filter_append, List.filter_eq_nil_iff.2 (fun x hx => by simp [h1 x hx]), List.filter_eq_self.2 h2]; rfl
theorem filter_head {ls : List Sm} {p : Sm → Bool} {k : Nat} (h2 : ∀ x ∈ ls.drop k, p x = false) : ls.filter p = (ls.take k).filter p := by
  have e : ls.filter p = (ls.take k ++ ls.drop k).filter p := by rw [List.take_append_drop]
  have e2 : (ls.drop k).filter p = [] := List.filter_eq_nil_iff.2 (fun x hx => by simp [h2 x hx])
  rw [e, List.filter_append, e2, List.append_nil]
def trimP (ls : List Sm) (t : Int) : List Sm := ls.filter fun x => decide (t ≤ x.1)
def rangeP (ls : List Sm) (f t : Int) : List Sm := ls.filter fun x => decide (f ≤ x.1) && decide (x.1 < t)
theorem trim_is {ls : List Sm} {t : Int} {k : Nat} (h : Since ls t k) (hs : Sorted ls) : trimP ls t = ls.drop k :=
  filter_tail (fun x hx => by have := since_take h x hx; simp; omega) (fun x hx => by have := since_drop h hs x hx; simpa using this)
theorem range_is {ls : List Sm} {f t : Int} {k m : Nat} (h : Since ls f k) (h' : Since ls t m) (hs : Sorted ls) : rangeP ls f t = (ls.take (max k m)).drop k := by
  unfold rangeP
  rw [filter_head (k := max k m) fun x hx => ?_]
  · refine filter_tail (fun x hx => ?_) (fun x hx => ?_)
    · rw [List.take_take, Nat.min_eq_left (Nat.le_max_left k m)] at hx
      have := since_take h x hx
      simp; omega
    · have hx2 : x ∈ ls.drop k := by
        obtain ⟨i, hi, rfl⟩ := List.mem_drop_iff_getElem.1 hx
        refine List.mem_drop_iff_getElem.2 ⟨i, ?_, ?_⟩
        · simp at hi; omega
        · simp
      have h1 := since_drop h hs x hx2
      by_cases hkm : m ≤ k
      · rw [Nat.max_eq_left hkm] at hx
        have : (ls.take k).drop k = [] := List.drop_eq_nil_iff.2 (by simp; omega)
        rw [this] at hx
        simp at hx
      · rw [Nat.max_eq_right (by omega)] at hx
        have h2 := since_take h' x (List.mem_of_mem_drop hx)
        simp; omega
  · have hx2 : x ∈ ls.drop m := by
      obtain ⟨i, hi, rfl⟩ := List.mem_drop_iff_getElem.1 hx
      have := Nat.le_max_right k m
      refine List.mem_drop_iff_getElem.2 ⟨i + (max k m - m), by omega, ?_⟩
      congr 1; omega
    have := since_drop h' hs x hx2
    simp; omega
/-- the sample at a time -/
def findP (ls : List Sm) (t : Int) : Option Sm := ls.find? fun c => decide (c.1 = t)
theorem find_none {ls : List Sm} {t : Int} : findP ls t = none ↔ ∀ x ∈ ls, x.1 ≠ t := by
  unfold findP; rw [List.find?_eq_none]; simp
theorem find_mem {ls : List Sm} {t : Int} {x : Sm} (h : findP ls t = some x) : x ∈ ls ∧ x.1 = t := by
  unfold findP at h
  exact ⟨List.mem_of_find?_eq_some h, by simpa using List.find?_some h⟩
theorem sorted_one {ls : List Sm} (hs : Sorted ls) {x y : Sm} (hx : x ∈ ls) (hy : y ∈ ls) (h : x.1 = y.1) : x = y := by
  obtain ⟨i, hi, rfl⟩ := List.getElem_of_mem hx
  obtain ⟨j, hj, rfl⟩ := List.getElem_of_mem hy
  have hp := List.pairwise_iff_getElem.1 hs
  by_cases h1 : i < j
  · have := hp i j hi hj h1; omega
  · by_cases h2 : j < i
    · have := hp j i hj hi h2; omega
    · have : i = j := by omega
      subst this; rfl
theorem find_some {ls : List Sm} (hs : Sorted ls) {t : Int} {x : Sm} (hx : x ∈ ls) (h : x.1 = t) : findP ls t = some x := by
  cases e : findP ls t with
  | none => exact absurd h (find_none.1 e x hx)
  | some y => obtain ⟨h1, h2⟩ := find_mem e; rw [sorted_one hs h1 hx (by omega)]
theorem find_at {ls : List Sm} {t : Int} {k : Nat} (hs : Sorted ls) (hk : k < ls.length) (e : (ls.getD k sm0).1 = t) : findP ls t = some (ls.getD k sm0) := by
  refine find_some hs ?_ e
  rw [getD_get hk]; exact List.getElem_mem hk
theorem find_not {ls : List Sm} {t : Int} {k : Nat} (h : Since ls t k) (hs : Sorted ls) (e : k < ls.length → ¬ (ls.getD k sm0).1 = t) : findP ls t = none := by
  refine find_none.2 fun x hx hq => ?_
  rw [← List.take_append_drop k ls] at hx
  rcases List.mem_append.1 hx with h1 | h1
  · have := since_take h x h1; omega
  · obtain ⟨i, hi, rfl⟩ := List.mem_drop_iff_getElem.1 h1
    have hk : k < ls.length := by omega
    have h2 := h.2.2 hk
    have h3 := e hk
    rw [getD_get hk] at h2 h3
    by_cases e0 : i = 0
    · subst e0; exact h3 (by simpa using hq)
    · have := List.pairwise_iff_getElem.1 hs k (k + i) hk (by omega) (by omega)
      omega
/-- the first one at a time, found one by one -/
theorem find_first {ls : List Sm} {t : Int} {k : Nat} (h : ∀ j, j < k → ¬ (ls.getD j sm0).1 = t) (hk : k < ls.length) (e : (ls.getD k sm0).1 = t) : findP ls t = some (ls.getD k sm0) := by
  unfold findP
  rw [List.find?_eq_some_iff_getElem]
  refine ⟨by simpa using e, k, hk, (getD_get hk).symm, fun j hj => ?_⟩
  have := h j hj
  rw [getD_get (by omega)] at this
  simpa using this
theorem find_never {ls : List Sm} {t : Int} (h : ∀ j, j < ls.length → ¬ (ls.getD j sm0).1 = t) : findP ls t = none := by
  refine find_none.2 fun x hx => ?_
  obtain ⟨i, hi, rfl⟩ := List.getElem_of_mem hx
  have := h i hi
  rwa [getD_get hi] at this
/-- samples with one more, by its time -/
def wth : List Sm → Sm → List Sm
  | [], s => [s]
  | c :: l, s => if s.1 < c.1 then s :: c :: l else c :: wth l s
theorem wth_mem {l : List Sm} {s z : Sm} : z ∈ wth l s ↔ z = s ∨ z ∈ l := by
  induction l with
  | nil => simp [wth]
  | cons c l ih =>
    unfold wth
    split
    · simp
    · rw [List.mem_cons, ih, List.mem_cons]
      constructor
      · rintro (h | h | h)
        · exact .inr (.inl h)
        · exact .inl h
        · exact .inr (.inr h)
      · rintro (h | h | h)
        · exact .inr (.inl h)
        · exact .inl h
        · exact .inr (.inr h)
theorem wth_length (l : List Sm) (s : Sm) : (wth l s).length = l.length + 1 := by
  induction l with
  | nil => rfl
  | cons c l ih =>
    unfold wth
    split
    · simp
    · simp [ih]
theorem wth_sorted {l : List Sm} {s : Sm} (h : Sorted l) (hn : ∀ x ∈ l, x.1 ≠ s.1) : Sorted (wth l s) := by
  induction l with
  | nil => exact List.pairwise_singleton _ _
  | cons c l ih =>
    obtain ⟨h1, h2⟩ := List.pairwise_cons.1 h
    unfold wth
    split
    · rename_i hlt
      refine List.pairwise_cons.2 ⟨fun x hx => ?_, h⟩
      rcases List.mem_cons.1 hx with rfl | hx
      · exact hlt
      · exact Int.lt_trans hlt (h1 x hx)
    · rename_i hlt
      have hc := hn c (by simp)
      refine List.pairwise_cons.2 ⟨fun x hx => ?_, ih h2 fun x hx => hn x (by simp [hx])⟩
      rcases wth_mem.1 hx with rfl | hx
      · omega
      · exact h1 x hx
theorem wth_split {p q : List Sm} {s : Sm} (h1 : ∀ x ∈ p, x.1 ≤ s.1) (h2 : ∀ x ∈ q, s.1 < x.1) : wth (p ++ q) s = p ++ s :: q := by
  induction p with
  | nil =>
    cases q with
    | nil => rfl
    | cons c q => show wth (c :: q) s = _; unfold wth; rw [if_pos (h2 c (by simp))]; rfl
  | cons c p ih =>
    show wth (c :: (p ++ q)) s = _
    unfold wth
    have := h1 c (by simp)
    rw [if_neg (by omega), ih fun x hx => h1 x (by simp [hx])]; rfl
theorem wth_since {ls : List Sm} {s : Sm} {k : Nat} (h : Since ls s.1 k) (hs : Sorted ls) (hn : findP ls s.1 = none) : wth ls s = ls.take k ++ s :: ls.drop k := by
  have e : wth ls s = wth (ls.take k ++ ls.drop k) s := by rw [List.take_append_drop]
  rw [e]
  refine wth_split (fun x hx => Int.le_of_lt (since_take h x hx)) (fun x hx => ?_)
  have h1 := since_drop h hs x hx
  have h2 := find_none.1 hn x (List.mem_of_mem_drop hx)
  omega
/-- rows of the same samples are the same row -/
theorem sorted_ext : ∀ {l m : List Sm}, Sorted l → Sorted m → (∀ z, z ∈ l ↔ z ∈ m) → l = m
  | [], m, _, _, h => (List.eq_nil_iff_forall_not_mem.2 fun z hz => by simpa using (h z).2 hz).symm
  | c :: l, [], _, _, h => by have := (h c).1 (by simp); simp at this
  | c :: l, d :: m, hl, hm, h => by
    obtain ⟨h1, h2⟩ := List.pairwise_cons.1 hl
    obtain ⟨h3, h4⟩ := List.pairwise_cons.1 hm
    have hcd : c = d := by
      rcases List.mem_cons.1 ((h c).1 (by simp)) with e | hc
      · exact e
      · rcases List.mem_cons.1 ((h d).2 (by simp)) with e | hd
        · exact e.symm
        · have q1 := h1 d hd
          have q2 := h3 c hc
          omega
    subst hcd
    rw [sorted_ext h2 h4 fun z => ?_]
    constructor
    · intro hz
      rcases List.mem_cons.1 ((h z).1 (by simp [hz])) with rfl | hz'
      · have := h1 z hz; omega
      · exact hz'
    · intro hz
      rcases List.mem_cons.1 ((h z).2 (by simp [hz])) with rfl | hz'
      · have := h3 z hz; omega
      · exact hz'
/-- what Put tells of samples that may be -/
noncomputable def putE (ls : List Sm) (s : Sm) : Int := open Classical in if ¬ InS s then 1 else match findP ls s.1 with
  | some x => if x = s then 7 else 8
  | none => if 64 ≤ ls.length then 6 else 0
noncomputable def putL (ls : List Sm) (s : Sm) : List Sm := open Classical in if putE ls s = 0 then wth ls s else ls
theorem putE_arg {ls : List Sm} {s : Sm} (h : ¬ InS s) : putE ls s = 1 := by unfold putE; rw [if_pos h]
theorem putE_same {ls : List Sm} {s : Sm} (h : InS s) (hf : findP ls s.1 = some s) : putE ls s = 7 := by unfold putE; rw [if_neg (by simpa using h), hf]; simp
theorem putE_other {ls : List Sm} {s x : Sm} (h : InS s) (hf : findP ls s.1 = some x) (hx : x ≠ s) : putE ls s = 8 := by unfold putE; rw [if_neg (by simpa using h), hf]; simp [hx]
theorem putE_full {ls : List Sm} {s : Sm} (h : InS s) (hf : findP ls s.1 = none) (hl : 64 ≤ ls.length) : putE ls s = 6 := by unfold putE; rw [if_neg (by simpa using h), hf]; simp [hl]
theorem putE_ok {ls : List Sm} {s : Sm} (h : InS s) (hf : findP ls s.1 = none) (hl : ls.length < 64) : putE ls s = 0 := by unfold putE; rw [if_neg (by simpa using h), hf]; simp; omega
theorem putL_no {ls : List Sm} {s : Sm} (h : putE ls s ≠ 0) : putL ls s = ls := by unfold putL; rw [if_neg h]
theorem putL_yes {ls : List Sm} {s : Sm} (h : putE ls s = 0) : putL ls s = wth ls s := by unfold putL; rw [if_pos h]
theorem putE_zero {ls : List Sm} {s : Sm} (h : putE ls s = 0) : InS s ∧ findP ls s.1 = none ∧ ls.length < 64 := by
  by_cases h1 : InS s
  · cases hf : findP ls s.1 with
    | none =>
      by_cases hl : 64 ≤ ls.length
      · rw [putE_full h1 hf hl] at h; omega
      · exact ⟨h1, rfl, by omega⟩
    | some x =>
      by_cases hx : x = s
      · subst hx; rw [putE_same h1 hf] at h; omega
      · rw [putE_other h1 hf hx] at h; omega
  · rw [putE_arg h1] at h; omega
theorem wth_may {ls : List Sm} {s : Sm} (hM : MayS ls) (h : InS s) (hf : findP ls s.1 = none) (hl : ls.length < 64) : MayS (wth ls s) := by
  obtain ⟨h1, h2, h3⟩ := (may_iff ls).1 hM
  refine (may_iff _).2 ⟨by rw [wth_length]; omega, fun x hx => ?_, wth_sorted h3 (find_none.1 hf)⟩
  rcases wth_mem.1 hx with rfl | hx
  · exact h
  · exact h2 x hx
theorem putL_may {ls : List Sm} {s : Sm} (hM : MayS ls) : MayS (putL ls s) := by
  by_cases h : putE ls s = 0
  · rw [putL_yes h]
    obtain ⟨h1, h2, h3⟩ := putE_zero h
    exact wth_may hM h1 h2 h3
  · rw [putL_no h]; exact hM
theorem may_one (s : Sm) : MayS [s] ↔ InS s := by
  rw [may_iff]
  constructor
  · rintro ⟨_, h, _⟩; exact h s (by simp)
  · intro h; exact ⟨by simp, by simpa using h, List.pairwise_singleton _ _⟩
theorem may_nil : MayS [] := (may_iff _).2 ⟨by simp, by simp, List.Pairwise.nil⟩
/-- both together, from their fronts -/
def zipP : List Sm → List Sm → Option (List Sm)
  | [], b => some b
  | x :: a, [] => some (x :: a)
  | x :: a, y :: b => if x = y then (zipP a b).map (x :: ·) else if x.1 = y.1 then none else if x.1 < y.1 then (zipP a (y :: b)).map (x :: ·) else (zipP (x :: a) b).map (y :: ·)
termination_by a b => a.length + b.length
theorem zip_nil (a : List Sm) : zipP a [] = some a := by cases a <;> rw [zipP]
theorem zip_nil' (b : List Sm) : zipP [] b = some b := by rw [zipP]
theorem zip_same (x : Sm) (a b : List Sm) : zipP (x :: a) (x :: b) = (zipP a b).map (x :: ·) := by rw [zipP]; simp
theorem zip_clash {x y : Sm} (a b : List Sm) (h : x ≠ y) (h1 : x.1 = y.1) : zipP (x :: a) (y :: b) = none := by rw [zipP]; simp [h, h1]
theorem zip_left {x y : Sm} (a b : List Sm) (h1 : x.1 < y.1) : zipP (x :: a) (y :: b) = (zipP a (y :: b)).map (x :: ·) := by
  rw [zipP, if_neg (fun e => by rw [e] at h1; omega), if_neg (by omega), if_pos h1]
theorem zip_right {x y : Sm} (a b : List Sm) (h1 : y.1 < x.1) : zipP (x :: a) (y :: b) = (zipP (x :: a) b).map (y :: ·) := by
  rw [zipP, if_neg (fun e => by rw [e] at h1; omega), if_neg (by omega), if_neg (by omega)]
def Clash (a b : List Sm) : Prop := ∃ x ∈ a, ∃ y ∈ b, x.1 = y.1 ∧ x ≠ y
def Merged (a b m : List Sm) : Prop := Sorted m ∧ ∀ z, z ∈ m ↔ z ∈ a ∨ z ∈ b
theorem Clash.swap {a b : List Sm} (h : Clash a b) : Clash b a := by
  obtain ⟨x, hx, y, hy, h1, h2⟩ := h
  exact ⟨y, hy, x, hx, h1.symm, fun e => h2 e.symm⟩
theorem Merged.swap {a b m : List Sm} (h : Merged a b m) : Merged b a m := ⟨h.1, fun z => by rw [h.2 z, Or.comm]⟩
theorem merged_one {a b m n : List Sm} (h : Merged a b m) (k : Merged a b n) : m = n := sorted_ext h.1 k.1 fun z => by rw [h.2 z, k.2 z]
theorem merged_cons {x : Sm} {a b A B m : List Sm} (h : Merged a b m) (hA : ∀ z, (z ∈ A ∨ z ∈ B) ↔ z = x ∨ z ∈ a ∨ z ∈ b) (h1 : ∀ z ∈ a, x.1 < z.1) (h2 : ∀ z ∈ b, x.1 < z.1) : Merged A B (x :: m) := by
  refine ⟨List.pairwise_cons.2 ⟨fun z hz => ?_, h.1⟩, fun z => by rw [List.mem_cons, h.2 z, hA z]⟩
  rcases (h.2 z).1 hz with hz | hz
  · exact h1 z hz
  · exact h2 z hz
def ZipIs (a b : List Sm) : Prop := (∀ m, zipP a b = some m → Merged a b m ∧ ¬ Clash a b) ∧ (zipP a b = none → Clash a b)
theorem zip_is (n : Nat) : ∀ a b : List Sm, a.length + b.length ≤ n → Sorted a → Sorted b → ZipIs a b := by
  induction n with
  | zero =>
    intro a b hl _ _
    obtain rfl : a = [] := List.length_eq_zero_iff.1 (by omega)
    obtain rfl : b = [] := List.length_eq_zero_iff.1 (by omega)
    refine ⟨fun m hm => ?_, fun h => by rw [zip_nil] at h; simp at h⟩
    rw [zip_nil] at hm
    obtain rfl := Option.some.inj hm
    exact ⟨⟨List.Pairwise.nil, by simp⟩, fun ⟨x, hx, _⟩ => by simp at hx⟩
  | succ n ih =>
    intro a b hl ha hb
    match a, b, hl, ha, hb with
    | [], b, hl, ha, hb =>
      refine ⟨fun m hm => ?_, fun h => by rw [zip_nil'] at h; simp at h⟩
      rw [zip_nil'] at hm
      obtain rfl := Option.some.inj hm
      exact ⟨⟨hb, by simp⟩, fun ⟨x, hx, _⟩ => by simp at hx⟩
    | x :: a, [], hl, ha, hb =>
      refine ⟨fun m hm => ?_, fun h => by rw [zip_nil] at h; simp at h⟩
      rw [zip_nil] at hm
      obtain rfl := Option.some.inj hm
      exact ⟨⟨ha, by simp⟩, fun ⟨x, hx, y, hy, _⟩ => by simp at hy⟩
    | x :: a, y :: b, hl, ha, hb =>
      simp only [List.length_cons] at hl
      obtain ⟨a1, a2⟩ := List.pairwise_cons.1 ha
      obtain ⟨b1, b2⟩ := List.pairwise_cons.1 hb
      by_cases hxy : x = y
      · subst hxy
        obtain ⟨i1, i2⟩ := ih a b (by omega) a2 b2
        unfold ZipIs
        rw [zip_same]
        refine ⟨fun m hm => ?_, fun h => ?_⟩
        · obtain ⟨m', hm', rfl⟩ := Option.map_eq_some_iff.1 hm
          obtain ⟨j1, j2⟩ := i1 m' hm'
          refine ⟨merged_cons j1 (fun z => by rw [List.mem_cons, List.mem_cons]; constructor; (rintro ((h | h) | (h | h)) <;> simp [h]); (rintro (h | h | h) <;> simp [h])) a1 b1, ?_⟩
          rintro ⟨u, hu, v, hv, e, ne⟩
          rcases List.mem_cons.1 hu with hu2 | hu2
          · rcases List.mem_cons.1 hv with hv2 | hv2
            · exact ne (hu2.trans hv2.symm)
            · have := b1 v hv2; rw [hu2] at e; omega
          · rcases List.mem_cons.1 hv with hv2 | hv2
            · have := a1 u hu2; rw [hv2] at e; omega
            · exact j2 ⟨u, hu2, v, hv2, e, ne⟩
        · obtain ⟨u, hu, v, hv, e, ne⟩ := i2 (by simpa using h)
          exact ⟨u, by simp [hu], v, by simp [hv], e, ne⟩
      · by_cases he : x.1 = y.1
        · unfold ZipIs
          rw [zip_clash a b hxy he]
          exact ⟨fun m hm => by simp at hm, fun _ => ⟨x, by simp, y, by simp, he, hxy⟩⟩
        · by_cases hlt : x.1 < y.1
          · obtain ⟨i1, i2⟩ := ih a (y :: b) (by simp only [List.length_cons]; omega) a2 hb
            unfold ZipIs
            rw [zip_left a b hlt]
            have b3 : ∀ z ∈ y :: b, x.1 < z.1 := fun z hz => by
              rcases List.mem_cons.1 hz with rfl | hz
              · exact hlt
              · exact Int.lt_trans hlt (b1 z hz)
            refine ⟨fun m hm => ?_, fun h => ?_⟩
            · obtain ⟨m', hm', rfl⟩ := Option.map_eq_some_iff.1 hm
              obtain ⟨j1, j2⟩ := i1 m' hm'
              refine ⟨merged_cons j1 (fun z => by rw [List.mem_cons (a := z) (b := x), or_assoc]) a1 b3, ?_⟩
              rintro ⟨u, hu, v, hv, e, ne⟩
              rcases List.mem_cons.1 hu with rfl | hu
              · have := b3 v hv; omega
              · exact j2 ⟨u, hu, v, hv, e, ne⟩
            · obtain ⟨u, hu, v, hv, e, ne⟩ := i2 (by simpa using h)
              exact ⟨u, by simp [hu], v, hv, e, ne⟩
          · have hgt : y.1 < x.1 := by omega
            obtain ⟨i1, i2⟩ := ih (x :: a) b (by simp only [List.length_cons]; omega) ha b2
            unfold ZipIs
            rw [zip_right a b hgt]
            have a3 : ∀ z ∈ x :: a, y.1 < z.1 := fun z hz => by
              rcases List.mem_cons.1 hz with rfl | hz
              · exact hgt
              · exact Int.lt_trans hgt (a1 z hz)
            refine ⟨fun m hm => ?_, fun h => ?_⟩
            · obtain ⟨m', hm', rfl⟩ := Option.map_eq_some_iff.1 hm
              obtain ⟨j1, j2⟩ := i1 m' hm'
              refine ⟨merged_cons j1 (fun z => by rw [List.mem_cons (a := z) (b := y)]; exact or_left_comm) a3 b1, ?_⟩
              rintro ⟨u, hu, v, hv, e, ne⟩
              rcases List.mem_cons.1 hv with rfl | hv
              · have := a3 u hu; omega
              · exact j2 ⟨u, hu, v, hv, e, ne⟩
            · obtain ⟨u, hu, v, hv, e, ne⟩ := i2 (by simpa using h)
              exact ⟨u, hu, v, by simp [hv], e, ne⟩
/-- what Merge tells of samples that may be -/
def MergeIs (a b : List Sm) (err : Int) (L : List Sm) : Prop := (Clash a b ∧ err = 8 ∧ L = []) ∨ (¬ Clash a b ∧ ∃ m, Merged a b m ∧ ((64 < m.length ∧ err = 6 ∧ L = []) ∨ (m.length ≤ 64 ∧ err = 0 ∧ L = m)))
theorem MergeIs.swap {a b : List Sm} {err : Int} {L : List Sm} (h : MergeIs a b err L) : MergeIs b a err L := by
  rcases h with ⟨h, r⟩ | ⟨h, m, hm, r⟩
  · exact .inl ⟨h.swap, r⟩
  · exact .inr ⟨fun c => h c.swap, m, hm.swap, r⟩
theorem merge_one {a b : List Sm} {err err' : Int} {L L' : List Sm} (h : MergeIs a b err L) (k : MergeIs a b err' L') : err = err' ∧ L = L' := by
  rcases h with ⟨h, rfl, rfl⟩ | ⟨h, m, hm, r⟩
  · rcases k with ⟨_, rfl, rfl⟩ | ⟨k, _⟩
    · exact ⟨rfl, rfl⟩
    · exact absurd h k
  · rcases k with ⟨k, _⟩ | ⟨k, n, hn, s⟩
    · exact absurd k h
    · obtain rfl := merged_one hm hn
      rcases r with ⟨h1, rfl, rfl⟩ | ⟨h1, rfl, rfl⟩
      · rcases s with ⟨_, rfl, rfl⟩ | ⟨h2, _⟩
        · exact ⟨rfl, rfl⟩
        · omega
      · rcases s with ⟨h2, _⟩ | ⟨_, rfl, rfl⟩
        · omega
        · exact ⟨rfl, rfl⟩
/-- in the midst of the answer's Merge -/
def MergeTo (a B m : List Sm) : Prop := Merged a B m ∧ ¬ Clash a B
theorem mergeTo_nil {a : List Sm} (h : Sorted a) : MergeTo a [] a := ⟨⟨h, by simp⟩, fun ⟨_, _, _, h, _⟩ => by simp at h⟩
theorem mergeTo_there {a B m : List Sm} {s : Sm} (h : MergeTo a B m) (hs : Sorted a) (hf : findP a s.1 = some s) : MergeTo a (B ++ [s]) m := by
  obtain ⟨h1, h2⟩ := find_mem hf
  refine ⟨⟨h.1.1, fun z => ?_⟩, ?_⟩
  · rw [h.1.2 z, List.mem_append, List.mem_singleton]
    constructor
    · rintro (h | h) <;> simp [h]
    · rintro (h | h | h)
      · exact .inl h
      · exact .inr h
      · rw [h]; exact .inl h1
  · rintro ⟨u, hu, v, hv, e, ne⟩
    rcases List.mem_append.1 hv with hv | hv
    · exact h.2 ⟨u, hu, v, hv, e, ne⟩
    · rw [List.mem_singleton] at hv
      subst hv
      exact ne (sorted_one hs hu h1 e)
theorem mergeTo_new {a B m : List Sm} {s : Sm} (h : MergeTo a B m) (hf : findP a s.1 = none) (hB : ∀ z ∈ B, z.1 < s.1) : MergeTo a (B ++ [s]) (wth m s) := by
  have hn := find_none.1 hf
  refine ⟨⟨wth_sorted h.1.1 fun x hx => ?_, fun z => ?_⟩, ?_⟩
  · rcases (h.1.2 x).1 hx with hx | hx
    · exact hn x hx
    · have := hB x hx; omega
  · rw [wth_mem, h.1.2 z, List.mem_append, List.mem_singleton]
    constructor
    · rintro (h | h | h) <;> simp [h]
    · rintro (h | h | h) <;> simp [h]
  · rintro ⟨u, hu, v, hv, e, ne⟩
    rcases List.mem_append.1 hv with hv | hv
    · exact h.2 ⟨u, hu, v, hv, e, ne⟩
    · rw [List.mem_singleton] at hv
      subst hv
      exact hn u hu e
theorem take_next {b : List Sm} {k : Nat} (h : k < b.length) : b.take (k + 1) = b.take k ++ [b.getD k sm0] := by
  rw [getD_get h, List.take_succ_eq_append_getElem h]
theorem take_before {b : List Sm} {k : Nat} (hs : Sorted b) (h : k < b.length) : ∀ z ∈ b.take k, z.1 < (b.getD k sm0).1 := by
  intro z hz
  obtain ⟨i, hi, rfl⟩ := List.mem_take_iff_getElem.1 hz
  rw [getD_get h]
  exact List.pairwise_iff_getElem.1 hs i k (by omega) h (by omega)
end Go.Proofs.Ythdeemaanndggaa.Bk
