/-
  Rows of samples, plainly: the place of a time, one more by its time, both together; no Go in sight.
  Totals, plainly: the sum, the least, the greatest and the growth of the first samples.
-/
import Derived.Test.YtihohcmocejijaaGreatPr06
namespace Go.Proofs.YtihohcmocejijaaGreat.Bk
theorem getD_get {ls : List Sm} {i : Nat} (h : i < ls.length) : ls.getD i sm0 = ls[i] := by
  rw [List.getD_eq_getElem?_getD, List.getElem?_eq_getElem h]; rfl
def Sorted (l : List Sm) : Prop := l.Pairwise fun a b => a.1 < b.1
theorem may_iff (ls : List Sm) : MayS ls ↔ ls.length ≤ 64 ∧ (∀ x ∈ ls, InS x) ∧ Sorted ls := by
  constructor
  · intro h
    refine ⟨h.1, fun x hx => ?_, ?_⟩
    · obtain ⟨i, hi, rfl⟩ := List.getElem_of_mem hx
      rw [← getD_get hi]; exact (h.2 i hi).1
    · refine List.pairwise_iff_getElem.2 fun i j hi hj hij => ?_
      induction j with
      | zero => omega
      | succ j ih =>
        have h1 := (h.2 (j + 1) hj).2 (by omega)
        rw [show j + 1 - 1 = j from rfl, getD_get hj, getD_get (by omega)] at h1
        by_cases e : i = j
        · subst e; exact h1
        · exact Int.lt_trans (ih (by omega) (by omega)) h1
  · rintro ⟨h1, h2, h3⟩
    refine ⟨h1, fun i hi => ⟨by rw [getD_get hi]; exact h2 _ (List.getElem_mem hi), fun h0 => ?_⟩⟩
    rw [getD_get hi, getD_get (by omega)]
    exact List.pairwise_iff_getElem.1 h3 (i - 1) i (by omega) hi (by omega)
def Since (ls : List Sm) (t : Int) (k : Nat) : Prop := k ≤ ls.length ∧ (∀ j, j < k → (ls.getD j sm0).1 < t) ∧ (k < ls.length → t ≤ (ls.getD k sm0).1)
theorem since_take {ls : List Sm} {t : Int} {k : Nat} (h : Since ls t k) : ∀ x ∈ ls.take k, x.1 < t := by
  intro x hx
  obtain ⟨i, hi, rfl⟩ := List.mem_take_iff_getElem.1 hx
  have := h.2.1 i (by omega)
  rwa [getD_get (by omega)] at this
theorem since_drop {ls : List Sm} {t : Int} {k : Nat} (h : Since ls t k) (hs : Sorted ls) : ∀ x ∈ ls.drop k, t ≤ x.1 := by
  intro x hx
  obtain ⟨i, hi, rfl⟩ := List.mem_drop_iff_getElem.1 hx
  have hk : k < ls.length := by omega
  have h1 := h.2.2 hk
  rw [getD_get hk] at h1
  by_cases e : i = 0
  · subst e; simpa using h1
  · have := List.pairwise_iff_getElem.1 hs k (k + i) hk (by omega) (by omega)
    omega
theorem filter_tail {ls : List Sm} {p : Sm → Bool} {k : Nat} (h1 : ∀ x ∈ ls.take k, p x = false) (h2 : ∀ x ∈ ls.drop k, p x = true) : ls.filter p = ls.drop k := by
  have e : ls.filter p = (ls.take k ++ ls.drop k).filter p := by rw [List.take_append_drop]
  rw [e, List.filter_append, List.filter_eq_nil_iff.2 (fun x hx => by simp [h1 x hx]), List.filter_eq_self.2 h2]; rfl
theorem filter_head {ls : List Sm} {p : Sm → Bool} {k : Nat} (h2 : ∀ x ∈ ls.drop k, p x = false) : ls.filter p = (ls.take k).filter p := by
  have e : ls.filter p = (ls.take k ++ ls.drop k).filter p := by rw [List.take_append_drop]
  have e2 : (ls.drop k).filter p = [] := List.filter_eq_nil_iff.2 (fun x hx => by simp [h2 x hx])
  rw [e, List.filter_append, e2, List.append_nil]
def trimP (ls : List Sm) (t : Int) : List Sm := ls.filter fun x => decide (t ≤ x.1)
def rangeP (ls : List Sm) (f t : Int) : List Sm := ls.filter fun x => decide (f ≤ x.1) && decide (x.1 < t)
theorem trim_is {ls : List Sm} {t : Int} {k : Nat} (h : Since ls t k) (hs : Sorted ls) : trimP ls t = ls.drop k :=
  filter_tail (fun x hx => by have := since_take h x hx; simp; omega) (fun x hx => by have := since_drop h hs x hx; simpa using this)
theorem range_is {ls : List Sm} {f t : Int} {k m : Nat} (h : Since ls f k) (h' : Since ls t m) (hs : Sorted ls) : rangeP ls f t = (ls.take (max k m)).drop k := by
  unfold rangeP
  rw [filter_head (k := max k m) fun x hx => ?_]
  · refine filter_tail (fun x hx => ?_) (fun x hx => ?_)
    · rw [List.take_take, Nat.min_eq_left (Nat.le_max_left k m)] at hx
      have := since_take h x hx
      simp; omega
    · have hx2 : x ∈ ls.drop k := by
        obtain ⟨i, hi, rfl⟩ := List.mem_drop_iff_getElem.1 hx
        refine List.mem_drop_iff_getElem.2 ⟨i, ?_, ?_⟩
        · simp at hi; omega
        · simp
      have h1 := since_drop h hs x hx2
      by_cases hkm : m ≤ k
      · rw [Nat.max_eq_left hkm] at hx
        have : (ls.take k).drop k = [] := List.drop_eq_nil_iff.2 (by simp; omega)
        rw [this] at hx
        simp at hx
      · rw [Nat.max_eq_right (by omega)] at hx
        have h2 := since_take h' x (List.mem_of_mem_drop hx)
        simp; omega
  · have hx2 : x ∈ ls.drop m := by
      obtain ⟨i, hi, rfl⟩ := List.mem_drop_iff_getElem.1 hx
      have := Nat.le_max_right k m
      refine List.mem_drop_iff_getElem.2 ⟨i + (max k m - m), by omega, ?_⟩
      congr 1; omega
    have := since_drop h' hs x hx2
    simp; omega
def findP (ls : List Sm) (t : Int) : Option Sm := ls.find? fun c => decide (c.1 = t)
theorem find_none {ls : List Sm} {t : Int} : findP ls t = none ↔ ∀ x ∈ ls, x.1 ≠ t := by
  unfold findP; rw [List.find?_eq_none]; simp
theorem find_mem {ls : List Sm} {t : Int} {x : Sm} (h : findP ls t = some x) : x ∈ ls ∧ x.1 = t := by
  unfold findP at h
  exact ⟨List.mem_of_find?_eq_some h, by simpa using List.find?_some h⟩
theorem sorted_one {ls : List Sm} (hs : Sorted ls) {x y : Sm} (hx : x ∈ ls) (hy : y ∈ ls) (h : x.1 = y.1) : x = y := by
  obtain ⟨i, hi, rfl⟩ := List.getElem_of_mem hx
  obtain ⟨j, hj, rfl⟩ := List.getElem_of_mem hy
  have hp := List.pairwise_iff_getElem.1 hs
  by_cases h1 : i < j
  · have := hp i j hi hj h1; omega
  · by_cases h2 : j < i
    · have := hp j i hj hi h2; omega
    · have : i = j := by omega
      subst this; rfl
theorem find_some {ls : List Sm} (hs : Sorted ls) {t : Int} {x : Sm} (hx : x ∈ ls) (h : x.1 = t) : findP ls t = some x := by
  cases e : findP ls t with
  | none => exact absurd h (find_none.1 e x hx)
  | some y => obtain ⟨h1, h2⟩ := find_mem e; rw [sorted_one hs h1 hx (by omega)]
theorem find_at {ls : List Sm} {t : Int} {k : Nat} (hs : Sorted ls) (hk : k < ls.length) (e : (ls.getD k sm0).1 = t) : findP ls t = some (ls.getD k sm0) := by
  refine find_some hs ?_ e
  rw [getD_get hk]; exact List.getElem_mem hk
theorem find_not {ls : List Sm} {t : Int} {k : Nat} (h : Since ls t k) (hs : Sorted ls) (e : k < ls.length → ¬ (ls.getD k sm0).1 = t) : findP ls t = none := by
  refine find_none.2 fun x hx hq => ?_
  rw [← List.take_append_drop k ls] at hx
  rcases List.mem_append.1 hx with h1 | h1
  · have := since_take h x h1; omega
  · obtain ⟨i, hi, rfl⟩ := List.mem_drop_iff_getElem.1 h1
    have hk : k < ls.length := by omega
    have h2 := h.2.2 hk
    have h3 := e hk
    rw [getD_get hk] at h2 h3
    by_cases e0 : i = 0
    · subst e0; exact h3 (by simpa using hq)
    · have := List.pairwise_iff_getElem.1 hs k (k + i) hk (by omega) (by omega)
      omega
def wth : List Sm → Sm → List Sm
  | [], s => [s]
  | c :: l, s => if s.1 < c.1 then s :: c :: l else c :: wth l s
theorem wth_mem {l : List Sm} {s z : Sm} : z ∈ wth l s ↔ z = s ∨ z ∈ l := by
  induction l with
  | nil => simp [wth]
  | cons c l ih =>
    unfold wth
    split
    · simp
    · rw [List.mem_cons, ih, List.mem_cons]
      constructor
      · rintro (h | h | h)
        · exact .inr (.inl h)
        · exact .inl h
        · exact .inr (.inr h)
      · rintro (h | h | h)
        · exact .inr (.inl h)
        · exact .inl h
        · exact .inr (.inr h)
theorem wth_length (l : List Sm) (s : Sm) : (wth l s).length = l.length + 1 := by
  induction l with
  | nil => rfl
  | cons c l ih =>
    unfold wth
    split
    · simp
    · simp [ih]
theorem wth_sorted {l : List Sm} {s : Sm} (h : Sorted l) (hn : ∀ x ∈ l, x.1 ≠ s.1) : Sorted (wth l s) := by
  induction l with
  | nil => exact List.pairwise_singleton _ _
  | cons c l ih =>
    obtain ⟨h1, h2⟩ := List.pairwise_cons.1 h
    unfold wth
    split
    · rename_i hlt
      refine List.pairwise_cons.2 ⟨fun x hx => ?_, h⟩
      rcases List.mem_cons.1 hx with rfl | hx
      · exact hlt
      · exact Int.lt_trans hlt (h1 x hx)
    · rename_i hlt
      have hc := hn c (by simp)
      refine List.pairwise_cons.2 ⟨fun x hx => ?_, ih h2 fun x hx => hn x (by simp [hx])⟩
      rcases wth_mem.1 hx with rfl | hx
      · omega
      · exact h1 x hx
theorem wth_split {p q : List Sm} {s : Sm} (h1 : ∀ x ∈ p, x.1 ≤ s.1) (h2 : ∀ x ∈ q, s.1 < x.1) : wth (p ++ q) s = p ++ s :: q := by
  induction p with
  | nil =>
    cases q with
    | nil => rfl
    | cons c q => show wth (c :: q) s = _; unfold wth; rw [if_pos (h2 c (by simp))]; rfl
  | cons c p ih =>
    show wth (c :: (p ++ q)) s = _
    unfold wth
    have := h1 c (by simp)
    rw [if_neg (by omega), ih fun x hx => h1 x (by simp [hx])]; rfl
theorem wth_since {ls : List Sm} {s : Sm} {k : Nat} (h : Since ls s.1 k) (hs : Sorted ls) (hn : findP ls s.1 = none) : wth ls s = ls.take k ++ s :: ls.drop k := by
  have e : wth ls s = wth (ls.take k ++ ls.drop k) s := by rw [List.take_append_drop]
  rw [e]
  refine wth_split (fun x hx => Int.le_of_lt (since_take h x hx)) (fun x hx => ?_)
  have h1 := since_drop h hs x hx
  have h2 := find_none.1 hn x (List.mem_of_mem_drop hx)
  omega
noncomputable def putE (ls : List Sm) (s : Sm) : Int := open Classical in if ¬ InS s then 1 else match findP ls s.1 with
  | some x => if x = s then 7 else 8
  | none => if 64 ≤ ls.length then 6 else 0
noncomputable def putL (ls : List Sm) (s : Sm) : List Sm := open Classical in if putE ls s = 0 then wth ls s else ls
theorem putE_arg {ls : List Sm} {s : Sm} (h : ¬ InS s) : putE ls s = 1 := by unfold putE; rw [if_pos h]
theorem putE_same {ls : List Sm} {s : Sm} (h : InS s) (hf : findP ls s.1 = some s) : putE ls s = 7 := by unfold putE; rw [if_neg (by simpa using h), hf]; simp
theorem putE_other {ls : List Sm} {s x : Sm} (h : InS s) (hf : findP ls s.1 = some x) (hx : x ≠ s) : putE ls s = 8 := by unfold putE; rw [if_neg (by simpa using h), hf]; simp [hx]
theorem putE_full {ls : List Sm} {s : Sm} (h : InS s) (hf : findP ls s.1 = none) (hl : 64 ≤ ls.length) : putE ls s = 6 := by unfold putE; rw [if_neg (by simpa using h), hf]; simp [hl]
theorem putE_ok {ls : List Sm} {s : Sm} (h : InS s) (hf : findP ls s.1 = none) (hl : ls.length < 64) : putE ls s = 0 := by unfold putE; rw [if_neg (by simpa using h), hf]; simp; omega
theorem putL_no {ls : List Sm} {s : Sm} (h : putE ls s ≠ 0) : putL ls s = ls := by unfold putL; rw [if_neg h]
theorem putL_yes {ls : List Sm} {s : Sm} (h : putE ls s = 0) : putL ls s = wth ls s := by unfold putL; rw [if_pos h]
theorem putE_zero {ls : List Sm} {s : Sm} (h : putE ls s = 0) : InS s ∧ findP ls s.1 = none ∧ ls.length < 64 := by
  by_cases h1 : InS s
  · cases hf : findP ls s.1 with
    | none =>
      by_cases hl : 64 ≤ ls.length
      · rw [putE_full h1 hf hl] at h; omega
      · exact ⟨h1, rfl, by omega⟩
    | some x =>
      by_cases hx : x = s
      · subst hx; rw [putE_same h1 hf] at h; omega
      · rw [putE_other h1 hf hx] at h; omega
  · rw [putE_arg h1] at h; omega
theorem wth_may {ls : List Sm} {s : Sm} (hM : MayS ls) (h : InS s) (hf : findP ls s.1 = none) (hl : ls.length < 64) : MayS (wth ls s) := by
  obtain ⟨h1, h2, h3⟩ := (may_iff ls).1 hM
  refine (may_iff _).2 ⟨by rw [wth_length]; omega, fun x hx => ?_, wth_sorted h3 (find_none.1 hf)⟩
  rcases wth_mem.1 hx with rfl | hx
  · exact h
  · exact h2 x hx
theorem putL_may {ls : List Sm} {s : Sm} (hM : MayS ls) : MayS (putL ls s) := by
  by_cases h : putE ls s = 0
  · rw [putL_yes h]
    obtain ⟨h1, h2, h3⟩ := putE_zero h
    exact wth_may hM h1 h2 h3
  · rw [putL_no h]; exact hM
theorem may_one (s : Sm) : MayS [s] ↔ InS s := by
  rw [may_iff]
  constructor
  · rintro ⟨_, h, _⟩; exact h s (by simp)
  · intro h; exact ⟨by simp, by simpa using h, List.pairwise_singleton _ _⟩
theorem may_nil : MayS [] := (may_iff _).2 ⟨by simp, by simp, List.Pairwise.nil⟩
end Go.Proofs.YtihohcmocejijaaGreat.Bk
namespace Go.Proofs.YtihohcmocejijaaGreat.Bk
open Go.ChangeShapes Go.WideShapes Go.ChangeAt Go.RowKit
def vAt (ls : List Sm) (i : Nat) : Int := (ls.getD i sm0).2
def sumN (ls : List Sm) : Nat → Int
  | 0 => 0
  | k + 1 => sumN ls k + vAt ls k
def minN (ls : List Sm) : Nat → Int
  | 0 => vAt ls 0
  | k + 1 => if vAt ls (k + 1) < minN ls k then vAt ls (k + 1) else minN ls k
def maxN (ls : List Sm) : Nat → Int
  | 0 => vAt ls 0
  | k + 1 => if maxN ls k < vAt ls (k + 1) then vAt ls (k + 1) else maxN ls k
def gr (a v : Int) : Int := if v < a then max v 0 else v - a
def growN (ls : List Sm) : Nat → Int
  | 0 => 0
  | k + 1 => growN ls k + gr (vAt ls k) (vAt ls (k + 1))
theorem vAt_in {ls : List Sm} (h : MayS ls) {i : Nat} (hi : i < ls.length) : -1099511627776 ≤ vAt ls i ∧ vAt ls i ≤ 1099511627776 := ((h.2 i hi).1).2.2
theorem sumN_in {ls : List Sm} (h : MayS ls) : ∀ k, k ≤ ls.length → -(1099511627776 * (k : Int)) ≤ sumN ls k ∧ sumN ls k ≤ 1099511627776 * (k : Int) := by
  intro k
  induction k with
  | zero => intro _; simp [sumN]
  | succ k ih =>
    intro hk
    have h1 := ih (by omega)
    have h2 := vAt_in h (i := k) (by omega)
    rw [sumN]
    constructor <;> omega
theorem minN_in {ls : List Sm} (h : MayS ls) : ∀ k, k < ls.length → -1099511627776 ≤ minN ls k ∧ minN ls k ≤ 1099511627776 := by
  intro k
  induction k with
  | zero => intro hk; exact vAt_in h hk
  | succ k ih =>
    intro hk
    have h1 := ih (by omega)
    have h2 := vAt_in h hk
    rw [minN]
    split <;> assumption
theorem gr_in {a v : Int} (ha : -1099511627776 ≤ a ∧ a ≤ 1099511627776) (hv : -1099511627776 ≤ v ∧ v ≤ 1099511627776) : 0 ≤ gr a v ∧ gr a v ≤ 2199023255552 := by
  unfold gr
  split <;> omega
theorem growN_in {ls : List Sm} (h : MayS ls) : ∀ k, k < ls.length → 0 ≤ growN ls k ∧ growN ls k ≤ 2199023255552 * (k : Int) := by
  intro k
  induction k with
  | zero => intro _; simp [growN]
  | succ k ih =>
    intro hk
    have h1 := ih (by omega)
    have h2 := gr_in (vAt_in h (i := k) (by omega)) (vAt_in h hk)
    rw [growN]
    constructor <;> omega
def rateP (ls : List Sm) : Int := IntKind.i64.wrap (Int.tdiv (growN ls (ls.length - 1) * 60) ((ls.getD (ls.length - 1) sm0).1 - (ls.getD 0 sm0).1))
def totP (kind : Int) (ls : List Sm) : Option Int :=
  if kind = 1 then some (sumN ls ls.length)
  else if kind = 4 then some (ls.length : Int)
  else if kind = 2 then (if ls.length = 0 then none else some (minN ls (ls.length - 1)))
  else if kind = 3 then (if ls.length = 0 then none else some (maxN ls (ls.length - 1)))
  else if kind = 5 then (if ls.length < 2 then none else some (rateP ls))
  else none
def TotPost (o : Option Int) (w : World) (e : Ending) (w' : World) : Prop := Below w.heap.size w w' ∧ e = .returned (.tuple #[.int .i64 (o.getD 0), .bool o.isSome])
theorem tot_yes {o : Option Int} {x : Int} {w w' : World} (h : o = some x) (hb : Below w.heap.size w w') : TotPost o w (.returned (.tuple #[.int .i64 x, .bool true])) w' := by subst h; exact ⟨hb, rfl⟩
theorem tot_no {o : Option Int} {w w' : World} (h : o = none) (hb : Below w.heap.size w w') : TotPost o w (.returned (.tuple #[.int .i64 0, .bool false])) w' := by subst h; exact ⟨hb, rfl⟩
end Go.Proofs.YtihohcmocejijaaGreat.Bk
