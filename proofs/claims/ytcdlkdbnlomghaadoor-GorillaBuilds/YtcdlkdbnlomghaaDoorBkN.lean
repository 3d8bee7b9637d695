/-
  Samples read one by one, plainly; rows of samples of one's own.
-/
import Derived.Test.YtcdlkdbnlomghaaDoorBkI
import Derived.Test.YtcdlkdbnlomghaaDoorBkL
import Derived.Test.YtcdlkdbnlomghaaDoorBkC
namespace Go.Proofs.YtcdlkdbnlomghaaDoor.Bk
open Go.ChangeShapes Go.WideShapes Go.ChangeAt Go.RowKit
open Go.Proofs.YtcdlkdbnlomghaaDoor.Fr
/-- so far the numbers are these samples' -/
def Pre (M : List Int) (L : List Sm) : Prop := MayS L ∧ 2 * L.length + 1 ≤ M.length ∧ ∀ j, j < L.length → M.getD (2 * j + 1) 0 = tell (tS L) j ∧ M.getD (2 * j + 2) 0 = tell (vS L) j
theorem pre_nil {M : List Int} (h : 1 ≤ M.length) : Pre M [] := ⟨⟨by decide, fun i hi => absurd hi (Nat.not_lt_zero _)⟩, by simpa using h, fun j hj => absurd hj (Nat.not_lt_zero _)⟩
/-- the samples so far are the first ones -/
theorem pre_first {M : List Int} {L ls : List Sm} (h : Pre M L) (hA : Are M ls) (hl : L.length ≤ ls.length) : ∀ j, j < L.length → tS L j = tS ls j ∧ vS L j = vS ls j := by
  obtain ⟨h1, h2, h3⟩ := (numsS_iff M ls).1 hA.2
  have ht := tell_inj (f := tS L) (g := tS ls) (k := L.length) fun j hj => by rw [← (h.2.2 j hj).1, (h3 j (by omega)).1]
  have hv := tell_inj (f := vS L) (g := vS ls) (k := L.length) fun j hj => by rw [← (h.2.2 j hj).2, (h3 j (by omega)).2]
  exact fun j hj => ⟨ht j hj, hv j hj⟩
/-- the next number, put back -/
def next (f : Nat → Int) (k : Nat) (x : Int) : Int := if k = 0 then x else if k = 1 then x + f 0 else x + f (k - 1) + f (k - 1) - f (k - 2)
theorem tell_next {f g : Nat → Int} {k : Nat} {x : Int} (h : ∀ j, j < k → g j = f j) (hk : g k = next f k x) : tell g k = x := by
  unfold next at hk
  unfold tell
  by_cases h0 : k = 0
  · subst h0; simpa using hk
  · by_cases h1 : k = 1
    · subst h1
      rw [if_neg (by omega), if_pos rfl] at hk ⊢
      rw [hk, h 0 (by omega)]; omega
    · rw [if_neg h0, if_neg h1] at hk ⊢
      rw [hk, h (k - 1) (by omega), h (k - 2) (by omega)]; omega
theorem next_tell {f g : Nat → Int} {k : Nat} {x : Int} (h : ∀ j, j < k → f j = g j) (hk : tell g k = x) : next f k x = g k := by
  unfold tell at hk
  unfold next
  by_cases h0 : k = 0
  · subst h0; simpa using hk.symm
  · by_cases h1 : k = 1
    · subst h1
      rw [if_neg (by omega), if_pos rfl] at hk ⊢
      rw [h 0 (by omega)]; omega
    · rw [if_neg h0, if_neg h1] at hk ⊢
      rw [h (k - 1) (by omega), h (k - 2) (by omega)]; omega
theorem snoc_tS {L : List Sm} {s : Sm} {j : Nat} (h : j < L.length) : tS (L ++ [s]) j = tS L j ∧ vS (L ++ [s]) j = vS L j := by
  unfold tS vS
  rw [List.getD_eq_getElem?_getD, List.getElem?_append_left h, ← List.getD_eq_getElem?_getD]
  exact ⟨rfl, rfl⟩
theorem snoc_last {L : List Sm} {s : Sm} : tS (L ++ [s]) L.length = s.1 ∧ vS (L ++ [s]) L.length = s.2 := by
  unfold tS vS
  rw [List.getD_eq_getElem?_getD, List.getElem?_append_right (Nat.le_refl _)]
  simp
theorem pre_snoc {M : List Int} {L : List Sm} {s : Sm} (h : Pre M L) (hl : 2 * L.length + 2 < M.length) (h1 : s.1 = next (tS L) L.length (M.getD (2 * L.length + 1) 0)) (h2 : s.2 = next (vS L) L.length (M.getD (2 * L.length + 2) 0)) (hM : MayS (L ++ [s])) : Pre M (L ++ [s]) := by
  refine ⟨hM, by simp; omega, fun j hj => ?_⟩
  rw [List.length_append, List.length_singleton] at hj
  by_cases hjl : j < L.length
  · obtain ⟨q1, q2⟩ := h.2.2 j hjl
    rw [q1, q2]
    exact ⟨tell_same fun i hi => (snoc_tS (by omega)).1.symm, tell_same fun i hi => (snoc_tS (by omega)).2.symm⟩
  · obtain rfl : j = L.length := by omega
    exact ⟨(tell_next (fun i hi => (snoc_tS hi).1) (snoc_last.1.trans h1)).symm, (tell_next (fun i hi => (snoc_tS hi).2) (snoc_last.2.trans h2)).symm⟩
theorem may_take {ls : List Sm} (h : MayS ls) (k : Nat) : MayS (ls.take k) := by
  have hg : ∀ i, i < (ls.take k).length → (ls.take k).getD i sm0 = ls.getD i sm0 := fun i hi => by
    rw [List.getD_eq_getElem?_getD, List.getD_eq_getElem?_getD, List.getElem?_take_of_lt (by simp at hi; omega)]
  have hlen : (ls.take k).length ≤ ls.length := by simp; omega
  refine ⟨Nat.le_trans hlen h.1, fun i hi => ?_⟩
  have := h.2 i (by omega)
  unfold OkS at this ⊢
  rw [hg i hi]
  refine ⟨this.1, fun h0 => ?_⟩
  rw [hg (i - 1) (by omega)]
  exact this.2 h0
/-- if the next ones may not be, no samples have these numbers -/
theorem pre_stop {M : List Int} {L : List Sm} {s : Sm} (h : Pre M L) (hl : 2 * L.length + 2 < M.length) (h1 : s.1 = next (tS L) L.length (M.getD (2 * L.length + 1) 0)) (h2 : s.2 = next (vS L) L.length (M.getD (2 * L.length + 2) 0)) (hM : ¬ MayS (L ++ [s])) : ∀ ls, ¬ Are M ls := by
  intro ls hA
  obtain ⟨q1, q2, q3⟩ := (numsS_iff M ls).1 hA.2
  have hk : L.length < ls.length := by omega
  have hf := pre_first h hA (by omega)
  apply hM
  have e : L ++ [s] = ls.take (L.length + 1) := by
    refine sm_ext (by simp; omega) fun j hj => ?_
    rw [List.length_append, List.length_singleton] at hj
    have et : tS (ls.take (L.length + 1)) j = tS ls j ∧ vS (ls.take (L.length + 1)) j = vS ls j := by
      unfold tS vS
      rw [List.getD_eq_getElem?_getD, List.getElem?_take_of_lt (by omega), ← List.getD_eq_getElem?_getD]
      exact ⟨rfl, rfl⟩
    by_cases hjl : j < L.length
    · rw [(snoc_tS hjl).1, (snoc_tS hjl).2, et.1, et.2]; exact hf j hjl
    · obtain rfl : j = L.length := by omega
      rw [snoc_last.1, snoc_last.2, et.1, et.2, h1, h2]
      exact ⟨next_tell (fun i hi => (hf i hi).1) (q3 _ hk).1.symm, next_tell (fun i hi => (hf i hi).2) (q3 _ hk).2.symm⟩
  rw [e]
  exact may_take hA.1 _
/-- nor if a number is too great -/
theorem pre_wide {M : List Int} {k : Nat} (hl : 2 * k + 2 < M.length) (hx : ¬ ((-8796093022208 ≤ M.getD (2 * k + 1) 0 ∧ M.getD (2 * k + 1) 0 ≤ 8796093022208) ∧ -8796093022208 ≤ M.getD (2 * k + 2) 0 ∧ M.getD (2 * k + 2) 0 ≤ 8796093022208)) : ∀ ls, ¬ Are M ls := by
  intro ls hA
  obtain ⟨q1, q2, q3⟩ := (numsS_iff M ls).1 hA.2
  have hk : k < ls.length := by omega
  have it := tell_in (f := tS ls) (fun i => ⟨(may_in hA.1 i).1, (may_in hA.1 i).2.1⟩) k
  have iv := tell_in (f := vS ls) (fun i => (may_in hA.1 i).2.2) k
  rw [← (q3 k hk).1] at it
  rw [← (q3 k hk).2] at iv
  omega
theorem pre_end {M : List Int} {L : List Sm} (h : Pre M L) (hl : M.length ≤ 2 * L.length + 2) (hne : M ≠ numsS L) : ∀ ls, ¬ Are M ls := by
  intro ls hA
  obtain ⟨q1, q2, q3⟩ := (numsS_iff M ls).1 hA.2
  have h2 := h.2.1
  have hk : ls.length = L.length := by omega
  have hf := pre_first h hA (by omega)
  have : L = ls := sm_ext hk.symm hf
  exact hne (by rw [this]; exact hA.2)
theorem next_eq (f : Nat → Int) (k : Nat) (x : Int) : next f k x = if k = 0 then x else if k = 1 then x + f (k - 1) else x + f (k - 1) + f (k - 1) - f (k - 2) := by
  unfold next
  split
  · rfl
  · split
    · rename_i h1; rw [h1]
    · rfl
/-- samples as cells -/
def cellsS (L : List Sm) : List Value := L.flatMap fun c => [.int .i64 c.1, .int .i64 c.2]
theorem cellsS_snoc (L : List Sm) (s : Sm) : cellsS (L ++ [s]) = cellsS L ++ [.int .i64 s.1, .int .i64 s.2] := by simp [cellsS]
theorem cellsS_length (L : List Sm) : (cellsS L).length = L.length * 2 := by
  induction L with
  | nil => rfl
  | cons c L ih => unfold cellsS at *; rw [List.flatMap_cons, List.length_append, ih]; simp; omega
theorem cellsS_at (L : List Sm) : ∀ i, i < L.length → (cellsS L)[i * 2]? = some (.int .i64 (L.getD i sm0).1) ∧ (cellsS L)[i * 2 + 1]? = some (.int .i64 (L.getD i sm0).2) := by
  induction L with
  | nil => intro i hi; exact absurd hi (Nat.not_lt_zero _)
  | cons c L ih =>
    intro i hi
    have e : cellsS (c :: L) = .int .i64 c.1 :: .int .i64 c.2 :: cellsS L := rfl
    rw [e]
    cases i with
    | zero => simp
    | succ i =>
      have := ih i (by simpa using hi)
      rw [show (i + 1) * 2 = i * 2 + 1 + 1 from by omega]
      simpa using this
theorem own_sms {w : World} {B n g cp : Nat} {L : List Sm} (h : w.ownsRow B 46 2 (.slice (some ⟨g, 0, none⟩) n cp) n (cellsS L)) : SmsAt w (some ⟨g, 0, none⟩) n cp L ∧ g < w.heap.size ∧ B ≤ g := by
  have hl : L.length = n := by have := h.1; rw [cellsS_length] at this; omega
  have hc := h.cellAt
  obtain ⟨h1, ⟨e, _⟩ | ⟨g', cap, cur, e, hB, hh, h2, h3, h4, h5⟩⟩ := h
  · simp at e
  · simp at e
    obtain ⟨rfl, rfl⟩ := e
    refine ⟨⟨hl, h2, h3, .inr ⟨g, 0, rfl, fun i hi => ?_⟩⟩, (Array.getElem?_eq_some_iff.1 hh).1, hB⟩
    obtain ⟨q1, q2⟩ := cellsS_at L i (by omega)
    rw [Nat.zero_add, hc (i * 2) (by omega), hc (i * 2 + 1) (by omega)]
    exact ⟨q1, q2⟩
theorem own_formS {w : World} {B n : Nat} {v : Value} {xs : List Value} (h : w.ownsRow B 46 2 v n xs) (hv : ¬ v = .slice none 0 0) : ∃ g cp, v = .slice (some ⟨g, 0, none⟩) n cp := by
  obtain ⟨_, ⟨e, _⟩ | ⟨g, cap, cur, e, _⟩⟩ := h
  · exact absurd e hv
  · exact ⟨g, cap, e⟩
end Go.Proofs.YtcdlkdbnlomghaaDoor.Bk
