/-
  The series with a label's value, plainly: the labels as the answer lays them are the only rising ones.
-/
import Derived.Test.YtnjbpiekbekpeaaV
import Derived.Test.YtnjbpiekbekpeaaM
namespace Go.Proofs.Ytnjbpiekbekpeaa
open Go.ChangeShapes Go.WideShapes Go.ChangeAt Go.RowKit
def insL (n v : ByteArray) : List Lab → Bool → List Lab
  | [], dn => if dn then [] else [(n, v)]
  | x :: r, dn => (if dn || ltB x.1 n then [] else [(n, v)]) ++ ((if x.1 = n then [] else [x]) ++ insL n v r (dn || !ltB x.1 n))
theorem ins_done (n v : ByteArray) (ls : List Lab) : insL n v ls true = othersL ls n := by
  induction ls with
  | nil => rfl
  | cons x r ih =>
    have : insL n v (x :: r) true = (if x.1 = n then [] else [x]) ++ insL n v r true := by simp [insL]
    rw [this, ih]
    unfold othersL
    by_cases h : x.1 = n
    · simp [h]
    · simp [h]
theorem ins_perm (n v : ByteArray) (ls : List Lab) : (insL n v ls false).Perm (othersL ls n ++ [(n, v)]) := by
  induction ls with
  | nil => exact List.Perm.refl _
  | cons x r ih =>
    cases hx : ltB x.1 n with
    | false =>
      have e : insL n v (x :: r) false = (n, v) :: ((if x.1 = n then [] else [x]) ++ insL n v r true) := by simp [insL, hx]
      rw [e, ins_done]
      have e2 : othersL (x :: r) n = (if x.1 = n then [] else [x]) ++ othersL r n := by
        unfold othersL
        by_cases h : x.1 = n
        · simp [h]
        · simp [h]
      rw [← e2]
      exact (List.perm_append_comm (l₁ := [(n, v)]))
    | true =>
      have hne : ¬ x.1 = n := fun e => by rw [e, ltB_irrefl] at hx; cases hx
      have e : insL n v (x :: r) false = x :: insL n v r false := by simp [insL, hx, hne]
      have e2 : othersL (x :: r) n = x :: othersL r n := by simp [othersL, hne]
      rw [e, e2]
      exact List.Perm.cons x ih
theorem ins_mem {n v : ByteArray} {ls : List Lab} {y : Lab} (h : y ∈ insL n v ls false) : y ∈ ls ∨ y = (n, v) := by
  have := (ins_perm n v ls).subset h
  rcases List.mem_append.1 this with h | h
  · exact .inl (List.mem_filter.1 h).1
  · exact .inr (by simpa using h)
theorem others_pair {n : ByteArray} {ls : List Lab} (h : ls.Pairwise fun a b => ltB a.1 b.1 = true) : (othersL ls n).Pairwise fun a b => ltB a.1 b.1 = true := h.filter _
theorem ins_pair {n v : ByteArray} {ls : List Lab} (h : ls.Pairwise fun a b => ltB a.1 b.1 = true) : (insL n v ls false).Pairwise fun a b => ltB a.1 b.1 = true := by
  induction ls with
  | nil => simp [insL]
  | cons x r ih =>
    obtain ⟨h1, h2⟩ := List.pairwise_cons.1 h
    cases hx : ltB x.1 n with
    | false =>
      have e : insL n v (x :: r) false = (n, v) :: ((if x.1 = n then [] else [x]) ++ othersL r n) := by simp [insL, hx, ins_done]
      have hlt : ∀ y : Lab, (y = x ∨ y ∈ r) → ¬ y.1 = n → ltB n y.1 = true := fun y hy hne => by
        cases hc : ltB n y.1 with
        | true => rfl
        | false =>
          exfalso
          rcases hy with rfl | hy
          · exact hne (ltB_total hx hc)
          · have g := h1 y hy
            cases hd : ltB y.1 n with
            | false => exact hne (ltB_total hd hc)
            | true =>
              have := ltB_trans g hd
              rw [hx] at this
              cases this
      rw [e]
      refine List.pairwise_cons.2 ⟨fun y hy => ?_, ?_⟩
      · rcases List.mem_append.1 hy with hy | hy
        · split at hy
          · simp at hy
          · simp at hy
            subst hy
            exact hlt y (.inl rfl) (by assumption)
        · have := List.mem_filter.1 hy
          exact hlt y (.inr this.1) (by simpa using this.2)
      · split
        · rw [List.nil_append]; exact others_pair h2
        · refine List.pairwise_cons.2 ⟨fun y hy => h1 y (List.mem_filter.1 hy).1, others_pair h2⟩
    | true =>
      have hne : ¬ x.1 = n := fun e => by rw [e, ltB_irrefl] at hx; cases hx
      have e : insL n v (x :: r) false = x :: insL n v r false := by simp [insL, hx, hne]
      rw [e]
      refine List.pairwise_cons.2 ⟨fun y hy => ?_, ih h2⟩
      rcases ins_mem hy with hy | rfl
      · exact h1 y hy
      · exact hx
/-- what the answer lays -/
def ansL (ls : List Lab) (n v : ByteArray) : List Lab := insL n v ls (decide (v.size = 0))
theorem ans_perm (ls : List Lab) (n v : ByteArray) : (ansL ls n v).Perm (newL ls n v) := by
  unfold ansL newL
  by_cases h : v.size = 0
  · rw [decide_eq_true h, if_pos h, ins_done, List.append_nil]
  · rw [decide_eq_false h, if_neg h]; exact ins_perm n v ls
theorem ans_pair {ls : List Lab} (n v : ByteArray) (h : ls.Pairwise fun a b => ltB a.1 b.1 = true) : (ansL ls n v).Pairwise fun a b => ltB a.1 b.1 = true := by
  unfold ansL
  by_cases hz : v.size = 0
  · rw [decide_eq_true hz, ins_done]; exact others_pair h
  · rw [decide_eq_false hz]; exact ins_pair h
theorem ans_only {nm : ByteArray} {ls ls' : List Lab} {n v : ByteArray} (hM : MayS nm ls) (hp : ls'.Perm (newL ls n v)) (hs : SortedL ls') : ls' = ansL ls n v :=
  (uniq ((ans_perm ls n v).trans hp.symm) (ans_pair n v (may_pair hM)) hs.pair).symm
theorem value_of {L : List Lab} {n v : ByteArray} (h1 : ∀ x ∈ L, x.1 = n → x.2 = v) (h2 : (∃ x ∈ L, x.1 = n) ∨ v = ⟨#[]⟩) : valueL L n = v := by
  induction L with
  | nil =>
    rcases h2 with ⟨x, hx, _⟩ | h
    · simp at hx
    · rw [h]; rfl
  | cons x r ih =>
    unfold valueL
    by_cases hx : x.1 = n
    · rw [if_pos hx]; exact h1 x (List.mem_cons_self ..) hx
    · rw [if_neg hx]
      refine ih (fun y hy => h1 y (List.mem_cons_of_mem _ hy)) ?_
      rcases h2 with ⟨y, hy, hn⟩ | h
      · rcases List.mem_cons.1 hy with rfl | hy
        · exact absurd hn hx
        · exact .inl ⟨y, hy, hn⟩
      · exact .inr h
theorem ans_value (ls : List Lab) (n v : ByteArray) : valueL (ansL ls n v) n = v := by
  refine value_of (fun x hx he => ?_) ?_
  · have := (ans_perm ls n v).subset hx
    rcases List.mem_append.1 this with h | h
    · have := (List.mem_filter.1 h).2
      simp [he] at this
    · split at h
      · simp at h
      · simp at h; rw [h]
  · by_cases hz : v.size = 0
    · exact .inr (sg_ext (by rw [sg_nil.2 hz]; rfl))
    · refine .inl ⟨(n, v), (ans_perm ls n v).symm.subset ?_, rfl⟩
      unfold newL
      rw [if_neg hz]
      simp
end Go.Proofs.Ytnjbpiekbekpeaa
