/-
  Rows of data: what is read of them, and the contract of the program's Row.
-/
import Derived.Test.YtgcdelgjbgjofaaU2
import Derived.Test.YtgcdelgjbgjofaaV
namespace Go.Proofs.Ytgcdelgjbgjofaa
open Go.ChangeShapes Go.WideShapes Go.ChangeAt Go.RowKit
abbrev Dat := List Int × List ByteArray
/-- data that may be -/
def OkD (d : Dat) : Prop := Fit d.1 d.2 ∧ (bytesL d.1 d.2).length ≤ 4096
def frD (d : Dat) : List UInt8 := frameL (bytesL d.1 d.2)
def flatD (ds : List Dat) : List UInt8 := ds.flatMap frD
theorem flatD_nil : flatD [] = [] := rfl
theorem flatD_cons (d : Dat) (ds : List Dat) : flatD (d :: ds) = frD d ++ flatD ds := rfl
theorem flatD_snoc (d : Dat) (ds : List Dat) : flatD (ds ++ [d]) = flatD ds ++ frD d := by simp [flatD]
theorem frD_pos (d : Dat) : 0 < (frD d).length := by
  have := countL_pos (bytesL d.1 d.2).length
  unfold frD frameL
  rw [List.length_append]; omega
/-- bytes that begin with no frame -/
def NoFrame (l : List UInt8) : Prop := ∀ d r, OkD d → l ≠ frD d ++ r
theorem frD_free {d d' : Dat} {r r' : List UInt8} (h : frD d ++ r = frD d' ++ r') : d = d' ∧ r = r' := by
  unfold frD frameL at h
  simp only [List.append_assoc] at h
  have h1 := countL_free _ _ _ _ h
  have h2 := List.append_inj h1.2 h1.1
  have h3 := bytesL_inj h2.1
  have h4 := List.append_inj h2.2 (by rw [fourL_length, fourL_length])
  exact ⟨Prod.ext h3.1 h3.2, h4.2⟩
theorem first_iff {w' : World} {l : List UInt8} {v : Value} {s c : Nat} (h : FirstIs w' l v s c) :
    (c = 0 ∧ ∃ d r, DataAt w' v d.1 d.2 ∧ OkD d ∧ l = frD d ++ r ∧ s = (frD d).length) ∨ (c ≠ 0 ∧ NoFrame l) := by
  have hno : ∀ n r d r', l = countL n ++ r → l = frD d ++ r' → n = (bytesL d.1 d.2).length ∧ r = bytesL d.1 d.2 ++ (fourL (sumL (bytesL d.1 d.2)) ++ r') := by
    intro n r d r' e1 e2
    rw [e1] at e2
    unfold frD frameL at e2
    simp only [List.append_assoc] at e2
    exact countL_free _ _ _ _ e2
  rcases h with ⟨_, _, rfl, h⟩ | ⟨n, r, e, hn, hr, ⟨h1, _, _, rfl⟩ | ⟨h1, h2, _, _, rfl⟩ | ⟨h1, h2, rfl, nums, texts, h3, h4, h5⟩⟩
  · refine .inr ⟨by omega, fun d r' hd e => ?_⟩
    unfold frD frameL at e
    rw [List.append_assoc] at e
    have := h _ _ e hd.2
    simp only [List.length_append, fourL_length] at this
    omega
  · refine .inr ⟨by omega, fun d r' hd e2 => h1 ?_⟩
    obtain ⟨rfl, rfl⟩ := hno n r d r' e e2
    rw [List.take_left, List.drop_left, show (4 : Nat) = (fourL (sumL (bytesL d.1 d.2))).length from rfl, List.take_left]
  · refine .inr ⟨by omega, fun d r' hd e2 => ?_⟩
    obtain ⟨rfl, rfl⟩ := hno n r d r' e e2
    rw [List.take_left] at h2
    exact h2 _ _ hd.1 rfl
  · have hl : (bytesL nums texts).length = n := by rw [← h5, List.length_take]; omega
    refine .inl ⟨rfl, (nums, texts), (r.drop n).drop 4, h3, ⟨h4, by show (bytesL nums texts).length ≤ 4096; omega⟩, ?_, ?_⟩
    · rw [e]
      unfold frD frameL
      show countL n ++ r = countL (bytesL nums texts).length ++ (bytesL nums texts ++ fourL (sumL (bytesL nums texts))) ++ (r.drop n).drop 4
      rw [hl, ← h5, h1, List.append_assoc, List.append_assoc, List.take_append_drop, List.take_append_drop]
    · rw [h2]
      unfold frD frameL
      show _ = (countL (bytesL nums texts).length ++ (bytesL nums texts ++ fourL (sumL (bytesL nums texts)))).length
      rw [List.length_append, List.length_append, fourL_length, hl]
      omega
/-- what both Rows answer -/
def RowIs (l : List UInt8) (ds : List Dat) (s : Nat) : Prop := (∀ d ∈ ds, OkD d) ∧ ∃ r, l = flatD ds ++ r ∧ s = (flatD ds).length ∧ NoFrame r
theorem rowIs_fn {l : List UInt8} : ∀ {ds ds' : List Dat} {s s' : Nat}, RowIs l ds s → RowIs l ds' s' → ds = ds' ∧ s = s' := by
  intro ds
  induction ds generalizing l with
  | nil =>
    intro ds' s s' h h'
    obtain ⟨_, r, e, rfl, hn⟩ := h
    obtain ⟨hok, r', e', rfl, _⟩ := h'
    cases ds' with
    | nil => exact ⟨rfl, rfl⟩
    | cons d ds' =>
      rw [e, flatD_nil, List.nil_append, flatD_cons, List.append_assoc] at e'
      exact absurd e' (hn d _ (hok d (List.mem_cons_self ..)))
  | cons d ds ih =>
    intro ds' s s' h h'
    obtain ⟨hok, r, e, rfl, hn⟩ := h
    obtain ⟨hok', r', e', rfl, hn'⟩ := h'
    rw [flatD_cons, List.append_assoc] at e
    cases ds' with
    | nil =>
      rw [flatD_nil, List.nil_append] at e'
      exact absurd (e'.symm.trans e) (hn' d _ (hok d (List.mem_cons_self ..)))
    | cons d' ds' =>
      rw [flatD_cons, List.append_assoc] at e'
      obtain ⟨rfl, e2⟩ := frD_free (e.symm.trans e')
      have h3 := ih (l := flatD ds ++ r) (s := (flatD ds).length) (s' := (flatD ds').length) ⟨fun x hx => hok x (List.mem_cons_of_mem _ hx), r, rfl, rfl, hn⟩ ⟨fun x hx => hok' x (List.mem_cons_of_mem _ hx), r', e2, rfl, hn'⟩
      rw [h3.1]
      exact ⟨rfl, rfl⟩
end Go.Proofs.Ytgcdelgjbgjofaa
