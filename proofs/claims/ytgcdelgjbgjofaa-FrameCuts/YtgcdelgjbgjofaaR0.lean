/-
  Plain facts on the loose reading of data.
-/
import Derived.Test.YtgcdelgjbgjofaaQ
namespace Go.Proofs.Ytgcdelgjbgjofaa
def NoData (l : List UInt8) : Prop := ∀ nums texts, Fit nums texts → l ≠ bytesL nums texts
def Inv1 (l : List UInt8) (n k at_ i : Nat) (nums : List Int) : Prop := ∀ nums0 texts0, Fit nums0 texts0 → l = bytesL nums0 texts0 →
  0 < k ∧ n = nums0.length ∧ nums = nums0.take i ∧ i ≤ n ∧ l.drop at_ = numsL (nums0.drop i) ++ (countL texts0.length ++ textsL texts0)
def Inv2 (l : List UInt8) (nums : List Int) (n k at_ i : Nat) (texts : List ByteArray) : Prop := ∀ nums0 texts0, Fit nums0 texts0 → l = bytesL nums0 texts0 →
  0 < k ∧ nums = nums0 ∧ n = texts0.length ∧ texts = texts0.take i ∧ i ≤ n ∧ l.drop at_ = textsL (texts0.drop i)
theorem inv1_start {l : List UInt8} {n k : Nat} (hl : l.length ≤ 4096) (h : LooseIs l n k) : Inv1 l n k k 0 [] := by
  intro nums0 texts0 hf e
  have e' := e
  unfold bytesL at e'
  have h1 := numsL_len nums0
  have h2 := congrArg List.length e'
  simp only [List.length_append] at h2
  have h3 := h.2.2.2 nums0.length _ (by omega) e'
  have h4 := countL_pos nums0.length
  refine ⟨by omega, h3.1, by simp, by omega, ?_⟩
  rw [h3.2, e', List.drop_left, List.drop_zero]
theorem inv1_step {l : List UInt8} {n k at_ i u m : Nat} {nums : List Int} (h : Inv1 l n k at_ i nums) (hi : i < n) (hL : LooseIs (l.drop at_) u m) : Inv1 l n m (at_ + m) (i + 1) (nums ++ [numberZ u]) := by
  intro nums0 texts0 hf e
  obtain ⟨_, h2, h3, h4, h5⟩ := h nums0 texts0 hf e
  have hk : i < nums0.length := by omega
  rw [List.drop_eq_getElem_cons hk, numsL_cons, List.append_assoc] at h5
  have h6 := hL.2.2.2 _ _ (numberN_lt (hf.1 _ (List.getElem_mem hk))) h5
  have h7 := countL_pos (numberN nums0[i])
  refine ⟨by omega, h2, ?_, by omega, ?_⟩
  · rw [List.take_succ_eq_append_getElem hk, h3, h6.1, numberZ_N]
  · rw [← List.drop_drop, h5, h6.2, List.drop_left]
theorem inv2_start {l : List UInt8} {n k at_ n2 k2 : Nat} {nums : List Int} (hl : l.length ≤ 4096) (h : Inv1 l n k at_ n nums) (hL : LooseIs (l.drop at_) n2 k2) : Inv2 l nums n2 k2 (at_ + k2) 0 [] := by
  intro nums0 texts0 hf e
  obtain ⟨_, h2, h3, h4, h5⟩ := h nums0 texts0 hf e
  rw [show nums0.drop n = [] from List.drop_eq_nil_of_le (by omega), numsL_nil, List.nil_append] at h5
  have h1 := textsL_len texts0
  have h8 := congrArg List.length h5
  simp only [List.length_append, List.length_drop] at h8
  have h6 := hL.2.2.2 _ _ (by omega) h5
  have h7 := countL_pos texts0.length
  refine ⟨by omega, ?_, h6.1, by simp, by omega, ?_⟩
  · rw [h3, List.take_of_length_le (by omega)]
  · rw [← List.drop_drop, h5, h6.2, List.drop_left, List.drop_zero]
theorem inv2_read {l : List UInt8} {n k at_ i u m : Nat} {nums : List Int} {texts : List ByteArray} (h : Inv2 l nums n k at_ i texts) (hi : i < n) (hL : LooseIs (l.drop at_) u m) :
    ∀ nums0 texts0, Fit nums0 texts0 → l = bytesL nums0 texts0 → 0 < m ∧ u ≤ l.length - at_ - m ∧ nums = nums0 ∧ n = texts0.length ∧ texts ++ [txt ((l.drop (at_ + m)).take u)] = texts0.take (i + 1) ∧ l.drop (at_ + m + u) = textsL (texts0.drop (i + 1)) := by
  intro nums0 texts0 hf e
  obtain ⟨_, h2, h3, h4, h5, h6⟩ := h nums0 texts0 hf e
  have hk : i < texts0.length := by omega
  rw [List.drop_eq_getElem_cons hk, textsL_cons, textL, List.append_assoc] at h6
  have hsz := hf.2 _ (List.getElem_mem hk)
  have h7 := hL.2.2.2 _ _ (by unfold maxLen at hsz; omega) h6
  have h8 := countL_pos texts0[i].size
  have h9 : l.drop (at_ + m) = texts0[i].data.toList ++ textsL (texts0.drop (i + 1)) := by rw [← List.drop_drop, h6, h7.2, List.drop_left]
  have hu : texts0[i].data.toList.length = u := by rw [Array.length_toList, h7.1]; rfl
  refine ⟨by omega, ?_, h2, h3, ?_, ?_⟩
  · have := congrArg List.length h9
    rw [List.length_drop, List.length_append, hu] at this
    omega
  · rw [List.take_succ_eq_append_getElem hk, h4, h9, ← hu, List.take_left]
    congr 2
  · rw [← List.drop_drop, h9, ← hu, List.drop_left]
theorem inv2_step {l : List UInt8} {n k at_ i u m : Nat} {nums : List Int} {texts : List ByteArray} (h : Inv2 l nums n k at_ i texts) (hi : i < n) (hL : LooseIs (l.drop at_) u m) :
    Inv2 l nums n m (at_ + m + u) (i + 1) (texts ++ [txt ((l.drop (at_ + m)).take u)]) := by
  intro nums0 texts0 hf e
  obtain ⟨h1, _, h2, h3, h4, h5⟩ := inv2_read h hi hL nums0 texts0 hf e
  exact ⟨h1, h2, h3, h4, by omega, h5⟩
theorem inv2_no {l : List UInt8} {n k at_ i u m : Nat} {nums : List Int} {texts : List ByteArray} (h : Inv2 l nums n k at_ i texts) (hi : i < n) (hL : LooseIs (l.drop at_) u m) (hno : m = 0 ∨ l.length - at_ - m < u) : NoData l := by
  intro nums0 texts0 hf e
  obtain ⟨h1, h2, _⟩ := inv2_read h hi hL nums0 texts0 hf e
  omega
theorem inv2_of_no {l : List UInt8} (h : NoData l) (nums : List Int) (n k at_ i : Nat) (texts : List ByteArray) : Inv2 l nums n k at_ i texts := fun nums0 texts0 hf e => (h nums0 texts0 hf e).elim
theorem inv1_zero {l : List UInt8} {n at_ i : Nat} {nums : List Int} (h : Inv1 l n 0 at_ i nums) : NoData l := fun nums0 texts0 hf e => absurd (h nums0 texts0 hf e).1 (by omega)
theorem inv2_zero {l : List UInt8} {n at_ i : Nat} {nums : List Int} {texts : List ByteArray} (h : Inv2 l nums n 0 at_ i texts) : NoData l := fun nums0 texts0 hf e => absurd (h nums0 texts0 hf e).1 (by omega)
theorem inv2_end {l : List UInt8} {n k at_ : Nat} {nums : List Int} {texts : List ByteArray} (h : Inv2 l nums n k at_ n texts) : ∀ nums0 texts0, Fit nums0 texts0 → l = bytesL nums0 texts0 → bytesL nums texts = l := by
  intro nums0 texts0 hf e
  obtain ⟨_, rfl, h3, h4, _, _⟩ := h nums0 texts0 hf e
  rw [h4, List.take_of_length_le (by omega)]
  exact e.symm
end Go.Proofs.Ytgcdelgjbgjofaa
