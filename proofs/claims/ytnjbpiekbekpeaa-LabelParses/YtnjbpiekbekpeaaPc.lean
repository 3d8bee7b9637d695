/-
  The answer's reading by places of the text.
-/
import Derived.Test.YtnjbpiekbekpeaaPb
import Derived.Test.YtnjbpiekbekpeaaUn
import Derived.Test.YtnjbpiekbekpeaaT
namespace Go.Proofs.Ytnjbpiekbekpeaa
open Go.ChangeShapes Go.WideShapes Go.ChangeAt Go.RowKit
theorem drop_at (s : ByteArray) (k : Nat) (h : k < s.size) : (sg s).drop k = s[k] :: (sg s).drop (k + 1) := by
  rw [List.drop_eq_getElem_cons (by rw [sg_length]; exact h)]
  have := sg_get s k h
  rw [List.getElem?_eq_getElem (by rw [sg_length]; exact h)] at this
  rw [Option.some.inj this]
theorem drop_end (s : ByteArray) (k : Nat) (h : ¬ k < s.size) : (sg s).drop k = [] := List.drop_eq_nil_of_le (by rw [sg_length]; omega)
theorem sg_extract (s : ByteArray) (p k : Nat) : sg (s.extract p k) = ((sg s).drop p).take (k - p) := by
  simp [sg, ByteArray.data_extract, List.take_drop]
theorem until_while {s : ByteArray} {c : UInt8} {p k : Nat} (h : UntilIs s c p k) (q : UInt8 → Bool) (hq : ∀ b, q b = decide (b ≠ c)) :
    ((sg s).drop p).takeWhile q = ((sg s).drop p).take (k - p) ∧ ((sg s).drop p).dropWhile q = (sg s).drop k := by
  obtain ⟨h1, h2, h3, h4⟩ := h
  have hs : (sg s).drop p = ((sg s).drop p).take (k - p) ++ (sg s).drop k := by
    conv => lhs; rw [← List.take_append_drop (k - p) ((sg s).drop p)]
    rw [List.drop_drop, show p + (k - p) = k from by omega]
  have hall : ∀ b ∈ ((sg s).drop p).take (k - p), q b = true := fun b hb => by
    obtain ⟨i, hi, rfl⟩ := List.getElem_of_mem hb
    rw [List.length_take, List.length_drop, sg_length] at hi
    rw [List.getElem_take, List.getElem_drop]
    have hn := h3 (p + i) (by omega) (by omega) (by omega)
    have e : (sg s)[p + i]'(by rw [sg_length]; omega) = s[p + i]'(by omega) := by
      have := sg_get s (p + i) (by omega)
      rw [List.getElem?_eq_getElem (by rw [sg_length]; omega)] at this
      exact Option.some.inj this
    rw [e, hq]
    exact decide_eq_true hn
  by_cases hk : k < s.size
  · rw [drop_at s k hk] at hs ⊢
    have hb : q (s[k]) = false := by rw [hq, h4 hk]; simp
    have := while_split (((sg s).drop p).take (k - p)) s[k] ((sg s).drop (k + 1)) hall hb
    rw [← hs] at this
    exact this
  · rw [drop_end s k hk, List.append_nil] at hs
    rw [drop_end s k hk]
    rw [← hs] at hall
    have hd : ((sg s).drop p).dropWhile q = [] := dropWhile_all hall
    refine ⟨?_, hd⟩
    have := List.takeWhile_append_dropWhile (p := q) (l := (sg s).drop p)
    rw [hd, List.append_nil] at this
    rw [← hs]
    exact this
theorem refP_at {s : ByteArray} {k : Nat} (h : UntilIs s 123 0 k) : refP (sg s) = (labP 4 [] ((sg s).drop k)).map fun ls => (s.extract 0 k, ls) := by
  obtain ⟨h1, h2⟩ := until_while h not123 (fun b => rfl)
  rw [List.drop_zero] at h1 h2
  unfold refP
  rw [h1, h2]
  have e : baL ((sg s).take (k - 0)) = s.extract 0 k := sg_ext (by rw [sg_baL, sg_extract, List.drop_zero])
  rw [e]
theorem lab1_at {s : ByteArray} {p k : Nat} (h : UntilIs s 61 p k) (h1 : k + 1 < s.size) (h2 : s[k + 1] = 34) : lab1 ((sg s).drop p) = endP (s.extract p k) (valP ((sg s).drop (k + 2))) := by
  obtain ⟨w1, w2⟩ := until_while h not61 (fun b => rfl)
  have e : baL (((sg s).drop p).take (k - p)) = s.extract p k := sg_ext (by rw [sg_baL, sg_extract])
  unfold lab1
  rw [w1, w2, drop_at s k (by omega), drop_at s (k + 1) h1, h2, e]
  show (if (34 : UInt8) = 34 then _ else _) = _
  rw [if_pos rfl]
theorem lab1_no {s : ByteArray} {p k : Nat} (h : UntilIs s 61 p k) (h1 : ∀ hk : k + 1 < s.size, ¬ s[k + 1] = 34) : lab1 ((sg s).drop p) = none := by
  obtain ⟨w1, w2⟩ := until_while h not61 (fun b => rfl)
  unfold lab1
  rw [w2]
  by_cases hk : k < s.size
  · rw [drop_at s k hk]
    by_cases hk1 : k + 1 < s.size
    · rw [drop_at s (k + 1) hk1]
      show (if s[k + 1] = 34 then _ else _) = _
      rw [if_neg (h1 hk1)]
    · rw [drop_end s (k + 1) hk1]
  · rw [drop_end s k hk]
/-- what was read of a value, ahead of what comes -/
def preP (v : ByteArray) (o : Option (List UInt8 × List UInt8)) : Option (List UInt8 × List UInt8) := o.map fun p => (sg v ++ p.1, p.2)
theorem preP_zero (o : Option (List UInt8 × List UInt8)) : preP ⟨#[]⟩ o = o := by cases o <;> rfl
theorem preP_end (s v : ByteArray) (k : Nat) (h : ¬ k < s.size) : preP v (valP ((sg s).drop k)) = none := by rw [drop_end s k h, valP_nil]; rfl
theorem preP_mark (s v : ByteArray) (k : Nat) (h : k < s.size) (hm : s[k] = 34) : preP v (valP ((sg s).drop k)) = some (sg v, (sg s).drop (k + 1)) := by
  rw [drop_at s k h, hm, valP_mark]
  simp [preP]
theorem preP_plain (s v : ByteArray) (k : Nat) (h : k < s.size) (h1 : ¬ s[k] = 34) (h2 : ¬ s[k] = 92) : preP v (valP ((sg s).drop k)) = preP (v ++ s.extract k (k + 1)) (valP ((sg s).drop (k + 1))) := by
  rw [drop_at s k h, valP_plain _ _ h1 h2]
  unfold preP
  rw [Option.map_map, sg_append, sg_sign s k h]
  congr 1
  funext p
  simp
theorem preP_esc (s v : ByteArray) (k : Nat) (h : k < s.size) (h2 : s[k] = 92) (hk : k + 1 < s.size) (hc : s[k + 1] = 34 ∨ s[k + 1] = 92) : preP v (valP ((sg s).drop k)) = preP (v ++ s.extract (k + 1) (k + 2)) (valP ((sg s).drop (k + 2))) := by
  rw [drop_at s k h, h2, drop_at s (k + 1) hk, valP_esc, if_pos hc]
  unfold preP
  rw [Option.map_map, sg_append, sg_sign s (k + 1) hk]
  congr 1
  funext p
  simp
theorem preP_esc_no (s v : ByteArray) (k : Nat) (h : k < s.size) (h2 : s[k] = 92) (hc : ∀ hk : k + 1 < s.size, ¬ (s[k + 1] = 34 ∨ s[k + 1] = 92)) : preP v (valP ((sg s).drop k)) = none := by
  rw [drop_at s k h, h2]
  by_cases hk : k + 1 < s.size
  · rw [drop_at s (k + 1) hk, valP_esc, if_neg (hc hk)]; rfl
  · rw [drop_end s (k + 1) hk, valP_bad0]; rfl
theorem endP_no (s n v : ByteArray) (k : Nat) (h : ∀ hk : k < s.size, ¬ s[k] = 44 ∧ ¬ s.extract k s.size = ⟨#[125]⟩) : endP n (some (sg v, (sg s).drop k)) = none := by
  by_cases hk : k < s.size
  · obtain ⟨h1, h2⟩ := h hk
    rw [drop_at s k hk]
    show (if s[k] = 44 then _ else if s[k] = 125 ∧ (sg s).drop (k + 1) = [] then _ else none) = none
    rw [if_neg h1, if_neg]
    rintro ⟨e1, e2⟩
    apply h2
    apply sg_ext
    rw [sg_extract, List.take_of_length_le (by rw [List.length_drop, sg_length]; exact Nat.le_refl _), drop_at s k hk, e1, e2]
    rfl
  · rw [drop_end s k hk]; rfl
theorem endP_44 (s n v : ByteArray) (k : Nat) (hk : k < s.size) (h : s[k] = 44) : endP n (some (sg v, (sg s).drop k)) = some ((n, v), (sg s).drop k) := by
  rw [drop_at s k hk, h]
  simp [endP, baL_sg]
theorem endP_125 (s n v : ByteArray) (k : Nat) (hk : k < s.size) (h : s.extract k s.size = ⟨#[125]⟩) : s[k] = 125 ∧ endP n (some (sg v, (sg s).drop k)) = some ((n, v), []) := by
  have e : (sg s).drop k = [125] := by
    have := congrArg sg h
    rw [sg_extract, List.take_of_length_le (by rw [List.length_drop, sg_length]; exact Nat.le_refl _)] at this
    rw [this]; rfl
  have e2 := drop_at s k hk
  rw [e] at e2
  refine ⟨(List.cons.inj e2).1.symm, ?_⟩
  rw [e]
  simp [endP, baL_sg]
/-- the place of a label -/
theorem insP_at (acc : List Lab) (x : Lab) (k : Nat) (hk : k ≤ acc.length) (h1 : ∀ i, i < k → ltB (acc.getD i lab0).1 x.1 = true) (h2 : k < acc.length → ltB (acc.getD k lab0).1 x.1 = false) :
    insP acc x = acc.take k ++ [x] ++ acc.drop k := by
  have hs : acc = acc.take k ++ acc.drop k := (List.take_append_drop k acc).symm
  have hall : ∀ b ∈ acc.take k, (fun y : Lab => ltB y.1 x.1) b = true := fun b hb => by
    obtain ⟨i, hi, rfl⟩ := List.getElem_of_mem hb
    rw [List.length_take] at hi
    rw [List.getElem_take]
    have := h1 i (by omega)
    have e : acc.getD i lab0 = acc[i]'(by omega) := by simp [show i < acc.length by omega]
    rw [e] at this
    exact this
  have hd : (acc.drop k).takeWhile (fun y : Lab => ltB y.1 x.1) = [] ∧ (acc.drop k).dropWhile (fun y : Lab => ltB y.1 x.1) = acc.drop k := by
    by_cases hlt : k < acc.length
    · have h3 := h2 hlt
      have e : acc.getD k lab0 = acc[k] := by simp [hlt]
      rw [e] at h3
      rw [List.drop_eq_getElem_cons hlt]
      exact ⟨List.takeWhile_cons_of_neg (by simp [h3]), List.dropWhile_cons_of_neg (by simp [h3])⟩
    · rw [List.drop_eq_nil_of_le (by omega)]; exact ⟨rfl, rfl⟩
  unfold insP
  conv => lhs; rw [hs]
  rw [List.takeWhile_append_of_pos hall, List.dropWhile_append_of_pos hall, hd.1, hd.2]
  simp
end Go.Proofs.Ytnjbpiekbekpeaa
