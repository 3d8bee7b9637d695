/-
  Plain facts on the count that bytes begin with.
-/
import Derived.Test.YtgcdelgjbgjofaaPlain
namespace Go.Proofs.Ytgcdelgjbgjofaa
/-- the number of seven bits a byte, the lowest first -/
def val7 : List UInt8 → Nat
  | [] => 0
  | b :: r => b.toNat % 128 + 128 * val7 r
theorem val7_nil : val7 [] = 0 := rfl
theorem val7_cons (b : UInt8) (r : List UInt8) : val7 (b :: r) = b.toNat % 128 + 128 * val7 r := rfl
theorem val7_snoc (p : List UInt8) (c : UInt8) : val7 (p ++ [c]) = val7 p + c.toNat % 128 * 128 ^ p.length := by
  induction p with
  | nil => simp [val7]
  | cons b p ih =>
    rw [List.cons_append, val7_cons, ih, val7_cons, List.length_cons, Nat.pow_succ, Nat.mul_add, Nat.add_assoc]
    congr 2
    rw [← Nat.mul_assoc, Nat.mul_comm 128, Nat.mul_assoc, Nat.mul_comm 128]
theorem val7_lt (p : List UInt8) : val7 p < 128 ^ p.length := by
  induction p with
  | nil => decide
  | cons b p ih => rw [val7_cons, List.length_cons, Nat.pow_succ]; omega
/-- bytes that are a count's: all but the last one have their highest bit set, the last one is no nought behind others -/
theorem val7_count (p : List UInt8) (c : UInt8) (hp : ∀ b ∈ p, 128 ≤ b.toNat) (hc : c.toNat < 128) (h0 : p ≠ [] → c.toNat ≠ 0) : countL (val7 (p ++ [c])) = p ++ [c] := by
  induction p with
  | nil =>
    have e : val7 ([] ++ [c]) = c.toNat := by simp [val7]; omega
    rw [e, countL_small _ hc, UInt8.ofNat_toNat]; rfl
  | cons b p ih =>
    have hb := hp b (List.mem_cons_self ..)
    have hb2 := b.toNat_lt
    have hne := h0 (by simp)
    have hpos : 0 < val7 (p ++ [c]) := by
      rw [val7_snoc]
      have : 0 < 128 ^ p.length := Nat.pow_pos (by decide)
      have : 0 < c.toNat % 128 * 128 ^ p.length := Nat.mul_pos (by omega) this
      omega
    rw [List.cons_append, val7_cons, countL_big _ (by omega)]
    have e1 : (b.toNat % 128 + 128 * val7 (p ++ [c])) % 128 + 128 = b.toNat := by omega
    have e2 : (b.toNat % 128 + 128 * val7 (p ++ [c])) / 128 = val7 (p ++ [c]) := by omega
    rw [e1, e2, UInt8.ofNat_toNat, ih (fun x hx => hp x (List.mem_cons_of_mem _ hx)) (fun _ => hne)]
theorem countL_shape (m : Nat) : ∃ q d, countL m = q ++ [d] ∧ (∀ b ∈ q, 128 ≤ b.toNat) ∧ d.toNat < 128 ∧ (q ≠ [] → d.toNat ≠ 0) ∧ val7 (q ++ [d]) = m := by
  induction m using Nat.strongRecOn with
  | ind m ih =>
    by_cases h : m < 128
    · exact ⟨[], UInt8.ofNat m, by rw [countL_small m h]; rfl, by simp, by rw [toNat_small m h]; exact h, by simp, by simp [val7]; omega⟩
    · obtain ⟨q, d, h1, h2, h3, h4, h5⟩ := ih (m / 128) (by omega)
      refine ⟨UInt8.ofNat (m % 128 + 128) :: q, d, by rw [countL_big m h, h1]; rfl, ?_, h3, ?_, ?_⟩
      · intro b hb
        rcases List.mem_cons.1 hb with rfl | hb
        · rw [toNat_big]; omega
        · exact h2 b hb
      · intro _
        by_cases hq : q = []
        · subst hq
          have : d.toNat % 128 + 128 * 0 = m / 128 := h5
          omega
        · exact h4 hq
      · rw [List.cons_append, val7_cons, h5, toNat_big]; omega
theorem getD_take (l : List UInt8) (i j : Nat) (h : j < i) (hl : j < l.length) : l.getD j 0 ∈ l.take i := by
  rw [List.getD_eq_getElem?_getD, List.getElem?_eq_getElem hl, Option.getD_some]
  exact List.mem_take_iff_getElem.2 ⟨j, by omega, rfl⟩
/-- where a count's last byte stands -/
theorem lead_place (l q r : List UInt8) (d : UInt8) (i : Nat) (hl : l = q ++ d :: r) (hq : ∀ b ∈ q, 128 ≤ b.toNat) (hd : d.toNat < 128) (hi : ∀ b ∈ l.take i, 128 ≤ b.toNat) :
    i ≤ q.length ∧ (i < l.length → (l.getD i 0).toNat < 128 → i = q.length ∧ l.getD i 0 = d ∧ l.take (i + 1) = q ++ [d]) := by
  have hll : l.length = q.length + (r.length + 1) := by rw [hl]; simp
  have hdq : l.getD q.length 0 = d := by rw [hl]; simp
  have h1 : i ≤ q.length := by
    by_cases h : i ≤ q.length
    · exact h
    · have := hi _ (getD_take l i q.length (by omega) (by omega))
      rw [hdq] at this
      omega
  refine ⟨h1, fun h2 h3 => ?_⟩
  have h4 : i = q.length := by
    by_cases h : i = q.length
    · exact h
    · have : l.getD i 0 ∈ q := by
        rw [hl, List.getD_eq_getElem?_getD, List.getElem?_append_left (by omega), List.getElem?_eq_getElem (by omega), Option.getD_some]
        exact List.getElem_mem _
      have := hq _ this
      omega
  refine ⟨h4, by rw [h4]; exact hdq, ?_⟩
  rw [h4, hl, show q ++ d :: r = (q ++ [d]) ++ r from by simp, List.take_append_of_le_length (by simp), List.take_of_length_le (by simp)]
/-- bytes that begin with no count below 2^64 -/
def NoLead (l : List UInt8) : Prop := ∀ m r, m < 18446744073709551616 → l ≠ countL m ++ r
theorem noLead_end (l : List UInt8) (i : Nat) (h : l.length ≤ i) (hi : ∀ b ∈ l.take i, 128 ≤ b.toNat) : NoLead l := by
  intro m r _ e
  obtain ⟨q, d, h1, h2, h3, _, _⟩ := countL_shape m
  rw [h1, List.append_assoc] at e
  have := (lead_place l q r d i e h2 h3 hi).1
  have hll : l.length = q.length + (r.length + 1) := by rw [e]; simp
  omega
theorem noLead_nought (l : List UInt8) (i : Nat) (h : i < l.length) (h0 : 0 < i) (hc : (l.getD i 0).toNat = 0) (hi : ∀ b ∈ l.take i, 128 ≤ b.toNat) : NoLead l := by
  intro m r _ e
  obtain ⟨q, d, h1, h2, h3, h4, _⟩ := countL_shape m
  rw [h1, List.append_assoc] at e
  have h5 := (lead_place l q r d i e h2 h3 hi).2 h (by omega)
  rw [h5.2.1] at hc
  exact h4 (by intro hq; rw [hq] at h5; simp at h5; omega) hc
theorem noLead_great (l : List UInt8) (hc : 1 < (l.getD 9 0).toNat) (hi : ∀ b ∈ l.take 9, 128 ≤ b.toNat) : NoLead l := by
  intro m r hm e
  have h10 := countL_le10 m hm
  obtain ⟨q, d, h1, h2, h3, h4, h5⟩ := countL_shape m
  rw [h1] at h10
  rw [h1, List.append_assoc] at e
  have h6 := lead_place l q r d 9 e h2 h3 hi
  have h7 : q.length = 9 := by simp at h10; omega
  have h8 : l.getD 9 0 = d := by rw [e, ← h7]; simp
  rw [h8] at hc
  rw [val7_snoc, h7] at h5
  have : (128 : Nat) ^ 9 = 9223372036854775808 := by decide
  rw [this] at h5
  omega
theorem lead_ok (l : List UInt8) (i : Nat) (h : i < l.length) (hi : ∀ b ∈ l.take i, 128 ≤ b.toNat) (hc : (l.getD i 0).toNat < 128) (h0 : 0 < i → (l.getD i 0).toNat ≠ 0) :
    l = countL (val7 (l.take (i + 1))) ++ l.drop (i + 1) ∧ (countL (val7 (l.take (i + 1)))).length = i + 1 := by
  have e : l.take (i + 1) = l.take i ++ [l.getD i 0] := by
    rw [List.take_succ_eq_append_getElem h, List.getD_eq_getElem?_getD, List.getElem?_eq_getElem h, Option.getD_some]
  have h1 : countL (val7 (l.take (i + 1))) = l.take (i + 1) := by
    rw [e]
    refine val7_count _ _ hi hc (fun hne => h0 ?_)
    cases i with
    | zero => simp at hne
    | succ i => omega
  rw [h1]
  exact ⟨(List.take_append_drop _ _).symm, by rw [List.length_take]; omega⟩
/-- the loose reading finds a count's number and length -/
theorem loose_ok (l : List UInt8) (i : Nat) (h : i < l.length) (hi : ∀ b ∈ l.take i, 128 ≤ b.toNat) (hc : (l.getD i 0).toNat < 128) :
    ∀ m r, m < 18446744073709551616 → l = countL m ++ r → val7 (l.take (i + 1)) = m ∧ i + 1 = (countL m).length := by
  intro m r _ e
  obtain ⟨q, d, h1, h2, h3, _, h5⟩ := countL_shape m
  have e' := e
  rw [h1, List.append_assoc] at e'
  have h6 := (lead_place l q r d i e' h2 h3 hi).2 h hc
  rw [h6.2.2, h5, h1]
  exact ⟨rfl, by simp; omega⟩
theorem noLead_ten (l : List UInt8) (hi : ∀ b ∈ l.take 10, 128 ≤ b.toNat) : NoLead l := by
  intro m r hm e
  have h10 := countL_le10 m hm
  obtain ⟨q, d, h1, h2, h3, h4, h5⟩ := countL_shape m
  rw [h1] at h10
  rw [h1, List.append_assoc] at e
  have h6 := lead_place l q r d 10 e h2 h3 hi
  simp at h10
  omega
theorem take_big (l : List UInt8) (i : Nat) (h : i < l.length) (hi : ∀ b ∈ l.take i, 128 ≤ b.toNat) (hc : 128 ≤ (l.getD i 0).toNat) : ∀ b ∈ l.take (i + 1), 128 ≤ b.toNat := by
  intro b hb
  rw [List.take_succ_eq_append_getElem h] at hb
  rcases List.mem_append.1 hb with hb | hb
  · exact hi b hb
  · rw [List.mem_singleton.1 hb]
    rwa [List.getD_eq_getElem?_getD, List.getElem?_eq_getElem h, Option.getD_some] at hc
theorem val7_take (l : List UInt8) (i : Nat) (h : i < l.length) : val7 (l.take (i + 1)) = val7 (l.take i) + (l.getD i 0).toNat % 128 * 128 ^ i := by
  have e : l.take (i + 1) = l.take i ++ [l.getD i 0] := by
    rw [List.take_succ_eq_append_getElem h, List.getD_eq_getElem?_getD, List.getElem?_eq_getElem h, Option.getD_some]
  rw [e, val7_snoc, List.length_take, Nat.min_eq_left (by omega)]
theorem val7_take_lt (l : List UInt8) (i : Nat) (h : i ≤ l.length) : val7 (l.take i) < 128 ^ i := by
  have := val7_lt (l.take i)
  rwa [List.length_take, Nat.min_eq_left h] at this
end Go.Proofs.Ytgcdelgjbgjofaa
