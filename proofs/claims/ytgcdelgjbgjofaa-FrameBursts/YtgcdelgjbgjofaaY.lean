/-
  Plain facts on a frame whose bits are turned.
-/
import Derived.Test.YtgcdelgjbgjofaaX
import Derived.Test.YtgcdelgjbgjofaaV
namespace Go.Proofs.Ytgcdelgjbgjofaa
/-- a bit turned -/
def flipAt (G : List UInt8) (j : Nat) : List UInt8 := G.set (j / 8) (UInt8.ofNat ((G.getD (j / 8) 0).toNat ^^^ 2 ^ (7 - j % 8)))
theorem flipAt_length (G : List UInt8) (j : Nat) : (flipAt G j).length = G.length := by simp [flipAt]
theorem flip_lt (c m : Nat) (hc : c < 256) (hm : m < 8) : c ^^^ 2 ^ m < 256 := by
  have h : 2 ^ m < 2 ^ 8 := Nat.pow_lt_pow_right (by decide) hm
  exact Nat.xor_lt_two_pow (n := 8) hc h
theorem bitAt_flip (G : List UInt8) (i j : Nat) (hj : j / 8 < G.length) : bitAt (flipAt G j) i = bitAt G i ^^^ (if i = j then 1 else 0) := by
  unfold bitAt flipAt
  by_cases h : i / 8 = j / 8
  · have e1 : (G.set (j / 8) (UInt8.ofNat ((G.getD (j / 8) 0).toNat ^^^ 2 ^ (7 - j % 8)))).getD (i / 8) 0 = UInt8.ofNat ((G.getD (j / 8) 0).toNat ^^^ 2 ^ (7 - j % 8)) := by
      rw [h, List.getD_eq_getElem?_getD, List.getElem?_set]
      simp [hj]
    rw [e1, h]
    have hc := (G.getD (j / 8) 0).toNat_lt
    generalize (G.getD (j / 8) 0).toNat = c at *
    have e2 : (UInt8.ofNat (c ^^^ 2 ^ (7 - j % 8))).toNat = c ^^^ 2 ^ (7 - j % 8) := by
      have := flip_lt c (7 - j % 8) hc (by omega)
      rw [UInt8.toNat_ofNat']
      exact Nat.mod_eq_of_lt this
    rw [e2, ← Nat.toNat_testBit, ← Nat.toNat_testBit, Nat.testBit_xor, Nat.testBit_two_pow]
    by_cases hij : i = j
    · subst hij
      cases c.testBit (7 - i % 8) <;> simp
    · have : ¬ 7 - j % 8 = 7 - i % 8 := by omega
      simp [this, hij]
  · have hij : ¬ i = j := fun e => h (by rw [e])
    rw [List.getD_eq_getElem?_getD, List.getElem?_set_ne (by omega), ← List.getD_eq_getElem?_getD]
    simp [hij]
/-- G' is G with the bits of a pattern turned from place k on, i of them looked at; q tells whether one was -/
def Turned (G G' : List UInt8) (k i pat : Nat) (q : Bool) : Prop :=
  G'.length = G.length ∧ (∀ x, x < 8 * G.length → bitAt G' x = bitAt G x ^^^ (if k ≤ x ∧ x < k + i ∧ pat / 2 ^ (x - k) % 2 = 1 then 1 else 0)) ∧
    (q = true → ∃ x, x < i ∧ k + x < 8 * G.length ∧ pat / 2 ^ x % 2 = 1) ∧ (q = false → G' = G)
theorem turned_start (G : List UInt8) (k pat : Nat) : Turned G G k 0 pat false := by
  refine ⟨rfl, fun x _ => ?_, by simp, fun _ => rfl⟩
  rw [if_neg (by omega), Nat.xor_zero]
theorem turned_zero {G G' : List UInt8} {k i pat : Nat} {q : Bool} (h : Turned G G' k i pat q) (hb : ¬ pat / 2 ^ i % 2 = 1) : Turned G G' k (i + 1) pat q := by
  obtain ⟨h1, h2, h3, h4⟩ := h
  refine ⟨h1, fun x hx => ?_, fun hq => ?_, h4⟩
  · rw [h2 x hx]
    congr 1
    by_cases hc : k ≤ x ∧ x < k + i ∧ pat / 2 ^ (x - k) % 2 = 1
    · rw [if_pos hc, if_pos ⟨hc.1, by omega, hc.2.2⟩]
    · rw [if_neg hc, if_neg]
      rintro ⟨c1, c2, c3⟩
      by_cases hx2 : x < k + i
      · exact hc ⟨c1, hx2, c3⟩
      · rw [show x - k = i from by omega] at c3
        exact hb c3
  · obtain ⟨x, hx, r⟩ := h3 hq
    exact ⟨x, by omega, r⟩
theorem turned_one {G G' : List UInt8} {k i pat : Nat} {q : Bool} (h : Turned G G' k i pat q) (hb : pat / 2 ^ i % 2 = 1) (hi : k + i < 8 * G.length) : Turned G (flipAt G' (k + i)) k (i + 1) pat true := by
  obtain ⟨h1, h2, _, _⟩ := h
  refine ⟨by rw [flipAt_length, h1], fun x hx => ?_, fun _ => ⟨i, by omega, hi, hb⟩, by simp⟩
  rw [bitAt_flip G' x (k + i) (by omega), h2 x hx, Nat.xor_assoc]
  congr 1
  by_cases hx2 : x = k + i
  · subst hx2
    rw [if_neg (by omega), if_pos rfl, if_pos ⟨by omega, by omega, by rw [show k + i - k = i from by omega]; exact hb⟩]
    rfl
  · rw [if_neg hx2, Nat.xor_zero]
    by_cases hc : k ≤ x ∧ x < k + i ∧ pat / 2 ^ (x - k) % 2 = 1
    · rw [if_pos hc, if_pos ⟨hc.1, by omega, hc.2.2⟩]
    · rw [if_neg hc, if_neg]
      rintro ⟨c1, c2, c3⟩
      exact hc ⟨c1, by omega, c3⟩
/-- a frame with turned bits is none; one without is one -/
theorem turned_first {w' : World} {L G' : List UInt8} {k i pat s c : Nat} {q : Bool} {v : Value} {nums : List Int} {texts : List ByteArray} (hL : L = bytesL nums texts) (hf : Fit nums texts) (h4 : L.length ≤ 4096) (hi : i ≤ 32)
    (hT : Turned (L ++ fourL (sumL L)) G' k i pat q) (hF : FirstIs w' (countL L.length ++ G') v s c) : (q = true → c ≠ 0) ∧ (q = false → c = 0) := by
  obtain ⟨h1, h2, h3, h5⟩ := hT
  have hGl : (L ++ fourL (sumL L)).length = L.length + 4 := by rw [List.length_append, fourL_length]
  have hGs : ((L ++ fourL (sumL L)).drop L.length).take 4 = fourL (sumL ((L ++ fourL (sumL L)).take L.length)) := by
    rw [List.drop_left, List.take_left]; rfl
  constructor
  · intro hq hc
    rcases hF with ⟨_, _, h, _⟩ | ⟨n, r, e, _, _, ⟨_, _, _, h⟩ | ⟨_, _, _, _, h⟩ | ⟨hs, _⟩⟩
    · omega
    · omega
    · omega
    · obtain ⟨rfl, rfl⟩ := countL_free _ _ _ _ e
      rw [hGl] at h1
      have h6 := burst_bytes (L ++ fourL (sumL L)) G' L.length k hGl h1 hGs hs.symm (fun x hx hne => by
        rw [h2 x (by rw [hGl]; exact hx), ← Nat.xor_assoc, Nat.xor_self, Nat.zero_xor] at hne
        by_cases hcd : k ≤ x ∧ x < k + i ∧ pat / 2 ^ (x - k) % 2 = 1
        · omega
        · rw [if_neg hcd] at hne; exact absurd rfl hne)
      obtain ⟨x, hx, hx2, hx3⟩ := h3 hq
      rw [hGl] at hx2
      have h7 := h6 (k + x) hx2
      rw [h2 (k + x) (by rw [hGl]; exact hx2), ← Nat.xor_assoc, Nat.xor_self, Nat.zero_xor, if_pos ⟨by omega, by omega, by rw [show k + x - k = x from by omega]; exact hx3⟩] at h7
      omega
  · intro hq
    obtain rfl := h5 hq
    rcases hF with ⟨_, _, _, h⟩ | ⟨n, r, e, _, _, ⟨hne, _⟩ | ⟨_, hno, _⟩ | ⟨_, _, h, _⟩⟩
    · have := h _ _ rfl h4
      omega
    · obtain ⟨rfl, rfl⟩ := countL_free _ _ _ _ e
      exact absurd hGs.symm hne
    · obtain ⟨rfl, rfl⟩ := countL_free _ _ _ _ e
      rw [List.take_left] at hno
      exact absurd hL (hno _ _ hf)
    · exact h
end Go.Proofs.Ytgcdelgjbgjofaa
