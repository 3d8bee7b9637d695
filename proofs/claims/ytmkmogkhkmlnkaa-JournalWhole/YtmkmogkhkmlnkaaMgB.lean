/-
  Plain facts on the count that bytes begin with.
  The contracts of the program's lead and the answer's Lead: the count that bytes begin with.
  The contracts of takeMany, numberOf, takeNums and takeTexts: what bytes begin with, and the bytes behind it.
  The contracts of numberOf and takeNums: the numbers that bytes begin with, and the bytes behind them.
  The contract of the program's Decode: the data that bytes are, or why none.
  The contract of the program's Decode once more: what it makes is new.
-/
import Derived.Test.YtmkmogkhkmlnkaaMgA
import Derived.Laws.ResultCell
namespace Go.Proofs.Ytmkmogkhkmlnkaa.Fr
/-- the number of seven bits a byte, the lowest first -/
def val7 : List UInt8 → Nat
  | [] => 0
  | b :: r => b.toNat % 128 + 128 * val7 r
theorem val7_nil : val7 [] = 0 := rfl
theorem val7_cons (b : UInt8) (r : List UInt8) : val7 (b :: r) = b.toNat % 128 + 128 * val7 r := rfl
theorem val7_snoc (p : List UInt8) (c : UInt8) : val7 (p ++ [c]) = val7 p + c.toNat % 128 * 128 ^ p.length := by
  induction p with
  | nil => simp [val7]
  | cons b p ih =>
    rw [List.cons_append, val7_cons, ih, val7_cons, List.length_cons, Nat.pow_succ, Nat.mul_add, Nat.add_assoc]
    congr 2
    rw [← Nat.mul_assoc, Nat.mul_comm 128, Nat.mul_assoc, Nat.mul_comm 128]
theorem val7_lt (p : List UInt8) : val7 p < 128 ^ p.length := by
  induction p with
  | nil => decide
  | cons b p ih => rw [val7_cons, List.length_cons, Nat.pow_succ]; omega
/-- bytes that are a count's: all but the last one have their highest bit set, the last one is no nought behind others -/
theorem val7_count (p : List UInt8) (c : UInt8) (hp : ∀ b ∈ p, 128 ≤ b.toNat) (hc : c.toNat < 128) (h0 : p ≠ [] → c.toNat ≠ 0) : countL (val7 (p ++ [c])) = p ++ [c] := by
  induction p with
  | nil =>
    have e : val7 ([] ++ [c]) = c.toNat := by simp [val7]; omega
    rw [e, countL_small _ hc, UInt8.ofNat_toNat]; rfl
  | cons b p ih =>
    have hb := hp b (List.mem_cons_self ..)
    have hb2 := b.toNat_lt
    have hne := h0 (by simp)
    have hpos : 0 < val7 (p ++ [c]) := by
      rw [val7_snoc]
      have : 0 < 128 ^ p.length := Nat.pow_pos (by decide)
      have : 0 < c.toNat % 128 * 128 ^ p.length := Nat.mul_pos (by omega) this
      omega
    rw [List.cons_append, val7_cons, countL_big _ (by omega)]
    have e1 : (b.toNat % 128 + 128 * val7 (p ++ [c])) % 128 + 128 = b.toNat := by omega
    have e2 : (b.toNat % 128 + 128 * val7 (p ++ [c])) / 128 = val7 (p ++ [c]) := by omega
    rw [e1, e2, UInt8.ofNat_toNat, ih (fun x hx => hp x (List.mem_cons_of_mem _ hx)) (fun _ => hne)]
theorem countL_shape (m : Nat) : ∃ q d, countL m = q ++ [d] ∧ (∀ b ∈ q, 128 ≤ b.toNat) ∧ d.toNat < 128 ∧ (q ≠ [] → d.toNat ≠ 0) ∧ val7 (q ++ [d]) = m := by
  induction m using Nat.strongRecOn with
  | ind m ih =>
    by_cases h : m < 128
    · exact ⟨[], UInt8.ofNat m, by rw [countL_small m h]; rfl, by simp, by rw [toNat_small m h]; exact h, by simp, by simp [val7]; omega⟩
    · obtain ⟨q, d, h1, h2, h3, h4, h5⟩ := ih (m / 128) (by omega)
      refine ⟨UInt8.ofNat (m % 128 + 128) :: q, d, by rw [countL_big m h, h1]; rfl, ?_, h3, ?_, ?_⟩
      · intro b hb
        rcases List.mem_cons.1 hb with rfl | hb
        · rw [toNat_big]; omega
        · exact h2 b hb
      · intro _
        by_cases hq : q = []
        · subst hq
          have : d.toNat % 128 + 128 * 0 = m / 128 := h5
          omega
        · exact h4 hq
      · rw [List.cons_append, val7_cons, h5, toNat_big]; omega
theorem getD_take (l : List UInt8) (i j : Nat) (h : j < i) (hl : j < l.length) : l.getD j 0 ∈ l.take i := by
  rw [List.getD_eq_getElem?_getD, List.getElem?_eq_getElem hl, Option.getD_some]
  exact List.mem_take_iff_getElem.2 ⟨j, by omega, rfl⟩
/-- where a count's last byte stands -/
theorem lead_place (l q r : List UInt8) (d : UInt8) (i : Nat) (hl : l = q ++ d :: r) (hq : ∀ b ∈ q, 128 ≤ b.toNat) (hd : d.toNat < 128) (hi : ∀ b ∈ l.take i, 128 ≤ b.toNat) :
    i ≤ q.length ∧ (i < l.length → (l.getD i 0).toNat < 128 → i = q.length ∧ l.getD i 0 = d ∧ l.take (i + 1) = q ++ [d]) := by
  have hll : l.length = q.length + (r.length + 1) := by rw [hl]; simp
  have hdq : l.getD q.length 0 = d := by rw [hl]; simp
  have h1 : i ≤ q.length := by
    by_cases h : i ≤ q.length
    · exact h
    · have := hi _ (getD_take l i q.length (by omega) (by omega))
      rw [hdq] at this
      omega
  refine ⟨h1, fun h2 h3 => ?_⟩
  have h4 : i = q.length := by
    by_cases h : i = q.length
    · exact h
    · have : l.getD i 0 ∈ q := by
        rw [hl, List.getD_eq_getElem?_getD, List.getElem?_append_left (by omega), List.getElem?_eq_getElem (by omega), Option.getD_some]
        exact List.getElem_mem _
      have := hq _ this
      omega
  refine ⟨h4, by rw [h4]; exact hdq, ?_⟩
  rw [h4, hl, show q ++ d :: r = (q ++ [d]) ++ r from by simp, List.take_append_of_le_length (by simp), List.take_of_length_le (by simp)]
/-- bytes that begin with no count below 2^64 -/
def NoLead (l : List UInt8) : Prop := ∀ m r, m < 18446744073709551616 → l ≠ countL m ++ r
theorem noLead_end (l : List UInt8) (i : Nat) (h : l.length ≤ i) (hi : ∀ b ∈ l.take i, 128 ≤ b.toNat) : NoLead l := by
  intro m r _ e
  obtain ⟨q, d, h1, h2, h3, _, _⟩ := countL_shape m
  rw [h1, List.append_assoc] at e
  have := (lead_place l q r d i e h2 h3 hi).1
  have hll : l.length = q.length + (r.length + 1) := by rw [e]; simp
  omega
theorem noLead_nought (l : List UInt8) (i : Nat) (h : i < l.length) (h0 : 0 < i) (hc : (l.getD i 0).toNat = 0) (hi : ∀ b ∈ l.take i, 128 ≤ b.toNat) : NoLead l := by
  intro m r _ e
  obtain ⟨q, d, h1, h2, h3, h4, _⟩ := countL_shape m
  rw [h1, List.append_assoc] at e
  have h5 := (lead_place l q r d i e h2 h3 hi).2 h (by omega)
  rw [h5.2.1] at hc
  exact h4 (by intro hq; rw [hq] at h5; simp at h5; omega) hc
theorem noLead_great (l : List UInt8) (hc : 1 < (l.getD 9 0).toNat) (hi : ∀ b ∈ l.take 9, 128 ≤ b.toNat) : NoLead l := by
  intro m r hm e
  have h10 := countL_le10 m hm
  obtain ⟨q, d, h1, h2, h3, h4, h5⟩ := countL_shape m
  rw [h1] at h10
  rw [h1, List.append_assoc] at e
  have h6 := lead_place l q r d 9 e h2 h3 hi
  have h7 : q.length = 9 := by simp at h10; omega
  have h8 : l.getD 9 0 = d := by rw [e, ← h7]; simp
  rw [h8] at hc
  rw [val7_snoc, h7] at h5
  have : (128 : Nat) ^ 9 = 9223372036854775808 := by decide
  rw [this] at h5
  omega
theorem lead_ok (l : List UInt8) (i : Nat) (h : i < l.length) (hi : ∀ b ∈ l.take i, 128 ≤ b.toNat) (hc : (l.getD i 0).toNat < 128) (h0 : 0 < i → (l.getD i 0).toNat ≠ 0) :
    l = countL (val7 (l.take (i + 1))) ++ l.drop (i + 1) ∧ (countL (val7 (l.take (i + 1)))).length = i + 1 := by
  have e : l.take (i + 1) = l.take i ++ [l.getD i 0] := by
    rw [List.take_succ_eq_append_getElem h, List.getD_eq_getElem?_getD, List.getElem?_eq_getElem h, Option.getD_some]
  have h1 : countL (val7 (l.take (i + 1))) = l.take (i + 1) := by
    rw [e]
    refine val7_count _ _ hi hc (fun hne => h0 ?_)
    cases i with
    | zero => simp at hne
    | succ i => omega
  rw [h1]
  exact ⟨(List.take_append_drop _ _).symm, by rw [List.length_take]; omega⟩
/-- the loose reading finds a count's number and length -/
theorem loose_ok (l : List UInt8) (i : Nat) (h : i < l.length) (hi : ∀ b ∈ l.take i, 128 ≤ b.toNat) (hc : (l.getD i 0).toNat < 128) :
    ∀ m r, m < 18446744073709551616 → l = countL m ++ r → val7 (l.take (i + 1)) = m ∧ i + 1 = (countL m).length := by
  intro m r _ e
  obtain ⟨q, d, h1, h2, h3, _, h5⟩ := countL_shape m
  have e' := e
  rw [h1, List.append_assoc] at e'
  have h6 := (lead_place l q r d i e' h2 h3 hi).2 h hc
  rw [h6.2.2, h5, h1]
  exact ⟨rfl, by simp; omega⟩
theorem noLead_ten (l : List UInt8) (hi : ∀ b ∈ l.take 10, 128 ≤ b.toNat) : NoLead l := by
  intro m r hm e
  have h10 := countL_le10 m hm
  obtain ⟨q, d, h1, h2, h3, h4, h5⟩ := countL_shape m
  rw [h1] at h10
  rw [h1, List.append_assoc] at e
  have h6 := lead_place l q r d 10 e h2 h3 hi
  simp at h10
  omega
theorem take_big (l : List UInt8) (i : Nat) (h : i < l.length) (hi : ∀ b ∈ l.take i, 128 ≤ b.toNat) (hc : 128 ≤ (l.getD i 0).toNat) : ∀ b ∈ l.take (i + 1), 128 ≤ b.toNat := by
  intro b hb
  rw [List.take_succ_eq_append_getElem h] at hb
  rcases List.mem_append.1 hb with hb | hb
  · exact hi b hb
  · rw [List.mem_singleton.1 hb]
    rwa [List.getD_eq_getElem?_getD, List.getElem?_eq_getElem h, Option.getD_some] at hc
theorem val7_take (l : List UInt8) (i : Nat) (h : i < l.length) : val7 (l.take (i + 1)) = val7 (l.take i) + (l.getD i 0).toNat % 128 * 128 ^ i := by
  have e : l.take (i + 1) = l.take i ++ [l.getD i 0] := by
    rw [List.take_succ_eq_append_getElem h, List.getD_eq_getElem?_getD, List.getElem?_eq_getElem h, Option.getD_some]
  rw [e, val7_snoc, List.length_take, Nat.min_eq_left (by omega)]
theorem val7_take_lt (l : List UInt8) (i : Nat) (h : i ≤ l.length) : val7 (l.take i) < 128 ^ i := by
  have := val7_lt (l.take i)
  rwa [List.length_take, Nat.min_eq_left h] at this
end Go.Proofs.Ytmkmogkhkmlnkaa.Fr
namespace Go.Proofs.Ytmkmogkhkmlnkaa.Fr
open Go.ChangeShapes Go.WideShapes Go.ChangeAt Go.RowKit
/-- what lead answers -/
def LeadIs (l : List UInt8) (n s : Nat) : Prop := (n = 0 ∧ s = 0 ∧ NoLead l) ∨ (n < 18446744073709551616 ∧ s = (countL n).length ∧ l = countL n ++ l.drop s)
def LeadPost (w : World) (l : List UInt8) (e : Ending) (w' : World) : Prop := w' = w ∧ ∃ n s : Nat, e = .returned (.tuple #[.int .u64 (n : Int), .int .i64 (s : Int)]) ∧ LeadIs l n s
theorem leadPost_no {w : World} {l : List UInt8} (h : NoLead l) : LeadPost w l (.returned (.tuple #[.int .u64 0, .int .i64 0])) w := ⟨rfl, 0, 0, rfl, .inl ⟨rfl, rfl, h⟩⟩
theorem pow7 (k : Nat) : (128 : Nat) ^ k = 2 ^ (7 * k) := by rw [Nat.pow_mul]
theorem andNot_form (c : Nat) (hc : c < 256) : bits .andNot .u8 (c : Int) 128 = ((c % 128 : Nat) : Int) := by
  have h := u8_andNot_nat c 128 hc (by decide)
  have e : c &&& (255 - 128) = c % 128 := Nat.and_two_pow_sub_one_eq_mod c 7
  rw [e] at h
  exact h
theorem lead_small (c k : Nat) (hk : k < 9 ∨ (k = 9 ∧ c ≤ 1)) : c % 128 * 128 ^ k ≤ 9223372036854775808 := by
  rcases hk with hk | ⟨rfl, hc⟩
  · have h1 : 128 ^ k ≤ 128 ^ 8 := Nat.pow_le_pow_right (by decide) (by omega)
    have h2 : c % 128 * 128 ^ k ≤ 127 * 128 ^ 8 := Nat.mul_le_mul (by omega) h1
    omega
  · have : (128 : Nat) ^ 9 = 9223372036854775808 := by decide
    rw [this]; omega
theorem lead_form (n c k : Nat) (hn : n < 128 ^ k) (hc : c < 256) (hk : k < 9 ∨ (k = 9 ∧ c ≤ 1)) :
    bits .or .u64 (n : Int) (IntKind.u64.wrap (IntKind.u64.wrap (bits .andNot .u8 (c : Int) 128) * 2 ^ (7 * k))) = ((n + c % 128 * 128 ^ k : Nat) : Int) := by
  have hs := lead_small c k hk
  have hp : 128 ^ k ≤ 128 ^ 9 := Nat.pow_le_pow_right (by decide) (by omega)
  have e9 : (128 : Nat) ^ 9 = 9223372036854775808 := by decide
  have e1 : IntKind.u64.wrap ((c % 128 : Nat) : Int) = ((c % 128 : Nat) : Int) := by rw [IntKind.wrap_u64]; omega
  have e2 : ((2 : Int) ^ (7 * k)) = ((128 ^ k : Nat) : Int) := by rw [pow7]; simp
  have e3 : ((c % 128 : Nat) : Int) * ((128 ^ k : Nat) : Int) = ((c % 128 * 128 ^ k : Nat) : Int) := by rw [Int.natCast_mul]
  have e4 : IntKind.u64.wrap ((c % 128 * 128 ^ k : Nat) : Int) = ((c % 128 * 128 ^ k : Nat) : Int) := by rw [IntKind.wrap_u64]; omega
  rw [andNot_form c hc, e1, e2, e3, e4, u64_or_nat n (c % 128 * 128 ^ k) (by omega) (by omega), Nat.or_comm, nat_join (7 * k) (c % 128 * 128 ^ k) n (by rw [pow7]; exact Nat.mul_mod_left _ _) (by rw [← pow7]; exact hn), Nat.add_comm]
theorem lead_form9 (n c : Nat) (hn : n < 128 ^ 9) (hc : c ≤ 1) :
    bits .or .u64 (n : Int) (IntKind.u64.wrap (IntKind.u64.wrap (bits .andNot .u8 (c : Int) 128) * 9223372036854775808)) = ((n + c % 128 * 128 ^ 9 : Nat) : Int) :=
  lead_form n c 9 hn (by omega) (.inr ⟨rfl, hc⟩)
set_option maxHeartbeats 4000000 in
set_option maxRecDepth 20000 in
theorem lead_any (a : Option Addr) (len cap : Nat) (l : List UInt8) (w : World) (h : RowAt w a len cap (cellsB l)) :
    Calls Try.prog 58 #[.slice a len cap] w fun e w' => LeadPost w l e w' := by
  have hl : l.length = len := by simpa [cellsB] using h.1
  have hm : len ≤ maxLen := Nat.le_trans h.2.1 h.2.2.1
  unfold maxLen at hm
  have HR : Hid (RowAt w a len cap (cellsB l)) := h
  clear h
  go_enter Try.func58, Try.ntmps58
  go_wp2
  go_loop [4, 9] (fun t i => ∃ k : Nat, k ≤ len ∧ k ≤ 9 ∧ i = .int .i64 k ∧ t = .int .u64 ((val7 (l.take k) : Nat) : Int) ∧ Hid (∀ b ∈ l.take k, 128 ≤ b.toNat)) (fun _ i => len - (intOf i).toNat)
  case atStart => exact ⟨0, Nat.zero_le _, Nat.zero_le _, rfl, by simp [val7], fun b hb => by simp at hb⟩
  case round =>
    obtain ⟨k, hk, hk9, rfl, rfl, hbig⟩ := hrel
    by_cases hlt : k < len
    · obtain ⟨b, off, rfl, hcell⟩ := HR.out.some (by omega)
      have hc := hcell k hlt
      rw [cellsB_get l k (by omega)] at hc
      clear hcell
      have h2 := (l.getD k 0).toNat_lt
      have HV : Hid (val7 (l.take (k + 1)) = val7 (l.take k) + (l.getD k 0).toNat % 128 * 128 ^ k) := val7_take l k (by omega)
      have hv := val7_take_lt l k (by omega)
      have HOK : Hid ((l.getD k 0).toNat < 128 → (0 < k → (l.getD k 0).toNat ≠ 0) → l = countL (val7 (l.take (k + 1))) ++ l.drop (k + 1) ∧ (countL (val7 (l.take (k + 1)))).length = k + 1) := fun h1 h2 => lead_ok l k (by omega) hbig.out h1 h2
      have HNO : Hid (0 < k → (l.getD k 0).toNat = 0 → NoLead l) := fun h0 hc => noLead_nought l k (by omega) h0 hc hbig.out
      have HTB : Hid (128 ≤ (l.getD k 0).toNat → ∀ b ∈ l.take (k + 1), 128 ≤ b.toNat) := fun h => take_big l k (by omega) hbig.out h
      have HGR : Hid (k = 9 → 1 < (l.getD k 0).toNat → NoLead l) := by
        intro h9 h1
        subst h9
        exact noLead_great l h1 hbig.out
      generalize (l.getD k 0).toNat = c at *
      by_cases h9 : k = 9
      · by_cases hc1 : 1 < c
        · have HN1 : Hid (NoLead l) := HGR.out h9 hc1
          clear HV HOK HNO HTB HGR hv
          subst h9
          go_wp2
          go_returns
          exact leadPost_no HN1.out
        · by_cases hc0 : c = 0
          · have HN1 : Hid (NoLead l) := HNO.out (by omega) hc0
            clear HV HOK HNO HTB HGR hv
            subst h9
            subst hc0
            go_wp2
            go_returns
            exact leadPost_no HN1.out
          · have HF := lead_form9 (val7 (l.take k)) c (by rw [← h9]; exact hv) (by omega)
            have HF' : Hid (bits .or .u64 ((val7 (l.take k) : Nat) : Int) (IntKind.u64.wrap (IntKind.u64.wrap (bits .andNot .u8 (c : Int) 128) * 9223372036854775808)) = ((val7 (l.take (k + 1)) : Nat) : Int)) := by
              show _ = _
              rw [HF, HV.out, h9]
            have HS : Hid (val7 (l.take (k + 1)) < 18446744073709551616) := by
              show _ < _
              rw [HV.out]
              have h1 := lead_small c k (.inr ⟨h9, by omega⟩)
              have h2 : 128 ^ k ≤ 128 ^ 9 := Nat.pow_le_pow_right (by decide) (by omega)
              have e9 : (128 : Nat) ^ 9 = 9223372036854775808 := by decide
              omega
            have HO := HOK.out (by omega) (fun _ => hc0)
            have HO' : Hid (l = countL (val7 (l.take (k + 1))) ++ l.drop (k + 1) ∧ (countL (val7 (l.take (k + 1)))).length = k + 1) := HO
            clear HV HOK HNO HTB HGR hv HF HO
            subst h9
            go_wp2
            go_returns
            rw [HF'.out]
            exact ⟨rfl, _, 9 + 1, by rfl, .inr ⟨HS.out, HO'.out.2.symm, HO'.out.1⟩⟩
      · have HF' : Hid (bits .or .u64 ((val7 (l.take k) : Nat) : Int) (IntKind.u64.wrap (IntKind.u64.wrap (bits .andNot .u8 (c : Int) 128) * 2 ^ (7 * k))) = ((val7 (l.take (k + 1)) : Nat) : Int)) := by
          show _ = _
          rw [lead_form (val7 (l.take k)) c k hv h2 (.inl (by omega)), HV.out]
        have HS : Hid (val7 (l.take (k + 1)) < 18446744073709551616) := by
          show _ < _
          rw [HV.out]
          have h1 := lead_small c k (.inl (by omega))
          have h2 : 128 ^ k ≤ 128 ^ 9 := Nat.pow_le_pow_right (by decide) (by omega)
          have e9 : (128 : Nat) ^ 9 = 9223372036854775808 := by decide
          omega
        clear HV hv HGR
        by_cases hcb : 128 ≤ c
        · have HT := HTB.out hcb
          have HT' : Hid (∀ b ∈ l.take (k + 1), 128 ≤ b.toNat) := HT
          clear HOK HNO HTB HT
          go_wp2
          go_round
          case rel =>
            refine ⟨k + 1, by omega, by omega, by go_num, ?_, HT'.out⟩
            rw [HF'.out]
          case measure => simp [intOf]; omega
        · by_cases hc0 : c = 0 ∧ 0 < k
          · have HN1 : Hid (NoLead l) := HNO.out hc0.2 hc0.1
            clear HOK HNO HTB HF' HS
            obtain ⟨rfl, hk0⟩ := hc0
            go_wp2
            go_returns
            exact leadPost_no HN1.out
          · have HO' : Hid (l = countL (val7 (l.take (k + 1))) ++ l.drop (k + 1) ∧ (countL (val7 (l.take (k + 1)))).length = k + 1) := HOK.out (by omega) (fun h => by omega)
            clear HOK HNO HTB
            have hc0' : ¬ c = 0 ∨ (c = 0 ∧ k = 0) := by omega
            rcases hc0' with hc0' | ⟨rfl, rfl⟩
            · go_wp2
              go_returns
              rw [HF'.out]
              exact ⟨rfl, _, k + 1, by rfl, .inr ⟨HS.out, HO'.out.2.symm, HO'.out.1⟩⟩
            · rw [Nat.add_zero] at hc
              have hz : ((val7 (l.take (0 + 1)) : Nat) : Int) = 0 := HF'.out.symm.trans (by rw [List.take_zero, val7_nil]; rfl)
              have hz' : val7 (l.take (0 + 1)) = 0 := by omega
              have HO2 := HO'.out
              rw [hz'] at HO2
              have H3 : Hid (l = countL 0 ++ l.drop (0 + 1) ∧ (countL 0).length = 0 + 1) := HO2
              clear hz hz' HO2 HF' HS HO'
              go_wp2
              go_returns
              have ez : bits .or .u64 ((val7 [] : Nat) : Int) (IntKind.u64.wrap (IntKind.u64.wrap (bits .andNot .u8 0 128))) = 0 := by rw [val7_nil]; rfl
              rw [ez]
              exact ⟨rfl, 0, 0 + 1, by rfl, .inr ⟨by omega, H3.out.2.symm, H3.out.1⟩⟩
    · go_wp2
      go_returns
      exact leadPost_no (noLead_end l k (by omega) hbig.out)
end Go.Proofs.Ytmkmogkhkmlnkaa.Fr
namespace Go.Proofs.Ytmkmogkhkmlnkaa.Fr
open Go.ChangeShapes Go.WideShapes Go.ChangeAt Go.RowKit
theorem leadIs_fn {l : List UInt8} {n s m : Nat} {r : List UInt8} (h : LeadIs l n s) (hm : m < 18446744073709551616) (e : l = countL m ++ r) : n = m ∧ s = (countL m).length ∧ l.drop s = r := by
  rcases h with ⟨_, _, h⟩ | ⟨h1, h2, h3⟩
  · exact (h m r hm e).elim
  · have := countL_free n m (l.drop s) r (by rw [← h3, e])
    exact ⟨this.1, by rw [h2, this.1], this.2⟩
theorem leadIs_le {l : List UInt8} {n s : Nat} (h : LeadIs l n s) : s ≤ l.length ∧ s ≤ 10 ∧ n < 18446744073709551616 := by
  rcases h with ⟨rfl, rfl, _⟩ | ⟨h1, h2, h3⟩
  · omega
  · have h4 := countL_le10 n h1
    have h5 := congrArg List.length h3
    rw [List.length_append] at h5
    omega
/-- what takeMany answers: the count, and the bytes behind it, or that there are too few -/
def ManyPost (w : World) (a0 : Option Addr) (len0 cap0 : Nat) (l : List UInt8) (e : Ending) (w' : World) : Prop := w' = w ∧
  ((e = .returned (.tuple #[.int .i64 0, .slice none 0 0, .bool false]) ∧ ∀ m r, m < 18446744073709551616 → l = countL m ++ r → r.length < m) ∨
   ∃ (n : Nat) (a : Option Addr) (len cap : Nat) (r : List UInt8), e = .returned (.tuple #[.int .i64 (n : Int), .slice a len cap, .bool true]) ∧ l = countL n ++ r ∧ n ≤ len ∧ ∀ w', RowAt w' a0 len0 cap0 (cellsB l) → RowAt w' a len cap (cellsB r))
theorem slice_from (a : Option Addr) (len cap : Nat) (l : List UInt8) (s : Nat) (hs : s ≤ len) :
    ∃ a', (if cap = s then a else Option.map (fun x => x.add s) a) = a' ∧ ∀ w, RowAt w a len cap (cellsB l) → RowAt w a' (len - s) (cap - s) (cellsB (l.drop s)) := by
  refine ⟨_, rfl, fun w h => ?_⟩
  have hd := h.drop s hs
  rw [cellsB_drop] at hd
  exact hd
set_option maxHeartbeats 4000000 in
set_option maxRecDepth 20000 in
theorem takeMany_any (a : Option Addr) (len cap : Nat) (l : List UInt8) (w : World) (h : RowAt w a len cap (cellsB l)) :
    Calls Try.prog 67 #[.slice a len cap] w fun e w' => ManyPost w a len cap l e w' := by
  have hl : l.length = len := by simpa [cellsB] using h.1
  have hm : len ≤ maxLen := Nat.le_trans h.2.1 h.2.2.1
  unfold maxLen at hm
  have hcap := h.2.1
  have HR : Hid (RowAt w a len cap (cellsB l)) := h
  clear h
  go_enter Try.func67, Try.ntmps67
  go_wp2_with fail
  refine (lead_any _ _ _ l _ HR.out).mono ?_
  rintro e w1 ⟨rfl, n, s, rfl, hL⟩
  obtain ⟨hs1, hs2, hn⟩ := leadIs_le hL
  rw [hl] at hs1
  have HL : Hid (LeadIs l n s) := hL
  obtain ⟨a', hif, hrow⟩ := slice_from a len cap l s hs1
  have HR2 : Hid (∀ w, RowAt w a len cap (cellsB l) → RowAt w a' (len - s) (cap - s) (cellsB (l.drop s))) := hrow
  clear hrow hL
  by_cases hs0 : s = 0
  · have HN : Hid (NoLead l) := by
      rcases HL.out with ⟨_, _, h⟩ | ⟨_, h, _⟩
      · exact h
      · have := countL_pos n; omega
    subst hs0
    go_wp2
    go_returns
    exact ⟨rfl, .inl ⟨rfl, fun m r hm e => (HN.out m r hm e).elim⟩⟩
  · have h1 : l = countL n ++ l.drop s := by
      rcases HL.out with ⟨_, h, _⟩ | ⟨_, _, h⟩
      · omega
      · exact h
    have H1 : Hid (l = countL n ++ l.drop s) := h1
    clear h1
    by_cases hbig : len - s < n
    · have hbig' : ((len : Int) - (s : Int)) < (n : Int) := by omega
      go_wp2
      go_returns
      refine ⟨rfl, .inl ⟨rfl, fun m r hm e => ?_⟩⟩
      obtain ⟨rfl, _, rfl⟩ := leadIs_fn HL.out hm e
      rw [List.length_drop, hl]
      exact hbig
    · have hbig' : ¬ ((len : Int) - (s : Int)) < (n : Int) := by omega
      have hn63 : n < 9223372036854775808 := by omega
      go_wp2
      go_returns
      refine ⟨rfl, .inr ⟨n, a', len - s, cap - s, l.drop s, rfl, H1.out, by omega, HR2.out⟩⟩
end Go.Proofs.Ytmkmogkhkmlnkaa.Fr
namespace Go.Proofs.Ytmkmogkhkmlnkaa.Fr
open Go.ChangeShapes Go.WideShapes Go.ChangeAt Go.RowKit
theorem info3 : (Try.prog.info? 3).map (fun i => (i.zero, i.size, i.bytes)) = some (some (.int .i64 0), 1, 8) := by kernel_rfl
theorem and1_form (n : Nat) (h : n < 18446744073709551616) : bits .and .u64 (n : Int) 1 = ((n % 2 : Nat) : Int) := by
  rw [Go.Lib.u64_and1 _ (by omega) (by omega)]; omega
theorem not_form (n : Nat) (h : n < 9223372036854775808) : bits .xor .u64 IntKind.u64.max (n : Int) = ((18446744073709551615 - n : Nat) : Int) := by
  have e2 : IntKind.u64.max = ((2 ^ 64 - 1 : Nat) : Int) := by decide
  rw [e2, u64_xor_nat _ _ (by decide) (by omega), Go.Lib.xor_ones64 _ (by omega)]
set_option maxHeartbeats 4000000 in
theorem numberOf_any (n : Nat) (w : World) (hn : n < 18446744073709551616) :
    Calls Try.prog 68 #[.int .u64 (n : Int)] w fun e w' => e = .returned (.int .i64 (numberZ n)) ∧ w' = w := by
  have h1 := and1_form n hn
  by_cases h2 : n % 2 = 0
  · have hz : Hid (numberZ n = ((n / 2 : Nat) : Int)) := if_pos h2
    rw [h2] at h1
    go_enter Try.func68, Try.ntmps68
    go_wp2
    go_returns
    exact ⟨ret_int (by rw [hz.out]; omega), rfl⟩
  · have hz : Hid (numberZ n = -1 - ((n / 2 : Nat) : Int)) := if_neg h2
    rw [show n % 2 = 1 from by omega] at h1
    have HNF : Hid (wrap64 (bits .xor .u64 IntKind.u64.max ((n : Int) / 2)) = -1 - ((n / 2 : Nat) : Int)) := by
      show _ = _
      rw [show (n : Int) / 2 = ((n / 2 : Nat) : Int) from by omega, not_form (n / 2) (by omega)]
      unfold wrap64
      omega
    go_enter Try.func68, Try.ntmps68
    go_wp2
    go_returns
    exact ⟨ret_int (by rw [hz.out, HNF.out]), rfl⟩
theorem one_i64 (x : Int) : ∀ u ∈ ([.int .i64 x] : List Value), u.oneCell' = true := by intro u hu; simp at hu; subst hu; rfl
/-- what takeNums answers -/
def NumsPost (w : World) (l : List UInt8) (e : Ending) (w' : World) : Prop := Below w.heap.size w w' ∧
  ((e = .returned (.tuple #[.slice none 0 0, .slice none 0 0, .bool false]) ∧ ∀ (nums : List Int) r, (∀ x ∈ nums, Is64 x) → l ≠ countL nums.length ++ (numsL nums ++ r)) ∨
   ∃ (v : Value) (nums : List Int) (a : Option Addr) (len cap : Nat) (r : List UInt8), e = .returned (.tuple #[v, .slice a len cap, .bool true]) ∧ w'.ownsRow w.heap.size 3 1 v nums.length (cellsI nums) ∧ (∀ x ∈ nums, Is64 x) ∧ l = countL nums.length ++ (numsL nums ++ r) ∧ RowAt w a len cap (cellsB r))
theorem nums_no {l R r : List UInt8} {n k : Nat} {nums : List Int} (h1 : l = countL n ++ R) (h2 : R = numsL nums ++ r) (h3 : nums.length = k) (h4 : k < n) (h5 : NoLead r) :
    ∀ (nums0 : List Int) r0, (∀ x ∈ nums0, Is64 x) → l ≠ countL nums0.length ++ (numsL nums0 ++ r0) := by
  intro nums0 r0 h64 e
  rw [h1] at e
  have e1 := countL_free _ _ _ _ e
  rw [h2] at e1
  have hsp : numsL nums0 ++ r0 = numsL (nums0.take k) ++ (numsL (nums0.drop k) ++ r0) := by
    rw [← List.append_assoc, ← numsL_append, List.take_append_drop]
  have e2 := e1.2
  rw [hsp] at e2
  have e3 := numsL_free nums (nums0.take k) _ _ (by rw [h3, List.length_take]; omega) e2
  have hk : k < nums0.length := by omega
  rw [List.drop_eq_getElem_cons hk, numsL_cons, List.append_assoc] at e3
  exact h5 _ _ (numberN_lt (h64 _ (List.getElem_mem hk))) e3.2
theorem many_no {l : List UInt8} (h : ∀ m r, m < 18446744073709551616 → l = countL m ++ r → r.length < m) (hl : l.length ≤ 6000) :
    ∀ (nums : List Int) r, (∀ x ∈ nums, Is64 x) → l ≠ countL nums.length ++ (numsL nums ++ r) := by
  intro nums r _ e
  have h1 := numsL_len nums
  have h2 := congrArg List.length e
  rw [List.length_append, List.length_append] at h2
  have h3 := h nums.length (numsL nums ++ r) (by omega) e
  rw [List.length_append] at h3
  omega
set_option maxHeartbeats 4000000 in
set_option maxRecDepth 20000 in
theorem takeNums_any (a : Option Addr) (len cap : Nat) (l : List UInt8) (w : World) (h : RowAt w a len cap (cellsB l)) (h6 : Hid (len ≤ 6000)) :
    Calls Try.prog 64 #[.slice a len cap] w fun e w' => NumsPost w l e w' := by
  obtain ⟨i0, hi, hz0, hz1, hz2⟩ := info_parts info3
  have hl : l.length = len := by simpa [cellsB] using h.1
  have HR : Hid (RowAt w a len cap (cellsB l)) := h
  have HLL : Hid (l.length ≤ 6000) := by show _ ≤ _; rw [hl]; exact h6.out
  clear h
  go_enter Try.func64, Try.ntmps64
  go_wp2_with fail
  refine (takeMany_any _ _ _ l _ HR.out).mono ?_
  rintro e w1 ⟨rfl, ⟨rfl, hno⟩ | ⟨n, a1, len1, cap1, R, rfl, hlR, hnl, hrow⟩⟩
  · have HN : Hid (∀ (nums : List Int) r, (∀ x ∈ nums, Is64 x) → l ≠ countL nums.length ++ (numsL nums ++ r)) := many_no hno HLL.out
    clear hno
    go_wp2
    go_returns
    exact ⟨Below.refl _ _, .inl ⟨rfl, HN.out⟩⟩
  · have HlR : Hid (l = countL n ++ R) := hlR
    have HR1 : Hid (RowAt w1 a1 len1 cap1 (cellsB R)) := hrow _ HR.out
    replace hrow := HR1.out
    have hRl : R.length = len1 := by simpa [cellsB] using hrow.1
    have H61 : Hid (R.length ≤ 6000) := by
      show _ ≤ _
      have h1 := HLL.out
      have h2 := congrArg List.length hlR
      rw [List.length_append] at h2
      omega
    have hn6 : ((n : Nat) : Int) ≤ 6000 := by have := H61.out; omega
    clear hlR hrow
    go_wp2
    go_loopw [0, 7, 19] (fun x y i wr => ∃ (k : Nat) (nums : List Int) (a2 : Option Addr) (len2 cap2 : Nat) (r : List UInt8), k ≤ n ∧ i = .int .i64 k ∧ x = .slice a2 len2 cap2 ∧ RowAt w1 a2 len2 cap2 (cellsB r) ∧ wr.ownsRow w1.heap.size 3 1 y k (cellsI nums) ∧ Hid (nums.length = k ∧ R = numsL nums ++ r ∧ ∀ x ∈ nums, Is64 x) ∧ Below w1.heap.size w1 wr) (fun _ _ i _ => n - (intOf i).toNat)
    case atStart =>
      exact ⟨0, [], a1, len1, cap1, R, Nat.zero_le _, rfl, rfl, HR1.out, World.ownsRow_nil _ _ _ _, ⟨rfl, rfl, by simp⟩, Below.refl _ _⟩
    case round =>
      obtain ⟨k, nums, a2, len2, cap2, r, hk, rfl, rfl, hrow2, hown, hN, hbel⟩ := hrel
      have HR2 : Hid (RowAt w1 a2 len2 cap2 (cellsB r)) := hrow2
      have hrl : r.length = len2 := by simpa [cellsB] using hrow2.1
      have hc2 := hrow2.2.1
      have hm2 : len2 ≤ maxLen := Nat.le_trans hrow2.2.1 hrow2.2.2.1
      unfold maxLen at hm2
      clear hrow2
      by_cases hlt : k < n
      · go_wp2_with fail
        refine (lead_any _ _ _ r _ (HR2.out.below hbel)).mono ?_
        rintro e w2 ⟨rfl, m, s, rfl, hL⟩
        obtain ⟨hs1, hs2, hn⟩ := leadIs_le hL
        rw [hrl] at hs1
        have HL : Hid (LeadIs r m s) := hL
        obtain ⟨a', hif, hrow⟩ := slice_from a2 len2 cap2 r s hs1
        have HR3 : Hid (RowAt w1 a' (len2 - s) (cap2 - s) (cellsB (r.drop s))) := hrow _ HR2.out
        clear hrow hL
        by_cases hs0 : s = 0
        · have HN0 : Hid (NoLead r) := by
            rcases HL.out with ⟨_, _, h⟩ | ⟨_, h, _⟩
            · exact h
            · have := countL_pos m; omega
          subst hs0
          go_wp2
          go_returns
          exact ⟨hbel, .inl ⟨rfl, nums_no HlR.out hN.out.2.1 hN.out.1 hlt HN0.out⟩⟩
        · have H1 : Hid (r = countL m ++ r.drop s) := by
            rcases HL.out with ⟨_, h, _⟩ | ⟨_, _, h⟩
            · omega
            · exact h
          have hs0' : ((s : Int) == 0) = false := beq_eq_false_iff_ne.2 (by omega)
          have hs' := hbel.size
          go_wp2_with (first
            | (go_at_call 68; refine (numberOf_any m _ hn).mono ?_; rintro e w3 ⟨rfl, rfl⟩)
            | (at_builtin; refine wpList_append_own _ rfl (.tmp 28) (.tmp 31) 35 rfl w1.heap.size 3 i0 (.int .i64 0) 1 8 Try.underlying35 hi hz0 hz1 hz2 rfl (by decide) _ _ _ rfl (hown.alloc _) ⟨_, 0, none⟩ 1 1 [.int .i64 (numberZ m)] rfl rfl (cell_one_new _ _ _) (one_i64 _) (by unfold maxLen; omega) (by omega) (by simp; omega) ?_))
          intro v4 w4 hown4 hgrow _
          go_wp2
          go_roundw
          case rel =>
            refine ⟨k + 1, nums ++ [numberZ m], a', len2 - s, cap2 - s, r.drop s, by omega, by go_num, rfl, HR3.out, ?_, ⟨?_, ?_, ?_⟩, (hbel.alloc hs' _).grown hgrow (by simp; omega) (fun k hk => (hown.lt k hk).1)⟩
            · rw [cellsI_append]; exact hown4
            · rw [List.length_append, hN.out.1]; rfl
            · rw [numsL_snoc, numberN_Z, List.append_assoc, ← H1.out]; exact hN.out.2.1
            · intro x hx
              rcases List.mem_append.1 hx with hx | hx
              · exact hN.out.2.2 x hx
              · rw [List.mem_singleton.1 hx]; exact numberZ_is hn
          case measure => simp [intOf]; omega
      · go_wp2
        go_returns
        obtain rfl : k = n := by omega
        obtain ⟨hN1, hN2, hN3⟩ := hN.out
        refine ⟨hbel, .inr ⟨_, nums, a2, len2, cap2, r, rfl, by rw [hN1]; exact hown, hN3, by rw [hN1, ← hN2]; exact HlR.out, HR2.out⟩⟩

theorem info9 : (Try.prog.info? 9).map (fun i => (i.zero, i.size, i.bytes)) = some (some (.string ByteArray.empty), 1, 16) := by kernel_rfl
theorem one_str (x : ByteArray) : ∀ u ∈ ([.string x] : List Value), u.oneCell' = true := by intro u hu; simp at hu; subst hu; rfl
/-- what takeTexts answers -/
def TextsPost (w : World) (l : List UInt8) (e : Ending) (w' : World) : Prop := Below w.heap.size w w' ∧
  ((e = .returned (.tuple #[.slice none 0 0, .slice none 0 0, .bool false]) ∧ ∀ (texts : List ByteArray) r, (∀ x ∈ texts, x.size ≤ maxLen) → l ≠ countL texts.length ++ (textsL texts ++ r)) ∨
   ∃ (v : Value) (texts : List ByteArray) (a : Option Addr) (len cap : Nat) (r : List UInt8), e = .returned (.tuple #[v, .slice a len cap, .bool true]) ∧ w'.ownsRow w.heap.size 9 1 v texts.length (cellsT texts) ∧ (∀ x ∈ texts, x.size ≤ maxLen) ∧ l = countL texts.length ++ (textsL texts ++ r) ∧ r.length = len)
theorem texts_no {l R r : List UInt8} {n k : Nat} {texts : List ByteArray} (h1 : l = countL n ++ R) (h2 : R = textsL texts ++ r) (h3 : texts.length = k) (h4 : k < n) (h5 : ∀ m r', m < 18446744073709551616 → r = countL m ++ r' → r'.length < m) :
    ∀ (texts0 : List ByteArray) r0, (∀ x ∈ texts0, x.size ≤ maxLen) → l ≠ countL texts0.length ++ (textsL texts0 ++ r0) := by
  intro texts0 r0 h64 e
  rw [h1] at e
  have e1 := countL_free _ _ _ _ e
  rw [h2] at e1
  have hsp : textsL texts0 ++ r0 = textsL (texts0.take k) ++ (textsL (texts0.drop k) ++ r0) := by
    rw [← List.append_assoc, ← textsL_append, List.take_append_drop]
  have e2 := e1.2
  rw [hsp] at e2
  have e3 := textsL_free texts (texts0.take k) _ _ (by rw [h3, List.length_take]; omega) e2
  have hk : k < texts0.length := by omega
  rw [List.drop_eq_getElem_cons hk, textsL_cons, textL, List.append_assoc, List.append_assoc] at e3
  have h6 := h64 _ (List.getElem_mem hk)
  unfold maxLen at h6
  have h7 := h5 _ _ (by omega) e3.2
  rw [List.length_append, Array.length_toList] at h7
  change texts0[k].size + _ < texts0[k].size at h7
  omega
theorem manyT_no {l : List UInt8} (h : ∀ m r, m < 18446744073709551616 → l = countL m ++ r → r.length < m) (hl : l.length ≤ 6000) :
    ∀ (texts : List ByteArray) r, (∀ x ∈ texts, x.size ≤ maxLen) → l ≠ countL texts.length ++ (textsL texts ++ r) := by
  intro texts r _ e
  have h1 := textsL_len texts
  have h2 := congrArg List.length e
  rw [List.length_append, List.length_append] at h2
  have h3 := h texts.length (textsL texts ++ r) (by omega) e
  rw [List.length_append] at h3
  omega
theorem textL_txt (m : Nat) (R : List UInt8) (h : m ≤ R.length) : textL (txt (R.take m)) ++ R.drop m = countL m ++ R := by
  rw [textL, txt_list, txt_size, List.length_take, Nat.min_eq_left h, List.append_assoc, List.take_append_drop]
set_option maxHeartbeats 4000000 in
set_option maxRecDepth 20000 in
theorem takeTexts_any (a : Option Addr) (len cap : Nat) (l : List UInt8) (w : World) (h : RowAt w a len cap (cellsB l)) (h6 : Hid (len ≤ 6000)) :
    Calls Try.prog 65 #[.slice a len cap] w fun e w' => TextsPost w l e w' := by
  obtain ⟨i0, hi, hz0, hz1, hz2⟩ := info_parts info9
  have hl : l.length = len := by simpa [cellsB] using h.1
  have HR : Hid (RowAt w a len cap (cellsB l)) := h
  have HLL : Hid (l.length ≤ 6000) := by show _ ≤ _; rw [hl]; exact h6.out
  clear h
  go_enter Try.func65, Try.ntmps65
  go_wp2_with fail
  refine (takeMany_any _ _ _ l _ HR.out).mono ?_
  rintro e w1 ⟨rfl, ⟨rfl, hno⟩ | ⟨n, a1, len1, cap1, R, rfl, hlR, hnl, hrow⟩⟩
  · have HN : Hid (∀ (texts : List ByteArray) r, (∀ x ∈ texts, x.size ≤ maxLen) → l ≠ countL texts.length ++ (textsL texts ++ r)) := manyT_no hno HLL.out
    clear hno
    go_wp2
    go_returns
    exact ⟨Below.refl _ _, .inl ⟨rfl, HN.out⟩⟩
  · have HlR : Hid (l = countL n ++ R) := hlR
    have HR1 : Hid (RowAt w1 a1 len1 cap1 (cellsB R)) := hrow _ HR.out
    replace hrow := HR1.out
    have hRl : R.length = len1 := by simpa [cellsB] using hrow.1
    have H61 : Hid (R.length ≤ 6000) := by
      show _ ≤ _
      have h1 := HLL.out
      have h2 := congrArg List.length hlR
      rw [List.length_append] at h2
      omega
    have hn6 : ((n : Nat) : Int) ≤ 6000 := by have := H61.out; omega
    clear hlR hrow
    go_wp2
    go_loopw [0, 6, 7, 18] (fun x q y i wr => ∃ (k : Nat) (texts : List ByteArray) (a2 : Option Addr) (len2 cap2 : Nat) (r : List UInt8), k ≤ n ∧ i = .int .i64 k ∧ x = .slice a2 len2 cap2 ∧ q = .bool true ∧ RowAt w1 a2 len2 cap2 (cellsB r) ∧ wr.ownsRow w1.heap.size 9 1 y k (cellsT texts) ∧ Hid (texts.length = k ∧ R = textsL texts ++ r ∧ ∀ x ∈ texts, x.size ≤ maxLen) ∧ Below w1.heap.size w1 wr) (fun _ _ _ i _ => n - (intOf i).toNat)
    case atStart =>
      exact ⟨0, [], a1, len1, cap1, R, Nat.zero_le _, rfl, rfl, rfl, HR1.out, World.ownsRow_nil _ _ _ _, ⟨rfl, rfl, by simp⟩, Below.refl _ _⟩
    case round =>
      obtain ⟨k, texts, a2, len2, cap2, r, hk, rfl, rfl, rfl, hrow2, hown, hN, hbel⟩ := hrel
      have HR2 : Hid (RowAt w1 a2 len2 cap2 (cellsB r)) := hrow2
      have hrl : r.length = len2 := by simpa [cellsB] using hrow2.1
      clear hrow2
      by_cases hlt : k < n
      · go_wp2_with fail
        refine (takeMany_any _ _ _ r _ (HR2.out.below hbel)).mono ?_
        rintro e w2 ⟨rfl, ⟨rfl, hno⟩ | ⟨m, a3, len3, cap3, r3, rfl, hr3, hnl3, hrow3⟩⟩
        · have HNO : Hid (∀ m r', m < 18446744073709551616 → r = countL m ++ r' → r'.length < m) := hno
          clear hno
          go_wp2
          go_returns
          exact ⟨hbel, .inl ⟨rfl, texts_no HlR.out hN.out.2.1 hN.out.1 hlt HNO.out⟩⟩
        · have HR3 : Hid (RowAt w1 a3 len3 cap3 (cellsB r3)) := hrow3 _ HR2.out
          have hrow4 := HR3.out.below hbel
          have hrl3 : r3.length = len3 := by simpa [cellsB] using hrow4.1
          have hc3 := hrow4.2.1
          have hm3 : len3 ≤ maxLen := Nat.le_trans hrow4.2.1 hrow4.2.2.1
          unfold maxLen at hm3
          have hr5 := hrow4.take m hnl3
          rw [cellsB_take] at hr5
          have ht := text_of hr5
          obtain ⟨a', hif, hrow⟩ := slice_from a3 len3 cap3 r3 m hnl3
          have HR5 : Hid (RowAt w1 a' (len3 - m) (cap3 - m) (cellsB (r3.drop m))) := hrow _ HR3.out
          have HTT : Hid (r = textL (txt (r3.take m)) ++ r3.drop m) := by
            show _ = _
            rw [textL_txt m r3 (by omega)]; exact hr3
          have HSZ : Hid ((txt (r3.take m)).size ≤ maxLen) := by
            show _ ≤ _
            rw [txt_size, List.length_take]; unfold maxLen; omega
          have hif0 : (if cap3 = 0 then a3 else Option.map (fun x => x.add 0) a3) = a3 := by
            split
            · rfl
            · cases a3 with
              | none => rfl
              | some x => simp [Addr.add]
          have hs' := hbel.size
          clear hrow hrow3 hr3 hrow4 hr5
          generalize txt (r3.take m) = X at *
          go_wp2_with (at_builtin; refine wpList_append_own _ rfl (.tmp 28) (.tmp 33) 36 rfl w1.heap.size 9 i0 (.string ByteArray.empty) 1 16 Try.underlying36 hi hz0 hz1 hz2 rfl (by decide) _ _ _ rfl (hown.alloc _) ⟨_, 0, none⟩ 1 1 [.string X] rfl rfl (cell_one_new _ _ _) (one_str _) (by unfold maxLen; omega) (by omega) (by simp; omega) ?_)
          intro v4 w4 hown4 hgrow _
          go_wp2
          go_roundw
          case rel =>
            refine ⟨k + 1, texts ++ [X], a', len3 - m, cap3 - m, r3.drop m, by omega, by go_num, rfl, rfl, HR5.out, ?_, ⟨?_, ?_, ?_⟩, (hbel.alloc hs' _).grown hgrow (by simp; omega) (fun k hk => (hown.lt k hk).1)⟩
            · rw [cellsT_append]; exact hown4
            · rw [List.length_append, hN.out.1]; rfl
            · rw [textsL_snoc, List.append_assoc, ← HTT.out]; exact hN.out.2.1
            · intro x hx
              rcases List.mem_append.1 hx with hx | hx
              · exact hN.out.2.2 x hx
              · rw [List.mem_singleton.1 hx]; exact HSZ.out
          case measure => simp [intOf]; omega
      · go_wp2
        go_returns
        obtain rfl : k = n := by omega
        obtain ⟨hN1, hN2, hN3⟩ := hN.out
        refine ⟨hbel, .inr ⟨_, texts, a2, len2, cap2, r, rfl, by rw [hN1]; exact hown, hN3, by rw [hN1, ← hN2]; exact HlR.out, hrl⟩⟩
end Go.Proofs.Ytmkmogkhkmlnkaa.Fr
namespace Go.Proofs.Ytmkmogkhkmlnkaa.Fr
open Go.ChangeShapes Go.WideShapes Go.ChangeAt Go.RowKit
theorem RowAt.setCell {w : World} {a : Option Addr} {len cap : Nat} {cs : List Value} (h : RowAt w a len cap cs) (p : Addr) (v : Value) (hne : ∀ x, a = Option.some x → x.block ≠ p.block) : RowAt (w.setCell p v) a len cap cs := by
  refine ⟨h.1, h.2.1, h.2.2.1, ?_⟩
  rcases h.2.2.2 with h0 | ⟨b, off, e, hc⟩
  · exact .inl h0
  · refine .inr ⟨b, off, e, fun i hi => ?_⟩
    rw [World.cell?_setCell_other _ _ _ _ (by intro hh; exact hne _ e (congrArg Addr.block hh).symm)]
    exact hc i hi
theorem two_set {w : World} {b : Nat} {u0 u1 : Value} (h0 : w.cell? ⟨b, 0, none⟩ = some u0) (h1 : w.cell? ⟨b, 1, none⟩ = some u1) (x y : Value) :
    ((w.setCell ⟨b, 0, none⟩ x).setCell ⟨b, 1, none⟩ y).cell? ⟨b, 0, none⟩ = some x ∧ ((w.setCell ⟨b, 0, none⟩ x).setCell ⟨b, 1, none⟩ y).cell? ⟨b, 1, none⟩ = some y := by
  have h2 : (w.setCell ⟨b, 0, none⟩ x).cell? ⟨b, 1, none⟩ = some u1 := by
    rw [World.cell?_setCell_other _ _ _ _ (by intro h; simpa using congrArg Addr.off h)]; exact h1
  refine ⟨?_, World.cell?_setCell_same _ _ _ h2⟩
  rw [World.cell?_setCell_other _ _ _ _ (by intro h; simpa using congrArg Addr.off h)]
  exact World.cell?_setCell_same _ _ _ h0
theorem ret_pair {fn : Func} {p u : Tmp} (h : fn.results = #[.cell p 38, .tmp u]) (tmps : Array Value) (w : World) (b : Nat) (x y : Value) (hp : tmps.getD p undef = .pointer (some ⟨b, 0, none⟩))
    (h0 : w.cell? ⟨b, 0, none⟩ = some x) (h1 : w.cell? ⟨b, 1, none⟩ = some y) : (results fn tmps).run Try.prog w = .ok (.tuple #[.agg #[x, y], tmps.getD u undef]) w := by
  rw [results_cell_tmp h, hp]
  simp [go_sem, h0, h1]
def noData : Value := .agg #[.slice none 0 0, .slice none 0 0]
/-- data that can be: numbers of 64 bits, texts of lengths that can be -/
def Fit (nums : List Int) (texts : List ByteArray) : Prop := (∀ x ∈ nums, Is64 x) ∧ ∀ t ∈ texts, t.size ≤ maxLen
/-- what both Decodes answer -/
def DecIs (w' : World) (l : List UInt8) (v : Value) (c : Nat) : Prop :=
  (4096 < l.length ∧ v = noData ∧ c = 4) ∨ (l.length ≤ 4096 ∧ v = noData ∧ c = 2 ∧ ∀ nums texts, Fit nums texts → l ≠ bytesL nums texts) ∨
  (l.length ≤ 4096 ∧ c = 0 ∧ ∃ nums texts, DataAt w' v nums texts ∧ Fit nums texts ∧ l = bytesL nums texts)
def DecPost (w : World) (l : List UInt8) (e : Ending) (w' : World) : Prop := Below w.heap.size w w' ∧ ∃ v c, e = .returned (.tuple #[v, .int .i64 ((c : Nat) : Int)]) ∧ DecIs w' l v c
theorem dec_long {w w' : World} {l : List UInt8} (hb : Below w.heap.size w w') (h : 4096 < l.length) : DecPost w l (.returned (.tuple #[noData, .int .i64 4])) w' := ⟨hb, _, 4, rfl, .inl ⟨h, rfl, rfl⟩⟩
theorem dec_text {w w' : World} {l : List UInt8} (hb : Below w.heap.size w w') (h1 : l.length ≤ 4096) (h : ∀ nums texts, Fit nums texts → l ≠ bytesL nums texts) : DecPost w l (.returned (.tuple #[noData, .int .i64 2])) w' := ⟨hb, _, 2, rfl, .inr (.inl ⟨h1, rfl, rfl, h⟩)⟩
theorem dec_ok {w w' : World} {l : List UInt8} {v : Value} {nums : List Int} {texts : List ByteArray} (hb : Below w.heap.size w w') (h1 : l.length ≤ 4096) (h2 : DataAt w' v nums texts) (h3 : Fit nums texts) (h4 : l = bytesL nums texts) : DecPost w l (.returned (.tuple #[v, .int .i64 0])) w' := ⟨hb, _, 0, rfl, .inr (.inr ⟨h1, rfl, _, _, h2, h3, h4⟩)⟩

set_option maxHeartbeats 4000000 in
set_option maxRecDepth 20000 in
theorem decode_any (a : Option Addr) (len cap : Nat) (l : List UInt8) (w : World) (h : RowAt w a len cap (cellsB l)) (h6 : Hid (len ≤ 6000)) :
    Calls Try.prog 60 #[.slice a len cap] w fun e w' => DecPost w l e w' := by
  have hl : l.length = len := by simpa [cellsB] using h.1
  have HR : Hid (RowAt w a len cap (cellsB l)) := h
  have h6' : ((len : Nat) : Int) ≤ 6000 := by have := h6.out; omega
  clear h
  have B0 : Below w.heap.size w (w.alloc (.cells #[.slice none 0 0, .slice none 0 0] 38)) := (Below.refl _ _).alloc (Nat.le_refl _) _
  by_cases hbig : (4096 : Int) < (len : Int)
  · go_enter Try.func60, Try.ntmps60
    go_wp2
    go_returns
    exact dec_long B0 (by omega)
  · go_enter Try.func60, Try.ntmps60
    go_wp2_with fail
    generalize hw1 : w.alloc (.cells #[.slice none 0 0, .slice none 0 0] 38) = w1 at *
    have hc0 : w1.cell? ⟨w.heap.size, 0, none⟩ = some (.slice none 0 0) := by rw [← hw1]; simp
    have hc1 : w1.cell? ⟨w.heap.size, 1, none⟩ = some (.slice none 0 0) := by rw [← hw1]; simp
    have hf0 : w1.frozen? ⟨w.heap.size, 0, none⟩ = false := by rw [← hw1]; simp
    have hf1 : w1.frozen? ⟨w.heap.size, 1, none⟩ = false := by rw [← hw1]; simp
    have hs1 : w.heap.size < w1.heap.size := by rw [← hw1]; simp
    have KB : Hid (∀ wr, Below w1.heap.size w1 wr → (wr.cell? ⟨w.heap.size, 0, none⟩ = some (.slice none 0 0) ∧ wr.cell? ⟨w.heap.size, 1, none⟩ = some (.slice none 0 0)) ∧ wr.frozen? ⟨w.heap.size, 0, none⟩ = false ∧ wr.frozen? ⟨w.heap.size, 1, none⟩ = false) := fun wr hb =>
      ⟨⟨(hb.cell (p := ⟨w.heap.size, 0, none⟩) hs1).trans hc0, (hb.cell (p := ⟨w.heap.size, 1, none⟩) hs1).trans hc1⟩, (hb.frozen (p := ⟨w.heap.size, 0, none⟩) hs1).trans hf0, (hb.frozen (p := ⟨w.heap.size, 1, none⟩) hs1).trans hf1⟩
    have HL4 : Hid (l.length ≤ 4096) := by show _ ≤ _; omega
    clear hc0 hc1 hf0 hf1 hw1
    refine (takeNums_any _ _ _ l _ (HR.out.below B0) h6).mono ?_
    rintro e w2 ⟨hb2, ⟨rfl, hno⟩ | ⟨v2, nums, a2, len2, cap2, r, rfl, hown2, h64, hlr, hrow2⟩⟩
    · have HNO : Hid (∀ nums texts, Fit nums texts → l ≠ bytesL nums texts) := fun nums texts hf e => hno nums _ hf.1 e
      obtain ⟨⟨g0, g1⟩, g2, g3⟩ := KB.out w2 hb2
      clear hno
      go_wp2
      try simp only [Exit.inBlock, Exit.then]
      refine bodyPost_ret (ret_pair rfl _ _ w.heap.size _ _ rfl (two_set g0 g1 _ _).1 (two_set g0 g1 _ _).2) rfl ?_
      exact dec_text (((B0.trans (hb2.mono (Nat.le_of_lt hs1))).setCell (Nat.le_refl _) _).setCell (Nat.le_refl _) _) HL4.out HNO.out
    · have HLR : Hid (l = countL nums.length ++ (numsL nums ++ r)) := hlr
      have hrl : r.length = len2 := by simpa [cellsB] using hrow2.1
      have H62 : Hid (len2 ≤ 6000) := by
        show _ ≤ _
        have := congrArg List.length hlr
        have := h6.out
        simp only [List.length_append] at *
        omega
      clear hlr
      go_wp2_with fail
      refine (takeTexts_any _ _ _ r _ (hrow2.below hb2) H62).mono ?_
      rintro e w3 ⟨hb3, ⟨rfl, hno⟩ | ⟨v3, texts, a3, len3, cap3, r3, rfl, hown3, hsz, hrr, hr3⟩⟩
      · have HNO : Hid (∀ nums texts, Fit nums texts → l ≠ bytesL nums texts) := fun nums0 texts hf e => by
          have e2 := HLR.out
          rw [e, bytesL] at e2
          have e3 := countL_free _ _ _ _ e2
          have e4 := numsL_free _ _ _ _ e3.1 e3.2
          exact hno texts [] hf.2 (by rw [← e4.2, List.append_nil])
        obtain ⟨⟨g0, g1⟩, g2, g3⟩ := KB.out w3 (hb2.trans (hb3.mono hb2.size))
        clear hno
        go_wp2
        try simp only [Exit.inBlock, Exit.then]
        refine bodyPost_ret (ret_pair rfl _ _ w.heap.size _ _ rfl (two_set g0 g1 _ _).1 (two_set g0 g1 _ _).2) rfl ?_
        exact dec_text (((B0.trans ((hb2.trans (hb3.mono hb2.size)).mono (Nat.le_of_lt hs1))).setCell (Nat.le_refl _) _).setCell (Nat.le_refl _) _) HL4.out HNO.out
      · have HRR : Hid (r = countL texts.length ++ (textsL texts ++ r3)) := hrr
        have B3 := hb2.trans (hb3.mono hb2.size)
        obtain ⟨⟨g0, g1⟩, g2, g3⟩ := KB.out w3 B3
        obtain ⟨a4, cap4, rfl, hrow4, hlow4⟩ := RowAt.of_own (own_below hown2 hb3)
        obtain ⟨a5, cap5, rfl, hrow5, hlow5⟩ := RowAt.of_own hown3
        clear hrr
        by_cases hz : (0 : Int) < (len3 : Int)
        · have HNO : Hid (∀ nums texts, Fit nums texts → l ≠ bytesL nums texts) := fun nums0 texts0 hf e => by
            have e2 := HLR.out
            rw [e, bytesL] at e2
            have e3 := countL_free _ _ _ _ e2
            have e4 := numsL_free _ _ _ _ e3.1 e3.2
            rw [HRR.out] at e4
            have e5 := countL_free _ _ _ _ e4.2
            have e6 := textsL_free texts0 texts [] r3 e5.1 (by rw [List.append_nil]; exact e5.2)
            have := congrArg List.length e6.2
            simp at this
            omega
          go_wp2
          try simp only [Exit.inBlock, Exit.then]
          refine bodyPost_ret (ret_pair rfl _ _ w.heap.size _ _ rfl (two_set g0 g1 _ _).1 (two_set g0 g1 _ _).2) rfl ?_
          exact dec_text (((B0.trans (B3.mono (Nat.le_of_lt hs1))).setCell (Nat.le_refl _) _).setCell (Nat.le_refl _) _) HL4.out HNO.out
        · have HOK : Hid (l = bytesL nums texts) := by
            show _ = _
            obtain rfl : r3 = [] := List.length_eq_zero_iff.1 (by omega)
            rw [HLR.out, HRR.out, bytesL, List.append_nil]
          go_wp2
          try simp only [Exit.inBlock, Exit.then]
          refine bodyPost_ret (ret_pair rfl _ _ w.heap.size _ _ rfl (two_set g0 g1 _ _).1 (two_set g0 g1 _ _).2) rfl ?_
          have hn4 : ∀ x, a4 = some x → x.block ≠ w.heap.size := fun x hx => by have := (hlow4 x hx).1; omega
          have hn5 : ∀ x, a5 = some x → x.block ≠ w.heap.size := fun x hx => by have := (hlow5 x hx).1; have := hb2.size; omega
          exact dec_ok (((B0.trans (B3.mono (Nat.le_of_lt hs1))).setCell (Nat.le_refl _) _).setCell (Nat.le_refl _) _) HL4.out (nums := nums) (texts := texts)
            ⟨a4, _, _, a5, _, _, rfl, (hrow4.setCell _ _ hn4).setCell _ _ hn4, (hrow5.setCell _ _ hn5).setCell _ _ hn5, h64, hsz⟩ ⟨h64, hsz⟩ HOK.out
end Go.Proofs.Ytmkmogkhkmlnkaa.Fr
namespace Go.Proofs.Ytmkmogkhkmlnkaa.Fr
open Go.ChangeShapes Go.WideShapes Go.ChangeAt Go.RowKit
/-- data whose lists lie in no block below B -/
def FreshD (B : Nat) (v : Value) : Prop := ∃ a1 n1 c1 a2 n2 c2, v = .agg #[.slice a1 n1 c1, .slice a2 n2 c2] ∧ (∀ x, a1 = some x → B ≤ x.block) ∧ ∀ x, a2 = some x → B ≤ x.block
theorem fresh_mk {B : Nat} {a1 a2 : Option Addr} {n1 c1 n2 c2 : Nat} (h1 : ∀ x, a1 = some x → B ≤ x.block) (h2 : ∀ x, a2 = some x → B ≤ x.block) : FreshD B (.agg #[.slice a1 n1 c1, .slice a2 n2 c2]) := ⟨_, _, _, _, _, _, rfl, h1, h2⟩
theorem fresh_no (B : Nat) : FreshD B noData := fresh_mk (by simp) (by simp)
/-- the rows of data are of numbers and of texts -/
def TagD (w : World) (v : Value) : Prop := ∃ a1 n1 c1 a2 n2 c2, v = .agg #[.slice a1 n1 c1, .slice a2 n2 c2] ∧ (∀ x, a1 = some x → ∃ c, w.heap[x.block]? = some (.cells c 3 (0, 0))) ∧ ∀ x, a2 = some x → ∃ c, w.heap[x.block]? = some (.cells c 9 (0, 0))
theorem tag_no (w : World) : TagD w noData := ⟨none, 0, 0, none, 0, 0, rfl, by simp, by simp⟩
theorem TagD.keep {w w' : World} {v : Value} (h : TagD w v) (hk : ∀ (b : Nat) (c : Array Value) (T : TypeId), w.heap[b]? = some (.cells c T (0, 0)) → (T = 3 ∨ T = 9) → ∃ c', w'.heap[b]? = some (.cells c' T (0, 0))) : TagD w' v := by
  obtain ⟨a1, n1, c1, a2, n2, c2, e, h1, h2⟩ := h
  refine ⟨a1, n1, c1, a2, n2, c2, e, fun x hx => ?_, fun x hx => ?_⟩
  · obtain ⟨c, hc⟩ := h1 x hx
    exact hk _ _ _ hc (.inl rfl)
  · obtain ⟨c, hc⟩ := h2 x hx
    exact hk _ _ _ hc (.inr rfl)
theorem TagD.below {w w' : World} {v : Value} (h : TagD w v) (hb : Below w.heap.size w w') : TagD w' v := h.keep fun b c _ hc _ => ⟨c, (hb.block b (Array.getElem?_eq_some_iff.1 hc).1).trans hc⟩
theorem tag_set {w : World} {b : Nat} {c : Array Value} {T : TypeId} (h : w.heap[b]? = some (.cells c T (0, 0))) (g j : Nat) (v : Value) : ∃ c', (w.setCell ⟨g, j, none⟩ v).heap[b]? = some (.cells c' T (0, 0)) := by
  by_cases e : b = g
  · subst e
    rw [setCell_eq_setRow w b j c T (0, 0) v h]
    exact ⟨_, setRow_heap w b _ _ T _ h⟩
  · exact ⟨c, (Below.heap_setCell _ _ _ _ (by simpa using e)).trans h⟩
theorem TagD.set {w : World} {v : Value} (h : TagD w v) (g j : Nat) (u : Value) : TagD (w.setCell ⟨g, j, none⟩ u) v := h.keep fun _ _ _ hc _ => tag_set hc g j u
theorem own_tag {w : World} {base : Nat} {e : TypeId} {size : Nat} {a : Option Addr} {m cap n : Nat} {xs : List Value} (h : w.ownsRow base e size (.slice a m cap) n xs) : ∀ x, a = some x → ∃ c, w.heap[x.block]? = some (.cells c e (0, 0)) := by
  intro x hx
  obtain ⟨-, ⟨h, -⟩ | ⟨g, cap', cur, h, -, hb, -⟩⟩ := h
  · injection h with h
    rw [h] at hx
    cases hx
  · injection h with h
    rw [h] at hx
    obtain rfl := Option.some.inj hx
    exact ⟨cur, hb⟩
def DecIsF (B : Nat) (w' : World) (l : List UInt8) (v : Value) (c : Nat) : Prop := DecIs w' l v c ∧ FreshD B v ∧ TagD w' v
def DecPostF (w : World) (l : List UInt8) (e : Ending) (w' : World) : Prop := Below w.heap.size w w' ∧ ∃ v c, e = .returned (.tuple #[v, .int .i64 ((c : Nat) : Int)]) ∧ DecIsF w.heap.size w' l v c
theorem dec_longF {w w' : World} {l : List UInt8} (hb : Below w.heap.size w w') (h : 4096 < l.length) : DecPostF w l (.returned (.tuple #[noData, .int .i64 4])) w' := ⟨hb, _, 4, rfl, .inl ⟨h, rfl, rfl⟩, fresh_no _, tag_no _⟩
theorem dec_textF {w w' : World} {l : List UInt8} (hb : Below w.heap.size w w') (h1 : l.length ≤ 4096) (h : ∀ nums texts, Fit nums texts → l ≠ bytesL nums texts) : DecPostF w l (.returned (.tuple #[noData, .int .i64 2])) w' := ⟨hb, _, 2, rfl, .inr (.inl ⟨h1, rfl, rfl, h⟩), fresh_no _, tag_no _⟩
theorem dec_okF {w w' : World} {l : List UInt8} {v : Value} {nums : List Int} {texts : List ByteArray} (hb : Below w.heap.size w w') (h1 : l.length ≤ 4096) (h2 : DataAt w' v nums texts) (h3 : Fit nums texts) (h4 : l = bytesL nums texts) (h5 : FreshD w.heap.size v) (h6 : TagD w' v) : DecPostF w l (.returned (.tuple #[v, .int .i64 0])) w' := ⟨hb, _, 0, rfl, .inr (.inr ⟨h1, rfl, _, _, h2, h3, h4⟩), h5, h6⟩
set_option maxHeartbeats 4000000 in
set_option maxRecDepth 20000 in
theorem decode2_any (a : Option Addr) (len cap : Nat) (l : List UInt8) (w : World) (h : RowAt w a len cap (cellsB l)) (h6 : Hid (len ≤ 6000)) :
    Calls Try.prog 60 #[.slice a len cap] w fun e w' => DecPostF w l e w' := by
  have hl : l.length = len := by simpa [cellsB] using h.1
  have HR : Hid (RowAt w a len cap (cellsB l)) := h
  have h6' : ((len : Nat) : Int) ≤ 6000 := by have := h6.out; omega
  clear h
  have B0 : Below w.heap.size w (w.alloc (.cells #[.slice none 0 0, .slice none 0 0] 38)) := (Below.refl _ _).alloc (Nat.le_refl _) _
  by_cases hbig : (4096 : Int) < (len : Int)
  · go_enter Try.func60, Try.ntmps60
    go_wp2
    go_returns
    exact dec_longF B0 (by omega)
  · go_enter Try.func60, Try.ntmps60
    go_wp2_with fail
    generalize hw1 : w.alloc (.cells #[.slice none 0 0, .slice none 0 0] 38) = w1 at *
    have hc0 : w1.cell? ⟨w.heap.size, 0, none⟩ = some (.slice none 0 0) := by rw [← hw1]; simp
    have hc1 : w1.cell? ⟨w.heap.size, 1, none⟩ = some (.slice none 0 0) := by rw [← hw1]; simp
    have hf0 : w1.frozen? ⟨w.heap.size, 0, none⟩ = false := by rw [← hw1]; simp
    have hf1 : w1.frozen? ⟨w.heap.size, 1, none⟩ = false := by rw [← hw1]; simp
    have hs1 : w.heap.size < w1.heap.size := by rw [← hw1]; simp
    have KB : Hid (∀ wr, Below w1.heap.size w1 wr → (wr.cell? ⟨w.heap.size, 0, none⟩ = some (.slice none 0 0) ∧ wr.cell? ⟨w.heap.size, 1, none⟩ = some (.slice none 0 0)) ∧ wr.frozen? ⟨w.heap.size, 0, none⟩ = false ∧ wr.frozen? ⟨w.heap.size, 1, none⟩ = false) := fun wr hb =>
      ⟨⟨(hb.cell (p := ⟨w.heap.size, 0, none⟩) hs1).trans hc0, (hb.cell (p := ⟨w.heap.size, 1, none⟩) hs1).trans hc1⟩, (hb.frozen (p := ⟨w.heap.size, 0, none⟩) hs1).trans hf0, (hb.frozen (p := ⟨w.heap.size, 1, none⟩) hs1).trans hf1⟩
    have HL4 : Hid (l.length ≤ 4096) := by show _ ≤ _; omega
    clear hc0 hc1 hf0 hf1 hw1
    refine (takeNums_any _ _ _ l _ (HR.out.below B0) h6).mono ?_
    rintro e w2 ⟨hb2, ⟨rfl, hno⟩ | ⟨v2, nums, a2, len2, cap2, r, rfl, hown2, h64, hlr, hrow2⟩⟩
    · have HNO : Hid (∀ nums texts, Fit nums texts → l ≠ bytesL nums texts) := fun nums texts hf e => hno nums _ hf.1 e
      obtain ⟨⟨g0, g1⟩, g2, g3⟩ := KB.out w2 hb2
      clear hno
      go_wp2
      try simp only [Exit.inBlock, Exit.then]
      refine bodyPost_ret (ret_pair rfl _ _ w.heap.size _ _ rfl (two_set g0 g1 _ _).1 (two_set g0 g1 _ _).2) rfl ?_
      exact dec_textF (((B0.trans (hb2.mono (Nat.le_of_lt hs1))).setCell (Nat.le_refl _) _).setCell (Nat.le_refl _) _) HL4.out HNO.out
    · have HLR : Hid (l = countL nums.length ++ (numsL nums ++ r)) := hlr
      have hrl : r.length = len2 := by simpa [cellsB] using hrow2.1
      have H62 : Hid (len2 ≤ 6000) := by
        show _ ≤ _
        have := congrArg List.length hlr
        have := h6.out
        simp only [List.length_append] at *
        omega
      clear hlr
      go_wp2_with fail
      refine (takeTexts_any _ _ _ r _ (hrow2.below hb2) H62).mono ?_
      rintro e w3 ⟨hb3, ⟨rfl, hno⟩ | ⟨v3, texts, a3, len3, cap3, r3, rfl, hown3, hsz, hrr, hr3⟩⟩
      · have HNO : Hid (∀ nums texts, Fit nums texts → l ≠ bytesL nums texts) := fun nums0 texts hf e => by
          have e2 := HLR.out
          rw [e, bytesL] at e2
          have e3 := countL_free _ _ _ _ e2
          have e4 := numsL_free _ _ _ _ e3.1 e3.2
          exact hno texts [] hf.2 (by rw [← e4.2, List.append_nil])
        obtain ⟨⟨g0, g1⟩, g2, g3⟩ := KB.out w3 (hb2.trans (hb3.mono hb2.size))
        clear hno
        go_wp2
        try simp only [Exit.inBlock, Exit.then]
        refine bodyPost_ret (ret_pair rfl _ _ w.heap.size _ _ rfl (two_set g0 g1 _ _).1 (two_set g0 g1 _ _).2) rfl ?_
        exact dec_textF (((B0.trans ((hb2.trans (hb3.mono hb2.size)).mono (Nat.le_of_lt hs1))).setCell (Nat.le_refl _) _).setCell (Nat.le_refl _) _) HL4.out HNO.out
      · have HRR : Hid (r = countL texts.length ++ (textsL texts ++ r3)) := hrr
        have B3 := hb2.trans (hb3.mono hb2.size)
        obtain ⟨⟨g0, g1⟩, g2, g3⟩ := KB.out w3 B3
        obtain ⟨a4, cap4, rfl, hrow4, hlow4⟩ := RowAt.of_own (own_below hown2 hb3)
        obtain ⟨a5, cap5, rfl, hrow5, hlow5⟩ := RowAt.of_own hown3
        clear hrr
        by_cases hz : (0 : Int) < (len3 : Int)
        · have HNO : Hid (∀ nums texts, Fit nums texts → l ≠ bytesL nums texts) := fun nums0 texts0 hf e => by
            have e2 := HLR.out
            rw [e, bytesL] at e2
            have e3 := countL_free _ _ _ _ e2
            have e4 := numsL_free _ _ _ _ e3.1 e3.2
            rw [HRR.out] at e4
            have e5 := countL_free _ _ _ _ e4.2
            have e6 := textsL_free texts0 texts [] r3 e5.1 (by rw [List.append_nil]; exact e5.2)
            have := congrArg List.length e6.2
            simp at this
            omega
          go_wp2
          try simp only [Exit.inBlock, Exit.then]
          refine bodyPost_ret (ret_pair rfl _ _ w.heap.size _ _ rfl (two_set g0 g1 _ _).1 (two_set g0 g1 _ _).2) rfl ?_
          exact dec_textF (((B0.trans (B3.mono (Nat.le_of_lt hs1))).setCell (Nat.le_refl _) _).setCell (Nat.le_refl _) _) HL4.out HNO.out
        · have HOK : Hid (l = bytesL nums texts) := by
            show _ = _
            obtain rfl : r3 = [] := List.length_eq_zero_iff.1 (by omega)
            rw [HLR.out, HRR.out, bytesL, List.append_nil]
          go_wp2
          try simp only [Exit.inBlock, Exit.then]
          refine bodyPost_ret (ret_pair rfl _ _ w.heap.size _ _ rfl (two_set g0 g1 _ _).1 (two_set g0 g1 _ _).2) rfl ?_
          have hn4 : ∀ x, a4 = some x → x.block ≠ w.heap.size := fun x hx => by have := (hlow4 x hx).1; omega
          have hn5 : ∀ x, a5 = some x → x.block ≠ w.heap.size := fun x hx => by have := (hlow5 x hx).1; have := hb2.size; omega
          exact dec_okF (((B0.trans (B3.mono (Nat.le_of_lt hs1))).setCell (Nat.le_refl _) _).setCell (Nat.le_refl _) _) HL4.out (nums := nums) (texts := texts)
            ⟨a4, _, _, a5, _, _, rfl, (hrow4.setCell _ _ hn4).setCell _ _ hn4, (hrow5.setCell _ _ hn5).setCell _ _ hn5, h64, hsz⟩ ⟨h64, hsz⟩ HOK.out (fresh_mk (fun x hx => by have := (hlow4 x hx).1; omega) (fun x hx => by have := (hlow5 x hx).1; have := hb2.size; omega)) (((show TagD w3 (.agg #[.slice a4 _ cap4, .slice a5 _ cap5]) from ⟨_, _, _, _, _, _, rfl, own_tag (own_below hown2 hb3), own_tag hown3⟩).set _ _ _).set _ _ _)
end Go.Proofs.Ytmkmogkhkmlnkaa.Fr
