/-
  The contracts of the program's lead and the answer's Lead: the count that bytes begin with.
-/
import Derived.Test.YtgcdelgjbgjofaaD
import Derived.Test.YtgcdelgjbgjofaaLeads
namespace Go.Proofs.Ytgcdelgjbgjofaa
open Go.ChangeShapes Go.WideShapes Go.ChangeAt Go.RowKit
/-- what lead answers -/
def LeadIs (l : List UInt8) (n s : Nat) : Prop := (n = 0 ∧ s = 0 ∧ NoLead l) ∨ (n < 18446744073709551616 ∧ s = (countL n).length ∧ l = countL n ++ l.drop s)
def LeadPost (w : World) (l : List UInt8) (e : Ending) (w' : World) : Prop := w' = w ∧ ∃ n s : Nat, e = .returned (.tuple #[.int .u64 (n : Int), .int .i64 (s : Int)]) ∧ LeadIs l n s
theorem leadPost_no {w : World} {l : List UInt8} (h : NoLead l) : LeadPost w l (.returned (.tuple #[.int .u64 0, .int .i64 0])) w := ⟨rfl, 0, 0, rfl, .inl ⟨rfl, rfl, h⟩⟩
theorem pow7 (k : Nat) : (128 : Nat) ^ k = 2 ^ (7 * k) := by rw [Nat.pow_mul]
theorem andNot_form (c : Nat) (hc : c < 256) : bits .andNot .u8 (c : Int) 128 = ((c % 128 : Nat) : Int) := by
  have h := u8_andNot_nat c 128 hc (by decide)
  have e : c &&& (255 - 128) = c % 128 := Nat.and_two_pow_sub_one_eq_mod c 7
  rw [e] at h
  exact h
theorem lead_small (c k : Nat) (hk : k < 9 ∨ (k = 9 ∧ c ≤ 1)) : c % 128 * 128 ^ k ≤ 9223372036854775808 := by
  rcases hk with hk | ⟨rfl, hc⟩
  · have h1 : 128 ^ k ≤ 128 ^ 8 := Nat.pow_le_pow_right (by decide) (by omega)
    have h2 : c % 128 * 128 ^ k ≤ 127 * 128 ^ 8 := Nat.mul_le_mul (by omega) h1
    omega
  · have : (128 : Nat) ^ 9 = 9223372036854775808 := by decide
    rw [this]; omega
theorem lead_form (n c k : Nat) (hn : n < 128 ^ k) (hc : c < 256) (hk : k < 9 ∨ (k = 9 ∧ c ≤ 1)) :
    bits .or .u64 (n : Int) (IntKind.u64.wrap (IntKind.u64.wrap (bits .andNot .u8 (c : Int) 128) * 2 ^ (7 * k))) = ((n + c % 128 * 128 ^ k : Nat) : Int) := by
  have hs := lead_small c k hk
  have hp : 128 ^ k ≤ 128 ^ 9 := Nat.pow_le_pow_right (by decide) (by omega)
  have e9 : (128 : Nat) ^ 9 = 9223372036854775808 := by decide
  have e1 : IntKind.u64.wrap ((c % 128 : Nat) : Int) = ((c % 128 : Nat) : Int) := by rw [IntKind.wrap_u64]; omega
  have e2 : ((2 : Int) ^ (7 * k)) = ((128 ^ k : Nat) : Int) := by rw [pow7]; simp
  have e3 : ((c % 128 : Nat) : Int) * ((128 ^ k : Nat) : Int) = ((c % 128 * 128 ^ k : Nat) : Int) := by rw [Int.natCast_mul]
  have e4 : IntKind.u64.wrap ((c % 128 * 128 ^ k : Nat) : Int) = ((c % 128 * 128 ^ k : Nat) : Int) := by rw [IntKind.wrap_u64]; omega
  rw [andNot_form c hc, e1, e2, e3, e4, u64_or_nat n (c % 128 * 128 ^ k) (by omega) (by omega), Nat.or_comm, nat_join (7 * k) (c % 128 * 128 ^ k) n (by rw [pow7]; exact Nat.mul_mod_left _ _) (by rw [← pow7]; exact hn), Nat.add_comm]
theorem lead_form9 (n c : Nat) (hn : n < 128 ^ 9) (hc : c ≤ 1) :
    bits .or .u64 (n : Int) (IntKind.u64.wrap (IntKind.u64.wrap (bits .andNot .u8 (c : Int) 128) * 9223372036854775808)) = ((n + c % 128 * 128 ^ 9 : Nat) : Int) :=
  lead_form n c 9 hn (by omega) (.inr ⟨rfl, hc⟩)
set_option maxHeartbeats 4000000 in
set_option maxRecDepth 20000 in
theorem lead_any (a : Option Addr) (len cap : Nat) (l : List UInt8) (w : World) (h : RowAt w a len cap (cellsB l)) :
    Calls Try.prog 43 #[.slice a len cap] w fun e w' => LeadPost w l e w' := by
  have hl : l.length = len := by simpa [cellsB] using h.1
  have hm : len ≤ maxLen := Nat.le_trans h.2.1 h.2.2.1
  unfold maxLen at hm
  have HR : Hid (RowAt w a len cap (cellsB l)) := h
  clear h
  go_enter Try.func43, Try.ntmps43
  go_wp2
  go_loop [4, 9] (fun t i => ∃ k : Nat, k ≤ len ∧ k ≤ 9 ∧ i = .int .i64 k ∧ t = .int .u64 ((val7 (l.take k) : Nat) : Int) ∧ Hid (∀ b ∈ l.take k, 128 ≤ b.toNat)) (fun _ i => len - (intOf i).toNat)
  case atStart => exact ⟨0, Nat.zero_le _, Nat.zero_le _, rfl, by simp [val7], fun b hb => by simp at hb⟩
  case round =>
    obtain ⟨k, hk, hk9, rfl, rfl, hbig⟩ := hrel
    by_cases hlt : k < len
    · obtain ⟨b, off, rfl, hcell⟩ := HR.out.some (by omega)
      have hc := hcell k hlt
      rw [cellsB_get l k (by omega)] at hc
      clear hcell
      have h2 := (l.getD k 0).toNat_lt
      have HV : Hid (val7 (l.take (k + 1)) = val7 (l.take k) + (l.getD k 0).toNat % 128 * 128 ^ k) := val7_take l k (by omega)
      have hv := val7_take_lt l k (by omega)
      have HOK : Hid ((l.getD k 0).toNat < 128 → (0 < k → (l.getD k 0).toNat ≠ 0) → l = countL (val7 (l.take (k + 1))) ++ l.drop (k + 1) ∧ (countL (val7 (l.take (k + 1)))).length = k + 1) := fun h1 h2 => lead_ok l k (by omega) hbig.out h1 h2
      have HNO : Hid (0 < k → (l.getD k 0).toNat = 0 → NoLead l) := fun h0 hc => noLead_nought l k (by omega) h0 hc hbig.out
      have HTB : Hid (128 ≤ (l.getD k 0).toNat → ∀ b ∈ l.take (k + 1), 128 ≤ b.toNat) := fun h => take_big l k (by omega) hbig.out h
      have HGR : Hid (k = 9 → 1 < (l.getD k 0).toNat → NoLead l) := by
        intro h9 h1
        subst h9
        exact noLead_great l h1 hbig.out
      generalize (l.getD k 0).toNat = c at *
      by_cases h9 : k = 9
      · by_cases hc1 : 1 < c
        · have HN1 : Hid (NoLead l) := HGR.out h9 hc1
          clear HV HOK HNO HTB HGR hv
          subst h9
          go_wp2
          go_returns
          exact leadPost_no HN1.out
        · by_cases hc0 : c = 0
          · have HN1 : Hid (NoLead l) := HNO.out (by omega) hc0
            clear HV HOK HNO HTB HGR hv
            subst h9
            subst hc0
            go_wp2
            go_returns
            exact leadPost_no HN1.out
          · have HF := lead_form9 (val7 (l.take k)) c (by rw [← h9]; exact hv) (by omega)
            have HF' : Hid (bits .or .u64 ((val7 (l.take k) : Nat) : Int) (IntKind.u64.wrap (IntKind.u64.wrap (bits .andNot .u8 (c : Int) 128) * 9223372036854775808)) = ((val7 (l.take (k + 1)) : Nat) : Int)) := by
              show _ = _
              rw [HF, HV.out, h9]
            have HS : Hid (val7 (l.take (k + 1)) < 18446744073709551616) := by
              show _ < _
              rw [HV.out]
              have h1 := lead_small c k (.inr ⟨h9, by omega⟩)
              have h2 : 128 ^ k ≤ 128 ^ 9 := Nat.pow_le_pow_right (by decide) (by omega)
              have e9 : (128 : Nat) ^ 9 = 9223372036854775808 := by decide
              omega
            have HO := HOK.out (by omega) (fun _ => hc0)
            have HO' : Hid (l = countL (val7 (l.take (k + 1))) ++ l.drop (k + 1) ∧ (countL (val7 (l.take (k + 1)))).length = k + 1) := HO
            clear HV HOK HNO HTB HGR hv HF HO
            subst h9
            go_wp2
            go_returns
            rw [HF'.out]
            exact ⟨rfl, _, 9 + 1, by rfl, .inr ⟨HS.out, HO'.out.2.symm, HO'.out.1⟩⟩
      · have HF' : Hid (bits .or .u64 ((val7 (l.take k) : Nat) : Int) (IntKind.u64.wrap (IntKind.u64.wrap (bits .andNot .u8 (c : Int) 128) * 2 ^ (7 * k))) = ((val7 (l.take (k + 1)) : Nat) : Int)) := by
          show _ = _
          rw [lead_form (val7 (l.take k)) c k hv h2 (.inl (by omega)), HV.out]
        have HS : Hid (val7 (l.take (k + 1)) < 18446744073709551616) := by
          show _ < _
          rw [HV.out]
          have h1 := lead_small c k (.inl (by omega))
          have h2 : 128 ^ k ≤ 128 ^ 9 := Nat.pow_le_pow_right (by decide) (by omega)
          have e9 : (128 : Nat) ^ 9 = 9223372036854775808 := by decide
          omega
        clear HV hv HGR
        by_cases hcb : 128 ≤ c
        · have HT := HTB.out hcb
          have HT' : Hid (∀ b ∈ l.take (k + 1), 128 ≤ b.toNat) := HT
          clear HOK HNO HTB HT
          go_wp2
          go_round
          case rel =>
            refine ⟨k + 1, by omega, by omega, by go_num, ?_, HT'.out⟩
            rw [HF'.out]
          case measure => simp [intOf]; omega
        · by_cases hc0 : c = 0 ∧ 0 < k
          · have HN1 : Hid (NoLead l) := HNO.out hc0.2 hc0.1
            clear HOK HNO HTB HF' HS
            obtain ⟨rfl, hk0⟩ := hc0
            go_wp2
            go_returns
            exact leadPost_no HN1.out
          · have HO' : Hid (l = countL (val7 (l.take (k + 1))) ++ l.drop (k + 1) ∧ (countL (val7 (l.take (k + 1)))).length = k + 1) := HOK.out (by omega) (fun h => by omega)
            clear HOK HNO HTB
            have hc0' : ¬ c = 0 ∨ (c = 0 ∧ k = 0) := by omega
            rcases hc0' with hc0' | ⟨rfl, rfl⟩
            · go_wp2
              go_returns
              rw [HF'.out]
              exact ⟨rfl, _, k + 1, by rfl, .inr ⟨HS.out, HO'.out.2.symm, HO'.out.1⟩⟩
            · rw [Nat.add_zero] at hc
              have hz : ((val7 (l.take (0 + 1)) : Nat) : Int) = 0 := HF'.out.symm.trans (by rw [List.take_zero, val7_nil]; rfl)
              have hz' : val7 (l.take (0 + 1)) = 0 := by omega
              have HO2 := HO'.out
              rw [hz'] at HO2
              have H3 : Hid (l = countL 0 ++ l.drop (0 + 1) ∧ (countL 0).length = 0 + 1) := HO2
              clear hz hz' HO2 HF' HS HO'
              go_wp2
              go_returns
              have ez : bits .or .u64 ((val7 [] : Nat) : Int) (IntKind.u64.wrap (IntKind.u64.wrap (bits .andNot .u8 0 128))) = 0 := by rw [val7_nil]; rfl
              rw [ez]
              exact ⟨rfl, 0, 0 + 1, by rfl, .inr ⟨by omega, H3.out.2.symm, H3.out.1⟩⟩
    · go_wp2
      go_returns
      exact leadPost_no (noLead_end l k (by omega) hbig.out)
/-- what the answer's Lead answers -/
def LooseIs (l : List UInt8) (u k : Nat) : Prop := u < 18446744073709551616 ∧ k ≤ l.length ∧ (k = 0 → NoLead l) ∧ ∀ m r, m < 18446744073709551616 → l = countL m ++ r → u = m ∧ k = (countL m).length
def LoosePost (w : World) (l : List UInt8) (e : Ending) (w' : World) : Prop := w' = w ∧ ∃ u k : Nat, e = .returned (.tuple #[.int .u64 (u : Int), .int .i64 (k : Int)]) ∧ LooseIs l u k
theorem loosePost_no {w : World} {l : List UInt8} (h : NoLead l) : LoosePost w l (.returned (.tuple #[.int .u64 0, .int .i64 0])) w := ⟨rfl, 0, 0, rfl, by omega, by omega, fun _ => h, fun m r hm e => (h m r hm e).elim⟩
theorem loose_form (n c k : Nat) (v : Nat) (hn : n = v % 18446744073709551616) :
    IntKind.u64.wrap ((n : Int) + IntKind.u64.wrap ((c : Int) % 128 * 2 ^ (7 * k))) = (((v + c % 128 * 128 ^ k) % 18446744073709551616 : Nat) : Int) := by
  have e2 : ((2 : Int) ^ (7 * k)) = ((128 ^ k : Nat) : Int) := by rw [pow7]; simp
  rw [e2, show (c : Int) % 128 = ((c % 128 : Nat) : Int) from by omega, ← Int.natCast_mul]
  generalize c % 128 * 128 ^ k = x
  rw [IntKind.wrap_u64, IntKind.wrap_u64]
  omega
set_option maxHeartbeats 4000000 in
set_option maxRecDepth 20000 in
theorem refLead_any (a : Option Addr) (len cap : Nat) (l : List UInt8) (w : World) (h : RowAt w a len cap (cellsB l)) :
    Calls Try.prog 40 #[.slice a len cap] w fun e w' => LoosePost w l e w' := by
  have hl : l.length = len := by simpa [cellsB] using h.1
  have hm : len ≤ maxLen := Nat.le_trans h.2.1 h.2.2.1
  unfold maxLen at hm
  have HR : Hid (RowAt w a len cap (cellsB l)) := h
  clear h
  go_enter Try.func40, Try.ntmps40
  go_wp2
  go_loop [4, 5] (fun t i => ∃ k : Nat, k ≤ len ∧ k ≤ 10 ∧ i = .int .i64 k ∧ t = .int .u64 ((val7 (l.take k) % 18446744073709551616 : Nat) : Int) ∧ Hid (∀ b ∈ l.take k, 128 ≤ b.toNat)) (fun _ i => len - (intOf i).toNat)
  case atStart => exact ⟨0, Nat.zero_le _, Nat.zero_le _, rfl, by simp [val7], fun b hb => by simp at hb⟩
  case round =>
    obtain ⟨k, hk, hk9, rfl, rfl, hbig⟩ := hrel
    by_cases hlt : k < len ∧ k < 10
    · obtain ⟨hlt, hk10⟩ := hlt
      obtain ⟨b, off, rfl, hcell⟩ := HR.out.some (by omega)
      have hc := hcell k hlt
      rw [cellsB_get l k (by omega)] at hc
      clear hcell
      have h2 := (l.getD k 0).toNat_lt
      have HV : Hid (val7 (l.take (k + 1)) = val7 (l.take k) + (l.getD k 0).toNat % 128 * 128 ^ k) := val7_take l k (by omega)
      have HOK : Hid ((l.getD k 0).toNat < 128 → ∀ m r, m < 18446744073709551616 → l = countL m ++ r → val7 (l.take (k + 1)) = m ∧ k + 1 = (countL m).length) := fun h1 => loose_ok l k (by omega) hbig.out h1
      have HTB : Hid (128 ≤ (l.getD k 0).toNat → ∀ b ∈ l.take (k + 1), 128 ≤ b.toNat) := fun h => take_big l k (by omega) hbig.out h
      generalize (l.getD k 0).toNat = c at *
      have HF : Hid (IntKind.u64.wrap (((val7 (l.take k) % 18446744073709551616 : Nat) : Int) + IntKind.u64.wrap ((c : Int) % 128 * 2 ^ (7 * k))) = ((val7 (l.take (k + 1)) % 18446744073709551616 : Nat) : Int)) := by
        show _ = _
        rw [HV.out]; exact loose_form _ c k _ rfl
      have hnb := Nat.mod_lt (val7 (l.take k)) (show 0 < 18446744073709551616 by decide)
      generalize hz : val7 (l.take k) % 18446744073709551616 = z at *
      clear hz HV
      by_cases hcb : 128 ≤ c
      · have HT' : Hid (∀ b ∈ l.take (k + 1), 128 ≤ b.toNat) := HTB.out hcb
        clear HOK HTB
        go_wp2
        go_round
        case rel =>
          refine ⟨k + 1, by omega, by omega, by go_num, ?_, HT'.out⟩
          rw [HF.out]
        case measure => simp [intOf]; omega
      · have HO' := HOK.out (by omega)
        have HO : Hid (∀ m r, m < 18446744073709551616 → l = countL m ++ r → val7 (l.take (k + 1)) = m ∧ k + 1 = (countL m).length) := HO'
        clear HOK HTB HO'
        go_wp2
        go_returns
        rw [HF.out]
        refine ⟨rfl, _, k + 1, by rfl, Nat.mod_lt _ (by decide), by omega, fun h => by omega, fun m r hm e => ?_⟩
        have h8 := HO.out m r hm e
        exact ⟨by rw [h8.1]; exact Nat.mod_eq_of_lt hm, h8.2⟩
    · have hex : k = len ∨ (k < len ∧ k = 10) := by omega
      have HN : Hid (NoLead l) := by
        rcases hex with h | ⟨h, h10⟩
        · exact noLead_end l k (by omega) hbig.out
        · subst h10; exact noLead_ten l hbig.out
      clear hlt hbig
      rcases hex with rfl | ⟨hex, rfl⟩
      all_goals
        go_wp2
        go_returns
        exact loosePost_no HN.out
end Go.Proofs.Ytgcdelgjbgjofaa
