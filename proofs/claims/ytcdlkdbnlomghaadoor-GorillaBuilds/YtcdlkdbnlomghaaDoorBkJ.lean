/-
  The contract of Unpack.
-/
import Derived.Test.YtcdlkdbnlomghaaDoorBkI
namespace Go.Proofs.YtcdlkdbnlomghaaDoor.Bk
open Go.ChangeShapes Go.WideShapes Go.ChangeAt Go.RowKit
open Go.Proofs.YtcdlkdbnlomghaaDoor.Fr
/-- behind Unpack -/
def UnpPost (N : List Int) (texts : List ByteArray) (w : World) (e : Ending) (w' : World) : Prop :=
  Below w.heap.size w w' ∧ ((∃ ls a len cap, texts = [] ∧ Are N ls ∧ e = .returned (.tuple #[.slice a len cap, .int .i64 0]) ∧ SmsAt w' a len cap ls) ∨ ((texts = [] → ∀ ls, ¬ Are N ls) ∧ e = .returned (.tuple #[.slice none 0 0, .int .i64 2])))
theorem unp_no {N : List Int} {texts : List ByteArray} {w w' : World} (hb : Below w.heap.size w w') (h : texts = [] → ∀ ls, ¬ Are N ls) : UnpPost N texts w (.returned (.tuple #[.slice none 0 0, .int .i64 2])) w' := ⟨hb, .inr ⟨h, rfl⟩⟩
theorem slice_fromI (a : Option Addr) (len cap : Nat) (l : List Int) (s : Nat) (hs : s ≤ len) :
    ∃ a', (if cap = s then a else Option.map (fun x => x.add s) a) = a' ∧ ∀ w, RowAt w a len cap (cellsI l) → RowAt w a' (len - s) (cap - s) (cellsI (l.drop s)) := by
  refine ⟨_, rfl, fun w h => ?_⟩
  have hd := h.drop s hs
  have e : (cellsI l).drop s = cellsI (l.drop s) := by simp [cellsI, List.map_drop]
  rw [e] at hd
  exact hd
theorem row_tail {w : World} {b off n1 c1 : Nat} {N : List Int} (h : RowAt w (some ⟨b, off, none⟩) n1 c1 (cellsI N)) (hc : ¬ c1 = 1) (h1 : 1 ≤ n1) : RowAt w (some ⟨b, off + 1, none⟩) (n1 - 1) (c1 - 1) (cellsI (N.drop 1)) := by
  obtain ⟨a', e, hr⟩ := slice_fromI (some ⟨b, off, none⟩) n1 c1 N 1 h1
  rw [if_neg hc] at e
  subst e
  have := hr w h
  simpa [addr_add2] using this
theorem row_end {w : World} {a : Option Addr} {n1 : Nat} {N : List Int} (h : RowAt w a n1 1 (cellsI N)) (h1 : 1 ≤ n1) : RowAt w a (n1 - 1) 0 (cellsI (N.drop 1)) := by
  obtain ⟨a', e, hr⟩ := slice_fromI a n1 1 N 1 h1
  rw [if_pos rfl] at e
  subst e
  exact hr w h
theorem counted_yes {a : Option Addr} {len cap : Nat} {N : List Int} {w : World} (h : RowAt w a len cap (cellsI N)) (hc : Counted N) : Calls Tryd.prog 58 #[.slice a len cap] w fun e w' => e = .returned (.bool true) ∧ w' = w :=
  (counted_any a len cap N w h).mono fun _ _ ⟨hw, q, he, hq⟩ => ⟨by rw [he, hq.2 hc], hw⟩
theorem counted_no {a : Option Addr} {len cap : Nat} {N : List Int} {w : World} (h : RowAt w a len cap (cellsI N)) (hc : ¬ Counted N) : Calls Tryd.prog 58 #[.slice a len cap] w fun e w' => e = .returned (.bool false) ∧ w' = w :=
  (counted_any a len cap N w h).mono fun _ _ ⟨hw, q, he, hq⟩ => ⟨by rw [he]; cases q with | false => rfl | true => exact absurd (hq.1 rfl) hc, hw⟩
set_option maxHeartbeats 400000 in
set_option maxRecDepth 60000 in
theorem unpack_any (v : Value) (N : List Int) (texts : List ByteArray) (w : World) (h : DataAt w v N texts) :
    Calls Tryd.prog 35 #[v] w fun e w' => UnpPost N texts w e w' := by
  obtain ⟨a1, n1, c1, a2, n2, c2, rfl, h1, h2, h3, h4⟩ := h
  have hl1 : N.length = n1 := by simpa [cellsI] using h1.1
  have hl2 : texts.length = n2 := by simpa [cellsT] using h2.1
  have hm2 : n2 ≤ maxLen := Nat.le_trans h2.2.1 h2.2.2.1
  have hm1 : n1 ≤ maxLen := Nat.le_trans h1.2.1 h1.2.2.1
  have hc1 : n1 ≤ c1 := h1.2.1
  have hc2 : c1 ≤ maxLen := h1.2.2.1
  unfold maxLen at hm1 hm2 hc2
  have H1 : Hid (RowAt w a1 n1 c1 (cellsI N)) := h1
  have H64 : Hid (∀ x ∈ N, Is64 x) := h3
  clear h1 h2 h3 h4
  by_cases ht : n2 = 0
  · have HT : Hid (texts = []) := Hid.mk9 (List.length_eq_zero_iff.1 (by omega))
    subst ht
    by_cases hc : Counted N
    · obtain ⟨n, hn⟩ : ∃ n : Nat, N.getD 0 0 = (n : Int) := ⟨(N.getD 0 0).toNat, by have := hc.2.1; omega⟩
      have HC : Hid (Counted N) := hc
      have HN0 : Hid (N.getD 0 0 = (n : Int)) := hn
      have hn64 : n ≤ 64 := by have := hc.2.2.1; omega
      have HL : Hid (n1 = 2 * n + 1) := Hid.mk9 (by have := hc.2.2.2; omega)
      have hn1 : 1 ≤ n1 := by have := HL.out; omega
      have hn1' : (1 : Int) ≤ (n1 : Int) := by omega
      have hn1'' : (n1 : Int) ≤ (c1 : Int) := by omega
      clear hc hn
      obtain ⟨b, off, rfl, -⟩ := H1.out.some (by omega)
      have HLl : Hid (N.length = 2 * n + 1) := Hid.mk9 (by have := HL.out; omega)
      obtain ⟨m, hm⟩ : ∃ m, n1 - 1 = m := ⟨_, rfl⟩
      have HM2 : Hid (m = 2 * n) := Hid.mk9 (by have := HL.out; omega)
      have hm' : (n1 : Int) - 1 = (m : Int) := by omega
      obtain ⟨c3, hc3⟩ : ∃ c3, c1 - 1 = c3 := ⟨_, rfl⟩
      have hc3' : (c1 : Int) - 1 = (c3 : Int) := by omega
      obtain ⟨a', hif, HR⟩ : ∃ a', (if c1 = 1 then a' = some ⟨b, off, none⟩ else a' = some ⟨b, off + 1, none⟩) ∧ Hid (∀ w, RowAt w (some ⟨b, off, none⟩) n1 c1 (cellsI N) → RowAt w a' m c3 (cellsI (N.drop 1))) := by
        by_cases h : c1 = 1
        · refine ⟨_, by rw [if_pos h], Hid.mk9 fun w hw => ?_⟩
          subst h
          have := row_end hw hn1
          rw [hm] at this
          rw [← hc3]; exact this
        · refine ⟨_, by rw [if_neg h], Hid.mk9 fun w hw => ?_⟩
          have := row_tail hw h hn1
          rw [hm, hc3] at this
          exact this
      by_cases hone : c1 = 1
      · rw [if_pos hone] at hif
        subst hif
        subst hone
        obtain rfl : n1 = 1 := by omega
        obtain rfl : m = 0 := by omega
        obtain rfl : c3 = 0 := by omega
        clear hm hm' hc3 hc3' hn1'' hn1' hn1 hc1 hc2
        have HSUM : Hid (∀ W, Below w.heap.size w W → Calls Tryd.prog 59 #[.slice (some ⟨b, off, none⟩) 0 0] W fun e w' => SumsPost (N.drop 1) n W e w') := fun W hW => sums_any _ 0 0 n (N.drop 1) W (HR.out _ (H1.out.below hW)) HM2.out hn64
        clear HR HM2
        by_cases hM : MayS (sumsL (N.drop 1) n)
        · have HA : Hid (Are N (sumsL (N.drop 1) n)) := sums_are H64.out HLl.out HN0.out hM
          have HM := Hid.mk9 hM
          clear hM
          go_enter Tryd.func35, Tryd.ntmps35
          go_wp2_with (first
            | (go_at_call 58; refine (counted_yes (H1.out.below (below_alloc _ _)) HC.out).mono ?_; rintro e w' ⟨rfl, hw9⟩; obtain rfl := hw9.symm)
            | (go_at_call 59; refine (HSUM.out _ (below_alloc _ _)).mono ?_; rintro e w2 ⟨hb2, G, rfl, hG, hrow2⟩; have HS2 := Hid.mk9 (hrow2.sms (by unfold maxLen; omega)); have HB2 := Hid.mk9 (below2 (below_alloc w _) hb2); clear hrow2 hb2)
            | (go_at_call 48; refine (check_yes HS2.out HM.out).mono ?_; rintro e w3 ⟨rfl, hb3⟩))
          go_returns
          exact ⟨below2 HB2.out hb3, .inl ⟨_, _, _, _, HT.out, HA.out, rfl, HS2.out.below hb3⟩⟩
        · have HA : Hid (∀ ls, ¬ Are N ls) := fun ls hA => hM (by rw [are_sums HN0.out hA]; exact hA.1)
          have HM := Hid.mk9 hM
          clear hM
          go_enter Tryd.func35, Tryd.ntmps35
          go_wp2_with (first
            | (go_at_call 58; refine (counted_yes (H1.out.below (below_alloc _ _)) HC.out).mono ?_; rintro e w' ⟨rfl, hw9⟩; obtain rfl := hw9.symm)
            | (go_at_call 59; refine (HSUM.out _ (below_alloc _ _)).mono ?_; rintro e w2 ⟨hb2, G, rfl, hG, hrow2⟩; have HS2 := Hid.mk9 (hrow2.sms (by unfold maxLen; omega)); have HB2 := Hid.mk9 (below2 (below_alloc w _) hb2); clear hrow2 hb2)
            | (go_at_call 48; refine (check_no HS2.out HM.out).mono ?_; rintro e w3 ⟨rfl, hb3⟩))
          go_returns
          exact unp_no (below2 HB2.out hb3) fun _ => HA.out
      · rw [if_neg hone] at hif
        subst hif
        have HSUM : Hid (∀ W, Below w.heap.size w W → Calls Tryd.prog 59 #[.slice (some ⟨b, off + 1, none⟩) m c3] W fun e w' => SumsPost (N.drop 1) n W e w') := fun W hW => sums_any _ m c3 n (N.drop 1) W (HR.out _ (H1.out.below hW)) HM2.out hn64
        clear HR HM2
        by_cases hM : MayS (sumsL (N.drop 1) n)
        · have HA : Hid (Are N (sumsL (N.drop 1) n)) := sums_are H64.out HLl.out HN0.out hM
          have HM := Hid.mk9 hM
          clear hM
          go_enter Tryd.func35, Tryd.ntmps35
          go_wp2_with (first
            | (go_at_call 58; refine (counted_yes (H1.out.below (below_alloc _ _)) HC.out).mono ?_; rintro e w' ⟨rfl, hw9⟩; obtain rfl := hw9.symm)
            | (go_at_call 59; refine (HSUM.out _ (below_alloc _ _)).mono ?_; rintro e w2 ⟨hb2, G, rfl, hG, hrow2⟩; have HS2 := Hid.mk9 (hrow2.sms (by unfold maxLen; omega)); have HB2 := Hid.mk9 (below2 (below_alloc w _) hb2); clear hrow2 hb2)
            | (go_at_call 48; refine (check_yes HS2.out HM.out).mono ?_; rintro e w3 ⟨rfl, hb3⟩))
          go_returns
          exact ⟨below2 HB2.out hb3, .inl ⟨_, _, _, _, HT.out, HA.out, rfl, HS2.out.below hb3⟩⟩
        · have HA : Hid (∀ ls, ¬ Are N ls) := fun ls hA => hM (by rw [are_sums HN0.out hA]; exact hA.1)
          have HM := Hid.mk9 hM
          clear hM
          go_enter Tryd.func35, Tryd.ntmps35
          go_wp2_with (first
            | (go_at_call 58; refine (counted_yes (H1.out.below (below_alloc _ _)) HC.out).mono ?_; rintro e w' ⟨rfl, hw9⟩; obtain rfl := hw9.symm)
            | (go_at_call 59; refine (HSUM.out _ (below_alloc _ _)).mono ?_; rintro e w2 ⟨hb2, G, rfl, hG, hrow2⟩; have HS2 := Hid.mk9 (hrow2.sms (by unfold maxLen; omega)); have HB2 := Hid.mk9 (below2 (below_alloc w _) hb2); clear hrow2 hb2)
            | (go_at_call 48; refine (check_no HS2.out HM.out).mono ?_; rintro e w3 ⟨rfl, hb3⟩))
          go_returns
          exact unp_no (below2 HB2.out hb3) fun _ => HA.out
    · have HC : Hid (¬ Counted N) := hc
      clear hc
      go_enter Tryd.func35, Tryd.ntmps35
      go_wp2_with (go_at_call 58; refine (counted_no (H1.out.below (below_alloc _ _)) HC.out).mono ?_; rintro e w' ⟨rfl, hw9⟩; obtain rfl := hw9.symm)
      go_returns
      exact unp_no (below_alloc w _) fun _ ls hA => HC.out (are_counted hA)
  · have HT : Hid (texts = [] → ∀ ls, ¬ Are N ls) := fun e => absurd (by rw [← hl2, e]; rfl) ht
    have ht' : ¬ (n2 : Int) = 0 := by omega
    go_enter Tryd.func35, Tryd.ntmps35
    go_wp2_with fail
    go_returns
    exact unp_no (below_alloc w _) HT.out
end Go.Proofs.YtcdlkdbnlomghaaDoor.Bk
