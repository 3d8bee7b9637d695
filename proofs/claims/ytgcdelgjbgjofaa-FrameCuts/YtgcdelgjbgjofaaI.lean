/-
  The contracts of takeMany, numberOf, takeNums and takeTexts: what bytes begin with, and the bytes behind it.
-/
import Derived.Test.YtgcdelgjbgjofaaH
namespace Go.Proofs.Ytgcdelgjbgjofaa
open Go.ChangeShapes Go.WideShapes Go.ChangeAt Go.RowKit
theorem leadIs_fn {l : List UInt8} {n s m : Nat} {r : List UInt8} (h : LeadIs l n s) (hm : m < 18446744073709551616) (e : l = countL m ++ r) : n = m ∧ s = (countL m).length ∧ l.drop s = r := by
  rcases h with ⟨_, _, h⟩ | ⟨h1, h2, h3⟩
  · exact (h m r hm e).elim
  · have := countL_free n m (l.drop s) r (by rw [← h3, e])
    exact ⟨this.1, by rw [h2, this.1], this.2⟩
theorem leadIs_le {l : List UInt8} {n s : Nat} (h : LeadIs l n s) : s ≤ l.length ∧ s ≤ 10 ∧ n < 18446744073709551616 := by
  rcases h with ⟨rfl, rfl, _⟩ | ⟨h1, h2, h3⟩
  · omega
  · have h4 := countL_le10 n h1
    have h5 := congrArg List.length h3
    rw [List.length_append] at h5
    omega
/-- what takeMany answers: the count, and the bytes behind it, or that there are too few -/
def ManyPost (w : World) (a0 : Option Addr) (len0 cap0 : Nat) (l : List UInt8) (e : Ending) (w' : World) : Prop := w' = w ∧
  ((e = .returned (.tuple #[.int .i64 0, .slice none 0 0, .bool false]) ∧ ∀ m r, m < 18446744073709551616 → l = countL m ++ r → r.length < m) ∨
   ∃ (n : Nat) (a : Option Addr) (len cap : Nat) (r : List UInt8), e = .returned (.tuple #[.int .i64 (n : Int), .slice a len cap, .bool true]) ∧ l = countL n ++ r ∧ n ≤ len ∧ ∀ w', RowAt w' a0 len0 cap0 (cellsB l) → RowAt w' a len cap (cellsB r))
theorem slice_from (a : Option Addr) (len cap : Nat) (l : List UInt8) (s : Nat) (hs : s ≤ len) :
    ∃ a', (if cap = s then a else Option.map (fun x => x.add s) a) = a' ∧ ∀ w, RowAt w a len cap (cellsB l) → RowAt w a' (len - s) (cap - s) (cellsB (l.drop s)) := by
  refine ⟨_, rfl, fun w h => ?_⟩
  have hd := h.drop s hs
  rw [cellsB_drop] at hd
  exact hd
set_option maxHeartbeats 4000000 in
set_option maxRecDepth 20000 in
theorem takeMany_any (a : Option Addr) (len cap : Nat) (l : List UInt8) (w : World) (h : RowAt w a len cap (cellsB l)) :
    Calls Try.prog 47 #[.slice a len cap] w fun e w' => ManyPost w a len cap l e w' := by
  have hl : l.length = len := by simpa [cellsB] using h.1
  have hm : len ≤ maxLen := Nat.le_trans h.2.1 h.2.2.1
  unfold maxLen at hm
  have hcap := h.2.1
  have HR : Hid (RowAt w a len cap (cellsB l)) := h
  clear h
  go_enter Try.func47, Try.ntmps47
  go_wp2_with fail
  refine (lead_any _ _ _ l _ HR.out).mono ?_
  rintro e w1 ⟨rfl, n, s, rfl, hL⟩
  obtain ⟨hs1, hs2, hn⟩ := leadIs_le hL
  rw [hl] at hs1
  have HL : Hid (LeadIs l n s) := hL
  obtain ⟨a', hif, hrow⟩ := slice_from a len cap l s hs1
  have HR2 : Hid (∀ w, RowAt w a len cap (cellsB l) → RowAt w a' (len - s) (cap - s) (cellsB (l.drop s))) := hrow
  clear hrow hL
  by_cases hs0 : s = 0
  · have HN : Hid (NoLead l) := by
      rcases HL.out with ⟨_, _, h⟩ | ⟨_, h, _⟩
      · exact h
      · have := countL_pos n; omega
    subst hs0
    go_wp2
    go_returns
    exact ⟨rfl, .inl ⟨rfl, fun m r hm e => (HN.out m r hm e).elim⟩⟩
  · have h1 : l = countL n ++ l.drop s := by
      rcases HL.out with ⟨_, h, _⟩ | ⟨_, _, h⟩
      · omega
      · exact h
    have H1 : Hid (l = countL n ++ l.drop s) := h1
    clear h1
    by_cases hbig : len - s < n
    · have hbig' : ((len : Int) - (s : Int)) < (n : Int) := by omega
      go_wp2
      go_returns
      refine ⟨rfl, .inl ⟨rfl, fun m r hm e => ?_⟩⟩
      obtain ⟨rfl, _, rfl⟩ := leadIs_fn HL.out hm e
      rw [List.length_drop, hl]
      exact hbig
    · have hbig' : ¬ ((len : Int) - (s : Int)) < (n : Int) := by omega
      have hn63 : n < 9223372036854775808 := by omega
      go_wp2
      go_returns
      refine ⟨rfl, .inr ⟨n, a', len - s, cap - s, l.drop s, rfl, H1.out, by omega, HR2.out⟩⟩
end Go.Proofs.Ytgcdelgjbgjofaa
