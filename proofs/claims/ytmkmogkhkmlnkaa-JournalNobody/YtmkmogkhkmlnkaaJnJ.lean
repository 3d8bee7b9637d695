/-
  noughts: whether bytes are noughts alone.
-/
import Derived.Test.YtmkmogkhkmlnkaaJnC
namespace Go.Proofs.Ytmkmogkhkmlnkaa.Dm
open Go.ChangeShapes Go.WideShapes Go.ChangeAt Go.RowKit
set_option maxHeartbeats 1000000 in
theorem nought_any (c : Nat) (w : World) :
    Calls Try.prog 62 #[.int .u8 (c : Int)] w fun e w' => e = .returned (.bool ((c : Int) != 0)) ∧ w' = w := by
  go_enter Try.func62, Try.ntmps62
  go_wp2
  go_ret
  exact ⟨rfl, rfl⟩
/-- the place of the first byte that is none, or below 0 -/
def IxPost (l : List UInt8) (w w' : World) (e : Ending) : Prop := w' = w ∧ ∃ i : Int, e = .returned (.int .i64 i) ∧ (0 ≤ i ↔ ¬ ∀ b ∈ l, b = 0)
theorem take_all {l : List UInt8} {k : Nat} (h : k < l.length) (h1 : ∀ b ∈ l.take k, b = 0) (h2 : l.getD k 0 = 0) : ∀ b ∈ l.take (k + 1), b = 0 := by
  intro b hb
  rw [Fr.take_getD l 0 k h] at hb
  rcases List.mem_append.1 hb with hb | hb
  · exact h1 b hb
  · rw [List.mem_singleton.1 hb]; exact h2
set_option maxHeartbeats 4000000 in
theorem indexB_any (a : Option Addr) (len cap : Nat) (l : List UInt8) (w : World) (h : Fr.RowAt w a len cap (Fr.cellsB l)) :
    Calls Try.prog 66 #[.slice a len cap, .func (.func 62) #[] #[]] w fun e w' => IxPost l w w' e := by
  have hl : l.length = len := by have := h.1; rwa [Fr.cellsB_length] at this
  have HR : Hid (Fr.RowAt w a len cap (Fr.cellsB l)) := h
  have hcap := Nat.le_trans h.2.1 h.2.2.1
  unfold maxLen at hcap
  clear h
  go_enter Try.func66, Try.ntmps66
  go_wp2
  go_loopw [8] (fun i wr => ∃ k : Nat, k ≤ len ∧ i = .int .i64 (k : Int) ∧ wr = w ∧ Hid (∀ b ∈ l.take k, b = 0)) (fun i _ => len - (intOf i).toNat)
  case atStart => exact ⟨0, Nat.zero_le _, rfl, rfl, fun b hb => by simp at hb⟩
  case round =>
    obtain ⟨k, hk, rfl, rfl, HI⟩ := hrel
    by_cases hlt : k < len
    · obtain ⟨b, off, rfl, hcell⟩ := HR.out.some (by omega)
      have hc := hcell k hlt
      rw [Fr.cellsB_get l k (by omega)] at hc
      have hi0 : (0 : Int) ≤ (k : Int) := by omega
      have hi1 : (k : Int) < (len : Int) := by omega
      have HT : Hid (l.getD k 0 = 0 → ∀ b ∈ l.take (k + 1), b = 0) := fun h2 => take_all (by omega) HI.out h2
      have HM : Hid (l.getD k 0 ∈ l) := Fr.getD_mem l 0 k (by omega)
      generalize l.getD k 0 = x at *
      clear hcell
      by_cases hx : x = 0
      · have hq : ((x.toNat : Int) != 0) = false := by rw [hx]; rfl
        have HN : Hid (∀ b ∈ l.take (k + 1), b = 0) := HT.out hx
        clear hx HT HM HI
        go_wp2_with (go_at_call 62; refine (nought_any _ _).mono ?_; rintro en w2 ⟨rfl, rfl⟩)
        go_roundw
        case rel => exact ⟨k + 1, by omega, by go_num, by trivial, HN⟩
        case measure => simp [intOf]; omega
      · have hq : ((x.toNat : Int) != 0) = true := by
          have : x.toNat ≠ 0 := fun e => hx (by rw [← UInt8.toNat_inj]; exact e)
          simp
          omega
        have HN : Hid (¬ ∀ b ∈ l, b = 0) := fun h => hx (h _ HM.out)
        clear hx HT HM HI
        go_wp2_with (go_at_call 62; refine (nought_any _ _).mono ?_; rintro en w2 ⟨rfl, rfl⟩)
        go_ret
        exact ⟨rfl, (k : Int), rfl, by simpa using HN.out⟩
    · obtain rfl : k = len := by omega
      have HN : Hid (∀ b ∈ l, b = 0) := by
        have := HI.out
        rw [List.take_of_length_le (by omega)] at this
        exact this
      have hnlt : ¬ (k : Int) < (k : Int) := by omega
      clear HI
      go_wp2
      go_ret
      exact ⟨rfl, -1, rfl, ⟨fun h => absurd h (by decide), fun h => absurd HN.out h⟩⟩
/-- whether bytes are noughts alone -/
def ZPost (l : List UInt8) (w w' : World) (e : Ending) : Prop := w' = w ∧ ∃ q : Bool, e = .returned (.bool q) ∧ (q = true ↔ ∀ b ∈ l, b = 0)
set_option maxHeartbeats 1000000 in
theorem noughts_any (a : Option Addr) (len cap : Nat) (l : List UInt8) (w : World) (h : Fr.RowAt w a len cap (Fr.cellsB l)) :
    Calls Try.prog 52 #[.slice a len cap] w fun e w' => ZPost l w w' e := by
  have HC : Calls Try.prog 61 #[.slice a len cap, .func (.func 62) #[] #[]] w fun e w' => w' = w ∧ ∃ q : Bool, e = .returned (.bool q) ∧ (q = true ↔ ¬ ∀ b ∈ l, b = 0) := by
    have HI := indexB_any a len cap l w h
    clear h
    go_enter Try.func61, Try.ntmps61
    go_wp2_with (go_at_call 66; refine HI.mono ?_; rintro e w2 ⟨rfl, i, rfl, hi⟩; have Hi : Hid (0 ≤ i ↔ ¬ ∀ b ∈ l, b = 0) := hi; clear hi)
    go_ret
    exact ⟨rfl, _, rfl, by simpa using Hi.out⟩
  clear h
  go_enter Try.func52, Try.ntmps52
  go_wp2_with (go_at_call 61; refine HC.mono ?_; rintro e w2 ⟨rfl, q, rfl, hq⟩; have Hq : Hid (q = true ↔ ¬ ∀ b ∈ l, b = 0) := hq; clear hq)
  go_ret
  refine ⟨rfl, !q, rfl, ?_⟩
  have := Hq.out
  cases q
  · simp at this ⊢
    exact this
  · simp at this ⊢
    exact this
end Go.Proofs.Ytmkmogkhkmlnkaa.Dm
