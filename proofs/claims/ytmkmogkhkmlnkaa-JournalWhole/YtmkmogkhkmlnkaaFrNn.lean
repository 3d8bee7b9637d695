/-
  The contract of Light: it answers.
-/
import Derived.Test.YtmkmogkhkmlnkaaMgA
namespace Go.Proofs.Ytmkmogkhkmlnkaa.Fr
open Go.ChangeShapes Go.WideShapes Go.ChangeAt Go.RowKit
def BoolPost (w : World) (e : Ending) (w' : World) : Prop := Below w.heap.size w w' ∧ ∃ q : Bool, e = .returned (.bool q)
set_option maxHeartbeats 4000000 in
set_option maxRecDepth 60000 in
theorem light_any (v : Value) (nums : List Int) (texts : List ByteArray) (w : World) (h : DataAt w v nums texts) :
    Calls Try.prog 22 #[v] w fun e w' => BoolPost w e w' := by
  obtain ⟨a1, n1, c1, a2, n2, c2, rfl, h1, h2, h3, h4⟩ := h
  have hl1 : nums.length = n1 := by simpa [cellsI] using h1.1
  have hl2 : texts.length = n2 := by simpa [cellsT] using h2.1
  have hm1 : n1 ≤ maxLen := Nat.le_trans h1.2.1 h1.2.2.1
  have hm2 : n2 ≤ maxLen := Nat.le_trans h2.2.1 h2.2.2.1
  unfold maxLen at hm1 hm2
  have H2 : Hid (RowAt w a2 n2 c2 (cellsT texts)) := h2
  clear h1 h2
  have B0 : Below w.heap.size w (w.alloc (.cells #[.slice a1 n1 c1, .slice a2 n2 c2] 38)) := (Below.refl _ _).alloc (Nat.le_refl _) _
  have hr2 := H2.out.below B0
  have H3 : Hid (RowAt (w.alloc (.cells #[.slice a1 n1 c1, .slice a2 n2 c2] 38)) a2 n2 c2 (cellsT texts)) := hr2
  clear hr2
  go_enter Try.func22, Try.ntmps22
  go_wp2
  go_loop [3, 4] (fun t i => ∃ k m : Nat, k ≤ n2 ∧ i = .int .i64 (k : Int) ∧ t = .int .i64 (m : Int) ∧ Hid (m ≤ 10000)) (fun _ i => n2 - (intOf i).toNat)
  case atStart => exact ⟨0, 0, Nat.zero_le _, rfl, rfl, Nat.zero_le _⟩
  case round =>
    obtain ⟨k, m, hk, rfl, rfl, hm⟩ := hrel
    have hm' : ((m : Nat) : Int) ≤ 10000 := by have := hm.out; omega
    by_cases hlt : k < n2 ∧ k < 400
    · obtain ⟨hlt, h400⟩ := hlt
      have h400' : ((k : Nat) : Int) < 400 := by omega
      clear h400
      obtain ⟨b, off, rfl, hcell⟩ := H3.out.some (by omega)
      have hc := hcell k hlt
      rw [cellsT_get texts k (by omega)] at hc
      have h6 := h4 _ (getD_mem texts ByteArray.empty k (by omega))
      clear hcell
      generalize texts.getD k ByteArray.empty = x at *
      unfold maxLen at h6
      by_cases hb : (10000 : Int) - (m : Int) < (x.size : Int)
      · go_wp2
        go_ret
        exact ⟨B0, _, rfl⟩
      · go_wp2
        go_round
        case rel => exact ⟨k + 1, m + x.size, by omega, by go_num, by go_num, by show _ ≤ _; omega⟩
        case measure => simp [intOf]; omega
    · have hex : k = n2 ∨ (k < n2 ∧ ¬ ((k : Nat) : Int) < 400) := by omega
      clear hlt
      rcases hex with hex | ⟨hex, hex2⟩
      all_goals
        go_wp2
        all_goals go_ret
        all_goals exact ⟨B0, _, rfl⟩
end Go.Proofs.Ytmkmogkhkmlnkaa.Fr
