/-
  The contract of the answer's until: where a sign stands, from somewhere on.
-/
import Derived.Test.YtnjbpiekbekpeaaA
namespace Go.Proofs.Ytnjbpiekbekpeaa
open Go.ChangeShapes Go.WideShapes Go.ChangeAt Go.RowKit
/-- the first place from 'at' on at which c stands, or the text's end -/
def UntilIs (s : ByteArray) (c : UInt8) (p k : Nat) : Prop := p ≤ k ∧ k ≤ s.size ∧ (∀ j (hj : j < s.size), p ≤ j → j < k → ¬ s[j] = c) ∧ (∀ hk : k < s.size, s[k] = c)
def UntilPost (s : ByteArray) (c : UInt8) (p : Nat) (w : World) (e : Ending) (w' : World) : Prop := w' = w ∧ ∃ k, e = .returned (.int .i64 ((k : Nat) : Int)) ∧ UntilIs s c p k
set_option maxHeartbeats 2000000 in
theorem until_any (s : ByteArray) (p : Nat) (c : UInt8) (w : World) (hs : s.size ≤ maxLen) (hp : p ≤ s.size) :
    Calls Try.prog 36 #[.string s, .int .i64 (p : Int), .int .u8 (c.toNat : Int)] w fun e w' => UntilPost s c p w e w' := by
  unfold maxLen at hs
  have hc := c.toNat_lt
  go_enter Try.func36, Try.ntmps36
  go_wp2
  go_loop [1] (fun i => ∃ k : Nat, p ≤ k ∧ k ≤ s.size ∧ i = .int .i64 k ∧ Hid (∀ j (hj : j < s.size), p ≤ j → j < k → ¬ s[j] = c)) (fun i => s.size - (intOf i).toNat)
  case atStart => exact ⟨p, Nat.le_refl _, hp, rfl, fun j _ h1 h2 => absurd h2 (by omega)⟩
  case round =>
    obtain ⟨k, hpk, hk, rfl, hT⟩ := hrel
    by_cases hlt : k < s.size
    · have h2 := s[k].toNat_lt
      by_cases he : s[k] = c
      · have HU : Hid (UntilIs s c p k) := ⟨hpk, hk, hT.out, fun _ => he⟩
        have hq : ((s[k].toNat : Int) != (c.toNat : Int)) = false := by rw [he]; simp
        clear hT he
        go_wp2
        go_ret
        exact ⟨rfl, k, rfl, HU.out⟩
      · have hn : ¬ s[k].toNat = c.toNat := fun e => he (UInt8.toNat_inj.1 e)
        have hq : ((s[k].toNat : Int) != (c.toNat : Int)) = true := by simp; omega
        have HT : Hid (∀ j (hj : j < s.size), p ≤ j → j < k + 1 → ¬ s[j] = c) := fun j hj h1 h2 => by
          by_cases e : j = k
          · subst e; exact he
          · exact hT.out j hj h1 (by omega)
        clear hT he hn
        go_wp2
        refine ⟨⟨k + 1, by omega, by omega, by go_num, HT⟩, by simp [intOf]; omega⟩
    · have HU : Hid (UntilIs s c p k) := ⟨hpk, hk, hT.out, fun h => absurd h hlt⟩
      go_wp2
      go_ret
      exact ⟨rfl, k, rfl, HU.out⟩
end Go.Proofs.Ytnjbpiekbekpeaa
