/-
  The contract of Best: who is drawn.
-/
import Derived.Test.YtcncbjknfcjnmaaGreatDrJ
import Derived.Handy
namespace Go.Proofs.YtcncbjknfcjnmaaGreat.Dr
open Go.ChangeShapes Go.WideShapes Go.ChangeAt Go.RowKit
def idO : Option Ch → Int
  | none => 0
  | some c => c.1
def isO : Option Ch → Bool
  | none => false
  | some _ => true
theorem own_some {w : World} {B T m : Nat} {v : Value} {n : Nat} {xs : List Value} (h : w.ownsRow B T m v n xs) (h0 : 0 < n) : ∃ g cap, v = .slice (some ⟨g, 0, none⟩) n cap ∧ B ≤ g ∧ g < w.heap.size ∧ n ≤ cap := by
  have hlt := h.lt
  rcases h.2 with ⟨_, h1⟩ | ⟨g, cap, cur, rfl, hg, hh, hc, _⟩
  · omega
  · exact ⟨g, cap, rfl, hg, (hlt g rfl).2, hc⟩
theorem own_slice {w : World} {B T m : Nat} {v : Value} {n : Nat} {xs : List Value} (h : w.ownsRow B T m v n xs) : ∃ a cap, v = .slice a n cap ∧ n ≤ cap := by
  rcases h.2 with ⟨rfl, rfl⟩ | ⟨g, cap, cur, rfl, hg, hh, hc, _⟩
  · exact ⟨none, 0, rfl, Nat.le_refl _⟩
  · exact ⟨_, cap, rfl, hc⟩
theorem may_heavy {ls : List Ch} (h : MayC ls) : ∀ c ∈ heavy ls, 1 ≤ c.2 ∧ c.2 ≤ 65536 := fun c hc => by
  have h1 := heavy_mem.1 hc
  have := ((may_iff ls).1 h).2.1 c h1.1
  exact ⟨by omega, this.2.2.2⟩
theorem may_w {ls : List Ch} (h : MayC ls) : ∀ c ∈ ls, 0 ≤ c.2 := fun c hc => (((may_iff ls).1 h).2.1 c hc).2.2.1
theorem may_rise {ls : List Ch} (h : MayC ls) : Rise ls := ((may_iff ls).1 h).2.2
end Go.Proofs.YtcncbjknfcjnmaaGreat.Dr
