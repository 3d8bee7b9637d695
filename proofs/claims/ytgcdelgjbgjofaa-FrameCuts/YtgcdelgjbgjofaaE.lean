/-
  The contract of FrameNumbers: at every number it returns true, and writes nothing that was there.
-/
import Derived.Test.YtgcdelgjbgjofaaD
import Derived.Deep.RegionWith
namespace Go.Proofs.Ytgcdelgjbgjofaa
open Go.ChangeShapes Go.WideShapes Go.ChangeAt Go.RowKit
/-- what a row of one's own reads as, in every later world -/
theorem text_own {w : World} {base n : Nat} {v : Value} {l : List UInt8} (h : w.ownsRow base 5 1 v n (cellsB l)) :
    ∃ a cap, v = .slice a n cap ∧ (convert 22 9 (.slice a n cap)).run Try.prog w = .ok (.string (txt l)) w ∧ (∀ w', Below w.heap.size w w' → (convert 22 9 (.slice a n cap)).run Try.prog w' = .ok (.string (txt l)) w') ∧ n = l.length := by
  obtain ⟨a, cap, rfl, hr, _⟩ := RowAt.of_own h
  exact ⟨a, cap, rfl, text_of hr, fun w' hb => text_of (hr.below hb), by have := hr.1; rw [cellsB_length] at this; exact this.symm⟩
theorem below_drew (w : World) : Below w.heap.size w w.drew := (Below.refl _ _).drew
theorem below2 {a b c : World} (h1 : Below a.heap.size a b) (h2 : Below b.heap.size b c) : Below a.heap.size a c := h1.trans (h2.mono h1.size)
theorem below3 {a b c d : World} (h1 : Below a.heap.size a b) (h2 : Below b.heap.size b c) (h3 : Below c.heap.size c d) : Below a.heap.size a d := below2 h1 (below2 h2 h3)
set_option maxHeartbeats 4000000 in
set_option maxRecDepth 20000 in
theorem frameNumbers_neg (x : Int) (w : World) (hx : Is64 x) (h0 : x < 0) :
    Calls Try.prog 3 #[.int .i64 x] w fun e w' => e = .returned (.bool true) ∧ Below w.heap.size w w' := by
  go_enter Try.func3, Try.ntmps3
  go_wp2_with (go_at_call 9; refine (frameCount_neg _ _ h0).mono ?_; rintro e w' ⟨rfl, rfl⟩)
  go_region_with (first
    | (go_at_call 10; refine (frameNumber_any _ _ hx).mono ?_; rintro e w1 ⟨v1, rfl, hown1, hbel1⟩; obtain ⟨a1, cap1, rfl, ht1, hu1, _⟩ := text_own hown1)
    | (go_at_call 11; refine (refNumber_any _ _ hx).mono ?_; rintro e w2 ⟨v2, rfl, hown2, hbel2⟩; obtain ⟨a2, cap2, rfl, ht2, hu2, _⟩ := text_own hown2)
    | (go_at_call 12; refine (awake_any _).mono ?_; rintro e w3 ⟨rfl, hbel3⟩))
  all_goals go_wp2
  all_goals go_ret
  all_goals exact ⟨rfl, below2 (below_drew _) (below3 hbel1 hbel2 hbel3)⟩
set_option maxHeartbeats 8000000 in
set_option maxRecDepth 20000 in
theorem frameNumbers_pos (n : Nat) (w : World) (hn : n < 9223372036854775808) :
    Calls Try.prog 3 #[.int .i64 (n : Int)] w fun e w' => e = .returned (.bool true) ∧ Below w.heap.size w w' := by
  have hx : Hid (Is64 (n : Int)) := ⟨by omega, by omega⟩
  go_enter Try.func3, Try.ntmps3
  go_wp2_with (go_at_call 9; refine (frameCount_any n _ hn).mono ?_; rintro e w0 ⟨v0, rfl, hown0, hbel0⟩; obtain ⟨a0, cap0, rfl, ht0, hu0, _⟩ := text_own hown0)
  have htd := hu0 _ (below_drew _)
  go_region_with (first
    | (go_at_call 13; refine (refCount_any n _ hn).mono ?_; rintro e w4 ⟨v4, rfl, hown4, hbel4⟩; obtain ⟨a4, cap4, rfl, ht4, hu4, _⟩ := text_own hown4; have ht04 := hu0 _ (below2 (below_drew _) hbel4))
    | (go_at_call 10; refine (frameNumber_any _ _ hx.out).mono ?_; rintro e w1 ⟨v1, rfl, hown1, hbel1⟩; obtain ⟨a1, cap1, rfl, ht1, hu1, _⟩ := text_own hown1)
    | (go_at_call 11; refine (refNumber_any _ _ hx.out).mono ?_; rintro e w2 ⟨v2, rfl, hown2, hbel2⟩; obtain ⟨a2, cap2, rfl, ht2, hu2, _⟩ := text_own hown2)
    | (go_at_call 12; refine (awake_any _).mono ?_; rintro e w3 ⟨rfl, hbel3⟩))
  all_goals go_wp2
  all_goals go_ret
  all_goals exact ⟨rfl, below3 hbel0 (below2 (below_drew _) hbel4) (below3 hbel1 hbel2 hbel3)⟩
theorem frameNumbers_any (x : Int) (w : World) (hx : Is64 x) :
    Calls Try.prog 3 #[.int .i64 x] w fun e w' => e = .returned (.bool true) ∧ Below w.heap.size w w' := by
  by_cases h0 : x < 0
  · exact frameNumbers_neg x w hx h0
  · obtain ⟨n, rfl⟩ : ∃ n : Nat, x = n := ⟨x.toNat, by omega⟩
    exact frameNumbers_pos n w (by have := hx.2; omega)
end Go.Proofs.Ytgcdelgjbgjofaa
