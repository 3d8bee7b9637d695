/-
  The contracts of awake and of the answer's Ints.
-/
import Derived.Test.YtbconflmjdpolaaN
namespace Go.Proofs.Ytbconflmjdpolaa
open Go.ChangeShapes Go.WideShapes Go.ChangeAt Go.RowKit
def two : List Ch := [(1, 0), (7, 3)]
theorem two_may : MayC two := by
  rw [may_iff]
  refine ⟨by decide, fun c hc => ?_, ?_⟩
  · simp [two] at hc
    rcases hc with rfl | rfl <;> (unfold InC; decide)
  · unfold Rise two
    simp
theorem two_heavy : heavy two = [(7, 3)] := by decide
theorem two_best (key : Nat) : bestC (costOf key) two = some (7, 3) :=
  bestC_eq _ (may_rise two_may) (may_w two_may) ((isBest_heavy _).2 ⟨by rw [two_heavy]; simp, fun c hc => by rw [two_heavy] at hc; simp at hc; exact .inl hc⟩)
theorem two_drawn {key : Nat} {r : Option Ch} (h : DrawnC key two r) : r = some (7, 3) := by
  rcases h with ⟨_, h⟩ | ⟨h, _⟩
  · rw [h, two_best]
  · exact absurd two_may h
theorem two_order {key : Nat} {ids : List Int} (h : OrdC key two ids) : ids = [7] := by
  rcases h with ⟨_, s, hp, _, h⟩ | ⟨h, _⟩
  · rw [two_heavy] at hp
    rw [h, List.perm_singleton.1 hp]
    rfl
  · exact absurd two_may h
theorem two_at (w : World) : ChsAt (w.alloc (.cells #[.int .i64 1, .int .i64 0, .int .i64 7, .int .i64 3] 37)) (some ⟨w.heap.size, 0, none⟩) 2 2 two := by
  refine ⟨rfl, Nat.le_refl _, by unfold maxLen; omega, .inr ⟨w.heap.size, 0, rfl, fun i hi => ?_⟩⟩
  have h : i = 0 ∨ i = 1 := by omega
  rcases h with rfl | rfl
  · exact ⟨by simp [two], by simp [two]⟩
  · exact ⟨by simp [two], by simp [two]⟩
def TruePost (w : World) (e : Ending) (w' : World) : Prop := e = .returned (.bool true) ∧ Below w.heap.size w w'
set_option maxHeartbeats 1000000 in
set_option maxRecDepth 60000 in
theorem awake_any (w : World) : Calls Try.prog 7 #[] w fun e w' => TruePost w e w' := by
  have HB : Hid (∀ W : World, Calls Try.prog 9 #[.int .u64 5, .slice (some ⟨W.heap.size, 0, none⟩) 2 2] (W.alloc (.cells #[.int .i64 1, .int .i64 0, .int .i64 7, .int .i64 3] 37)) fun e w' => e = .returned (.tuple #[.int .i64 7, .bool true]) ∧ Below W.heap.size W w') := fun W =>
    (best_any 5 _ 2 2 two _ (by decide) (two_at W)).mono fun e w' ⟨hb, r, hd, he⟩ => ⟨by rw [he, two_drawn hd]; rfl, below2 (below_alloc _ _) hb⟩
  have HO : Hid (∀ W : World, Calls Try.prog 8 #[.int .u64 5, .slice (some ⟨W.heap.size, 0, none⟩) 2 2] (W.alloc (.cells #[.int .i64 1, .int .i64 0, .int .i64 7, .int .i64 3] 37)) fun e w' => (∃ a cap, e = .returned (.slice a 1 cap)) ∧ Below W.heap.size W w') := fun W =>
    (order_any 5 _ 2 2 two _ (by decide) (two_at W)).mono fun e w' ⟨hb, a, cap, ids, he, _, _, ho⟩ => ⟨⟨a, cap, by rw [he, two_order ho]; rfl⟩, below2 (below_alloc _ _) hb⟩
  go_enter Try.func7, Try.ntmps7
  go_wp2_with (first
    | (go_at_call 9; refine (HB.out _).mono ?_; rintro e w2 ⟨rfl, hb2⟩)
    | (go_at_call 8; refine (HO.out _).mono ?_; rintro e w3 ⟨⟨a3, cap3, rfl⟩, hb3⟩))
  go_ret
  exact ⟨rfl, below2 hb2 hb3⟩
set_option maxHeartbeats 1000000 in
set_option maxRecDepth 60000 in
theorem ints_any (a b : Option Addr) (l r : List Int) (c d : Nat) (w : World) (hl : IntsAt w a l) (hr : IntsAt w b r) (h64 : l.length ≤ 64) (h64' : r.length ≤ 64) (heq : l = r) :
    Calls Try.prog 13 #[.slice a l.length c, .slice b r.length d] w fun e w' => TruePost w e w' := by
  subst heq
  have HL : Hid (IntsAt w a l) := hl
  have HR : Hid (IntsAt w b l) := hr
  clear hl hr h64'
  have h64 : (l.length : Int) ≤ 64 := by omega
  generalize hn : l.length = n at *
  have HN : Hid (l.length = n) := hn
  clear hn
  go_enter Try.func13, Try.ntmps13
  go_wp2_with fail
  go_loopw [5] (fun i wr => ∃ k : Nat, k ≤ n ∧ i = .int .i64 k ∧ Below w.heap.size w wr) (fun i _ => n - (intOf i).toNat)
  case atStart => exact ⟨0, Nat.zero_le _, rfl, Below.refl _ _⟩
  case round =>
    obtain ⟨k, hk, rfl, hbel⟩ := hrel
    by_cases hlt : k < n
    · have hk1 : (k : Int) < (n : Int) := by omega
      have hk0 : (0 : Int) ≤ (k : Int) := by omega
      rcases HL.out.below hbel with h0 | ⟨p, rfl, hp, hcp⟩
      · have := HN.out; rw [h0] at this; simp at this; omega
      rcases HR.out.below hbel with h0 | ⟨q, rfl, hq, hcq⟩
      · have := HN.out; rw [h0] at this; simp at this; omega
      have x0 := cell_grown (a := ⟨p, k, none⟩) hp (hcp k (by have := HN.out; omega))
      have x1 := cell_grown (a := ⟨q, k, none⟩) hq (hcq k (by have := HN.out; omega))
      have HB : Hid (∀ n os, Below w.heap.size w (Go.Sort.grow (wr.drewN n) os)) := fun n os => below2 hbel (below_grow _ _ _)
      clear hcp hcq
      generalize l.getD k 0 = y at *
      go_wp2_with fail
      refine wp_region_QW mixed5 (by kernel_rfl) ?_
      repeat (refine QW_step (fun K hK => ?_); go_simp; first | (refine hK _ ?_; clear hK K) | (apply Exists.intro; refine ⟨fun _ => ?_, hK _ ?_⟩; fail; clear hK K))
      refine QW_nil ?_
      intro _ hw9
      obtain ⟨⟨nq, osq⟩, hw8⟩ := hw9
      subst hw8
      have hb := HB.out nq osq
      go_wp2_with fail
      exact ⟨⟨k + 1, by omega, by go_num, hb⟩, by simp [intOf]; omega⟩
    · go_wp2_with fail
      go_ret
      exact ⟨rfl, hbel⟩
end Go.Proofs.Ytbconflmjdpolaa
