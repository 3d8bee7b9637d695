/-
  The contracts of awake and of the answer's Ints.
-/
import Derived.Test.YtmifdjkaclgibaaGreatDrN
namespace Go.Proofs.YtmifdjkaclgibaaGreat.Dr
open Go.ChangeShapes Go.WideShapes Go.ChangeAt Go.RowKit
def TruePost (w : World) (e : Ending) (w' : World) : Prop := e = .returned (.bool true) ∧ Below w.heap.size w w'
set_option maxHeartbeats 1000000 in
set_option maxRecDepth 60000 in
theorem ints_any (a b : Option Addr) (l r : List Int) (c d : Nat) (w : World) (hl : IntsAt w a l) (hr : IntsAt w b r) (h64 : l.length ≤ 64) (h64' : r.length ≤ 64) (heq : l = r) :
    Calls Tryz.prog 6 #[.slice a l.length c, .slice b r.length d] w fun e w' => TruePost w e w' := by
  subst heq
  have HL : Hid (IntsAt w a l) := hl
  have HR : Hid (IntsAt w b l) := hr
  clear hl hr h64'
  have h64 : (l.length : Int) ≤ 64 := by omega
  generalize hn : l.length = n at *
  have HN : Hid (l.length = n) := hn
  clear hn
  go_enter Tryz.func6, Tryz.ntmps6
  go_wp2_with fail
  go_loopw [5] (fun i wr => ∃ k : Nat, k ≤ n ∧ i = .int .i64 k ∧ Below w.heap.size w wr) (fun i _ => n - (intOf i).toNat)
  case atStart => exact ⟨0, Nat.zero_le _, rfl, Below.refl _ _⟩
  case round =>
    obtain ⟨k, hk, rfl, hbel⟩ := hrel
    by_cases hlt : k < n
    · have hk1 : (k : Int) < (n : Int) := by omega
      have hk0 : (0 : Int) ≤ (k : Int) := by omega
      rcases HL.out.below hbel with h0 | ⟨p, rfl, hp, hcp⟩
      · have := HN.out; rw [h0] at this; simp at this; omega
      rcases HR.out.below hbel with h0 | ⟨q, rfl, hq, hcq⟩
      · have := HN.out; rw [h0] at this; simp at this; omega
      have x0 := cell_grown (a := ⟨p, k, none⟩) hp (hcp k (by have := HN.out; omega))
      have x1 := cell_grown (a := ⟨q, k, none⟩) hq (hcq k (by have := HN.out; omega))
      have HB : Hid (∀ n os, Below w.heap.size w (Go.Sort.grow (wr.drewN n) os)) := fun n os => below2 hbel (below_grow _ _ _)
      clear hcp hcq
      generalize l.getD k 0 = y at *
      go_wp2_with fail
      refine wp_region_QW mixed5 (by kernel_rfl) ?_
      repeat (refine QW_step (fun K hK => ?_); go_simp; first | (refine hK _ ?_; clear hK K) | (apply Exists.intro; refine ⟨fun _ => ?_, hK _ ?_⟩; fail; clear hK K))
      refine QW_nil ?_
      intro _ hw9
      obtain ⟨⟨nq, osq⟩, hw8⟩ := hw9
      subst hw8
      have hb := HB.out nq osq
      go_wp2_with fail
      exact ⟨⟨k + 1, by omega, by go_num, hb⟩, by simp [intOf]; omega⟩
    · go_wp2_with fail
      go_ret
      exact ⟨rfl, hbel⟩
end Go.Proofs.YtmifdjkaclgibaaGreat.Dr
