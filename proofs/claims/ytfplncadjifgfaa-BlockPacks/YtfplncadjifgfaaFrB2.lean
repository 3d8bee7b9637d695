/-
  The contracts of the answer's counts and numbers.
-/
import Derived.Test.YtfplncadjifgfaaFrB
namespace Go.Proofs.Ytfplncadjifgfaa.Fr
open Go.ChangeShapes Go.WideShapes Go.ChangeAt Go.RowKit
set_option maxHeartbeats 1000000 in
set_option maxRecDepth 20000 in
theorem refcount_any (u : Nat) : ∀ (w : World), u < 18446744073709551616 →
    Calls Try.prog 32 #[.int .u64 (u : Int)] w fun e w' => ∃ v', e = .returned v' ∧ w'.ownsRow w.heap.size 5 1 v' (countL u).length (cellsB (countL u)) ∧ Below w.heap.size w w' := by
  induction u using Nat.strongRecOn with
  | ind u ih =>
    intro w hu
    by_cases hlt : u < 128
    · go_enter Try.func32, Try.ntmps32
      go_wp2
      go_ret
      refine ⟨_, rfl, ?_, (Below.refl _ _).alloc (Nat.le_refl _) _⟩
      rw [countL_small u hlt, cellsB_one u _ (toNat_small u hlt)]
      exact World.ownsRow_lit (base := w.heap.size) (e := 5) (size := 1) w #[.int .u8 (u : Int)] 1 (Nat.le_refl _) (by unfold maxLen; omega) rfl
    · obtain ⟨i0, hi, hz0, hz1, hz2⟩ := info_parts info5
      have ih' := ih (u / 128) (by omega)
      have hcb := cellsB_one (u % 128 + 128) _ (toNat_big u)
      have HE : Hid (countL u = UInt8.ofNat (u % 128 + 128) :: countL (u / 128)) := countL_big u hlt
      have HCB : Hid (cellsB [UInt8.ofNat (u % 128 + 128)] = [.int .u8 ((u % 128 + 128 : Nat) : Int)]) := hcb
      have h10 := countL_le10 (u / 128) (by omega)
      have hp := countL_pos (u / 128)
      have e1 : (u : Int) % 128 + 128 = ((u % 128 + 128 : Nat) : Int) := by omega
      have e2 : (u : Int) / 128 = ((u / 128 : Nat) : Int) := by omega
      have hq : u / 128 < 18446744073709551616 := by omega
      have hc : u % 128 + 128 < 256 := by omega
      clear ih hcb
      generalize UInt8.ofNat (u % 128 + 128) = c8 at *
      generalize u % 128 + 128 = c at *
      generalize u / 128 = q at *
      go_enter Try.func32, Try.ntmps32
      go_wp2_with (first
        | (go_at_call 32; refine (ih' _ hq).mono ?_; rintro e w1 ⟨v', rfl, hown, hbel⟩; obtain ⟨g, cap, rfl, hg, hg2, hcs⟩ := own_form hown hp)
        | (at_builtin; refine wpList_append_own _ rfl (.tmp 12) (.tmp 15) 38 rfl w.heap.size 5 i0 (.int .u8 0) 1 1 Try.underlying38 hi hz0 hz1 hz2 rfl (by decide) _ 1 [.int .u8 (c : Int)] rfl (own_below (World.ownsRow_lit (base := w.heap.size) (e := 5) (size := 1) w #[.int .u8 (c : Int)] 1 (Nat.le_refl _) (by unfold maxLen; omega) rfl) hbel) ⟨g, 0, none⟩ _ cap (cellsB (countL q)) rfl (by rw [cellsB_length, Nat.mul_one]) hcs (one_cellsB _) (by unfold maxLen; omega) (by omega) (by have := hbel.size; simp at this; omega) ?_))
      intro v2 w2 hown2 hgrow _
      go_wp2
      go_ret
      refine ⟨_, rfl, ?_, (((Below.refl _ _).alloc (Nat.le_refl _) _).trans (hbel.mono (by simp))).grown hgrow (by have := hbel.size; simp at this; omega) (by intro k hk; simp [Value.ownBlock] at hk; omega)⟩
      rw [HE.out, List.length_cons, show c8 :: countL q = [c8] ++ countL q from rfl, cellsB_append, HCB.out, Nat.add_comm]
      exact hown2

theorem refCount_any (n : Nat) (w : World) (hn : n < 9223372036854775808) :
    Calls Try.prog 26 #[.int .i64 (n : Int)] w fun e w' => ∃ v', e = .returned v' ∧ w'.ownsRow w.heap.size 5 1 v' (countL n).length (cellsB (countL n)) ∧ Below w.heap.size w w' := by
  go_enter Try.func26, Try.ntmps26
  go_wp2_with (go_at_call 32; refine (refcount_any n _ (by omega)).mono ?_; rintro e w1 ⟨v', rfl, hown, hbel⟩)
  go_ret
  exact ⟨_, rfl, hown, hbel⟩
theorem refcount_z (z : Int) (u : Nat) (w : World) (hz : z = (u : Int)) (hu : u < 18446744073709551616) :
    Calls Try.prog 32 #[.int .u64 z] w fun e w' => ∃ v', e = .returned v' ∧ w'.ownsRow w.heap.size 5 1 v' (countL u).length (cellsB (countL u)) ∧ Below w.heap.size w w' := by
  subst hz; exact refcount_any u w hu
theorem refNumber_any (x : Int) (w : World) (hx : Is64 x) :
    Calls Try.prog 27 #[.int .i64 x] w fun e w' => ∃ v', e = .returned v' ∧ w'.ownsRow w.heap.size 5 1 v' (countL (numberN x)).length (cellsB (countL (numberN x))) ∧ Below w.heap.size w w' := by
  obtain ⟨h1, h2⟩ := hx
  have hN := numberN_lt ⟨h1, h2⟩
  have hd : Hid (numberN x = if 0 ≤ x then (2 * x).toNat else (-2 * x - 1).toNat) := rfl
  generalize numberN x = N at *
  by_cases h0 : 0 ≤ x
  · have hd' := hd.out
    rw [if_pos h0] at hd'
    go_enter Try.func27, Try.ntmps27
    go_wp2_with (go_at_call 32; refine (refcount_z _ N _ (by omega) hN).mono ?_; rintro e w1 ⟨v', rfl, hown, hbel⟩)
    go_ret
    exact ⟨_, rfl, hown, hbel⟩
  · have hd' := hd.out
    rw [if_neg h0] at hd'
    go_enter Try.func27, Try.ntmps27
    go_wp2_with (go_at_call 32; refine (refcount_z _ N _ (by omega) hN).mono ?_; rintro e w1 ⟨v', rfl, hown, hbel⟩)
    go_ret
    exact ⟨_, rfl, hown, hbel⟩
end Go.Proofs.Ytfplncadjifgfaa.Fr
