/-
  The law BitsNobody.
-/
import Derived.Test.YtjdgcbdpeooogaaDoorBiS
namespace Go.Proofs.YtjdgcbdpeooogaaDoor.Bi
open Go.ChangeShapes Go.WideShapes Go.ChangeAt Go.RowKit
def YesPost (w : World) (e : Ending) (w' : World) : Prop := e = .returned (.bool true) ∧ Below w.heap.size w w'
set_option maxHeartbeats 1000000 in
set_option maxRecDepth 60000 in
theorem nobody_any (n : Int) (w : World) (hT : Tab w) : Calls Tryd.prog 7 #[.int .i64 n] w fun e w' => YesPost w e w' := by
  have HT := Hid.mk9 hT
  clear hT
  go_enter Tryd.func7, Tryd.ntmps7
  go_wp2_with fail
  go_loopw [3] (fun i wr => ∃ k : Nat, i = .int .i64 (k : Int) ∧ Hid (k ≤ 2) ∧ Hid (Below w.heap.size w wr)) (fun i _ => 2 - (intOf i).toNat)
  case atStart => exact ⟨0, rfl, by unfold Hid; decide, Below.refl _ _⟩
  case round =>
    obtain ⟨k, rfl, hk, HB⟩ := hrel
    have hk2 : k = 0 ∨ k = 1 ∨ k = 2 := by have := hk.out; omega
    rcases hk2 with rfl | rfl | rfl
    · clear hk
      have HTk : Hid (∀ W, Calls Tryd.prog 22 #[.pointer none, .int .i64 1] W fun e w' => e = .returned (.tuple #[.int .u64 0, .int .i64 2]) ∧ Grown W w') := fun W => take_few (.pointer none) 1 0 W (by decide) ((left_nil W).mono fun e w' h => ⟨h.1, h.2 ▸ grown_refl W⟩) (by decide)
      have hz : (((0 : Nat) : Int)) = 0 := rfl
      rw [hz]
      clear hz
      go_wp2_with (first | (go_at_call 24; refine (rnum_nil _).mono ?_; rintro e w9 ⟨rfl, hw9⟩; obtain rfl := hw9.symm) | (go_at_call 22; refine (HTk.out _).mono ?_; rintro e w8 ⟨rfl, hg8⟩; have HB9 := Hid.mk9 (below2 HB.out (grown_below hg8)); clear hg8) | (go_at_call 26; refine (seek_nil _ _).mono ?_; rintro e w9 ⟨rfl, hw9⟩; obtain rfl := hw9.symm) | (go_at_call 27; refine (at_nil _).mono ?_; rintro e w9 ⟨rfl, hw9⟩; obtain rfl := hw9.symm) | (go_at_call 28; refine (left_nil _).mono ?_; rintro e w9 ⟨rfl, hw9⟩; obtain rfl := hw9.symm))
      exact ⟨⟨1, by go_num, by unfold Hid; decide, HB9.out⟩, by simp [intOf]⟩
    · clear hk
      by_cases hn : n = 0
      · subst hn
        have hz : (((1 : Nat) : Int)) = 1 := rfl
        rw [hz]
        clear hz
        go_upto_region 7 with fail
        have HR1 := Hid.mk9 (RdAt.zero wr)
        have HB1 := Hid.mk9 (below2 HB.out (below_alloc wr (.cells #[.slice none 0 0, .int .i64 0, .int .i64 0] 61)))
        have HP1 : Hid (w.heap.size ≤ wr.heap.size) := HB.out.size
        generalize wr.alloc (.cells #[.slice none 0 0, .int .i64 0, .int .i64 0] 61) = w1 at *
        generalize wr.heap.size = p at *
        have H1 := Hid.mk9 (rnum_no p 0 [] w1 HR1.out (HT.out.below HB1.out) (num_end []))
        go_upto_region 8 with (go_at_call 24; refine H1.out.mono ?_; rintro e w2 ⟨rfl, hr2, hk2⟩; have HR2 := Hid.mk9 hr2; have HB2 := Hid.mk9 (hk2.below _ _ HB1.out HP1.out); clear hr2 hk2)
        have H2 := Hid.mk9 (take_few (.pointer (some ⟨p, 0, none⟩)) 1 0 w2 (by decide) (left_any p 0 [] w2 HR2.out) (by decide))
        go_upto_region 9 with (go_at_call 22; refine H2.out.mono ?_; rintro e w3 ⟨rfl, hg3⟩; have HR3 := Hid.mk9 (HR2.out.below (grown_below hg3)); have HB3 := Hid.mk9 (below2 HB2.out (grown_below hg3)); clear hg3)
        have HLf : Hid (∀ W, RdAt W p [] 0 → Calls Tryd.prog 28 #[.pointer (some ⟨p, 0, none⟩)] W fun e w' => e = .returned (.int .i64 0) ∧ Grown W w') := fun W h => left_any p 0 [] W h
        have H3 := Hid.mk9 (seek_yes p 0 0 [] w3 HR3.out (by decide))
        go_wp2_with (first | (go_at_call 26; refine H3.out.mono ?_; rintro e w4 ⟨rfl, hr4, hk4⟩; have HR4 := Hid.mk9 hr4; have HB4 := Hid.mk9 (hk4.below _ _ HB3.out HP1.out); clear hr4 hk4) | (go_at_call 27; refine (at_any p 0 [] _ HR4.out).mono ?_; rintro e w9 ⟨rfl, hw9⟩; obtain rfl := hw9.symm) | (go_at_call 28; refine (HLf.out _ HR4.out).mono ?_; rintro e w5 ⟨rfl, hg5⟩; have HB9 := Hid.mk9 (below2 HB4.out (grown_below hg5)); clear hg5))
        exact ⟨⟨2, by go_num, by unfold Hid; decide, HB9.out⟩, by simp [intOf]⟩
      · have hne : (n == 0) = false := by rw [beq_eq_false_iff_ne]; exact hn
        have hz : (((1 : Nat) : Int)) = 1 := rfl
        rw [hz]
        clear hz
        go_upto_region 7 with fail
        have HR1 := Hid.mk9 (RdAt.zero wr)
        have HB1 := Hid.mk9 (below2 HB.out (below_alloc wr (.cells #[.slice none 0 0, .int .i64 0, .int .i64 0] 61)))
        have HP1 : Hid (w.heap.size ≤ wr.heap.size) := HB.out.size
        generalize wr.alloc (.cells #[.slice none 0 0, .int .i64 0, .int .i64 0] 61) = w1 at *
        generalize wr.heap.size = p at *
        have H1 := Hid.mk9 (rnum_no p 0 [] w1 HR1.out (HT.out.below HB1.out) (num_end []))
        go_upto_region 8 with (go_at_call 24; refine H1.out.mono ?_; rintro e w2 ⟨rfl, hr2, hk2⟩; have HR2 := Hid.mk9 hr2; have HB2 := Hid.mk9 (hk2.below _ _ HB1.out HP1.out); clear hr2 hk2)
        have H2 := Hid.mk9 (take_few (.pointer (some ⟨p, 0, none⟩)) 1 0 w2 (by decide) (left_any p 0 [] w2 HR2.out) (by decide))
        go_upto_region 9 with (go_at_call 22; refine H2.out.mono ?_; rintro e w3 ⟨rfl, hg3⟩; have HR3 := Hid.mk9 (HR2.out.below (grown_below hg3)); have HB3 := Hid.mk9 (below2 HB2.out (grown_below hg3)); clear hg3)
        have HLf : Hid (∀ W, RdAt W p [] 0 → Calls Tryd.prog 28 #[.pointer (some ⟨p, 0, none⟩)] W fun e w' => e = .returned (.int .i64 0) ∧ Grown W w') := fun W h => left_any p 0 [] W h
        have H3 := Hid.mk9 (seek_no p 0 n [] w3 HR3.out (by simp; omega))
        go_wp2_with (first | (go_at_call 26; refine (H3.out).mono ?_; rintro e w9 ⟨rfl, hw9⟩; obtain rfl := hw9.symm) | (go_at_call 27; refine (at_any p 0 [] _ HR3.out).mono ?_; rintro e w9 ⟨rfl, hw9⟩; obtain rfl := hw9.symm) | (go_at_call 28; refine (HLf.out _ HR3.out).mono ?_; rintro e w5 ⟨rfl, hg5⟩; have HB9 := Hid.mk9 (below2 HB3.out (grown_below hg5)); clear hg5))
        exact ⟨⟨2, by go_num, by unfold Hid; decide, HB9.out⟩, by simp [intOf]⟩
    · have hz : (((2 : Nat) : Int)) = 2 := rfl
      rw [hz]
      clear hz hk
      go_wp2_with (go_at_call 9; refine (awake_any _ (HT.out.below HB.out)).mono ?_; rintro e w9 ⟨rfl, hb9⟩; have HB9 := Hid.mk9 (below2 HB.out hb9); clear hb9)
      go_ret
      exact ⟨rfl, HB9.out⟩
end Go.Proofs.YtjdgcbdpeooogaaDoor.Bi
