/-
  The law GorillaNobody.
-/
import Derived.Test.YtcdlkdbnlomghabDoorGlL
import Derived.Test.YtcdlkdbnlomghabDoorGlF
namespace Go.Proofs.YtcdlkdbnlomghabDoor.Gl
open Go.ChangeShapes Go.WideShapes Go.ChangeAt Go.RowKit
open Go.Proofs.YtcdlkdbnlomghabDoor.Bi
open Go.Proofs.YtcdlkdbnlomghabDoor.Fr (RowAt cellsI cellsI_get)
open Go.Proofs.YtcdlkdbnlomghabDoor.Bk (rT rV)
theorem kp_b2 {w w' : World} {p b T : Nat} {v0 v1 : Value} (h : KpB p w w') (hx : B2 w b T v0 v1) (hne : b ≠ p) : B2 w' b T v0 v1 := hx.kept (h.else_ b hx.lt hne)
theorem cur_new (w : World) : CurAt (w.alloc (.cells #[.slice none 0 0] 25)) w.heap.size [] := ⟨none, 0, 0, heap_alloc_new w _, ⟨rfl, Nat.le_refl _, Nat.zero_le _, .inl rfl⟩, .inl rfl⟩
set_option maxHeartbeats 1000000 in
set_option maxRecDepth 60000 in
theorem nobody_any (t : Int) (w : World) (hT : Tab w) : Calls Tryd.prog 3 #[.int .i64 t] w fun e w' => e = .returned (.bool true) ∧ Below w.heap.size w w' := by
  have HT := Hid.mk9 hT
  clear hT
  go_enter Tryd.func3, Tryd.ntmps3
  go_upto_region 2 with fail
  go_loopw [3] (fun i wr => ∃ k : Nat, (k : Int) ≤ 2 ∧ i = .int .i64 (k : Int) ∧ Hid (Below w.heap.size w wr)) (fun i _ => 2 - (intOf i).toNat)
  case atStart => exact ⟨0, by omega, rfl, Below.refl _ _⟩
  case round =>
    obtain ⟨k, hk, rfl, HB⟩ := hrel
    by_cases h0 : k = 0
    · subst h0
      have HN := Hid.mk9 (next_nil wr)
      go_upto_region 8 with (go_at_call 4; refine HN.out.mono ?_; rintro e w2 ⟨rfl, hb2⟩; have HB2 := Hid.mk9 (below2 HB.out hb2); clear hb2 HN)
      have HB3 := Hid.mk9 (below2 HB2.out (below_alloc w2 (.cells #[.int .i64 0, .int .i64 0] 27)))
      have HD3 := Hid.mk9 (B2.new w2 27 (.int .i64 0) (.int .i64 0))
      clear HB2 HB
      generalize w2.alloc (.cells #[.int .i64 0, .int .i64 0] 27) = w3 at *
      generalize w2.heap.size = D at *
      have HS3 := Hid.mk9 (skip_nil t w3)
      go_upto_region 9 with (go_at_call 5; refine HS3.out.mono ?_; rintro e w4 ⟨rfl, hb4⟩; have HB4 := Hid.mk9 (below2 HB3.out hb4); have HD4 := Hid.mk9 (HD3.out.below hb4); clear hb4 HS3 HB3 HD3)
      have HB5 := Hid.mk9 (below2 HB4.out (below_alloc w4 (.cells #[.int .i64 0, .int .i64 0] 27)))
      have HE5 := Hid.mk9 (B2.new w4 27 (.int .i64 0) (.int .i64 0))
      have HD5 := Hid.mk9 (HD4.out.below (below_alloc w4 (.cells #[.int .i64 0, .int .i64 0] 27)))
      clear HB4 HD4
      generalize w4.alloc (.cells #[.int .i64 0, .int .i64 0] 27) = w5 at *
      generalize w4.heap.size = E at *
      obtain ⟨x0, x1⟩ := HD5.out.cells
      obtain ⟨y0, y1⟩ := HE5.out.cells
      go_wp2_with fail
      exact ⟨⟨1, by omega, by simp, HB5.out⟩, by simp [intOf]⟩
    · by_cases h1 : k = 1
      · subst h1
        have HB1 := Hid.mk9 (below2 HB.out (below_alloc wr (.cells #[.slice none 0 0] 25)))
        have HC1 := Hid.mk9 (cur_new wr)
        go_upto_region 7 with fail
        generalize wr.alloc (.cells #[.slice none 0 0] 25) = w1 at *
        obtain ⟨p, hp⟩ : ∃ p, wr.heap.size = p := ⟨_, rfl⟩
        have HPw : Hid (w.heap.size ≤ p) := by rw [← hp]; exact HB.out.size
        rw [hp] at HC1 ⊢
        clear hp HB
        have HN : Hid (Calls Tryd.prog 4 #[.pointer (some ⟨p, 0, none⟩)] w1 fun e w' => KpB p w1 w' ∧ CurAt w' p [] ∧ e = .returned (.tuple #[.agg #[.int .i64 0, .int .i64 0], .bool false])) := next_end p w1 HC1.out
        go_upto_region 8 with (go_at_call 4; refine HN.out.mono ?_; rintro e w2 ⟨hk2, hc2, rfl⟩; have HB2 := Hid.mk9 (hk2.below _ _ HB1.out HPw.out); have HC2 := Hid.mk9 hc2; clear hk2 hc2 HN HB1 HC1)
        have HB3 := Hid.mk9 (below2 HB2.out (below_alloc w2 (.cells #[.int .i64 0, .int .i64 0] 27)))
        have HC3 := Hid.mk9 (HC2.out.below (below_alloc w2 (.cells #[.int .i64 0, .int .i64 0] 27)))
        have HD3 := Hid.mk9 (B2.new w2 27 (.int .i64 0) (.int .i64 0))
        have HDp : Hid (w2.heap.size ≠ p) := by have := HC2.out.lt; unfold Hid; omega
        clear HB2 HC2
        generalize w2.alloc (.cells #[.int .i64 0, .int .i64 0] 27) = w3 at *
        generalize w2.heap.size = D at *
        have HS3 : Hid (Calls Tryd.prog 5 #[.pointer (some ⟨p, 0, none⟩), .int .i64 t] w3 fun e w' => KpB p w3 w' ∧ CurAt w' p [] ∧ e = .returned (.tuple #[.agg #[.int .i64 0, .int .i64 0], .bool false])) := skip_any p t [] w3 HC3.out
        go_upto_region 9 with (go_at_call 5; refine HS3.out.mono ?_; rintro e w4 ⟨hk4, hc4, rfl⟩; have HB4 := Hid.mk9 (hk4.below _ _ HB3.out HPw.out); have HD4 := Hid.mk9 (kp_b2 hk4 HD3.out HDp.out); clear hk4 hc4 HS3 HB3 HD3 HC3)
        have HB5 := Hid.mk9 (below2 HB4.out (below_alloc w4 (.cells #[.int .i64 0, .int .i64 0] 27)))
        have HE5 := Hid.mk9 (B2.new w4 27 (.int .i64 0) (.int .i64 0))
        have HD5 := Hid.mk9 (HD4.out.below (below_alloc w4 (.cells #[.int .i64 0, .int .i64 0] 27)))
        clear HB4 HD4
        generalize w4.alloc (.cells #[.int .i64 0, .int .i64 0] 27) = w5 at *
        generalize w4.heap.size = E at *
        obtain ⟨x0, x1⟩ := HD5.out.cells
        obtain ⟨y0, y1⟩ := HE5.out.cells
        go_wp2_with fail
        exact ⟨⟨2, by omega, by simp, HB5.out⟩, by simp [intOf]⟩
      · obtain rfl : k = 2 := by omega
        have HA := Hid.mk9 (awake_any wr (HT.out.below HB.out))
        go_wp2_with (go_at_call 6; refine HA.out.mono ?_; rintro e w9 ⟨rfl, hb9⟩; have HB9 := Hid.mk9 (below2 HB.out hb9); clear hb9)
        go_ret
        exact ⟨rfl, HB9.out⟩
end Go.Proofs.YtcdlkdbnlomghabDoor.Gl
