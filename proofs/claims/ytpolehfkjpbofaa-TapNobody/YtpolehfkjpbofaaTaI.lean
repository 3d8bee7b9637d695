/-
  The law of nobody's tap.
-/
import Derived.Test.YtpolehfkjpbofaaTaH
namespace Go.Proofs.Ytpolehfkjpbofaa.Ta
open Go.ChangeShapes Go.WideShapes Go.ChangeAt Go.RowKit
open Go.Conc (G solo rcase scase)
theorem hasP_zero (x : Int) : hasP x 0 = false := by
  unfold hasP
  by_cases h : 0 ≤ x
  · rw [decide_eq_false (show ¬ x < ((0 : Nat) : Int) by omega)]; simp
  · simp [h]
theorem below_q {q : Nat} {w w1 w2 : World} (h : Below q w w1) (k : Below w1.heap.size w1 w2) (hq : q ≤ w1.heap.size) : Below q w w2 := h.trans (k.mono hq)
set_option maxHeartbeats 4000000 in
set_option maxRecDepth 60000 in
theorem tapNobody_any (a b c : Int) (w : World) : Calls Try.prog 6 #[.agg #[.int .i64 a, .int .i64 b, .int .i64 c]] w fun e w' => e = .returned (.bool true) ∧ Below w.heap.size w w' := by
  have hq1 : w.heap.size + 1 ≤ (w.alloc (.cells #[.int .i64 a, .int .i64 b, .int .i64 c] 32)).heap.size := by simp
  have HX : Hid ((w.alloc (.cells #[.int .i64 a, .int .i64 b, .int .i64 c] 32)).heap[w.heap.size]? = some (.cells #[.int .i64 a, .int .i64 b, .int .i64 c] 32 (0, 0))) := ⟨heap_alloc_new w _⟩
  have HA : Hid (Below w.heap.size w (w.alloc (.cells #[.int .i64 a, .int .i64 b, .int .i64 c] 32))) := ⟨(Below.refl _ _).alloc (Nat.le_refl _) _⟩
  have HQ := Hid.mk9 hq1
  clear hq1
  go_enter Try.func6, Try.ntmps6
  go_wp2_with fail
  generalize World.alloc _ _ = W9 at HA HX HQ ⊢
  generalize hq : w.heap.size = q at HA HX HQ ⊢
  have HM : Hid (∀ W, Below (q + 1) W9 W → W.cell? ⟨q, 1, none⟩ = some (.int .i64 b) ∧ W.cell? ⟨q, 2, none⟩ = some (.int .i64 c)) := ⟨fun W h => by
    have := (h.block q (by omega)).trans HX.out
    constructor
    · unfold World.cell?; rw [show W.heap[(⟨q, 1, none⟩ : Addr).block]? = _ from this]; rfl
    · unfold World.cell?; rw [show W.heap[(⟨q, 2, none⟩ : Addr).block]? = _ from this]; rfl⟩
  go_loopw [3] (fun i wr => ∃ k : Nat, k ≤ 2 ∧ i = .int .i64 k ∧ Hid (Below (q + 1) W9 wr)) (fun i _ => 2 - (intOf i).toNat)
  case atStart => exact ⟨0, by omega, rfl, ⟨Below.refl _ _⟩⟩
  case round =>
    obtain ⟨k, hk, rfl, HB⟩ := hrel
    have HS : Hid (q + 1 ≤ wr.heap.size) := ⟨Nat.le_trans HQ.out HB.out.size⟩
    have hk3 : k = 0 ∨ k = 1 ∨ k = 2 := by omega
    rcases hk3 with rfl | rfl | rfl
    · have HN : Hid (Nob wr (.pointer none)) := ⟨.inl rfl⟩
      obtain ⟨h1, h2⟩ := HM.out wr HB.out
      clear hk
      go_wp2_with (first
        | (go_at_call 11; refine (take_arg _ b 0 _ HN.out.cnt (hasP_zero b)).mono ?_; rintro e w1 ⟨rfl, rfl⟩)
        | (go_at_call 13; refine (next_nob _ _ HN.out.cnt).mono ?_; rintro e w1 ⟨rfl, rfl⟩)
        | (go_at_call 15; refine (spread_none _ c _ HN.out).mono ?_; rintro e w1 ⟨rfl, hb⟩; replace HN := Hid.mk9 (HN.out.below hb); replace HB := Hid.mk9 (below_q HB.out hb HS.out); replace HS := Hid.mk9 (Nat.le_trans HS.out hb.size); clear hb h1 h2; obtain ⟨h1, h2⟩ := HM.out w1 HB.out)
        | (go_at_call 9; refine (put_arg _ b c 0 _ HN.out.cnt (hasP_zero b)).mono ?_; rintro e w1 ⟨rfl, rfl⟩)
        | (go_at_call 18; refine (counts_none _ _ HN.out.cnt).mono ?_; rintro e w2 ⟨a9, rfl, _, hb⟩; replace HB := Hid.mk9 (below_q HB.out hb HS.out); clear hb; simp only [List.length_nil]))
      exact ⟨⟨1, by omega, by go_num, HB⟩, by simp [intOf]⟩
    · obtain ⟨h1, h2⟩ := HM.out wr HB.out
      clear hk
      go_upto_region 7 with fail
      have HN : Hid (Nob (wr.alloc (.cells #[.slice none 0 0, .int .i64 0] 53)) (.pointer (some ⟨wr.heap.size, 0, none⟩))) := ⟨.inr ⟨_, _, rfl, heap_alloc_new wr _⟩⟩
      replace HB : Hid (Below (q + 1) W9 (wr.alloc (.cells #[.slice none 0 0, .int .i64 0] 53))) := ⟨HB.out.alloc HS.out _⟩
      replace HS : Hid (q + 1 ≤ (wr.alloc (.cells #[.slice none 0 0, .int .i64 0] 53)).heap.size) := ⟨by have := HS.out; simp; omega⟩
      clear h1 h2
      generalize World.alloc _ _ = W8 at HN HB HS ⊢
      obtain ⟨h1, h2⟩ := HM.out W8 HB.out
      go_wp2_with (first
        | (go_at_call 11; refine (take_arg _ b 0 _ HN.out.cnt (hasP_zero b)).mono ?_; rintro e w1 ⟨rfl, rfl⟩)
        | (go_at_call 13; refine (next_nob _ _ HN.out.cnt).mono ?_; rintro e w1 ⟨rfl, rfl⟩)
        | (go_at_call 15; refine (spread_none _ c _ HN.out).mono ?_; rintro e w1 ⟨rfl, hb⟩; replace HN := Hid.mk9 (HN.out.below hb); replace HB := Hid.mk9 (below_q HB.out hb HS.out); replace HS := Hid.mk9 (Nat.le_trans HS.out hb.size); clear hb h1 h2; obtain ⟨h1, h2⟩ := HM.out w1 HB.out)
        | (go_at_call 9; refine (put_arg _ b c 0 _ HN.out.cnt (hasP_zero b)).mono ?_; rintro e w1 ⟨rfl, rfl⟩)
        | (go_at_call 18; refine (counts_none _ _ HN.out.cnt).mono ?_; rintro e w2 ⟨a9, rfl, _, hb⟩; replace HB := Hid.mk9 (below_q HB.out hb HS.out); clear hb; simp only [List.length_nil]))
      exact ⟨⟨2, by omega, by go_num, HB⟩, by simp [intOf]⟩
    · clear hk
      go_wp2_with (go_at_call 8; refine (awake_any _).mono ?_; rintro e w1 ⟨rfl, hb⟩; replace HB := Hid.mk9 (below_q HB.out hb HS.out); clear hb)
      go_ret
      exact ⟨rfl, by rw [hq]; exact HA.out.trans (HB.out.mono (by omega))⟩
end Go.Proofs.Ytpolehfkjpbofaa.Ta
