/-
  Asked, of no kind.
-/
import Derived.Test.YtejhmacbbdnlbaaAcC
namespace Go.Proofs.Ytejhmacbbdnlbaa.Ac
open Go.ChangeShapes Go.WideShapes Go.ChangeAt Go.RowKit
set_option maxHeartbeats 8000000 in
set_option maxRecDepth 60000 in
theorem asked_0 (k id z r wt g : Int) (hn : inB k 1 10 = false) (ad : Option Addr) (ld cd : Nat) (ns : List Int) (w : World) (hR : RowI w ad ld cd ns) :
    Calls Try.prog 28 #[.agg #[.int .i64 k, .int .i64 id, .int .i64 z, .int .i64 r, .int .i64 wt, .int .i64 g, .slice ad ld cd]] w fun e w' => AskPost ⟨k, id, z, r, wt, g, ns⟩ w e w' := by
  have HB := Hid.mk9 (below2 (below2 (below_alloc w (.cells #[.int .i64 k, .int .i64 id, .int .i64 z, .int .i64 r, .int .i64 wt, .int .i64 g, .slice ad ld cd] 28)) (below_alloc _ (.cells #[.int .i64 0, .int .i64 0, .int .i64 0, .int .i64 0, .int .i64 0, .int .i64 0, .slice none 0 0] 28))) (below_alloc _ (.cells #[.int .i64 k, .int .i64 0, .int .i64 0, .int .i64 0, .int .i64 0, .int .i64 0, .slice none 0 0] 28)))
  have HX := Hid.mk9 (((B7.new w 28 (.int .i64 k) (.int .i64 id) (.int .i64 z) (.int .i64 r) (.int .i64 wt) (.int .i64 g) (.slice ad ld cd)).below (below_alloc _ (.cells #[.int .i64 0, .int .i64 0, .int .i64 0, .int .i64 0, .int .i64 0, .int .i64 0, .slice none 0 0] 28))).below (below_alloc _ (.cells #[.int .i64 k, .int .i64 0, .int .i64 0, .int .i64 0, .int .i64 0, .int .i64 0, .slice none 0 0] 28)))
  have HY : Hid (B7 (((w.alloc (.cells #[.int .i64 k, .int .i64 id, .int .i64 z, .int .i64 r, .int .i64 wt, .int .i64 g, .slice ad ld cd] 28)).alloc (.cells #[.int .i64 0, .int .i64 0, .int .i64 0, .int .i64 0, .int .i64 0, .int .i64 0, .slice none 0 0] 28)).alloc (.cells #[.int .i64 k, .int .i64 0, .int .i64 0, .int .i64 0, .int .i64 0, .int .i64 0, .slice none 0 0] 28)) (w.heap.size + 1) 28 (.int .i64 0) (.int .i64 0) (.int .i64 0) (.int .i64 0) (.int .i64 0) (.int .i64 0) (.slice none 0 0)) := by
    have := (B7.new (w.alloc (.cells #[.int .i64 k, .int .i64 id, .int .i64 z, .int .i64 r, .int .i64 wt, .int .i64 g, .slice ad ld cd] 28)) 28 (.int .i64 0) (.int .i64 0) (.int .i64 0) (.int .i64 0) (.int .i64 0) (.int .i64 0) (.slice none 0 0)).below (below_alloc _ (.cells #[.int .i64 k, .int .i64 0, .int .i64 0, .int .i64 0, .int .i64 0, .int .i64 0, .slice none 0 0] 28))
    rw [show (w.alloc (.cells #[.int .i64 k, .int .i64 id, .int .i64 z, .int .i64 r, .int .i64 wt, .int .i64 g, .slice ad ld cd] 28)).heap.size = w.heap.size + 1 from by simp] at this
    exact this
  have HK : Hid (B7 (((w.alloc (.cells #[.int .i64 k, .int .i64 id, .int .i64 z, .int .i64 r, .int .i64 wt, .int .i64 g, .slice ad ld cd] 28)).alloc (.cells #[.int .i64 0, .int .i64 0, .int .i64 0, .int .i64 0, .int .i64 0, .int .i64 0, .slice none 0 0] 28)).alloc (.cells #[.int .i64 k, .int .i64 0, .int .i64 0, .int .i64 0, .int .i64 0, .int .i64 0, .slice none 0 0] 28)) (w.heap.size + 1 + 1) 28 (.int .i64 k) (.int .i64 0) (.int .i64 0) (.int .i64 0) (.int .i64 0) (.int .i64 0) (.slice none 0 0)) := by
    have := B7.new ((w.alloc (.cells #[.int .i64 k, .int .i64 id, .int .i64 z, .int .i64 r, .int .i64 wt, .int .i64 g, .slice ad ld cd] 28)).alloc (.cells #[.int .i64 0, .int .i64 0, .int .i64 0, .int .i64 0, .int .i64 0, .int .i64 0, .slice none 0 0] 28)) 28 (.int .i64 k) (.int .i64 0) (.int .i64 0) (.int .i64 0) (.int .i64 0) (.int .i64 0) (.slice none 0 0)
    rw [show ((w.alloc (.cells #[.int .i64 k, .int .i64 id, .int .i64 z, .int .i64 r, .int .i64 wt, .int .i64 g, .slice ad ld cd] 28)).alloc (.cells #[.int .i64 0, .int .i64 0, .int .i64 0, .int .i64 0, .int .i64 0, .int .i64 0, .slice none 0 0] 28)).heap.size = w.heap.size + 1 + 1 from by simp] at this
    exact this
  have HRd := Hid.mk9 hR
  clear hR
  go_enter Try.func28, Try.ntmps28
  go_upto_region 2 with fail
  generalize (((w.alloc (.cells #[.int .i64 k, .int .i64 id, .int .i64 z, .int .i64 r, .int .i64 wt, .int .i64 g, .slice ad ld cd] 28)).alloc (.cells #[.int .i64 0, .int .i64 0, .int .i64 0, .int .i64 0, .int .i64 0, .int .i64 0, .slice none 0 0] 28)).alloc (.cells #[.int .i64 k, .int .i64 0, .int .i64 0, .int .i64 0, .int .i64 0, .int .i64 0, .slice none 0 0] 28)) = w1 at *
  obtain ⟨X, hX⟩ : ∃ X, w.heap.size = X := ⟨_, rfl⟩
  rw [hX] at HX HY HK ⊢
  have HXw : Hid (X = w.heap.size) := Hid.mk9 hX.symm
  clear hX
  obtain ⟨p0, p1, p2, p3, p4, p5, p6⟩ := HX.out.cells
  have HIN := Hid.mk9 hn
  have e1 : (k == 1) = false := by rw [beq_eq_false_iff_ne]; intro e; rw [e] at hn; simp [inB] at hn
  have e2 : (k == 2) = false := by rw [beq_eq_false_iff_ne]; intro e; rw [e] at hn; simp [inB] at hn
  have e3 : (k == 3) = false := by rw [beq_eq_false_iff_ne]; intro e; rw [e] at hn; simp [inB] at hn
  have e4 : (k == 4) = false := by rw [beq_eq_false_iff_ne]; intro e; rw [e] at hn; simp [inB] at hn
  have e5 : (k == 5) = false := by rw [beq_eq_false_iff_ne]; intro e; rw [e] at hn; simp [inB] at hn
  have e6 : (k == 6) = false := by rw [beq_eq_false_iff_ne]; intro e; rw [e] at hn; simp [inB] at hn
  have e7 : (k == 7) = false := by rw [beq_eq_false_iff_ne]; intro e; rw [e] at hn; simp [inB] at hn
  have e8 : (k == 8) = false := by rw [beq_eq_false_iff_ne]; intro e; rw [e] at hn; simp [inB] at hn
  have e9 : (k == 9) = false := by rw [beq_eq_false_iff_ne]; intro e; rw [e] at hn; simp [inB] at hn
  have e10 : (k == 10) = false := by rw [beq_eq_false_iff_ne]; intro e; rw [e] at hn; simp [inB] at hn
  clear hn
  obtain ⟨y0, y1, y2, y3, y4, y5, y6⟩ := HY.out.cells
  obtain ⟨f0, f1, f2, f3, f4, f5, f6⟩ := HY.out.frz
  have HZ := Hid.mk9 (HY.out.set (.int .i64 0) (.int .i64 0) (.int .i64 0) (.int .i64 0) (.int .i64 0) (.int .i64 0) (.slice none 0 0))
  have HZb := Hid.mk9 (set7_below HB.out (b := X + 1) (by have := HXw.out; omega) (.int .i64 0) (.int .i64 0) (.int .i64 0) (.int .i64 0) (.int .i64 0) (.int .i64 0) (.slice none 0 0))
  clear HX HY HK
  go_wp2_with fail
  refine bodyPost_ret (ret_7b rfl _ _ (X + 1) (.int .i64 0) (.int .i64 0) (.int .i64 0) (.int .i64 0) (.int .i64 0) (.int .i64 0) (.slice none 0 0) _ rfl rfl HZ.out) rfl ?_
  refine ⟨HZb.out, none, 0, 0, ?_, ?_⟩
  · simp [askD, HIN.out, dl0]
  · simp only [askD, HIN.out, dl0]
    exact RowI.nil w
end Go.Proofs.Ytejhmacbbdnlbaa.Ac
