/-
  Asked, kinds 1 and 2.
-/
import Derived.Test.YtejhmacbbdnlbaaAcC
namespace Go.Proofs.Ytejhmacbbdnlbaa.Ac
open Go.ChangeShapes Go.WideShapes Go.ChangeAt Go.RowKit
set_option maxHeartbeats 8000000 in
set_option maxRecDepth 60000 in
theorem asked_1 (id z r wt g : Int) (ad : Option Addr) (ld cd : Nat) (ns : List Int) (w : World) (hR : RowI w ad ld cd ns) :
    Calls Try.prog 28 #[.agg #[.int .i64 1, .int .i64 id, .int .i64 z, .int .i64 r, .int .i64 wt, .int .i64 g, .slice ad ld cd]] w fun e w' => AskPost ⟨1, id, z, r, wt, g, ns⟩ w e w' := by
  have HB := Hid.mk9 (below2 (below2 (below_alloc w (.cells #[.int .i64 1, .int .i64 id, .int .i64 z, .int .i64 r, .int .i64 wt, .int .i64 g, .slice ad ld cd] 28)) (below_alloc _ (.cells #[.int .i64 0, .int .i64 0, .int .i64 0, .int .i64 0, .int .i64 0, .int .i64 0, .slice none 0 0] 28))) (below_alloc _ (.cells #[.int .i64 1, .int .i64 0, .int .i64 0, .int .i64 0, .int .i64 0, .int .i64 0, .slice none 0 0] 28)))
  have HX := Hid.mk9 (((B7.new w 28 (.int .i64 1) (.int .i64 id) (.int .i64 z) (.int .i64 r) (.int .i64 wt) (.int .i64 g) (.slice ad ld cd)).below (below_alloc _ (.cells #[.int .i64 0, .int .i64 0, .int .i64 0, .int .i64 0, .int .i64 0, .int .i64 0, .slice none 0 0] 28))).below (below_alloc _ (.cells #[.int .i64 1, .int .i64 0, .int .i64 0, .int .i64 0, .int .i64 0, .int .i64 0, .slice none 0 0] 28)))
  have HY : Hid (B7 (((w.alloc (.cells #[.int .i64 1, .int .i64 id, .int .i64 z, .int .i64 r, .int .i64 wt, .int .i64 g, .slice ad ld cd] 28)).alloc (.cells #[.int .i64 0, .int .i64 0, .int .i64 0, .int .i64 0, .int .i64 0, .int .i64 0, .slice none 0 0] 28)).alloc (.cells #[.int .i64 1, .int .i64 0, .int .i64 0, .int .i64 0, .int .i64 0, .int .i64 0, .slice none 0 0] 28)) (w.heap.size + 1) 28 (.int .i64 0) (.int .i64 0) (.int .i64 0) (.int .i64 0) (.int .i64 0) (.int .i64 0) (.slice none 0 0)) := by
    have := (B7.new (w.alloc (.cells #[.int .i64 1, .int .i64 id, .int .i64 z, .int .i64 r, .int .i64 wt, .int .i64 g, .slice ad ld cd] 28)) 28 (.int .i64 0) (.int .i64 0) (.int .i64 0) (.int .i64 0) (.int .i64 0) (.int .i64 0) (.slice none 0 0)).below (below_alloc _ (.cells #[.int .i64 1, .int .i64 0, .int .i64 0, .int .i64 0, .int .i64 0, .int .i64 0, .slice none 0 0] 28))
    rw [show (w.alloc (.cells #[.int .i64 1, .int .i64 id, .int .i64 z, .int .i64 r, .int .i64 wt, .int .i64 g, .slice ad ld cd] 28)).heap.size = w.heap.size + 1 from by simp] at this
    exact this
  have HK : Hid (B7 (((w.alloc (.cells #[.int .i64 1, .int .i64 id, .int .i64 z, .int .i64 r, .int .i64 wt, .int .i64 g, .slice ad ld cd] 28)).alloc (.cells #[.int .i64 0, .int .i64 0, .int .i64 0, .int .i64 0, .int .i64 0, .int .i64 0, .slice none 0 0] 28)).alloc (.cells #[.int .i64 1, .int .i64 0, .int .i64 0, .int .i64 0, .int .i64 0, .int .i64 0, .slice none 0 0] 28)) (w.heap.size + 1 + 1) 28 (.int .i64 1) (.int .i64 0) (.int .i64 0) (.int .i64 0) (.int .i64 0) (.int .i64 0) (.slice none 0 0)) := by
    have := B7.new ((w.alloc (.cells #[.int .i64 1, .int .i64 id, .int .i64 z, .int .i64 r, .int .i64 wt, .int .i64 g, .slice ad ld cd] 28)).alloc (.cells #[.int .i64 0, .int .i64 0, .int .i64 0, .int .i64 0, .int .i64 0, .int .i64 0, .slice none 0 0] 28)) 28 (.int .i64 1) (.int .i64 0) (.int .i64 0) (.int .i64 0) (.int .i64 0) (.int .i64 0) (.slice none 0 0)
    rw [show ((w.alloc (.cells #[.int .i64 1, .int .i64 id, .int .i64 z, .int .i64 r, .int .i64 wt, .int .i64 g, .slice ad ld cd] 28)).alloc (.cells #[.int .i64 0, .int .i64 0, .int .i64 0, .int .i64 0, .int .i64 0, .int .i64 0, .slice none 0 0] 28)).heap.size = w.heap.size + 1 + 1 from by simp] at this
    exact this
  have HRd := Hid.mk9 hR
  clear hR
  go_enter Try.func28, Try.ntmps28
  go_upto_region 2 with fail
  generalize (((w.alloc (.cells #[.int .i64 1, .int .i64 id, .int .i64 z, .int .i64 r, .int .i64 wt, .int .i64 g, .slice ad ld cd] 28)).alloc (.cells #[.int .i64 0, .int .i64 0, .int .i64 0, .int .i64 0, .int .i64 0, .int .i64 0, .slice none 0 0] 28)).alloc (.cells #[.int .i64 1, .int .i64 0, .int .i64 0, .int .i64 0, .int .i64 0, .int .i64 0, .slice none 0 0] 28)) = w1 at *
  obtain ⟨X, hX⟩ : ∃ X, w.heap.size = X := ⟨_, rfl⟩
  rw [hX] at HX HY HK ⊢
  have HXw : Hid (X = w.heap.size) := Hid.mk9 hX.symm
  clear hX
  obtain ⟨p0, p1, p2, p3, p4, p5, p6⟩ := HX.out.cells
  go_upto_region 5 with fail
  obtain ⟨q0, q1, q2, q3, q4, q5, q6⟩ := HK.out.cells
  obtain ⟨f0, f1, f2, f3, f4, f5, f6⟩ := HK.out.frz
  go_region
  clear q0 q1 q2 q3 q4 q5 q6 f0 f1 f2 f3 f4 f5 f6
  have HK2 : Hid (B7 (((((w1.setCell ⟨X + 1 + 1, 1, none⟩ (.int .i64 id)).setCell ⟨X + 1 + 1, 2, none⟩ (.int .i64 z)).setCell ⟨X + 1 + 1, 3, none⟩ (.int .i64 r)).setCell ⟨X + 1 + 1, 4, none⟩ (.int .i64 wt)).drew) (X + 1 + 1) 28 (.int .i64 1) (.int .i64 id) (.int .i64 z) (.int .i64 r) (.int .i64 wt) (.int .i64 0) (.slice none 0 0)) := Hid.mk9 ((((HK.out.put1 (.int .i64 id)).put2 (.int .i64 z)).put3 (.int .i64 r)).put4 (.int .i64 wt))
  have HY2 : Hid (B7 (((((w1.setCell ⟨X + 1 + 1, 1, none⟩ (.int .i64 id)).setCell ⟨X + 1 + 1, 2, none⟩ (.int .i64 z)).setCell ⟨X + 1 + 1, 3, none⟩ (.int .i64 r)).setCell ⟨X + 1 + 1, 4, none⟩ (.int .i64 wt)).drew) (X + 1) 28 (.int .i64 0) (.int .i64 0) (.int .i64 0) (.int .i64 0) (.int .i64 0) (.int .i64 0) (.slice none 0 0)) := Hid.mk9 ((((HY.out.else (c := X + 1 + 1) (i := 1) (.int .i64 id) (by omega)).else (c := X + 1 + 1) (i := 2) (.int .i64 z) (by omega)).else (c := X + 1 + 1) (i := 3) (.int .i64 r) (by omega)).else (c := X + 1 + 1) (i := 4) (.int .i64 wt) (by omega))
  have HB2 : Hid (Below w.heap.size w (((((w1.setCell ⟨X + 1 + 1, 1, none⟩ (.int .i64 id)).setCell ⟨X + 1 + 1, 2, none⟩ (.int .i64 z)).setCell ⟨X + 1 + 1, 3, none⟩ (.int .i64 r)).setCell ⟨X + 1 + 1, 4, none⟩ (.int .i64 wt)).drew)) := Hid.mk9 (below2 ((((HB.out.setCell (p := ⟨X + 1 + 1, 1, none⟩) (by show w.heap.size ≤ X + 1 + 1; have := HXw.out; omega) (.int .i64 id)).setCell (p := ⟨X + 1 + 1, 2, none⟩) (by show w.heap.size ≤ X + 1 + 1; have := HXw.out; omega) (.int .i64 z)).setCell (p := ⟨X + 1 + 1, 3, none⟩) (by show w.heap.size ≤ X + 1 + 1; have := HXw.out; omega) (.int .i64 r)).setCell (p := ⟨X + 1 + 1, 4, none⟩) (by show w.heap.size ≤ X + 1 + 1; have := HXw.out; omega) (.int .i64 wt)) (below_drew _))
  generalize ((((w1.setCell ⟨X + 1 + 1, 1, none⟩ (.int .i64 id)).setCell ⟨X + 1 + 1, 2, none⟩ (.int .i64 z)).setCell ⟨X + 1 + 1, 3, none⟩ (.int .i64 r)).setCell ⟨X + 1 + 1, 4, none⟩ (.int .i64 wt)).drew = w2 at *
  clear p0 p1 p2 p3 p4 p5 p6 HX HK HY HB
  obtain ⟨q0, q1, q2, q3, q4, q5, q6⟩ := HK2.out.cells
  obtain ⟨y0, y1, y2, y3, y4, y5, y6⟩ := HY2.out.cells
  obtain ⟨f0, f1, f2, f3, f4, f5, f6⟩ := HY2.out.frz
  have HZ := Hid.mk9 (HY2.out.set (.int .i64 1) (.int .i64 id) (.int .i64 z) (.int .i64 r) (.int .i64 wt) (.int .i64 0) (.slice none 0 0))
  have HZb := Hid.mk9 (set7_below HB2.out (b := X + 1) (by have := HXw.out; omega) (.int .i64 1) (.int .i64 id) (.int .i64 z) (.int .i64 r) (.int .i64 wt) (.int .i64 0) (.slice none 0 0))
  clear HY2 HK2
  go_wp2_with fail
  refine bodyPost_ret (ret_7b rfl _ _ (X + 1) (.int .i64 1) (.int .i64 id) (.int .i64 z) (.int .i64 r) (.int .i64 wt) (.int .i64 0) (.slice none 0 0) _ rfl rfl HZ.out) rfl ?_
  exact ⟨HZb.out, none, 0, 0, rfl, RowI.nil w⟩
set_option maxHeartbeats 8000000 in
set_option maxRecDepth 60000 in
theorem asked_2 (id z r wt g : Int) (ad : Option Addr) (ld cd : Nat) (ns : List Int) (w : World) (hR : RowI w ad ld cd ns) :
    Calls Try.prog 28 #[.agg #[.int .i64 2, .int .i64 id, .int .i64 z, .int .i64 r, .int .i64 wt, .int .i64 g, .slice ad ld cd]] w fun e w' => AskPost ⟨2, id, z, r, wt, g, ns⟩ w e w' := by
  have HB := Hid.mk9 (below2 (below2 (below_alloc w (.cells #[.int .i64 2, .int .i64 id, .int .i64 z, .int .i64 r, .int .i64 wt, .int .i64 g, .slice ad ld cd] 28)) (below_alloc _ (.cells #[.int .i64 0, .int .i64 0, .int .i64 0, .int .i64 0, .int .i64 0, .int .i64 0, .slice none 0 0] 28))) (below_alloc _ (.cells #[.int .i64 2, .int .i64 0, .int .i64 0, .int .i64 0, .int .i64 0, .int .i64 0, .slice none 0 0] 28)))
  have HX := Hid.mk9 (((B7.new w 28 (.int .i64 2) (.int .i64 id) (.int .i64 z) (.int .i64 r) (.int .i64 wt) (.int .i64 g) (.slice ad ld cd)).below (below_alloc _ (.cells #[.int .i64 0, .int .i64 0, .int .i64 0, .int .i64 0, .int .i64 0, .int .i64 0, .slice none 0 0] 28))).below (below_alloc _ (.cells #[.int .i64 2, .int .i64 0, .int .i64 0, .int .i64 0, .int .i64 0, .int .i64 0, .slice none 0 0] 28)))
  have HY : Hid (B7 (((w.alloc (.cells #[.int .i64 2, .int .i64 id, .int .i64 z, .int .i64 r, .int .i64 wt, .int .i64 g, .slice ad ld cd] 28)).alloc (.cells #[.int .i64 0, .int .i64 0, .int .i64 0, .int .i64 0, .int .i64 0, .int .i64 0, .slice none 0 0] 28)).alloc (.cells #[.int .i64 2, .int .i64 0, .int .i64 0, .int .i64 0, .int .i64 0, .int .i64 0, .slice none 0 0] 28)) (w.heap.size + 1) 28 (.int .i64 0) (.int .i64 0) (.int .i64 0) (.int .i64 0) (.int .i64 0) (.int .i64 0) (.slice none 0 0)) := by
    have := (B7.new (w.alloc (.cells #[.int .i64 2, .int .i64 id, .int .i64 z, .int .i64 r, .int .i64 wt, .int .i64 g, .slice ad ld cd] 28)) 28 (.int .i64 0) (.int .i64 0) (.int .i64 0) (.int .i64 0) (.int .i64 0) (.int .i64 0) (.slice none 0 0)).below (below_alloc _ (.cells #[.int .i64 2, .int .i64 0, .int .i64 0, .int .i64 0, .int .i64 0, .int .i64 0, .slice none 0 0] 28))
    rw [show (w.alloc (.cells #[.int .i64 2, .int .i64 id, .int .i64 z, .int .i64 r, .int .i64 wt, .int .i64 g, .slice ad ld cd] 28)).heap.size = w.heap.size + 1 from by simp] at this
    exact this
  have HK : Hid (B7 (((w.alloc (.cells #[.int .i64 2, .int .i64 id, .int .i64 z, .int .i64 r, .int .i64 wt, .int .i64 g, .slice ad ld cd] 28)).alloc (.cells #[.int .i64 0, .int .i64 0, .int .i64 0, .int .i64 0, .int .i64 0, .int .i64 0, .slice none 0 0] 28)).alloc (.cells #[.int .i64 2, .int .i64 0, .int .i64 0, .int .i64 0, .int .i64 0, .int .i64 0, .slice none 0 0] 28)) (w.heap.size + 1 + 1) 28 (.int .i64 2) (.int .i64 0) (.int .i64 0) (.int .i64 0) (.int .i64 0) (.int .i64 0) (.slice none 0 0)) := by
    have := B7.new ((w.alloc (.cells #[.int .i64 2, .int .i64 id, .int .i64 z, .int .i64 r, .int .i64 wt, .int .i64 g, .slice ad ld cd] 28)).alloc (.cells #[.int .i64 0, .int .i64 0, .int .i64 0, .int .i64 0, .int .i64 0, .int .i64 0, .slice none 0 0] 28)) 28 (.int .i64 2) (.int .i64 0) (.int .i64 0) (.int .i64 0) (.int .i64 0) (.int .i64 0) (.slice none 0 0)
    rw [show ((w.alloc (.cells #[.int .i64 2, .int .i64 id, .int .i64 z, .int .i64 r, .int .i64 wt, .int .i64 g, .slice ad ld cd] 28)).alloc (.cells #[.int .i64 0, .int .i64 0, .int .i64 0, .int .i64 0, .int .i64 0, .int .i64 0, .slice none 0 0] 28)).heap.size = w.heap.size + 1 + 1 from by simp] at this
    exact this
  have HRd := Hid.mk9 hR
  clear hR
  go_enter Try.func28, Try.ntmps28
  go_upto_region 2 with fail
  generalize (((w.alloc (.cells #[.int .i64 2, .int .i64 id, .int .i64 z, .int .i64 r, .int .i64 wt, .int .i64 g, .slice ad ld cd] 28)).alloc (.cells #[.int .i64 0, .int .i64 0, .int .i64 0, .int .i64 0, .int .i64 0, .int .i64 0, .slice none 0 0] 28)).alloc (.cells #[.int .i64 2, .int .i64 0, .int .i64 0, .int .i64 0, .int .i64 0, .int .i64 0, .slice none 0 0] 28)) = w1 at *
  obtain ⟨X, hX⟩ : ∃ X, w.heap.size = X := ⟨_, rfl⟩
  rw [hX] at HX HY HK ⊢
  have HXw : Hid (X = w.heap.size) := Hid.mk9 hX.symm
  clear hX
  obtain ⟨p0, p1, p2, p3, p4, p5, p6⟩ := HX.out.cells
  go_upto_region 7 with fail
  obtain ⟨q0, q1, q2, q3, q4, q5, q6⟩ := HK.out.cells
  obtain ⟨f0, f1, f2, f3, f4, f5, f6⟩ := HK.out.frz
  go_region
  clear q0 q1 q2 q3 q4 q5 q6 f0 f1 f2 f3 f4 f5 f6
  have HK2 : Hid (B7 (((w1.setCell ⟨X + 1 + 1, 1, none⟩ (.int .i64 id)).setCell ⟨X + 1 + 1, 4, none⟩ (.int .i64 wt)).drew) (X + 1 + 1) 28 (.int .i64 2) (.int .i64 id) (.int .i64 0) (.int .i64 0) (.int .i64 wt) (.int .i64 0) (.slice none 0 0)) := Hid.mk9 ((HK.out.put1 (.int .i64 id)).put4 (.int .i64 wt))
  have HY2 : Hid (B7 (((w1.setCell ⟨X + 1 + 1, 1, none⟩ (.int .i64 id)).setCell ⟨X + 1 + 1, 4, none⟩ (.int .i64 wt)).drew) (X + 1) 28 (.int .i64 0) (.int .i64 0) (.int .i64 0) (.int .i64 0) (.int .i64 0) (.int .i64 0) (.slice none 0 0)) := Hid.mk9 ((HY.out.else (c := X + 1 + 1) (i := 1) (.int .i64 id) (by omega)).else (c := X + 1 + 1) (i := 4) (.int .i64 wt) (by omega))
  have HB2 : Hid (Below w.heap.size w (((w1.setCell ⟨X + 1 + 1, 1, none⟩ (.int .i64 id)).setCell ⟨X + 1 + 1, 4, none⟩ (.int .i64 wt)).drew)) := Hid.mk9 (below2 ((HB.out.setCell (p := ⟨X + 1 + 1, 1, none⟩) (by show w.heap.size ≤ X + 1 + 1; have := HXw.out; omega) (.int .i64 id)).setCell (p := ⟨X + 1 + 1, 4, none⟩) (by show w.heap.size ≤ X + 1 + 1; have := HXw.out; omega) (.int .i64 wt)) (below_drew _))
  generalize ((w1.setCell ⟨X + 1 + 1, 1, none⟩ (.int .i64 id)).setCell ⟨X + 1 + 1, 4, none⟩ (.int .i64 wt)).drew = w2 at *
  clear p0 p1 p2 p3 p4 p5 p6 HX HK HY HB
  obtain ⟨q0, q1, q2, q3, q4, q5, q6⟩ := HK2.out.cells
  obtain ⟨y0, y1, y2, y3, y4, y5, y6⟩ := HY2.out.cells
  obtain ⟨f0, f1, f2, f3, f4, f5, f6⟩ := HY2.out.frz
  have HZ := Hid.mk9 (HY2.out.set (.int .i64 2) (.int .i64 id) (.int .i64 0) (.int .i64 0) (.int .i64 wt) (.int .i64 0) (.slice none 0 0))
  have HZb := Hid.mk9 (set7_below HB2.out (b := X + 1) (by have := HXw.out; omega) (.int .i64 2) (.int .i64 id) (.int .i64 0) (.int .i64 0) (.int .i64 wt) (.int .i64 0) (.slice none 0 0))
  clear HY2 HK2
  go_wp2_with fail
  refine bodyPost_ret (ret_7b rfl _ _ (X + 1) (.int .i64 2) (.int .i64 id) (.int .i64 0) (.int .i64 0) (.int .i64 wt) (.int .i64 0) (.slice none 0 0) _ rfl rfl HZ.out) rfl ?_
  exact ⟨HZb.out, none, 0, 0, rfl, RowI.nil w⟩
end Go.Proofs.Ytejhmacbbdnlbaa.Ac
