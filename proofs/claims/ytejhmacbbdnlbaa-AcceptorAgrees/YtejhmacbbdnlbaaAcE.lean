/-
  CheckDelta.
-/
import Derived.Test.YtejhmacbbdnlbaaAcD0
import Derived.Test.YtejhmacbbdnlbaaAcD1
namespace Go.Proofs.Ytejhmacbbdnlbaa.Ac
open Go.ChangeShapes Go.WideShapes Go.ChangeAt Go.RowKit
theorem row5 (w : World) (x0 x1 x2 x3 x4 : Int) : RowI (w.alloc (.cells #[.int .i64 x0, .int .i64 x1, .int .i64 x2, .int .i64 x3, .int .i64 x4] 3)) (some ⟨w.heap.size, 0, none⟩) 5 5 [x0, x1, x2, x3, x4] := by
  refine ⟨rfl, Nat.le_refl _, by unfold maxLen; omega, nofun, .inr ⟨w.heap.size, 0, rfl, fun i hi => ?_⟩⟩
  unfold World.cell?
  rw [show (w.alloc (.cells #[.int .i64 x0, .int .i64 x1, .int .i64 x2, .int .i64 x3, .int .i64 x4] 3)).heap[(⟨w.heap.size, 0 + i, none⟩ : Addr).block]? = _ from heap_alloc_new w _]
  match i, hi with
  | 0, _ => rfl
  | 1, _ => rfl
  | 2, _ => rfl
  | 3, _ => rfl
  | 4, _ => rfl
set_option maxHeartbeats 4000000 in
set_option maxRecDepth 60000 in
theorem checkDelta_any (d : Dl) (a : Option Addr) (l c : Nat) (w : World) (h : RowI w a l c d.ns) : Calls Try.prog 11 #[.agg #[.int .i64 d.k, .int .i64 d.id, .int .i64 d.zn, .int .i64 d.rk, .int .i64 d.wt, .int .i64 d.g, .slice a l c]] w fun e w' => e = .returned (.int .i64 (if okD d = true then 0 else 1)) ∧ Below w.heap.size w w' := by
  have hm : l ≤ maxLen := Nat.le_trans h.2.1 h.2.2.1
  unfold maxLen at hm
  have HL := Hid.mk9 h.1
  have HB := Hid.mk9 (below_alloc w (.cells #[.int .i64 d.k, .int .i64 d.id, .int .i64 d.zn, .int .i64 d.rk, .int .i64 d.wt, .int .i64 d.g, .slice a l c] 28))
  have HX := Hid.mk9 (B7.new w 28 (.int .i64 d.k) (.int .i64 d.id) (.int .i64 d.zn) (.int .i64 d.rk) (.int .i64 d.wt) (.int .i64 d.g) (.slice a l c))
  have HR := Hid.mk9 (h.below HB.out)
  obtain ⟨q, hq⟩ : ∃ q, q = okD d := ⟨_, rfl⟩
  rw [← hq]
  have HQ := Hid.mk9 hq
  clear h hq
  go_enter Try.func11, Try.ntmps11
  go_upto_region 1 with fail
  generalize w.alloc (.cells #[.int .i64 d.k, .int .i64 d.id, .int .i64 d.zn, .int .i64 d.rk, .int .i64 d.wt, .int .i64 d.g, .slice a l c] 28) = w1 at *
  obtain ⟨X, hX⟩ : ∃ X, w.heap.size = X := ⟨_, rfl⟩
  rw [hX] at HX ⊢
  clear hX
  obtain ⟨p0, p1, p2, p3, p4, p5, p6⟩ := HX.out.cells
  go_upto_region 2 with (go_at_call 28; refine (asked_any d a l c _ HR.out).mono ?_; rintro en w2 ⟨hb2, a2, l2, c2, rfl, hr2⟩; have HB1 := Hid.mk9 (below2 HB.out hb2); have HX1 := Hid.mk9 (HX.out.below hb2); have HRa1 := Hid.mk9 (HR.out.below hb2); have HRb1 := Hid.mk9 (hr2.below hb2); clear hb2 hr2 p0 p1 p2 p3 p4 p5 p6)
  have HB2 := Hid.mk9 (below2 HB1.out (below_alloc w2 (.cells #[.int .i64 (askD d).k, .int .i64 (askD d).id, .int .i64 (askD d).zn, .int .i64 (askD d).rk, .int .i64 (askD d).wt, .int .i64 (askD d).g, .slice a2 l2 c2] 28)))
  have HX2 := Hid.mk9 (HX1.out.below (below_alloc w2 (.cells #[.int .i64 (askD d).k, .int .i64 (askD d).id, .int .i64 (askD d).zn, .int .i64 (askD d).rk, .int .i64 (askD d).wt, .int .i64 (askD d).g, .slice a2 l2 c2] 28)))
  have HY2 := Hid.mk9 (B7.new w2 28 (.int .i64 (askD d).k) (.int .i64 (askD d).id) (.int .i64 (askD d).zn) (.int .i64 (askD d).rk) (.int .i64 (askD d).wt) (.int .i64 (askD d).g) (.slice a2 l2 c2))
  have HRa := Hid.mk9 (HRa1.out.below (below_alloc w2 (.cells #[.int .i64 (askD d).k, .int .i64 (askD d).id, .int .i64 (askD d).zn, .int .i64 (askD d).rk, .int .i64 (askD d).wt, .int .i64 (askD d).g, .slice a2 l2 c2] 28)))
  have HRb := Hid.mk9 ((HRb1.out).below (below_alloc w2 (.cells #[.int .i64 (askD d).k, .int .i64 (askD d).id, .int .i64 (askD d).zn, .int .i64 (askD d).rk, .int .i64 (askD d).wt, .int .i64 (askD d).g, .slice a2 l2 c2] 28)))
  clear HB1 HX1 HX HR HB HRa1 HRb1
  generalize w2.alloc (.cells #[.int .i64 (askD d).k, .int .i64 (askD d).id, .int .i64 (askD d).zn, .int .i64 (askD d).rk, .int .i64 (askD d).wt, .int .i64 (askD d).g, .slice a2 l2 c2] 28) = w3 at *
  obtain ⟨Y, hY⟩ : ∃ Y, w2.heap.size = Y := ⟨_, rfl⟩
  rw [hY] at HY2 ⊢
  clear hY
  obtain ⟨p0, p1, p2, p3, p4, p5, p6⟩ := HX2.out.cells
  obtain ⟨q0, q1, q2, q3, q4, q5, q6⟩ := HY2.out.cells
  clear HY2
  by_cases ck : inB d.k 1 10 = true
  rotate_left
  · have hk := Bool.eq_false_iff.2 ck
    obtain rfl : q = false := by rw [HQ.out]; unfold okD; rw [hk]; rfl
    rw [hk]
    clear ck hk
    go_wp2_with fail
    go_ret
    exact ⟨rfl, HB2.out⟩
  rw [ck]
  have HKD : Hid (askD d = bareD d) := Hid.mk9 (by unfold askD; rw [if_pos ck])
  have HCK := Hid.mk9 ck
  clear ck
  by_cases ce : eqD d (bareD d) = true
  rotate_left
  · have HE : Hid (eqD d (askD d) = false) := Hid.mk9 (by rw [HKD.out]; exact Bool.eq_false_iff.2 ce)
    obtain rfl : q = false := by rw [HQ.out]; unfold okD; rw [Bool.eq_false_iff.2 ce, Bool.and_false]; rfl
    clear ce
    go_wp2_with (go_at_call 29; refine (sameDelta_any d (askD d) a a2 l c l2 c2 _ HRa.out HRb.out).mono ?_; rintro en w4 ⟨rfl, hb4⟩; have HW4 := Hid.mk9 (below2 HB2.out hb4); have HX4 := Hid.mk9 (HX2.out.below hb4); have HR4 := Hid.mk9 (HRa.out.below hb4); rw [HE.out]; clear hb4 p0 p1 p2 p3 p4 p5 p6 q0 q1 q2 q3 q4 q5 q6; obtain ⟨p0, p1, p2, p3, p4, p5, p6⟩ := HX4.out.cells)
    go_ret
    exact ⟨rfl, HW4.out⟩
  have HE : Hid (eqD d (askD d) = true) := Hid.mk9 (by rw [HKD.out]; exact ce)
  have HCE := Hid.mk9 ce
  clear ce
  by_cases c5 : allC [d.id, d.zn, d.rk, d.wt, d.g] = true
  rotate_left
  · have HC5 := Hid.mk9 (Bool.eq_false_iff.2 c5)
    obtain rfl : q = false := by
      rw [HQ.out]
      cases hq : okD d with
      | false => rfl
      | true =>
        unfold okD at hq
        simp only [Bool.and_eq_true] at hq
        exact absurd (by simp only [allC, List.all_cons, List.all_nil, Bool.and_eq_true]; exact ⟨hq.1.1.1.1.1.2, hq.1.1.1.1.2, hq.1.1.1.2, hq.1.1.2, hq.1.2, trivial⟩) c5
    clear c5
    go_wp2_with (first | (go_at_call 29; refine (sameDelta_any d (askD d) a a2 l c l2 c2 _ HRa.out HRb.out).mono ?_; rintro en w4 ⟨rfl, hb4⟩; have HW4 := Hid.mk9 (below2 HB2.out hb4); have HX4 := Hid.mk9 (HX2.out.below hb4); have HR4 := Hid.mk9 (HRa.out.below hb4); rw [HE.out]; clear hb4 p0 p1 p2 p3 p4 p5 p6 q0 q1 q2 q3 q4 q5 q6; obtain ⟨p0, p1, p2, p3, p4, p5, p6⟩ := HX4.out.cells) | (go_at_call 30; refine (mayCount_any _ 5 5 [d.id, d.zn, d.rk, d.wt, d.g] _ (row5 w4 d.id d.zn d.rk d.wt d.g)).mono ?_; rintro en w5 ⟨rfl, rfl⟩; have HW5 := Hid.mk9 (below2 HW4.out (below_alloc w4 (.cells #[.int .i64 d.id, .int .i64 d.zn, .int .i64 d.rk, .int .i64 d.wt, .int .i64 d.g] 3))); have HX5 := Hid.mk9 (HX4.out.below (below_alloc w4 (.cells #[.int .i64 d.id, .int .i64 d.zn, .int .i64 d.rk, .int .i64 d.wt, .int .i64 d.g] 3))); have HR5 := Hid.mk9 (HR4.out.below (below_alloc w4 (.cells #[.int .i64 d.id, .int .i64 d.zn, .int .i64 d.rk, .int .i64 d.wt, .int .i64 d.g] 3))); rw [HC5.out]; clear p0 p1 p2 p3 p4 p5 p6; generalize w4.alloc (.cells #[.int .i64 d.id, .int .i64 d.zn, .int .i64 d.rk, .int .i64 d.wt, .int .i64 d.g] 3) = w6 at *; obtain ⟨p0, p1, p2, p3, p4, p5, p6⟩ := HX5.out.cells))
    go_ret
    exact ⟨rfl, HW5.out⟩
  have HC5 := Hid.mk9 c5
  clear c5
  have HQ2 : Hid (q = (decide (d.ns.length ≤ 3) && allC d.ns)) := Hid.mk9 (by
    have h5 := HC5.out
    simp only [allC, List.all_cons, List.all_nil, Bool.and_eq_true] at h5
    obtain ⟨x1, x2, x3, x4, x5, -⟩ := h5
    rw [HQ.out]
    unfold okD
    rw [HCK.out, HCE.out, x1, x2, x3, x4, x5]
    simp)
  clear HQ
  by_cases c4 : (l : Int) ≤ 3
  rotate_left
  · have h3 : decide (3 < (l : Int)) = true := decide_eq_true (by omega)
    obtain rfl : q = false := by rw [HQ2.out]; have := HL.out; simp [show ¬ d.ns.length ≤ 3 by omega]
    clear c4
    go_wp2_with (first | (go_at_call 29; refine (sameDelta_any d (askD d) a a2 l c l2 c2 _ HRa.out HRb.out).mono ?_; rintro en w4 ⟨rfl, hb4⟩; have HW4 := Hid.mk9 (below2 HB2.out hb4); have HX4 := Hid.mk9 (HX2.out.below hb4); have HR4 := Hid.mk9 (HRa.out.below hb4); rw [HE.out]; clear hb4 p0 p1 p2 p3 p4 p5 p6 q0 q1 q2 q3 q4 q5 q6; obtain ⟨p0, p1, p2, p3, p4, p5, p6⟩ := HX4.out.cells) | (go_at_call 30; refine (mayCount_any _ 5 5 [d.id, d.zn, d.rk, d.wt, d.g] _ (row5 w4 d.id d.zn d.rk d.wt d.g)).mono ?_; rintro en w5 ⟨rfl, rfl⟩; have HW5 := Hid.mk9 (below2 HW4.out (below_alloc w4 (.cells #[.int .i64 d.id, .int .i64 d.zn, .int .i64 d.rk, .int .i64 d.wt, .int .i64 d.g] 3))); have HX5 := Hid.mk9 (HX4.out.below (below_alloc w4 (.cells #[.int .i64 d.id, .int .i64 d.zn, .int .i64 d.rk, .int .i64 d.wt, .int .i64 d.g] 3))); have HR5 := Hid.mk9 (HR4.out.below (below_alloc w4 (.cells #[.int .i64 d.id, .int .i64 d.zn, .int .i64 d.rk, .int .i64 d.wt, .int .i64 d.g] 3))); rw [HC5.out]; clear p0 p1 p2 p3 p4 p5 p6; generalize w4.alloc (.cells #[.int .i64 d.id, .int .i64 d.zn, .int .i64 d.rk, .int .i64 d.wt, .int .i64 d.g] 3) = w6 at *; obtain ⟨p0, p1, p2, p3, p4, p5, p6⟩ := HX5.out.cells))
    go_ret
    exact ⟨rfl, HW5.out⟩
  have h3 : decide (3 < (l : Int)) = false := decide_eq_false (by omega)
  have HQ3 : Hid (q = allC d.ns) := Hid.mk9 (by rw [HQ2.out]; have := HL.out; simp [show d.ns.length ≤ 3 by omega])
  clear c4 HQ2
  cases q with
  | false =>
    go_wp2_with (first | (go_at_call 29; refine (sameDelta_any d (askD d) a a2 l c l2 c2 _ HRa.out HRb.out).mono ?_; rintro en w4 ⟨rfl, hb4⟩; have HW4 := Hid.mk9 (below2 HB2.out hb4); have HX4 := Hid.mk9 (HX2.out.below hb4); have HR4 := Hid.mk9 (HRa.out.below hb4); rw [HE.out]; clear hb4 p0 p1 p2 p3 p4 p5 p6 q0 q1 q2 q3 q4 q5 q6; obtain ⟨p0, p1, p2, p3, p4, p5, p6⟩ := HX4.out.cells) | (go_at_call 30; refine (mayCount_any a l c d.ns _ HR5.out).mono ?_; rintro en w7 ⟨rfl, rfl⟩; rw [← HQ3.out]) | (go_at_call 30; refine (mayCount_any _ 5 5 [d.id, d.zn, d.rk, d.wt, d.g] _ (row5 w4 d.id d.zn d.rk d.wt d.g)).mono ?_; rintro en w5 ⟨rfl, rfl⟩; have HW5 := Hid.mk9 (below2 HW4.out (below_alloc w4 (.cells #[.int .i64 d.id, .int .i64 d.zn, .int .i64 d.rk, .int .i64 d.wt, .int .i64 d.g] 3))); have HX5 := Hid.mk9 (HX4.out.below (below_alloc w4 (.cells #[.int .i64 d.id, .int .i64 d.zn, .int .i64 d.rk, .int .i64 d.wt, .int .i64 d.g] 3))); have HR5 := Hid.mk9 (HR4.out.below (below_alloc w4 (.cells #[.int .i64 d.id, .int .i64 d.zn, .int .i64 d.rk, .int .i64 d.wt, .int .i64 d.g] 3))); rw [HC5.out]; clear p0 p1 p2 p3 p4 p5 p6; generalize w4.alloc (.cells #[.int .i64 d.id, .int .i64 d.zn, .int .i64 d.rk, .int .i64 d.wt, .int .i64 d.g] 3) = w6 at *; obtain ⟨p0, p1, p2, p3, p4, p5, p6⟩ := HX5.out.cells))
    go_ret
    exact ⟨rfl, HW5.out⟩
  | true =>
    go_wp2_with (first | (go_at_call 29; refine (sameDelta_any d (askD d) a a2 l c l2 c2 _ HRa.out HRb.out).mono ?_; rintro en w4 ⟨rfl, hb4⟩; have HW4 := Hid.mk9 (below2 HB2.out hb4); have HX4 := Hid.mk9 (HX2.out.below hb4); have HR4 := Hid.mk9 (HRa.out.below hb4); rw [HE.out]; clear hb4 p0 p1 p2 p3 p4 p5 p6 q0 q1 q2 q3 q4 q5 q6; obtain ⟨p0, p1, p2, p3, p4, p5, p6⟩ := HX4.out.cells) | (go_at_call 30; refine (mayCount_any a l c d.ns _ HR5.out).mono ?_; rintro en w7 ⟨rfl, rfl⟩; rw [← HQ3.out]) | (go_at_call 30; refine (mayCount_any _ 5 5 [d.id, d.zn, d.rk, d.wt, d.g] _ (row5 w4 d.id d.zn d.rk d.wt d.g)).mono ?_; rintro en w5 ⟨rfl, rfl⟩; have HW5 := Hid.mk9 (below2 HW4.out (below_alloc w4 (.cells #[.int .i64 d.id, .int .i64 d.zn, .int .i64 d.rk, .int .i64 d.wt, .int .i64 d.g] 3))); have HX5 := Hid.mk9 (HX4.out.below (below_alloc w4 (.cells #[.int .i64 d.id, .int .i64 d.zn, .int .i64 d.rk, .int .i64 d.wt, .int .i64 d.g] 3))); have HR5 := Hid.mk9 (HR4.out.below (below_alloc w4 (.cells #[.int .i64 d.id, .int .i64 d.zn, .int .i64 d.rk, .int .i64 d.wt, .int .i64 d.g] 3))); rw [HC5.out]; clear p0 p1 p2 p3 p4 p5 p6; generalize w4.alloc (.cells #[.int .i64 d.id, .int .i64 d.zn, .int .i64 d.rk, .int .i64 d.wt, .int .i64 d.g] 3) = w6 at *; obtain ⟨p0, p1, p2, p3, p4, p5, p6⟩ := HX5.out.cells))
    go_ret
    exact ⟨rfl, HW5.out⟩
end Go.Proofs.Ytejhmacbbdnlbaa.Ac
