/-
  The law MapsMoves where the delta is taken.
-/
import Derived.Test.YtcncbjknfcjnmaaGreatPr39
import Derived.Test.YtcncbjknfcjnmaaGreatPr20
namespace Go.Proofs.YtcncbjknfcjnmaaGreat.Tp
open Go.ChangeShapes Go.WideShapes Go.ChangeAt Go.RowKit
set_option maxHeartbeats 4000000 in
set_option maxRecDepth 60000 in
theorem moves_not {ep sz mn gr k id zn rk wt dg : Int} {aN aT aR ad : Option Addr} {lN cN lT cT lR cR ld cd : Nat} (w : World)
    (HL : Hid (∀ W, Below w.heap.size w W → Calls Tryz.prog 14 #[.agg #[.int .i64 ep, .int .i64 sz, .int .i64 mn, .int .i64 gr, .slice aN lN cN, .slice aT lT cT, .slice aR lR cR]] W fun e w' => AnyBool W e w'))
    (HMY : Hid (∀ W, Below w.heap.size w W → Calls Tryz.prog 13 #[.agg #[.int .i64 ep, .int .i64 sz, .int .i64 mn, .int .i64 gr, .slice aN lN cN, .slice aT lT cT, .slice aR lR cR]] W fun e w' => e = .returned (.bool false) ∧ Below W.heap.size W w'))
    (HAW : Hid (∀ W, Calls Tryz.prog 11 #[] W fun e w' => TruePost W e w')) :
    Calls Tryz.prog 7 #[.agg #[.int .i64 ep, .int .i64 sz, .int .i64 mn, .int .i64 gr, .slice aN lN cN, .slice aT lT cT, .slice aR lR cR], .agg #[.int .i64 k, .int .i64 id, .int .i64 zn, .int .i64 rk, .int .i64 wt, .int .i64 dg, .slice ad ld cd]] w fun e w' => e = .returned (.bool true) ∧ Below w.heap.size w w' := by
  obtain ⟨w1, hw1⟩ : ∃ w1, w1 = (w.alloc (.cells #[.int .i64 ep, .int .i64 sz, .int .i64 mn, .int .i64 gr, .slice aN lN cN, .slice aT lT cT, .slice aR lR cR] 26)).alloc (.cells #[.int .i64 k, .int .i64 id, .int .i64 zn, .int .i64 rk, .int .i64 wt, .int .i64 dg, .slice ad ld cd] 37) := ⟨_, rfl⟩
  have hb1 : Below w.heap.size w w1 := by rw [hw1]; exact below2 (below_alloc _ _) (below_alloc _ _)
  have HBM : Hid (Box7 w1 w.heap.size (.int .i64 ep) (.int .i64 sz) (.int .i64 mn) (.int .i64 gr) (.slice aN lN cN) (.slice aT lT cT) (.slice aR lR cR)) := by
    rw [hw1]
    exact (Box7.new w _ _ _ _ _ _ _ _).below (below_alloc _ _)
  have HBD : Hid (Box7 w1 (w.heap.size + 1) (.int .i64 k) (.int .i64 id) (.int .i64 zn) (.int .i64 rk) (.int .i64 wt) (.int .i64 dg) (.slice ad ld cd)) := by
    rw [hw1]
    have := Box7.new (w.alloc (.cells #[.int .i64 ep, .int .i64 sz, .int .i64 mn, .int .i64 gr, .slice aN lN cN, .slice aT lT cT, .slice aR lR cR] 26)) (.int .i64 k) (.int .i64 id) (.int .i64 zn) (.int .i64 rk) (.int .i64 wt) (.int .i64 dg) (.slice ad ld cd) 37
    rwa [show (w.alloc (.cells #[.int .i64 ep, .int .i64 sz, .int .i64 mn, .int .i64 gr, .slice aN lN cN, .slice aT lT cT, .slice aR lR cR] 26)).heap.size = w.heap.size + 1 by simp] at this
  obtain ⟨⟨c0, c1, c2, c3, c4, c5, c6⟩, -⟩ := HBM.out
  go_enter Tryz.func7, Tryz.ntmps7
  go_upto_region 1 with fail
  rw [show (w.alloc (.cells #[.int .i64 ep, .int .i64 sz, .int .i64 mn, .int .i64 gr, .slice aN lN cN, .slice aT lT cT, .slice aR lR cR] 26)).alloc (.cells #[.int .i64 k, .int .i64 id, .int .i64 zn, .int .i64 rk, .int .i64 wt, .int .i64 dg, .slice ad ld cd] 37) = w1 from hw1.symm]
  clear hw1
  go_wp2_with fail
  refine (HL.out _ hb1).mono ?_
  rintro e w2 ⟨q, rfl, hb2⟩
  clear HL c0 c1 c2 c3 c4 c5 c6
  have hbw2 := below2 hb1 hb2
  cases q with
  | false =>
    go_wp2_with (go_at_call 11; refine (HAW.out _).mono ?_; rintro e w3 ⟨rfl, hb3⟩)
    go_ret
    exact ⟨rfl, below2 hbw2 hb3⟩
  | true =>
    obtain ⟨⟨c0, c1, c2, c3, c4, c5, c6⟩, -⟩ := HBM.out.below hb2
    obtain ⟨⟨d0, d1, d2, d3, d4, d5, d6⟩, -⟩ := HBD.out.below hb2
    by_cases hl : (20 : Int) < (ld : Int)
    · go_wp2_with (go_at_call 11; refine (HAW.out _).mono ?_; rintro e w3 ⟨rfl, hb3⟩)
      go_ret
      exact ⟨rfl, below2 hbw2 hb3⟩
    have hl' : decide ((20 : Int) < (ld : Int)) = false := by simpa using hl
    go_wp2_with fail
    refine (HMY.out _ hbw2).mono ?_
    rintro e w3 ⟨rfl, hb3⟩
    have hbw3 := below2 hbw2 hb3
    clear c0 c1 c2 c3 c4 c5 c6 d0 d1 d2 d3 d4 d5 d6 HMY hl
    go_wp2_with (go_at_call 11; refine (HAW.out _).mono ?_; rintro e w4 ⟨rfl, hb4⟩)
    go_ret
    exact ⟨rfl, below2 hbw3 hb4⟩
set_option maxHeartbeats 4000000 in
set_option maxRecDepth 60000 in
theorem moves_no {ep sz mn gr k id zn rk wt dg : Int} {aN aT aR ad : Option Addr} {lN cN lT cT lR cR ld cd : Nat} {n : Int} {mx : Mp} (hn0 : n ≠ 0) (w : World)
    (HL : Hid (∀ W, Below w.heap.size w W → Calls Tryz.prog 14 #[.agg #[.int .i64 ep, .int .i64 sz, .int .i64 mn, .int .i64 gr, .slice aN lN cN, .slice aT lT cT, .slice aR lR cR]] W fun e w' => AnyBool W e w'))
    (HMY : Hid (∀ W, Below w.heap.size w W → Calls Tryz.prog 13 #[.agg #[.int .i64 ep, .int .i64 sz, .int .i64 mn, .int .i64 gr, .slice aN lN cN, .slice aT lT cT, .slice aR lR cR]] W fun e w' => e = .returned (.bool true) ∧ Below W.heap.size W w'))
    (HAW : Hid (∀ W, Calls Tryz.prog 11 #[] W fun e w' => TruePost W e w'))
    (HAP : Hid (∀ W, Below w.heap.size w W → Calls Tryz.prog 15 #[.agg #[.int .i64 ep, .int .i64 sz, .int .i64 mn, .int .i64 gr, .slice aN lN cN, .slice aT lT cT, .slice aR lR cR], .agg #[.int .i64 k, .int .i64 id, .int .i64 zn, .int .i64 rk, .int .i64 wt, .int .i64 dg, .slice ad ld cd]] W fun e w' => Below W.heap.size W w' ∧ ∃ s3 : MV, e = .returned (.tuple #[.agg #[.int .i64 mx.ep, .int .i64 mx.size, .int .i64 mx.mn, .int .i64 mx.gr, .slice s3.aN s3.lN s3.cN, .slice s3.aT s3.lT s3.cT, .slice s3.aR s3.lR s3.cR], .int .i64 n]) ∧ MapAt w' mx s3))
    (HSA : Hid (∀ W s3, Below w.heap.size w W → MapAt W mx s3 → Calls Tryz.prog 10 #[.agg #[.int .i64 mx.ep, .int .i64 mx.size, .int .i64 mx.mn, .int .i64 mx.gr, .slice s3.aN s3.lN s3.cN, .slice s3.aT s3.lT s3.cT, .slice s3.aR s3.lR s3.cR], .agg #[.int .i64 ep, .int .i64 sz, .int .i64 mn, .int .i64 gr, .slice aN lN cN, .slice aT lT cT, .slice aR lR cR]] W fun e w' => e = .returned (.bool true) ∧ Below W.heap.size W w')) :
    Calls Tryz.prog 7 #[.agg #[.int .i64 ep, .int .i64 sz, .int .i64 mn, .int .i64 gr, .slice aN lN cN, .slice aT lT cT, .slice aR lR cR], .agg #[.int .i64 k, .int .i64 id, .int .i64 zn, .int .i64 rk, .int .i64 wt, .int .i64 dg, .slice ad ld cd]] w fun e w' => e = .returned (.bool true) ∧ Below w.heap.size w w' := by
  have hnb : ((n != (0 : Int)) : Bool) = true := by simpa using hn0
  obtain ⟨w1, hw1⟩ : ∃ w1, w1 = (w.alloc (.cells #[.int .i64 ep, .int .i64 sz, .int .i64 mn, .int .i64 gr, .slice aN lN cN, .slice aT lT cT, .slice aR lR cR] 26)).alloc (.cells #[.int .i64 k, .int .i64 id, .int .i64 zn, .int .i64 rk, .int .i64 wt, .int .i64 dg, .slice ad ld cd] 37) := ⟨_, rfl⟩
  have hb1 : Below w.heap.size w w1 := by rw [hw1]; exact below2 (below_alloc _ _) (below_alloc _ _)
  have HBM : Hid (Box7 w1 w.heap.size (.int .i64 ep) (.int .i64 sz) (.int .i64 mn) (.int .i64 gr) (.slice aN lN cN) (.slice aT lT cT) (.slice aR lR cR)) := by
    rw [hw1]
    exact (Box7.new w _ _ _ _ _ _ _ _).below (below_alloc _ _)
  have HBD : Hid (Box7 w1 (w.heap.size + 1) (.int .i64 k) (.int .i64 id) (.int .i64 zn) (.int .i64 rk) (.int .i64 wt) (.int .i64 dg) (.slice ad ld cd)) := by
    rw [hw1]
    have := Box7.new (w.alloc (.cells #[.int .i64 ep, .int .i64 sz, .int .i64 mn, .int .i64 gr, .slice aN lN cN, .slice aT lT cT, .slice aR lR cR] 26)) (.int .i64 k) (.int .i64 id) (.int .i64 zn) (.int .i64 rk) (.int .i64 wt) (.int .i64 dg) (.slice ad ld cd) 37
    rwa [show (w.alloc (.cells #[.int .i64 ep, .int .i64 sz, .int .i64 mn, .int .i64 gr, .slice aN lN cN, .slice aT lT cT, .slice aR lR cR] 26)).heap.size = w.heap.size + 1 by simp] at this
  obtain ⟨⟨c0, c1, c2, c3, c4, c5, c6⟩, -⟩ := HBM.out
  go_enter Tryz.func7, Tryz.ntmps7
  go_upto_region 1 with fail
  rw [show (w.alloc (.cells #[.int .i64 ep, .int .i64 sz, .int .i64 mn, .int .i64 gr, .slice aN lN cN, .slice aT lT cT, .slice aR lR cR] 26)).alloc (.cells #[.int .i64 k, .int .i64 id, .int .i64 zn, .int .i64 rk, .int .i64 wt, .int .i64 dg, .slice ad ld cd] 37) = w1 from hw1.symm]
  clear hw1
  go_wp2_with fail
  refine (HL.out _ hb1).mono ?_
  rintro e w2 ⟨q, rfl, hb2⟩
  clear HL c0 c1 c2 c3 c4 c5 c6
  have hbw2 := below2 hb1 hb2
  cases q with
  | false =>
    go_wp2_with (go_at_call 11; refine (HAW.out _).mono ?_; rintro e w3 ⟨rfl, hb3⟩)
    go_ret
    exact ⟨rfl, below2 hbw2 hb3⟩
  | true =>
    obtain ⟨⟨c0, c1, c2, c3, c4, c5, c6⟩, -⟩ := HBM.out.below hb2
    obtain ⟨⟨d0, d1, d2, d3, d4, d5, d6⟩, -⟩ := HBD.out.below hb2
    by_cases hl : (20 : Int) < (ld : Int)
    · go_wp2_with (go_at_call 11; refine (HAW.out _).mono ?_; rintro e w3 ⟨rfl, hb3⟩)
      go_ret
      exact ⟨rfl, below2 hbw2 hb3⟩
    have hl' : decide ((20 : Int) < (ld : Int)) = false := by simpa using hl
    go_wp2_with fail
    refine (HMY.out _ hbw2).mono ?_
    rintro e w3 ⟨rfl, hb3⟩
    have hbw3 := below2 hbw2 hb3
    clear c0 c1 c2 c3 c4 c5 c6 d0 d1 d2 d3 d4 d5 d6 HMY hl
    obtain ⟨⟨c0, c1, c2, c3, c4, c5, c6⟩, -⟩ := (HBM.out.below hb2).below hb3
    obtain ⟨⟨d0, d1, d2, d3, d4, d5, d6⟩, -⟩ := (HBD.out.below hb2).below hb3
    go_upto_region 4 with (go_at_call 15; refine (HAP.out _ hbw3).mono ?_; rintro e w4 ⟨hb4, s3, rfl, hm4⟩)
    clear c0 c1 c2 c3 c4 c5 c6 d0 d1 d2 d3 d4 d5 d6 HAP
    have hb5 := below_alloc w4 (.cells #[.int .i64 mx.ep, .int .i64 mx.size, .int .i64 mx.mn, .int .i64 mx.gr, .slice s3.aN s3.lN s3.cN, .slice s3.aT s3.lT s3.cT, .slice s3.aR s3.lR s3.cR] 26)
    have HM5 : Hid (MapAt (w4.alloc (.cells #[.int .i64 mx.ep, .int .i64 mx.size, .int .i64 mx.mn, .int .i64 mx.gr, .slice s3.aN s3.lN s3.cN, .slice s3.aT s3.lT s3.cT, .slice s3.aR s3.lR s3.cR] 26)) mx s3) := hm4.below hb5
    have HBX : Hid (Box7 (w4.alloc (.cells #[.int .i64 mx.ep, .int .i64 mx.size, .int .i64 mx.mn, .int .i64 mx.gr, .slice s3.aN s3.lN s3.cN, .slice s3.aT s3.lT s3.cT, .slice s3.aR s3.lR s3.cR] 26)) w4.heap.size (.int .i64 mx.ep) (.int .i64 mx.size) (.int .i64 mx.mn) (.int .i64 mx.gr) (.slice s3.aN s3.lN s3.cN) (.slice s3.aT s3.lT s3.cT) (.slice s3.aR s3.lR s3.cR)) := Box7.new w4 _ _ _ _ _ _ _ _
    have HBM5 : Hid (Box7 (w4.alloc (.cells #[.int .i64 mx.ep, .int .i64 mx.size, .int .i64 mx.mn, .int .i64 mx.gr, .slice s3.aN s3.lN s3.cN, .slice s3.aT s3.lT s3.cT, .slice s3.aR s3.lR s3.cR] 26)) w.heap.size (.int .i64 ep) (.int .i64 sz) (.int .i64 mn) (.int .i64 gr) (.slice aN lN cN) (.slice aT lT cT) (.slice aR lR cR)) := (((HBM.out.below hb2).below hb3).below hb4).below hb5
    have HBD5 : Hid (Box7 (w4.alloc (.cells #[.int .i64 mx.ep, .int .i64 mx.size, .int .i64 mx.mn, .int .i64 mx.gr, .slice s3.aN s3.lN s3.cN, .slice s3.aT s3.lT s3.cT, .slice s3.aR s3.lR s3.cR] 26)) (w.heap.size + 1) (.int .i64 k) (.int .i64 id) (.int .i64 zn) (.int .i64 rk) (.int .i64 wt) (.int .i64 dg) (.slice ad ld cd)) := (((HBD.out.below hb2).below hb3).below hb4).below hb5
    have hbw5 := below2 (below2 hbw3 hb4) hb5
    clear hm4 HBM HBD
    generalize hw5 : w4.alloc (.cells #[.int .i64 mx.ep, .int .i64 mx.size, .int .i64 mx.mn, .int .i64 mx.gr, .slice s3.aN s3.lN s3.cN, .slice s3.aT s3.lT s3.cT, .slice s3.aR s3.lR s3.cR] 26) = w5 at *
    clear hw5
    obtain ⟨⟨c0, c1, c2, c3, c4, c5, c6⟩, -⟩ := HBM5.out
    obtain ⟨⟨x0, x1, x2, x3, x4, x5, x6⟩, -⟩ := HBX.out
    go_wp2_with fail
    refine (HSA.out _ s3 hbw5 HM5.out).mono ?_
    rintro e w6 ⟨rfl, hb6⟩
    go_wp2_with fail
    refine (HAW.out _).mono ?_
    rintro e w7 ⟨rfl, hb7⟩
    go_wp2_with fail
    go_ret
    exact ⟨rfl, below2 (below2 hbw5 hb6) hb7⟩
set_option maxHeartbeats 4000000 in
set_option maxRecDepth 60000 in
theorem moves_yes {ep sz mn k id zn rk wt dg : Int} {aN aT aR ad : Option Addr} {lN cN lT cT lR cR ld cd : Nat} {mx : Mp} {n9 : Nat} {A B : Nat → List Int} {ns : List Int} (hn8 : n9 ≤ 8) (w : World)
    (HL : Hid (∀ W, Below w.heap.size w W → Calls Tryz.prog 14 #[.agg #[.int .i64 ep, .int .i64 sz, .int .i64 mn, .int .i64 (n9 : Int), .slice aN lN cN, .slice aT lT cT, .slice aR lR cR]] W fun e w' => AnyBool W e w'))
    (HMY : Hid (∀ W, Below w.heap.size w W → Calls Tryz.prog 13 #[.agg #[.int .i64 ep, .int .i64 sz, .int .i64 mn, .int .i64 (n9 : Int), .slice aN lN cN, .slice aT lT cT, .slice aR lR cR]] W fun e w' => e = .returned (.bool true) ∧ Below W.heap.size W w'))
    (HAW : Hid (∀ W, Calls Tryz.prog 11 #[] W fun e w' => TruePost W e w'))
    (HAP : Hid (∀ W, Below w.heap.size w W → Calls Tryz.prog 15 #[.agg #[.int .i64 ep, .int .i64 sz, .int .i64 mn, .int .i64 (n9 : Int), .slice aN lN cN, .slice aT lT cT, .slice aR lR cR], .agg #[.int .i64 k, .int .i64 id, .int .i64 zn, .int .i64 rk, .int .i64 wt, .int .i64 dg, .slice ad ld cd]] W fun e w' => Below W.heap.size W w' ∧ ∃ s3 : MV, e = .returned (.tuple #[.agg #[.int .i64 mx.ep, .int .i64 mx.size, .int .i64 mx.mn, .int .i64 mx.gr, .slice s3.aN s3.lN s3.cN, .slice s3.aT s3.lT s3.cT, .slice s3.aR s3.lR s3.cR], .int .i64 0]) ∧ MapAt w' mx s3))
    (HRM : Hid (∀ W (q : Nat), q < n9 → Below w.heap.size w W → Calls Tryz.prog 23 #[.agg #[.int .i64 ep, .int .i64 sz, .int .i64 mn, .int .i64 (n9 : Int), .slice aN lN cN, .slice aT lT cT, .slice aR lR cR], .int .i64 (q : Int)] W fun e w' => RowPost (A q) W e w'))
    (HRX : Hid (∀ W s3 (q : Nat), q < n9 → Below w.heap.size w W → MapAt W mx s3 → Calls Tryz.prog 23 #[.agg #[.int .i64 mx.ep, .int .i64 mx.size, .int .i64 mx.mn, .int .i64 mx.gr, .slice s3.aN s3.lN s3.cN, .slice s3.aT s3.lT s3.cT, .slice s3.aR s3.lR s3.cR], .int .i64 (q : Int)] W fun e w' => RowPost (B q) W e w'))
    (HD : Hid (RowI w ad ld cd ns))
    (F1 : Hid (∀ q : Nat, q < n9 → k = 8 → (q : Int) ≠ dg → A q = B q)) (F2 : Hid (∀ q : Nat, q < n9 → k = 8 → (q : Int) = dg → 0 < ld → B q = ns)) (F3 : Hid (∀ q : Nat, q < n9 → (k = 3 ∨ k = 4 ∨ k = 9 ∨ k = 7 ∨ k = 10) → A q = B q)) :
    Calls Tryz.prog 7 #[.agg #[.int .i64 ep, .int .i64 sz, .int .i64 mn, .int .i64 (n9 : Int), .slice aN lN cN, .slice aT lT cT, .slice aR lR cR], .agg #[.int .i64 k, .int .i64 id, .int .i64 zn, .int .i64 rk, .int .i64 wt, .int .i64 dg, .slice ad ld cd]] w fun e w' => e = .returned (.bool true) ∧ Below w.heap.size w w' := by
  obtain ⟨w1, hw1⟩ : ∃ w1, w1 = (w.alloc (.cells #[.int .i64 ep, .int .i64 sz, .int .i64 mn, .int .i64 (n9 : Int), .slice aN lN cN, .slice aT lT cT, .slice aR lR cR] 26)).alloc (.cells #[.int .i64 k, .int .i64 id, .int .i64 zn, .int .i64 rk, .int .i64 wt, .int .i64 dg, .slice ad ld cd] 37) := ⟨_, rfl⟩
  have hb1 : Below w.heap.size w w1 := by rw [hw1]; exact below2 (below_alloc _ _) (below_alloc _ _)
  have HBM : Hid (Box7 w1 w.heap.size (.int .i64 ep) (.int .i64 sz) (.int .i64 mn) (.int .i64 (n9 : Int)) (.slice aN lN cN) (.slice aT lT cT) (.slice aR lR cR)) := by
    rw [hw1]
    exact (Box7.new w _ _ _ _ _ _ _ _).below (below_alloc _ _)
  have HBD : Hid (Box7 w1 (w.heap.size + 1) (.int .i64 k) (.int .i64 id) (.int .i64 zn) (.int .i64 rk) (.int .i64 wt) (.int .i64 dg) (.slice ad ld cd)) := by
    rw [hw1]
    have := Box7.new (w.alloc (.cells #[.int .i64 ep, .int .i64 sz, .int .i64 mn, .int .i64 (n9 : Int), .slice aN lN cN, .slice aT lT cT, .slice aR lR cR] 26)) (.int .i64 k) (.int .i64 id) (.int .i64 zn) (.int .i64 rk) (.int .i64 wt) (.int .i64 dg) (.slice ad ld cd) 37
    rwa [show (w.alloc (.cells #[.int .i64 ep, .int .i64 sz, .int .i64 mn, .int .i64 (n9 : Int), .slice aN lN cN, .slice aT lT cT, .slice aR lR cR] 26)).heap.size = w.heap.size + 1 by simp] at this
  obtain ⟨⟨c0, c1, c2, c3, c4, c5, c6⟩, -⟩ := HBM.out
  go_enter Tryz.func7, Tryz.ntmps7
  go_upto_region 1 with fail
  rw [show (w.alloc (.cells #[.int .i64 ep, .int .i64 sz, .int .i64 mn, .int .i64 (n9 : Int), .slice aN lN cN, .slice aT lT cT, .slice aR lR cR] 26)).alloc (.cells #[.int .i64 k, .int .i64 id, .int .i64 zn, .int .i64 rk, .int .i64 wt, .int .i64 dg, .slice ad ld cd] 37) = w1 from hw1.symm]
  clear hw1
  go_wp2_with fail
  refine (HL.out _ hb1).mono ?_
  rintro e w2 ⟨q, rfl, hb2⟩
  clear HL c0 c1 c2 c3 c4 c5 c6
  have hbw2 := below2 hb1 hb2
  cases q with
  | false =>
    go_wp2_with (go_at_call 11; refine (HAW.out _).mono ?_; rintro e w3 ⟨rfl, hb3⟩)
    go_ret
    exact ⟨rfl, below2 hbw2 hb3⟩
  | true =>
    obtain ⟨⟨c0, c1, c2, c3, c4, c5, c6⟩, -⟩ := HBM.out.below hb2
    obtain ⟨⟨d0, d1, d2, d3, d4, d5, d6⟩, -⟩ := HBD.out.below hb2
    by_cases hl : (20 : Int) < (ld : Int)
    · go_wp2_with (go_at_call 11; refine (HAW.out _).mono ?_; rintro e w3 ⟨rfl, hb3⟩)
      go_ret
      exact ⟨rfl, below2 hbw2 hb3⟩
    have hl' : decide ((20 : Int) < (ld : Int)) = false := by simpa using hl
    go_wp2_with fail
    refine (HMY.out _ hbw2).mono ?_
    rintro e w3 ⟨rfl, hb3⟩
    have hbw3 := below2 hbw2 hb3
    clear c0 c1 c2 c3 c4 c5 c6 d0 d1 d2 d3 d4 d5 d6 HMY hl
    obtain ⟨⟨c0, c1, c2, c3, c4, c5, c6⟩, -⟩ := (HBM.out.below hb2).below hb3
    obtain ⟨⟨d0, d1, d2, d3, d4, d5, d6⟩, -⟩ := (HBD.out.below hb2).below hb3
    go_upto_region 4 with (go_at_call 15; refine (HAP.out _ hbw3).mono ?_; rintro e w4 ⟨hb4, s3, rfl, hm4⟩)
    clear c0 c1 c2 c3 c4 c5 c6 d0 d1 d2 d3 d4 d5 d6 HAP
    have hb5 := below_alloc w4 (.cells #[.int .i64 mx.ep, .int .i64 mx.size, .int .i64 mx.mn, .int .i64 mx.gr, .slice s3.aN s3.lN s3.cN, .slice s3.aT s3.lT s3.cT, .slice s3.aR s3.lR s3.cR] 26)
    have HM5 : Hid (MapAt (w4.alloc (.cells #[.int .i64 mx.ep, .int .i64 mx.size, .int .i64 mx.mn, .int .i64 mx.gr, .slice s3.aN s3.lN s3.cN, .slice s3.aT s3.lT s3.cT, .slice s3.aR s3.lR s3.cR] 26)) mx s3) := hm4.below hb5
    have HBX : Hid (Box7 (w4.alloc (.cells #[.int .i64 mx.ep, .int .i64 mx.size, .int .i64 mx.mn, .int .i64 mx.gr, .slice s3.aN s3.lN s3.cN, .slice s3.aT s3.lT s3.cT, .slice s3.aR s3.lR s3.cR] 26)) w4.heap.size (.int .i64 mx.ep) (.int .i64 mx.size) (.int .i64 mx.mn) (.int .i64 mx.gr) (.slice s3.aN s3.lN s3.cN) (.slice s3.aT s3.lT s3.cT) (.slice s3.aR s3.lR s3.cR)) := Box7.new w4 _ _ _ _ _ _ _ _
    have HBM5 : Hid (Box7 (w4.alloc (.cells #[.int .i64 mx.ep, .int .i64 mx.size, .int .i64 mx.mn, .int .i64 mx.gr, .slice s3.aN s3.lN s3.cN, .slice s3.aT s3.lT s3.cT, .slice s3.aR s3.lR s3.cR] 26)) w.heap.size (.int .i64 ep) (.int .i64 sz) (.int .i64 mn) (.int .i64 (n9 : Int)) (.slice aN lN cN) (.slice aT lT cT) (.slice aR lR cR)) := (((HBM.out.below hb2).below hb3).below hb4).below hb5
    have HBD5 : Hid (Box7 (w4.alloc (.cells #[.int .i64 mx.ep, .int .i64 mx.size, .int .i64 mx.mn, .int .i64 mx.gr, .slice s3.aN s3.lN s3.cN, .slice s3.aT s3.lT s3.cT, .slice s3.aR s3.lR s3.cR] 26)) (w.heap.size + 1) (.int .i64 k) (.int .i64 id) (.int .i64 zn) (.int .i64 rk) (.int .i64 wt) (.int .i64 dg) (.slice ad ld cd)) := (((HBD.out.below hb2).below hb3).below hb4).below hb5
    have hbw5 := below2 (below2 hbw3 hb4) hb5
    clear hm4 HBM HBD
    generalize hw5 : w4.alloc (.cells #[.int .i64 mx.ep, .int .i64 mx.size, .int .i64 mx.mn, .int .i64 mx.gr, .slice s3.aN s3.lN s3.cN, .slice s3.aT s3.lT s3.cT, .slice s3.aR s3.lR s3.cR] 26) = w5 at *
    clear hw5
    have hn8' : (n9 : Int) ≤ 8 := by omega
    clear hn8
    go_upto_region 6 with fail
    go_wp2_with fail
    go_loopw [7] (fun i wr => ∃ q : Nat, q ≤ n9 ∧ i = .int .i64 q ∧ Below w5.heap.size w5 wr) (fun i _ => n9 - (intOf i).toNat)
    case atStart => exact ⟨0, Nat.zero_le _, rfl, Below.refl _ _⟩
    case round =>
      obtain ⟨q, hq, rfl, hbq⟩ := hrel
      have HBMr : Hid (Box7 wr w.heap.size (.int .i64 ep) (.int .i64 sz) (.int .i64 mn) (.int .i64 (n9 : Int)) (.slice aN lN cN) (.slice aT lT cT) (.slice aR lR cR)) := HBM5.out.below hbq
      have HBXr : Hid (Box7 wr w4.heap.size (.int .i64 mx.ep) (.int .i64 mx.size) (.int .i64 mx.mn) (.int .i64 mx.gr) (.slice s3.aN s3.lN s3.cN) (.slice s3.aT s3.lT s3.cT) (.slice s3.aR s3.lR s3.cR)) := HBX.out.below hbq
      have HBDr : Hid (Box7 wr (w.heap.size + 1) (.int .i64 k) (.int .i64 id) (.int .i64 zn) (.int .i64 rk) (.int .i64 wt) (.int .i64 dg) (.slice ad ld cd)) := HBD5.out.below hbq
      have HMr : Hid (MapAt wr mx s3) := HM5.out.below hbq
      have hbwr : Below w.heap.size w wr := below2 hbw5 hbq
      obtain ⟨⟨c0, c1, c2, c3, c4, c5, c6⟩, -⟩ := HBMr.out
      by_cases hlt : q < n9
      · have hq1 : (q : Int) < (n9 : Int) := by omega
        have hq0 : (0 : Int) ≤ (q : Int) := by omega
        go_wp2_with fail
        refine mv_raw _ _ _ _ _ _ _ _ _ _ _ _ _ _ _ _ _ _ _ _ _ _ _ _ _ _ _ _ _ _ _ _ _ _ _ _ _ _ _ _ _ _ _ _ _ _ _ _ _ _ _ _ _ _ _ _ _ _ _ _ _ _ _ _ _ _ _ _ _ _ _ _ _ _ _ _ _ _ _ _ _ _ _ _ _ _ _ _ _ _ _ w.heap.size (w.heap.size + 1) w4.heap.size (q : Int) (A q) (B q) ep sz mn (n9 : Int) aN aT aR lN cN lT cT lR cR mx.ep mx.size mx.mn mx.gr s3.aN s3.aT s3.aR s3.lN s3.cN s3.lT s3.cT s3.lR s3.cR wr _ (fun w' hb => ⟨HBMr.out.below hb, HBXr.out.below hb, hb⟩) (fun W hb => HRM.out W q hlt (below2 hbwr hb)) (fun W hb => HRX.out W s3 q hlt (below2 hbwr hb) (HMr.out.below hb)) (fun u46 u47 u48 u49 u50 u51 a1 a2 k1 k2 wC hr1 hr2 hbC => ?_)
        have HR2 : Hid (RowL wC a2 (B q).length (B q)) := hr2
        have HI : Hid (Calls Tryz.prog 22 #[.slice a1 (A q).length k1, .slice a2 (B q).length k2] wC fun e w' => e = .returned (.bool (decide (A q = B q))) ∧ Grown wC w') := refIntsL a1 a2 _ k1 _ k2 _ _ wC hr1 hr2
        clear hr1 hr2 c0 c1 c2 c3 c4 c5 c6
        go_wp2_with fail
        refine HI.out.mono ?_
        rintro e w8 ⟨rfl, hgI⟩
        have hbI := grown_below hgI
        have hbw8 : Below wr.heap.size wr w8 := below2 hbC hbI
        obtain ⟨⟨d0, d1, d2, d3, d4, d5, d6⟩, -⟩ := HBDr.out.below hbw8
        have HR8 : Hid (RowL w8 a2 (B q).length (B q)) := HR2.out.below hbI
        have HD8 : Hid (RowL w8 ad ld ns) := (HD.out.below (below2 hbwr hbw8)).rowL
        clear HI HR2
        by_cases k8 : k = 8
        · subst k8
          by_cases hg : (q : Int) = dg
          · by_cases h0 : 0 < ld
            · have HB := Hid.mk9 (F2.out q hlt rfl hg h0)
              have h0' : (0 : Int) < (ld : Int) := by omega
              have HI2 : Hid (Calls Tryz.prog 22 #[.slice a2 (B q).length k2, .slice ad ld cd] w8 fun e w' => e = .returned (.bool true) ∧ Grown w8 w') := (refIntsL a2 ad _ k2 ld cd _ _ w8 HR8.out HD8.out).mono fun e w' ⟨he, h2⟩ => ⟨by rw [he, show decide (B q = ns) = true from decide_eq_true HB.out], h2⟩
              have e1 : ((q : Int) != dg) = false := by simp [hg]
              have e2 : ((q : Int) == dg) = true := by simp [hg]
              generalize decide (A q = B q) = bb at *
              clear hg
              go_wp2_with fail
              refine HI2.out.mono ?_
              rintro e w9 ⟨rfl, hg9⟩
              go_wp2_with fail
              exact ⟨⟨q + 1, by omega, by go_num, below2 (below2 hbq hbw8) (grown_below hg9)⟩, by simp [intOf]; omega⟩
            · have h0' : decide ((0 : Int) < (ld : Int)) = false := by simp; omega
              have e1 : ((q : Int) != dg) = false := by simp [hg]
              have e2 : ((q : Int) == dg) = true := by simp [hg]
              generalize decide (A q = B q) = bb at *
              clear hg
              go_wp2_with fail
              exact ⟨⟨q + 1, by omega, by go_num, below2 hbq hbw8⟩, by simp [intOf]; omega⟩
          · rw [show decide (A q = B q) = true from decide_eq_true (F1.out q hlt rfl hg)]
            have e1 : ((q : Int) != dg) = true := by simpa using hg
            have e2 : ((q : Int) == dg) = false := by simpa using hg
            go_wp2_with fail
            exact ⟨⟨q + 1, by omega, by go_num, below2 hbq hbw8⟩, by simp [intOf]; omega⟩
        · by_cases k5 : k = 3 ∨ k = 4 ∨ k = 9 ∨ k = 7 ∨ k = 10
          · rw [show decide (A q = B q) = true from decide_eq_true (F3.out q hlt k5)]
            rcases k5 with rfl | rfl | rfl | rfl | rfl
            all_goals
              go_wp2_with fail
              exact ⟨⟨q + 1, by omega, by go_num, below2 hbq hbw8⟩, by simp [intOf]; omega⟩
          · have e8 : (k == (8 : Int)) = false := by simpa using k8
            have e3 : (k == (3 : Int)) = false := by simp; omega
            have e4 : (k == (4 : Int)) = false := by simp; omega
            have e9 : (k == (9 : Int)) = false := by simp; omega
            have e7 : (k == (7 : Int)) = false := by simp; omega
            have e10 : (k == (10 : Int)) = false := by simp; omega
            generalize decide (A q = B q) = bb at *
            clear k5 k8
            go_wp2_with fail
            exact ⟨⟨q + 1, by omega, by go_num, below2 hbq hbw8⟩, by simp [intOf]; omega⟩
      · have hlt' : decide ((q : Int) < (n9 : Int)) = false := by simp; omega
        go_wp2_with fail
        refine (HAW.out _).mono ?_
        rintro e w7 ⟨rfl, hb7⟩
        go_wp2_with fail
        go_ret
        exact ⟨rfl, below2 hbwr hb7⟩
end Go.Proofs.YtcncbjknfcjnmaaGreat.Tp
