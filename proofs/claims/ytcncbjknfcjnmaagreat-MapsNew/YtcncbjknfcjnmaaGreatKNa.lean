/-
  The law MapsNew.
-/
import Derived.Test.YtcncbjknfcjnmaaGreatKa
namespace Go.Proofs.YtcncbjknfcjnmaaGreat.Tp
open Go.ChangeShapes Go.WideShapes Go.ChangeAt Go.RowKit
set_option maxHeartbeats 2000000 in
set_option maxRecDepth 60000 in
theorem mapsNew_bad (s l g : Int) (hbad : ¬ CountOk s l g) (w : World) : Calls Tryz.prog 3 #[.int .i64 s, .int .i64 l, .int .i64 g] w fun e w' => e = .returned (.bool true) ∧ Below w.heap.size w w' := by
  have HNW : Hid (∀ W, Calls Tryz.prog 9 #[.int .i64 s, .int .i64 l, .int .i64 g] W fun e w' => ∃ u : MV, e = .returned (.tuple #[.agg #[.int .i64 0, .int .i64 0, .int .i64 0, .int .i64 0, .slice u.aN u.lN u.cN, .slice u.aT u.lT u.cT, .slice u.aR u.lR u.cR], .int .i64 1]) ∧ MapAt w' mp0 u ∧ Below W.heap.size W w') := fun W => (new_no hbad W).mono fun e w' ⟨hb, u, he, hm⟩ => ⟨u, he, hm, hb⟩
  have HSM : Hid (∀ W (u : MV), MapAt W mp0 u → Calls Tryz.prog 10 #[.agg #[.int .i64 0, .int .i64 0, .int .i64 0, .int .i64 0, .slice u.aN u.lN u.cN, .slice u.aT u.lT u.cT, .slice u.aR u.lR u.cR], .agg #[.int .i64 0, .int .i64 0, .int .i64 0, .int .i64 0, .slice none 0 0, .slice none 0 0, .slice none 0 0]] W fun e w' => e = .returned (.bool true) ∧ Below W.heap.size W w') := fun W u h => (refSame W h (map0_at W)).mono fun e w' ⟨he, hg⟩ => ⟨by rw [he, (mpB_iff mp0 mp0).2 rfl], grown_below hg⟩
  have HAW : Hid (∀ W, Calls Tryz.prog 11 #[] W fun e w' => TruePost W e w') := awake_any
  have hcase : s < 1 ∨ (¬ s < 1 ∧ 3 < s) ∨ (¬ s < 1 ∧ ¬ 3 < s ∧ l < 1) ∨ (¬ s < 1 ∧ ¬ 3 < s ∧ ¬ l < 1 ∧ s < l) ∨ (¬ s < 1 ∧ ¬ 3 < s ∧ ¬ l < 1 ∧ ¬ s < l ∧ g < 1) ∨ (¬ s < 1 ∧ ¬ 3 < s ∧ ¬ l < 1 ∧ ¬ s < l ∧ ¬ g < 1 ∧ 8 < g) := by
    unfold CountOk at hbad
    omega
  clear hbad
  have key : ∀ (b1 b2 b3 b4 b5 b6 : Bool), decide (s < 1) = b1 → decide (3 < s) = b2 → decide (l < 1) = b3 → decide (s < l) = b4 → decide (g < 1) = b5 → decide (8 < g) = b6 → (b1 || (b2 || (b3 || (b4 || (b5 || b6))))) = true → Calls Tryz.prog 3 #[.int .i64 s, .int .i64 l, .int .i64 g] w fun e w' => e = .returned (.bool true) ∧ Below w.heap.size w w' := by
    intro b1 b2 b3 b4 b5 b6 h1 h2 h3 h4 h5 h6 hor
    clear hcase
    cases b1 with
    | true =>
      go_enter Tryz.func3, Tryz.ntmps3
      go_wp2_with (first
        | (go_at_call 9; refine (HNW.out _).mono ?_; rintro e w1 ⟨u, rfl, hm1, hb1⟩; have HM1 := show Hid (MapAt (w1.alloc (.cells #[.int .i64 0, .int .i64 0, .int .i64 0, .int .i64 0, .slice u.aN u.lN u.cN, .slice u.aT u.lT u.cT, .slice u.aR u.lR u.cR] 26)) mp0 u) from hm1.below (below_alloc _ _); have hbw1 := below2 hb1 (below_alloc w1 (.cells #[.int .i64 0, .int .i64 0, .int .i64 0, .int .i64 0, .slice u.aN u.lN u.cN, .slice u.aT u.lT u.cT, .slice u.aR u.lR u.cR] 26)); clear hm1)
        | (go_at_call 10; refine (HSM.out _ _ HM1.out).mono ?_; rintro e w2 ⟨rfl, hb2⟩)
        | (go_at_call 11; refine (HAW.out _).mono ?_; rintro e w3 ⟨rfl, hb3⟩))
      go_ret
      exact ⟨rfl, below2 hbw1 (below2 hb2 hb3)⟩
    | false =>
      cases b2 with
      | true =>
        go_enter Tryz.func3, Tryz.ntmps3
        go_wp2_with (first
          | (go_at_call 9; refine (HNW.out _).mono ?_; rintro e w1 ⟨u, rfl, hm1, hb1⟩; have HM1 := show Hid (MapAt (w1.alloc (.cells #[.int .i64 0, .int .i64 0, .int .i64 0, .int .i64 0, .slice u.aN u.lN u.cN, .slice u.aT u.lT u.cT, .slice u.aR u.lR u.cR] 26)) mp0 u) from hm1.below (below_alloc _ _); have hbw1 := below2 hb1 (below_alloc w1 (.cells #[.int .i64 0, .int .i64 0, .int .i64 0, .int .i64 0, .slice u.aN u.lN u.cN, .slice u.aT u.lT u.cT, .slice u.aR u.lR u.cR] 26)); clear hm1)
          | (go_at_call 10; refine (HSM.out _ _ HM1.out).mono ?_; rintro e w2 ⟨rfl, hb2⟩)
          | (go_at_call 11; refine (HAW.out _).mono ?_; rintro e w3 ⟨rfl, hb3⟩))
        go_ret
        exact ⟨rfl, below2 hbw1 (below2 hb2 hb3)⟩
      | false =>
        cases b3 with
        | true =>
          go_enter Tryz.func3, Tryz.ntmps3
          go_wp2_with (first
            | (go_at_call 9; refine (HNW.out _).mono ?_; rintro e w1 ⟨u, rfl, hm1, hb1⟩; have HM1 := show Hid (MapAt (w1.alloc (.cells #[.int .i64 0, .int .i64 0, .int .i64 0, .int .i64 0, .slice u.aN u.lN u.cN, .slice u.aT u.lT u.cT, .slice u.aR u.lR u.cR] 26)) mp0 u) from hm1.below (below_alloc _ _); have hbw1 := below2 hb1 (below_alloc w1 (.cells #[.int .i64 0, .int .i64 0, .int .i64 0, .int .i64 0, .slice u.aN u.lN u.cN, .slice u.aT u.lT u.cT, .slice u.aR u.lR u.cR] 26)); clear hm1)
            | (go_at_call 10; refine (HSM.out _ _ HM1.out).mono ?_; rintro e w2 ⟨rfl, hb2⟩)
            | (go_at_call 11; refine (HAW.out _).mono ?_; rintro e w3 ⟨rfl, hb3⟩))
          go_ret
          exact ⟨rfl, below2 hbw1 (below2 hb2 hb3)⟩
        | false =>
          cases b4 with
          | true =>
            go_enter Tryz.func3, Tryz.ntmps3
            go_wp2_with (first
              | (go_at_call 9; refine (HNW.out _).mono ?_; rintro e w1 ⟨u, rfl, hm1, hb1⟩; have HM1 := show Hid (MapAt (w1.alloc (.cells #[.int .i64 0, .int .i64 0, .int .i64 0, .int .i64 0, .slice u.aN u.lN u.cN, .slice u.aT u.lT u.cT, .slice u.aR u.lR u.cR] 26)) mp0 u) from hm1.below (below_alloc _ _); have hbw1 := below2 hb1 (below_alloc w1 (.cells #[.int .i64 0, .int .i64 0, .int .i64 0, .int .i64 0, .slice u.aN u.lN u.cN, .slice u.aT u.lT u.cT, .slice u.aR u.lR u.cR] 26)); clear hm1)
              | (go_at_call 10; refine (HSM.out _ _ HM1.out).mono ?_; rintro e w2 ⟨rfl, hb2⟩)
              | (go_at_call 11; refine (HAW.out _).mono ?_; rintro e w3 ⟨rfl, hb3⟩))
            go_ret
            exact ⟨rfl, below2 hbw1 (below2 hb2 hb3)⟩
          | false =>
            cases b5 with
            | true =>
              go_enter Tryz.func3, Tryz.ntmps3
              go_wp2_with (first
                | (go_at_call 9; refine (HNW.out _).mono ?_; rintro e w1 ⟨u, rfl, hm1, hb1⟩; have HM1 := show Hid (MapAt (w1.alloc (.cells #[.int .i64 0, .int .i64 0, .int .i64 0, .int .i64 0, .slice u.aN u.lN u.cN, .slice u.aT u.lT u.cT, .slice u.aR u.lR u.cR] 26)) mp0 u) from hm1.below (below_alloc _ _); have hbw1 := below2 hb1 (below_alloc w1 (.cells #[.int .i64 0, .int .i64 0, .int .i64 0, .int .i64 0, .slice u.aN u.lN u.cN, .slice u.aT u.lT u.cT, .slice u.aR u.lR u.cR] 26)); clear hm1)
                | (go_at_call 10; refine (HSM.out _ _ HM1.out).mono ?_; rintro e w2 ⟨rfl, hb2⟩)
                | (go_at_call 11; refine (HAW.out _).mono ?_; rintro e w3 ⟨rfl, hb3⟩))
              go_ret
              exact ⟨rfl, below2 hbw1 (below2 hb2 hb3)⟩
            | false =>
              cases b6 with
              | true =>
                go_enter Tryz.func3, Tryz.ntmps3
                go_wp2_with (first
                  | (go_at_call 9; refine (HNW.out _).mono ?_; rintro e w1 ⟨u, rfl, hm1, hb1⟩; have HM1 := show Hid (MapAt (w1.alloc (.cells #[.int .i64 0, .int .i64 0, .int .i64 0, .int .i64 0, .slice u.aN u.lN u.cN, .slice u.aT u.lT u.cT, .slice u.aR u.lR u.cR] 26)) mp0 u) from hm1.below (below_alloc _ _); have hbw1 := below2 hb1 (below_alloc w1 (.cells #[.int .i64 0, .int .i64 0, .int .i64 0, .int .i64 0, .slice u.aN u.lN u.cN, .slice u.aT u.lT u.cT, .slice u.aR u.lR u.cR] 26)); clear hm1)
                  | (go_at_call 10; refine (HSM.out _ _ HM1.out).mono ?_; rintro e w2 ⟨rfl, hb2⟩)
                  | (go_at_call 11; refine (HAW.out _).mono ?_; rintro e w3 ⟨rfl, hb3⟩))
                go_ret
                exact ⟨rfl, below2 hbw1 (below2 hb2 hb3)⟩
              | false =>
                exact absurd hor (by decide)
  refine key _ _ _ _ _ _ rfl rfl rfl rfl rfl rfl ?_
  simp only [Bool.or_eq_true, decide_eq_true_eq]
  omega
set_option maxHeartbeats 2000000 in
set_option maxRecDepth 60000 in
theorem mapsNew_good (s l : Int) (n : Nat) (hok : CountOk s l n) (w : World) : Calls Tryz.prog 3 #[.int .i64 s, .int .i64 l, .int .i64 (n : Int)] w fun e w' => e = .returned (.bool true) ∧ Below w.heap.size w w' := by
  have h8 : n ≤ 8 := by have := hok.2.2.2; omega
  have HNW : Hid (∀ W, Calls Tryz.prog 9 #[.int .i64 s, .int .i64 l, .int .i64 (n : Int)] W fun e w' => ∃ u : MV, e = .returned (.tuple #[.agg #[.int .i64 0, .int .i64 s, .int .i64 l, .int .i64 (n : Int), .slice u.aN u.lN u.cN, .slice u.aT u.lT u.cT, .slice u.aR u.lR u.cR], .int .i64 0]) ∧ BareAt w' (newM s l n) u ∧ Below W.heap.size W w') := fun W => (new_yes hok W).mono fun e w' ⟨hb, p, he, ho⟩ => ⟨_, he, bare_new s l h8 ho, hb⟩
  have HRN : Hid (∀ W, Calls Tryz.prog 12 #[.int .i64 s, .int .i64 l, .int .i64 (n : Int)] W fun e w' => ∃ v : MV, e = .returned (.agg #[.int .i64 0, .int .i64 s, .int .i64 l, .int .i64 (n : Int), .slice v.aN v.lN v.cN, .slice v.aT v.lT v.cT, .slice v.aR v.lR v.cR]) ∧ BareAt w' (newM s l n) v ∧ Below W.heap.size W w') := fun W => (refNew_any s l h8 W).mono fun e w' ⟨hb, p, he, ho⟩ => ⟨_, he, bare_new s l h8 ho, hb⟩
  have HMY : Hid (∀ W (v : MV), BareAt W (newM s l n) v → Calls Tryz.prog 13 #[.agg #[.int .i64 0, .int .i64 s, .int .i64 l, .int .i64 (n : Int), .slice v.aN v.lN v.cN, .slice v.aT v.lT v.cT, .slice v.aR v.lR v.cR]] W fun e w' => e = .returned (.bool true) ∧ Below W.heap.size W w') := fun W v h => refMay_bare (new_ok hok) W h
  have HSM : Hid (∀ W (u v : MV), BareAt W (newM s l n) u → BareAt W (newM s l n) v → Calls Tryz.prog 10 #[.agg #[.int .i64 0, .int .i64 s, .int .i64 l, .int .i64 (n : Int), .slice u.aN u.lN u.cN, .slice u.aT u.lT u.cT, .slice u.aR u.lR u.cR], .agg #[.int .i64 0, .int .i64 s, .int .i64 l, .int .i64 (n : Int), .slice v.aN v.lN v.cN, .slice v.aT v.lT v.cT, .slice v.aR v.lR v.cR]] W fun e w' => e = .returned (.bool true) ∧ Below W.heap.size W w') := fun W u v h h' => (refSame W h.map h'.map).mono fun e w' ⟨he, hg⟩ => ⟨by rw [he, (mpB_iff _ _).2 rfl], grown_below hg⟩
  have HAW : Hid (∀ W, Calls Tryz.prog 11 #[] W fun e w' => TruePost W e w') := awake_any
  obtain ⟨⟨k1, k2⟩, ⟨k3, k4⟩, k5, k6⟩ := hok
  have x1 : decide (s < 1) = false := by simp; omega
  have x2 : decide (3 < s) = false := by simp; omega
  have x3 : decide (l < 1) = false := by simp; omega
  have x4 : decide (s < l) = false := by simp; omega
  have x5 : decide ((n : Int) < 1) = false := by simp; omega
  have x6 : decide (8 < (n : Int)) = false := by simp; omega
  clear k1 k2 k3 k4 k5 k6 h8
  go_enter Tryz.func3, Tryz.ntmps3
  go_upto_region 4 with (go_at_call 9; refine (HNW.out _).mono ?_; rintro e w1 ⟨u, rfl, hm1, hb1⟩; have HM1 := show Hid (BareAt (w1.alloc (.cells #[.int .i64 0, .int .i64 s, .int .i64 l, .int .i64 (n : Int), .slice u.aN u.lN u.cN, .slice u.aT u.lT u.cT, .slice u.aR u.lR u.cR] 26)) (newM s l n) u) from hm1.below (below_alloc _ _); clear hm1)
  have hbw1 := below2 hb1 (below_alloc w1 (.cells #[.int .i64 0, .int .i64 s, .int .i64 l, .int .i64 (n : Int), .slice u.aN u.lN u.cN, .slice u.aT u.lT u.cT, .slice u.aR u.lR u.cR] 26))
  have HX1 : Hid (Box7 (w1.alloc (.cells #[.int .i64 0, .int .i64 s, .int .i64 l, .int .i64 (n : Int), .slice u.aN u.lN u.cN, .slice u.aT u.lT u.cT, .slice u.aR u.lR u.cR] 26)) w1.heap.size (.int .i64 0) (.int .i64 s) (.int .i64 l) (.int .i64 (n : Int)) (.slice u.aN u.lN u.cN) (.slice u.aT u.lT u.cT) (.slice u.aR u.lR u.cR)) := Box7.new w1 _ _ _ _ _ _ _ _
  generalize hv1 : w1.alloc (.cells #[.int .i64 0, .int .i64 s, .int .i64 l, .int .i64 (n : Int), .slice u.aN u.lN u.cN, .slice u.aT u.lT u.cT, .slice u.aR u.lR u.cR] 26) = v1 at *
  clear hv1
  go_upto_region 5 with (go_at_call 12; refine (HRN.out _).mono ?_; rintro e w2 ⟨v, rfl, hm2, hb2⟩; have HM2 := show Hid (BareAt (w2.alloc (.cells #[.int .i64 0, .int .i64 s, .int .i64 l, .int .i64 (n : Int), .slice v.aN v.lN v.cN, .slice v.aT v.lT v.cT, .slice v.aR v.lR v.cR] 26)) (newM s l n) v) from hm2.below (below_alloc _ _); clear hm2)
  have hbw2 := below2 hb2 (below_alloc w2 (.cells #[.int .i64 0, .int .i64 s, .int .i64 l, .int .i64 (n : Int), .slice v.aN v.lN v.cN, .slice v.aT v.lT v.cT, .slice v.aR v.lR v.cR] 26))
  have HX2 : Hid (Box7 (w2.alloc (.cells #[.int .i64 0, .int .i64 s, .int .i64 l, .int .i64 (n : Int), .slice v.aN v.lN v.cN, .slice v.aT v.lT v.cT, .slice v.aR v.lR v.cR] 26)) w1.heap.size (.int .i64 0) (.int .i64 s) (.int .i64 l) (.int .i64 (n : Int)) (.slice u.aN u.lN u.cN) (.slice u.aT u.lT u.cT) (.slice u.aR u.lR u.cR)) := HX1.out.below hbw2
  have HY2 : Hid (Box7 (w2.alloc (.cells #[.int .i64 0, .int .i64 s, .int .i64 l, .int .i64 (n : Int), .slice v.aN v.lN v.cN, .slice v.aT v.lT v.cT, .slice v.aR v.lR v.cR] 26)) w2.heap.size (.int .i64 0) (.int .i64 s) (.int .i64 l) (.int .i64 (n : Int)) (.slice v.aN v.lN v.cN) (.slice v.aT v.lT v.cT) (.slice v.aR v.lR v.cR)) := Box7.new w2 _ _ _ _ _ _ _ _
  have HU2 : Hid (BareAt (w2.alloc (.cells #[.int .i64 0, .int .i64 s, .int .i64 l, .int .i64 (n : Int), .slice v.aN v.lN v.cN, .slice v.aT v.lT v.cT, .slice v.aR v.lR v.cR] 26)) (newM s l n) u) := HM1.out.below hbw2
  generalize hv2 : w2.alloc (.cells #[.int .i64 0, .int .i64 s, .int .i64 l, .int .i64 (n : Int), .slice v.aN v.lN v.cN, .slice v.aT v.lT v.cT, .slice v.aR v.lR v.cR] 26) = v2 at *
  clear hv2
  obtain ⟨⟨d0, d1, d2, d3, d4, d5, d6⟩, -⟩ := HY2.out
  go_wp2_with (first
    | (go_at_call 13; refine (HMY.out _ _ HM2.out).mono ?_; rintro e w3 ⟨rfl, hb3⟩; obtain ⟨⟨p0, p1, p2, p3, p4, p5, p6⟩, -⟩ := HX2.out.below hb3; obtain ⟨⟨q0, q1, q2, q3, q4, q5, q6⟩, -⟩ := HY2.out.below hb3)
    | (go_at_call 10; refine (HSM.out _ _ _ (HU2.out.below hb3) (HM2.out.below hb3)).mono ?_; rintro e w4 ⟨rfl, hb4⟩)
    | (go_at_call 11; refine (HAW.out _).mono ?_; rintro e w5 ⟨rfl, hb5⟩))
  go_ret
  exact ⟨rfl, below2 hbw1 (below2 hbw2 (below2 hb3 (below2 hb4 hb5)))⟩
theorem mapsNew_any (s l g : Int) (w : World) : Calls Tryz.prog 3 #[.int .i64 s, .int .i64 l, .int .i64 g] w fun e w' => e = .returned (.bool true) ∧ Below w.heap.size w w' := by
  by_cases h : CountOk s l g
  · obtain ⟨n, rfl⟩ : ∃ n : Nat, g = (n : Int) := ⟨g.toNat, by have := h.2.2.1; omega⟩
    exact mapsNew_good s l n h w
  · exact mapsNew_bad s l g h w
end Go.Proofs.YtcncbjknfcjnmaaGreat.Tp
