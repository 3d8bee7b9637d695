/-
  The answer's Delta: which deltas may be told.
-/
import Derived.Test.YtejhmacbbdnlbaaAcD2
import Derived.Test.YtejhmacbbdnlbaaAcD3
import Derived.Test.YtejhmacbbdnlbaaAcD4
import Derived.Test.YtejhmacbbdnlbaaAcD5
namespace Go.Proofs.Ytejhmacbbdnlbaa.Ac
open Go.ChangeShapes Go.WideShapes Go.ChangeAt Go.RowKit
set_option maxHeartbeats 4000000 in
set_option maxRecDepth 60000 in
theorem refDelta_any (d : Dl) (a : Option Addr) (l c : Nat) (w : World) (h : RowI w a l c d.ns) : Calls Try.prog 12 #[.agg #[.int .i64 d.k, .int .i64 d.id, .int .i64 d.zn, .int .i64 d.rk, .int .i64 d.wt, .int .i64 d.g, .slice a l c]] w fun e w' => e = .returned (.bool (okD d)) ∧ Below w.heap.size w w' := by
  have hm : l ≤ maxLen := Nat.le_trans h.2.1 h.2.2.1
  unfold maxLen at hm
  have hl := h.1
  have HB := Hid.mk9 (below_alloc w (.cells #[.int .i64 d.k, .int .i64 d.id, .int .i64 d.zn, .int .i64 d.rk, .int .i64 d.wt, .int .i64 d.g, .slice a l c] 28))
  have HX := Hid.mk9 (B7.new w 28 (.int .i64 d.k) (.int .i64 d.id) (.int .i64 d.zn) (.int .i64 d.rk) (.int .i64 d.wt) (.int .i64 d.g) (.slice a l c))
  have HR := Hid.mk9 (h.below HB.out)
  have HN : Hid (∀ j, j < l → inC (d.ns.getD j 0) = false → okD d = false) := Hid.mk9 (fun j hj g => by unfold okD; rw [allC_no (by rw [hl]; exact hj) g, Bool.and_false])
  have HY : Hid ((∀ j, j < l → inC (d.ns.getD j 0) = true) → allC d.ns = true) := Hid.mk9 (fun g => allC_yes (by rw [hl]; exact g))
  have HL := Hid.mk9 hl
  obtain ⟨q, hq⟩ : ∃ q, q = okD d := ⟨_, rfl⟩
  rw [← hq] at HN ⊢
  have HQ := Hid.mk9 hq
  clear h hl hq
  go_enter Try.func12, Try.ntmps12
  go_upto_region 1 with fail
  generalize w.alloc (.cells #[.int .i64 d.k, .int .i64 d.id, .int .i64 d.zn, .int .i64 d.rk, .int .i64 d.wt, .int .i64 d.g, .slice a l c] 28) = w1 at *
  obtain ⟨X, hX⟩ : ∃ X, w.heap.size = X := ⟨_, rfl⟩
  rw [hX] at HX ⊢
  clear hX
  go_wp2_with fail
  go_loopw [3] (fun i wr => ∃ k : Nat, k ≤ l ∧ i = .int .i64 k ∧ Hid (wr = w1) ∧ Hid (∀ j, j < k → inC (d.ns.getD j 0) = true)) (fun i _ => l - (intOf i).toNat)
  case atStart => exact ⟨0, Nat.zero_le _, rfl, rfl, fun j hj => absurd hj (Nat.not_lt_zero _)⟩
  case round =>
    obtain ⟨k, hk, rfl, hwr, hT⟩ := hrel
    obtain rfl := hwr.out
    clear hwr
    have hx6 := HX.out.cells.2.2.2.2.2.2
    by_cases hlt : k < l
    · have hk1 : (k : Int) < (l : Int) := by omega
      have hk0 : (0 : Int) ≤ (k : Int) := by omega
      obtain ⟨p, po, rfl, hp, hcp⟩ := HR.out.some (by omega)
      have x0 := hcp k hlt
      have HC := Hid.mk9 (in_any (d.ns.getD k 0))
      have HNX : Hid (inC (d.ns.getD k 0) = true → ∀ j, j < k + 1 → inC (d.ns.getD j 0) = true) := Hid.mk9 fun h j hj => by
        by_cases e : j = k
        · rw [e]; exact h
        · exact hT.out j (by omega)
      have HNK := Hid.mk9 (HN.out k hlt)
      clear hcp hT HX
      generalize d.ns.getD k 0 = y at *
      generalize inC y = b at *
      cases b
      · have hq := HNK.out rfl
        subst hq
        clear HNX HNK HN HY
        go_wp2_with (go_at_call 27; refine (HC.out _).mono ?_; rintro en w2 ⟨rfl, rfl⟩)
        go_ret
        exact ⟨rfl, HB.out⟩
      · have HX := Hid.mk9 (HNX.out rfl)
        clear HNX HNK
        go_wp2_with (go_at_call 27; refine (HC.out _).mono ?_; rintro en w2 ⟨rfl, rfl⟩)
        exact ⟨⟨k + 1, by omega, by go_num, by unfold Hid; trivial, HX⟩, by simp [intOf]; omega⟩
    · obtain rfl : k = l := by omega
      have HQ2 : Hid (q = (inB d.k 1 10 && eqD d (bareD d) && decide (d.ns.length ≤ 3) && inC d.id && inC d.zn && inC d.rk && inC d.wt && inC d.g)) := Hid.mk9 (by rw [HQ.out]; unfold okD; rw [HY.out hT.out, Bool.and_true])
      clear HN HY HQ hT
      go_upto_region 6 with fail
      clear hx6
      by_cases c1 : 1 ≤ d.k
      rotate_left
      · have hA : decide ((1 : Int) ≤ d.k) = false := decide_eq_false c1
        obtain rfl : q = false := by rw [HQ2.out]; simp [inB, c1]
        refine refDelta_6_0 _ _ _ _ _ _ _ _ _ _ _ _ _ _ _ _ _ _ _ _ _ _ _ _ _ _ _ _ _ _ _ _ _ _ _ _ _ _ _ _ _ _ _ _ _ _ _ _ _ _ _ _ _ _ _ _ _ _ _ _ _ _ d X a k c wr _ HX HR hA (Hid.mk9 fun u0 u1 u2 u3 u4 u5 u6 u7 u8 u9 u10 u11 u12 u13 u14 u15 u16 u17 u18 u19 u20 u21 u22 u23 u24 u25 u26 u27 u28 u29 u30 u31 u32 u33 u34 u35 u36 u37 u38 u39 u40 u41 u42 u43 u44 wC hb => ?_)
        have HW := Hid.mk9 (below2 HB.out hb)
        clear hb HX HR HB
        go_wp2_with fail
        go_ret
        exact ⟨rfl, HW.out⟩
      have hA : decide ((1 : Int) ≤ d.k) = true := decide_eq_true c1
      by_cases c2 : d.k ≤ 10
      rotate_left
      · have hC : decide (d.k ≤ (10 : Int)) = false := decide_eq_false c2
        obtain rfl : q = false := by rw [HQ2.out]; simp [inB, c2]
        refine refDelta_6_1 _ _ _ _ _ _ _ _ _ _ _ _ _ _ _ _ _ _ _ _ _ _ _ _ _ _ _ _ _ _ _ _ _ _ _ _ _ _ _ _ _ _ _ _ _ _ _ _ _ _ _ _ _ _ _ _ _ _ _ _ _ _ d X a k c wr _ HX HR hA hC (Hid.mk9 fun u0 u1 u2 u3 u4 u5 u6 u7 u8 u9 u10 u11 u12 u13 u14 u15 u16 u17 u18 u19 u20 u21 u22 u23 u24 u25 u26 u27 u28 u29 u30 u31 u32 u33 u34 u35 u36 u37 u38 u39 u40 u41 u42 u43 u44 wC hb => ?_)
        have HW := Hid.mk9 (below2 HB.out hb)
        clear hb HX HR HB
        go_wp2_with fail
        go_ret
        exact ⟨rfl, HW.out⟩
      have hC : decide (d.k ≤ (10 : Int)) = true := decide_eq_true c2
      have HK := Hid.mk9 ((inB_iff d.k 1 10).2 ⟨c1, c2⟩)
      clear c1 c2
      by_cases c3 : eqD d (bareD d) = true
      rotate_left
      · have HE := Hid.mk9 (Bool.eq_false_iff.2 c3)
        obtain rfl : q = false := by rw [HQ2.out]; simp [HE.out]
        clear c3
        refine refDelta_6_2 _ _ _ _ _ _ _ _ _ _ _ _ _ _ _ _ _ _ _ _ _ _ _ _ _ _ _ _ _ _ _ _ _ _ _ _ _ _ _ _ _ _ _ _ _ _ _ _ _ _ _ _ _ _ _ _ _ _ _ _ _ _ d X a k c wr _ HX HR hA hC HK HE (Hid.mk9 fun u0 u1 u2 u3 u4 u5 u6 u7 u8 u9 u10 u11 u12 u13 u14 u15 u16 u17 u18 u19 u20 u21 u22 u23 u24 u25 u26 u27 u28 u29 u30 u31 u32 u33 u34 u35 u36 u37 u38 u39 u40 u41 u42 u43 u44 wC hb => ?_)
        have HW := Hid.mk9 (below2 HB.out hb)
        clear hb HX HR HB
        go_wp2_with fail
        go_ret
        exact ⟨rfl, HW.out⟩
      have HE := Hid.mk9 c3
      clear c3
      by_cases c4 : (k : Int) ≤ 3
      rotate_left
      · have h3 : decide ((k : Int) ≤ 3) = false := decide_eq_false c4
        obtain rfl : q = false := by rw [HQ2.out]; have := HL.out; simp [show ¬ d.ns.length ≤ 3 by omega]
        clear c4
        refine refDelta_6_3 _ _ _ _ _ _ _ _ _ _ _ _ _ _ _ _ _ _ _ _ _ _ _ _ _ _ _ _ _ _ _ _ _ _ _ _ _ _ _ _ _ _ _ _ _ _ _ _ _ _ _ _ _ _ _ _ _ _ _ _ _ _ d X a k c wr _ HX HR hA hC HK HE h3 (Hid.mk9 fun u0 u1 u2 u3 u4 u5 u6 u7 u8 u9 u10 u11 u12 u13 u14 u15 u16 u17 u18 u19 u20 u21 u22 u23 u24 u25 u26 u27 u28 u29 u30 u31 u32 u33 u34 u35 u36 u37 u38 u39 u40 u41 u42 u43 u44 wC hb => ?_)
        have HW := Hid.mk9 (below2 HB.out hb)
        clear hb HX HR HB
        go_wp2_with fail
        go_ret
        exact ⟨rfl, HW.out⟩
      have h3 : decide ((k : Int) ≤ 3) = true := decide_eq_true c4
      have HL3 : Hid (decide (d.ns.length ≤ 3) = true) := Hid.mk9 (by have := HL.out; exact decide_eq_true (by omega))
      clear c4
      by_cases cid : inC d.id = true
      rotate_left
      · have HFid := Hid.mk9 (Bool.eq_false_iff.2 cid)
        obtain rfl : q = false := by rw [HQ2.out]; simp [HFid.out]
        clear cid
        refine refDelta_6_4 _ _ _ _ _ _ _ _ _ _ _ _ _ _ _ _ _ _ _ _ _ _ _ _ _ _ _ _ _ _ _ _ _ _ _ _ _ _ _ _ _ _ _ _ _ _ _ _ _ _ _ _ _ _ _ _ _ _ _ _ _ _ d X a k c wr _ HX HR hA hC HK HE h3 HFid (Hid.mk9 fun u0 u1 u2 u3 u4 u5 u6 u7 u8 u9 u10 u11 u12 u13 u14 u15 u16 u17 u18 u19 u20 u21 u22 u23 u24 u25 u26 u27 u28 u29 u30 u31 u32 u33 u34 u35 u36 u37 u38 u39 u40 u41 u42 u43 u44 wC hb => ?_)
        have HW := Hid.mk9 (below2 HB.out hb)
        clear hb HX HR HB
        go_wp2_with fail
        go_ret
        exact ⟨rfl, HW.out⟩
      have HFid := Hid.mk9 cid
      clear cid
      by_cases czn : inC d.zn = true
      rotate_left
      · have HFzn := Hid.mk9 (Bool.eq_false_iff.2 czn)
        obtain rfl : q = false := by rw [HQ2.out]; simp [HFzn.out]
        clear czn
        refine refDelta_6_5 _ _ _ _ _ _ _ _ _ _ _ _ _ _ _ _ _ _ _ _ _ _ _ _ _ _ _ _ _ _ _ _ _ _ _ _ _ _ _ _ _ _ _ _ _ _ _ _ _ _ _ _ _ _ _ _ _ _ _ _ _ _ d X a k c wr _ HX HR hA hC HK HE h3 HFid HFzn (Hid.mk9 fun u0 u1 u2 u3 u4 u5 u6 u7 u8 u9 u10 u11 u12 u13 u14 u15 u16 u17 u18 u19 u20 u21 u22 u23 u24 u25 u26 u27 u28 u29 u30 u31 u32 u33 u34 u35 u36 u37 u38 u39 u40 u41 u42 u43 u44 wC hb => ?_)
        have HW := Hid.mk9 (below2 HB.out hb)
        clear hb HX HR HB
        go_wp2_with fail
        go_ret
        exact ⟨rfl, HW.out⟩
      have HFzn := Hid.mk9 czn
      clear czn
      by_cases crk : inC d.rk = true
      rotate_left
      · have HFrk := Hid.mk9 (Bool.eq_false_iff.2 crk)
        obtain rfl : q = false := by rw [HQ2.out]; simp [HFrk.out]
        clear crk
        refine refDelta_6_6 _ _ _ _ _ _ _ _ _ _ _ _ _ _ _ _ _ _ _ _ _ _ _ _ _ _ _ _ _ _ _ _ _ _ _ _ _ _ _ _ _ _ _ _ _ _ _ _ _ _ _ _ _ _ _ _ _ _ _ _ _ _ d X a k c wr _ HX HR hA hC HK HE h3 HFid HFzn HFrk (Hid.mk9 fun u0 u1 u2 u3 u4 u5 u6 u7 u8 u9 u10 u11 u12 u13 u14 u15 u16 u17 u18 u19 u20 u21 u22 u23 u24 u25 u26 u27 u28 u29 u30 u31 u32 u33 u34 u35 u36 u37 u38 u39 u40 u41 u42 u43 u44 wC hb => ?_)
        have HW := Hid.mk9 (below2 HB.out hb)
        clear hb HX HR HB
        go_wp2_with fail
        go_ret
        exact ⟨rfl, HW.out⟩
      have HFrk := Hid.mk9 crk
      clear crk
      by_cases cwt : inC d.wt = true
      rotate_left
      · have HFwt := Hid.mk9 (Bool.eq_false_iff.2 cwt)
        obtain rfl : q = false := by rw [HQ2.out]; simp [HFwt.out]
        clear cwt
        refine refDelta_6_7 _ _ _ _ _ _ _ _ _ _ _ _ _ _ _ _ _ _ _ _ _ _ _ _ _ _ _ _ _ _ _ _ _ _ _ _ _ _ _ _ _ _ _ _ _ _ _ _ _ _ _ _ _ _ _ _ _ _ _ _ _ _ d X a k c wr _ HX HR hA hC HK HE h3 HFid HFzn HFrk HFwt (Hid.mk9 fun u0 u1 u2 u3 u4 u5 u6 u7 u8 u9 u10 u11 u12 u13 u14 u15 u16 u17 u18 u19 u20 u21 u22 u23 u24 u25 u26 u27 u28 u29 u30 u31 u32 u33 u34 u35 u36 u37 u38 u39 u40 u41 u42 u43 u44 wC hb => ?_)
        have HW := Hid.mk9 (below2 HB.out hb)
        clear hb HX HR HB
        go_wp2_with fail
        go_ret
        exact ⟨rfl, HW.out⟩
      have HFwt := Hid.mk9 cwt
      clear cwt
      by_cases cg : inC d.g = true
      rotate_left
      · have HFg := Hid.mk9 (Bool.eq_false_iff.2 cg)
        obtain rfl : q = false := by rw [HQ2.out]; simp [HFg.out]
        clear cg
        refine refDelta_6_8 _ _ _ _ _ _ _ _ _ _ _ _ _ _ _ _ _ _ _ _ _ _ _ _ _ _ _ _ _ _ _ _ _ _ _ _ _ _ _ _ _ _ _ _ _ _ _ _ _ _ _ _ _ _ _ _ _ _ _ _ _ _ d X a k c wr _ HX HR hA hC HK HE h3 HFid HFzn HFrk HFwt HFg (Hid.mk9 fun u0 u1 u2 u3 u4 u5 u6 u7 u8 u9 u10 u11 u12 u13 u14 u15 u16 u17 u18 u19 u20 u21 u22 u23 u24 u25 u26 u27 u28 u29 u30 u31 u32 u33 u34 u35 u36 u37 u38 u39 u40 u41 u42 u43 u44 wC hb => ?_)
        have HW := Hid.mk9 (below2 HB.out hb)
        clear hb HX HR HB
        go_wp2_with fail
        go_ret
        exact ⟨rfl, HW.out⟩
      have HFg := Hid.mk9 cg
      clear cg
      obtain rfl : q = true := by rw [HQ2.out, HK.out, HE.out, HL3.out, HFid.out, HFzn.out, HFrk.out, HFwt.out, HFg.out]; rfl
      refine refDelta_6_9 _ _ _ _ _ _ _ _ _ _ _ _ _ _ _ _ _ _ _ _ _ _ _ _ _ _ _ _ _ _ _ _ _ _ _ _ _ _ _ _ _ _ _ _ _ _ _ _ _ _ _ _ _ _ _ _ _ _ _ _ _ _ d X a k c wr _ HX HR hA hC HK HE h3 HFid HFzn HFrk HFwt HFg (Hid.mk9 fun u0 u1 u2 u3 u4 u5 u6 u7 u8 u9 u10 u11 u12 u13 u14 u15 u16 u17 u18 u19 u20 u21 u22 u23 u24 u25 u26 u27 u28 u29 u30 u31 u32 u33 u34 u35 u36 u37 u38 u39 u40 u41 u42 u43 u44 wC hb => ?_)
      have HW := Hid.mk9 (below2 HB.out hb)
      clear hb HX HR HB
      go_wp2_with fail
      go_ret
      exact ⟨rfl, HW.out⟩
end Go.Proofs.Ytejhmacbbdnlbaa.Ac
