/-
  The answer's May: which acceptors may be.
-/
import Derived.Test.YtejhmacbbdnlbaaAcG
import Derived.Test.YtejhmacbbdnlbaaAcD6
namespace Go.Proofs.Ytejhmacbbdnlbaa.Ac
open Go.ChangeShapes Go.WideShapes Go.ChangeAt Go.RowKit
def okR (p : Int) (n j : Nat) (x : Acd) : Bool := if x.b = 0 then (eqA x acd0 && decide (j + 1 ≠ n)) else (inB x.b 1 p && okD x.d)
theorem okR_no {p : Int} {ls : List Acd} {n j : Nat} (hl : ls.length = n) (hj : j < n) (h : okR p n j (ls.getD j acd0) = false) : okA p ls = false := by
  unfold okR at h
  by_cases hb : (ls.getD j acd0).b = 0
  · rw [if_pos hb] at h
    by_cases he : j + 1 = n
    · have hi : idle ls = true := by
        unfold idle
        rw [decide_eq_true (by omega : 0 < ls.length), Bool.true_and, show ls.length - 1 = j by omega]
        exact decide_eq_true hb
      unfold okA
      rw [hi]
      simp
    · rw [decide_eq_true (show j + 1 ≠ n from he), Bool.and_true] at h
      have hx : okX p (ls.getD j acd0) = false := by
        unfold okX
        rw [if_pos hb]
        unfold eqA at h
        rw [decide_eq_true (show (ls.getD j acd0).b = acd0.b from hb), Bool.true_and] at h
        exact h
      unfold okA
      rw [allX_no (by rw [hl]; exact hj) hx, Bool.and_false]
  · rw [if_neg hb] at h
    have hx : okX p (ls.getD j acd0) = false := by
      unfold okX
      rw [if_neg hb]
      exact h
    unfold okA
    rw [allX_no (by rw [hl]; exact hj) hx, Bool.and_false]
theorem okR_yes {p : Int} {ls : List Acd} {n : Nat} (hl : ls.length = n) (h : ∀ j, j < n → okR p n j (ls.getD j acd0) = true) : okA p ls = (inC p && decide (n ≤ 256)) := by
  have hx : ls.all (okX p) = true := by
    refine allX_yes fun j hj => ?_
    have := h j (by omega)
    unfold okR at this
    unfold okX
    by_cases hb : (ls.getD j acd0).b = 0
    · rw [if_pos hb] at this ⊢
      rw [Bool.and_eq_true] at this
      have h1 := this.1
      unfold eqA at h1
      rw [Bool.and_eq_true] at h1
      exact h1.2
    · rw [if_neg hb] at this ⊢
      exact this
  have hi : idle ls = false := by
    cases hq : idle ls with
    | false => rfl
    | true =>
      unfold idle at hq
      rw [Bool.and_eq_true, decide_eq_true_iff, decide_eq_true_iff] at hq
      have := h (ls.length - 1) (by omega)
      unfold okR at this
      rw [if_pos hq.2, Bool.and_eq_true] at this
      have h2 := of_decide_eq_true this.2
      omega
  unfold okA
  rw [hx, hi, hl]
  simp
set_option maxHeartbeats 4000000 in
set_option maxRecDepth 60000 in
theorem refMay_any (p : Int) (a : Option Addr) (len cap : Nat) (ls : List Acd) (w : World) (h : AcsAt w a len cap ls) : Calls Try.prog 10 #[.agg #[.int .i64 p, .slice a len cap]] w fun e w' => e = .returned (.bool (okA p ls)) ∧ Below w.heap.size w w' := by
  have hm : len ≤ maxLen := Nat.le_trans h.2.1 h.2.2.1
  unfold maxLen at hm
  have hl := h.1
  have HB := Hid.mk9 (below_alloc w (.cells #[.int .i64 p, .slice a len cap] 24))
  have HX := Hid.mk9 (B2.new w 24 (.int .i64 p) (.slice a len cap))
  have HR := Hid.mk9 (h.below HB.out)
  have HN : Hid (∀ j, j < len → okR p len j (ls.getD j acd0) = false → okA p ls = false) := Hid.mk9 (fun j hj g => okR_no hl hj g)
  have HY : Hid ((∀ j, j < len → okR p len j (ls.getD j acd0) = true) → okA p ls = (inC p && decide (len ≤ 256))) := Hid.mk9 (fun g => okR_yes hl g)
  obtain ⟨q, hq⟩ : ∃ q, q = okA p ls := ⟨_, rfl⟩
  rw [← hq] at HN HY ⊢
  clear h hl hq
  go_enter Try.func10, Try.ntmps10
  go_upto_region 1 with fail
  generalize w.alloc (.cells #[.int .i64 p, .slice a len cap] 24) = w1 at *
  obtain ⟨X, hX⟩ : ∃ X, w.heap.size = X := ⟨_, rfl⟩
  rw [hX] at HX ⊢
  clear hX
  go_wp2_with fail
  go_loopw [3] (fun i wr => ∃ k : Nat, k ≤ len ∧ i = .int .i64 k ∧ Hid (Below w1.heap.size w1 wr) ∧ Hid (∀ j, j < k → okR p len j (ls.getD j acd0) = true)) (fun i _ => len - (intOf i).toNat)
  case atStart => exact ⟨0, Nat.zero_le _, rfl, Below.refl _ _, fun j hj => absurd hj (Nat.not_lt_zero _)⟩
  case round =>
    obtain ⟨k, hk, rfl, hwr, hT⟩ := hrel
    obtain ⟨p0, p1⟩ := (HX.out.below hwr.out).cells
    by_cases hlt : k < len
    · have hk1 : (k : Int) < (len : Int) := by omega
      have hk0 : (0 : Int) ≤ (k : Int) := by omega
      obtain ⟨b, off, rfl, hb, c, hc, hx, hr⟩ := (HR.out.below hwr.out).at hlt
      obtain ⟨x0, x1, x2, x3, x4, x5, x6, x7⟩ := hx
      have HRc := Hid.mk9 hr
      have HNX : Hid (okR p len k c.x = true → ∀ j, j < k + 1 → okR p len j (ls.getD j acd0) = true) := Hid.mk9 fun h j hj => by
        by_cases e : j = k
        · rw [e, hc]; exact h
        · exact hT.out j (by omega)
      have HNK : Hid (okR p len k c.x = false → q = false) := Hid.mk9 (fun h => HN.out k hlt (by rw [hc]; exact h))
      clear hr hT hc
      have HBo := Hid.mk9 (below_alloc wr (.cells #[.int .i64 c.x.b, .int .i64 c.x.d.k, .int .i64 c.x.d.id, .int .i64 c.x.d.zn, .int .i64 c.x.d.rk, .int .i64 c.x.d.wt, .int .i64 c.x.d.g, .slice c.a c.l c.c] 49))
      have HXo := Hid.mk9 (B8.new wr 49 (.int .i64 c.x.b) (.int .i64 c.x.d.k) (.int .i64 c.x.d.id) (.int .i64 c.x.d.zn) (.int .i64 c.x.d.rk) (.int .i64 c.x.d.wt) (.int .i64 c.x.d.g) (.slice c.a c.l c.c))
      have HXp := Hid.mk9 ((HX.out.below hwr.out).below HBo.out)
      go_upto_region 5 with fail
      clear x0 x1 x2 x3 x4 x5 x6 x7 p0 p1
      generalize wr.alloc (.cells #[.int .i64 c.x.b, .int .i64 c.x.d.k, .int .i64 c.x.d.id, .int .i64 c.x.d.zn, .int .i64 c.x.d.rk, .int .i64 c.x.d.wt, .int .i64 c.x.d.g, .slice c.a c.l c.c] 49) = w5 at *
      obtain ⟨Y, hY⟩ : ∃ Y, wr.heap.size = Y := ⟨_, rfl⟩
      have HRd := Hid.mk9 (HRc.out.below HBo.out)
      have HB5 := Hid.mk9 (below2 hwr.out HBo.out)
      rw [hY] at HXo ⊢
      clear hY HBo
      obtain ⟨y0, y1, y2, y3, y4, y5, y6, y7⟩ := HXo.out.cells
      obtain ⟨p0, p1⟩ := HXp.out.cells
      by_cases hb0 : c.x.b = 0
      · have HB0 := Hid.mk9 hb0
        by_cases he : eqA c.x acd0 = true
        · have HO := Hid.mk9 he
          by_cases hj : k + 1 = len
          · obtain rfl : q = false := HNK.out (by unfold okR; rw [if_pos hb0, decide_eq_false (fun h => h hj), Bool.and_false])
            have hje : ((k : Int) == (len : Int) - 1) = true := by rw [beq_iff_eq]; omega
            have hbb : (c.x.b == 0) = true := by rw [beq_iff_eq]; exact hb0
            have hbn : (c.x.b != 0) = false := by rw [bne_eq_false_iff_eq]; exact hb0
            clear HNX HNK HN HY hb0 he hj
            go_wp2_with (go_at_call 26; refine (one_any c.x acd0 c.a none c.l c.c 0 0 _ HRd.out (RowI.nil _)).mono ?_; rintro en w6 ⟨rfl, hb6⟩; rw [HO.out]; have HW6 := Hid.mk9 (below2 HB5.out hb6); have HXo6 := Hid.mk9 (HXo.out.below hb6); have HXp6 := Hid.mk9 (HXp.out.below hb6); clear hb6 y0 y1 y2 y3 y4 y5 y6 y7 p0 p1; obtain ⟨y0, y1, y2, y3, y4, y5, y6, y7⟩ := HXo6.out.cells; obtain ⟨p0, p1⟩ := HXp6.out.cells)
            go_ret
            exact ⟨rfl, below2 HB.out HW6.out⟩
          · have HT2 := Hid.mk9 (HNX.out (by unfold okR; rw [if_pos hb0, he, Bool.true_and]; exact decide_eq_true hj))
            have hje : ((k : Int) == (len : Int) - 1) = false := by rw [beq_eq_false_iff_ne]; omega
            have hbb : (c.x.b == 0) = true := by rw [beq_iff_eq]; exact hb0
            have hbn : (c.x.b != 0) = false := by rw [bne_eq_false_iff_eq]; exact hb0
            clear HNX HNK hb0 he hj
            go_wp2_with (go_at_call 26; refine (one_any c.x acd0 c.a none c.l c.c 0 0 _ HRd.out (RowI.nil _)).mono ?_; rintro en w6 ⟨rfl, hb6⟩; rw [HO.out]; have HW6 := Hid.mk9 (below2 HB5.out hb6); have HXo6 := Hid.mk9 (HXo.out.below hb6); have HXp6 := Hid.mk9 (HXp.out.below hb6); clear hb6 y0 y1 y2 y3 y4 y5 y6 y7 p0 p1; obtain ⟨y0, y1, y2, y3, y4, y5, y6, y7⟩ := HXo6.out.cells; obtain ⟨p0, p1⟩ := HXp6.out.cells)
            exact ⟨⟨k + 1, by omega, by go_num, HW6, HT2⟩, by simp [intOf]; omega⟩
        · have HO := Hid.mk9 (Bool.eq_false_iff.2 he)
          obtain rfl : q = false := HNK.out (by unfold okR; rw [if_pos hb0, HO.out]; rfl)
          have hbb : (c.x.b == 0) = true := by rw [beq_iff_eq]; exact hb0
          have hbn : (c.x.b != 0) = false := by rw [bne_eq_false_iff_eq]; exact hb0
          clear HNX HNK HN HY hb0 he
          go_wp2_with (go_at_call 26; refine (one_any c.x acd0 c.a none c.l c.c 0 0 _ HRd.out (RowI.nil _)).mono ?_; rintro en w6 ⟨rfl, hb6⟩; rw [HO.out]; have HW6 := Hid.mk9 (below2 HB5.out hb6); have HXo6 := Hid.mk9 (HXo.out.below hb6); have HXp6 := Hid.mk9 (HXp.out.below hb6); clear hb6 y0 y1 y2 y3 y4 y5 y6 y7 p0 p1; obtain ⟨y0, y1, y2, y3, y4, y5, y6, y7⟩ := HXo6.out.cells; obtain ⟨p0, p1⟩ := HXp6.out.cells)
          go_ret
          exact ⟨rfl, below2 HB.out HW6.out⟩
      · have h0' : (c.x.b == 0) = false := by simpa using hb0
        have h0'' : (c.x.b != 0) = true := by simpa using hb0
        by_cases h1 : 1 ≤ c.x.b
        · have d1 : decide (c.x.b < 1) = false := decide_eq_false (by omega)
          by_cases h2 : c.x.b ≤ p
          · have d2 : decide (p < c.x.b) = false := decide_eq_false (by omega)
            have hin : inB c.x.b 1 p = true := (inB_iff _ _ _).2 ⟨h1, h2⟩
            by_cases hd : okD c.x.d = true
            · have HO := Hid.mk9 hd
              have HT2 := Hid.mk9 (HNX.out (by unfold okR; rw [if_neg hb0, hin, hd]; rfl))
              clear HNX HNK hb0 hd hin h1 h2
              go_wp2_with (go_at_call 12; refine (refDelta_any c.x.d c.a c.l c.c _ HRd.out).mono ?_; rintro en w6 ⟨rfl, hb6⟩; rw [HO.out]; have HW6 := Hid.mk9 (below2 HB5.out hb6); clear hb6)
              exact ⟨⟨k + 1, by omega, by go_num, HW6, HT2⟩, by simp [intOf]; omega⟩
            · have HO := Hid.mk9 (Bool.eq_false_iff.2 hd)
              obtain rfl : q = false := HNK.out (by unfold okR; rw [if_neg hb0, HO.out, Bool.and_false])
              clear HNX HNK HN HY hb0 hd hin h1 h2
              go_wp2_with (go_at_call 12; refine (refDelta_any c.x.d c.a c.l c.c _ HRd.out).mono ?_; rintro en w6 ⟨rfl, hb6⟩; rw [HO.out]; have HW6 := Hid.mk9 (below2 HB5.out hb6); clear hb6)
              go_ret
              exact ⟨rfl, below2 HB.out HW6.out⟩
          · have d2 : decide (p < c.x.b) = true := decide_eq_true (by omega)
            obtain rfl : q = false := HNK.out (by unfold okR; rw [if_neg hb0, show inB c.x.b 1 p = false by simp [inB, h2]]; rfl)
            clear HNX HNK HN HY hb0 h1 h2
            go_wp2_with fail
            go_ret
            exact ⟨rfl, below2 HB.out HB5.out⟩
        · have d1 : decide (c.x.b < 1) = true := decide_eq_true (by omega)
          obtain rfl : q = false := HNK.out (by unfold okR; rw [if_neg hb0, show inB c.x.b 1 p = false by simp [inB, h1]]; rfl)
          clear HNX HNK HN HY hb0 h1
          go_wp2_with fail
          go_ret
          exact ⟨rfl, below2 HB.out HB5.out⟩
    · obtain rfl : k = len := by omega
      have hq := HY.out hT.out
      have HW6 := Hid.mk9 (below2 HB.out hwr.out)
      clear HN HY hT
      cases hcc : inC p with
      | false =>
        have HC := Hid.mk9 hcc
        obtain rfl : q = false := by rw [hq, hcc]; rfl
        clear hcc hq
        go_wp2_with (go_at_call 27; refine (in_any p _).mono ?_; rintro en w7 ⟨rfl, hw⟩; have hw := hw.symm; subst hw; rw [HC.out])
        go_ret
        exact ⟨rfl, HW6.out⟩
      | true =>
        have HC := Hid.mk9 hcc
        by_cases h2 : (k : Int) ≤ 256
        · have d2 : decide ((k : Int) ≤ 256) = true := decide_eq_true h2
          obtain rfl : q = true := by rw [hq, hcc, decide_eq_true (show k ≤ 256 by omega)]; rfl
          clear hcc hq h2
          go_wp2_with (go_at_call 27; refine (in_any p _).mono ?_; rintro en w7 ⟨rfl, hw⟩; have hw := hw.symm; subst hw; rw [HC.out])
          go_ret
          exact ⟨rfl, HW6.out⟩
        · have d2 : decide ((k : Int) ≤ 256) = false := decide_eq_false h2
          obtain rfl : q = false := by rw [hq, hcc, decide_eq_false (show ¬ k ≤ 256 by omega)]; rfl
          clear hcc hq h2
          go_wp2_with (go_at_call 27; refine (in_any p _).mono ?_; rintro en w7 ⟨rfl, hw⟩; have hw := hw.symm; subst hw; rw [HC.out])
          go_ret
          exact ⟨rfl, HW6.out⟩
end Go.Proofs.Ytejhmacbbdnlbaa.Ac
