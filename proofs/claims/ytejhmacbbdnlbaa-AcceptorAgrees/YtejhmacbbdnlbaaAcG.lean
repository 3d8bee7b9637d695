/-
  EndsIdle, mayStand, Check: which acceptors may be.
-/
import Derived.Test.YtejhmacbbdnlbaaAcE
namespace Go.Proofs.Ytejhmacbbdnlbaa.Ac
open Go.ChangeShapes Go.WideShapes Go.ChangeAt Go.RowKit
def idle (ls : List Acd) : Bool := decide (0 < ls.length) && decide ((ls.getD (ls.length - 1) acd0).b = 0)
set_option maxHeartbeats 4000000 in
set_option maxRecDepth 60000 in
theorem endsIdle_any (a : Option Addr) (len cap : Nat) (ls : List Acd) (w : World) (h : AcsAt w a len cap ls) : Calls Try.prog 24 #[.slice a len cap] w fun e w' => e = .returned (.bool (idle ls)) ∧ w' = w := by
  have hm : len ≤ maxLen := Nat.le_trans h.2.1 h.2.2.1
  unfold maxLen at hm
  have hl := h.1
  by_cases h0 : (0 : Int) < (len : Int)
  · obtain ⟨b, off, rfl, hb, c, hc, hx, -⟩ := h.at (i := len - 1) (by omega)
    have x0 := hx.1
    rw [← hc] at x0
    have hi : idle ls = decide ((ls.getD (len - 1) acd0).b = 0) := by unfold idle; rw [hl, decide_eq_true (by omega : 0 < len), Bool.true_and]
    rw [hi]
    have HK : ((len : Int) - 1) = ((len - 1 : Nat) : Int) := by omega
    clear hx hc h hi
    obtain ⟨k, hk⟩ : ∃ k, k = len - 1 := ⟨_, rfl⟩
    rw [← hk] at x0 HK ⊢
    have hkl : (k : Int) < (len : Int) := by omega
    have hk0 : (0 : Int) ≤ (k : Int) := by omega
    generalize (ls.getD k acd0).b = y at *
    clear hk
    by_cases hy : y = 0
    · subst hy
      rw [decide_eq_true rfl]
      go_enter Try.func24, Try.ntmps24
      go_wp2_with fail
      go_ret
      exact ⟨rfl, rfl⟩
    · rw [decide_eq_false hy]
      have hyb : (y == 0) = false := by simpa using hy
      go_enter Try.func24, Try.ntmps24
      go_wp2_with fail
      go_ret
      exact ⟨rfl, rfl⟩
  · have hl0 : len = 0 := by omega
    subst hl0
    have hi : idle ls = false := by unfold idle; rw [hl]; rfl
    rw [hi]
    go_enter Try.func24, Try.ntmps24
    go_wp2_with fail
    go_ret
    exact ⟨rfl, rfl⟩
def okX (p : Int) (x : Acd) : Bool := if x.b = 0 then eqD x.d dl0 else (inB x.b 1 p && okD x.d)
set_option maxHeartbeats 4000000 in
set_option maxRecDepth 60000 in
theorem mayStand_any (x : Acd) (a : Option Addr) (l c : Nat) (p : Int) (w : World) (h : RowI w a l c x.d.ns) : Calls Try.prog 25 #[.agg #[.int .i64 x.b, .int .i64 x.d.k, .int .i64 x.d.id, .int .i64 x.d.zn, .int .i64 x.d.rk, .int .i64 x.d.wt, .int .i64 x.d.g, .slice a l c], .int .i64 p] w fun e w' => e = .returned (.bool (okX p x)) ∧ Below w.heap.size w w' := by
  have HB := Hid.mk9 (below_alloc w (.cells #[.int .i64 x.b, .int .i64 x.d.k, .int .i64 x.d.id, .int .i64 x.d.zn, .int .i64 x.d.rk, .int .i64 x.d.wt, .int .i64 x.d.g, .slice a l c] 49))
  have HX := Hid.mk9 (B8.new w 49 (.int .i64 x.b) (.int .i64 x.d.k) (.int .i64 x.d.id) (.int .i64 x.d.zn) (.int .i64 x.d.rk) (.int .i64 x.d.wt) (.int .i64 x.d.g) (.slice a l c))
  have HR := Hid.mk9 (h.below HB.out)
  obtain ⟨q, hq⟩ : ∃ q, q = okX p x := ⟨_, rfl⟩
  rw [← hq]
  have HQ := Hid.mk9 hq
  clear h hq
  go_enter Try.func25, Try.ntmps25
  go_upto_region 1 with fail
  generalize w.alloc (.cells #[.int .i64 x.b, .int .i64 x.d.k, .int .i64 x.d.id, .int .i64 x.d.zn, .int .i64 x.d.rk, .int .i64 x.d.wt, .int .i64 x.d.g, .slice a l c] 49) = w1 at *
  obtain ⟨p0, p1, p2, p3, p4, p5, p6, p7⟩ := HX.out.cells
  clear HX
  by_cases h0 : x.b = 0
  · have HQ2 : Hid (q = eqD x.d dl0) := Hid.mk9 (by rw [HQ.out]; unfold okX; rw [if_pos h0])
    rw [h0] at p0
    obtain rfl := HQ2.out
    clear HQ HQ2 h0
    go_wp2_with (go_at_call 29; refine (sameDelta_any x.d dl0 a none l c 0 0 _ HR.out (RowI.nil _)).mono ?_; rintro en w4 ⟨rfl, hb4⟩; have HW4 := Hid.mk9 (below2 HB.out hb4); clear hb4)
    go_ret
    exact ⟨rfl, HW4.out⟩
  · have HQ2 : Hid (q = (inB x.b 1 p && okD x.d)) := Hid.mk9 (by rw [HQ.out]; unfold okX; rw [if_neg h0])
    have h0' : (x.b == 0) = false := by simpa using h0
    by_cases c1 : inB x.b 1 p = true
    · have HC1 := Hid.mk9 c1
      have HQ3 : Hid (q = okD x.d) := Hid.mk9 (by rw [HQ2.out, c1, Bool.true_and])
      clear HQ HQ2 c1 h0
      cases q with
      | false =>
        have HO : Hid (¬ okD x.d = true) := Hid.mk9 (by rw [← HQ3.out]; decide)
        go_wp2_with (first | (go_at_call 21; refine (within_any x.b 1 p _).mono ?_; rintro en w4 ⟨rfl, rfl⟩; rw [HC1.out]) | (go_at_call 11; refine (checkDelta_any x.d a l c _ HR.out).mono ?_; rintro en w4 ⟨rfl, hb4⟩; have HW4 := Hid.mk9 (below2 HB.out hb4); rw [if_neg HO.out]; clear hb4))
        go_ret
        exact ⟨rfl, HW4.out⟩
      | true =>
        go_wp2_with (first | (go_at_call 21; refine (within_any x.b 1 p _).mono ?_; rintro en w4 ⟨rfl, rfl⟩; rw [HC1.out]) | (go_at_call 11; refine (checkDelta_any x.d a l c _ HR.out).mono ?_; rintro en w4 ⟨rfl, hb4⟩; have HW4 := Hid.mk9 (below2 HB.out hb4); rw [if_pos HQ3.out.symm]; clear hb4))
        go_ret
        exact ⟨rfl, HW4.out⟩
    · have HC1 := Hid.mk9 (Bool.eq_false_iff.2 c1)
      obtain rfl : q = false := by rw [HQ2.out, HC1.out]; rfl
      clear HQ HQ2 c1 h0
      go_wp2_with (go_at_call 21; refine (within_any x.b 1 p _).mono ?_; rintro en w4 ⟨rfl, rfl⟩; rw [HC1.out])
      go_ret
      exact ⟨rfl, HB.out⟩
def okA (p : Int) (ls : List Acd) : Bool := inC p && decide (ls.length ≤ 256) && !idle ls && ls.all (okX p)
theorem allX_yes {p : Int} {l : List Acd} (h : ∀ j, j < l.length → okX p (l.getD j acd0) = true) : l.all (okX p) = true := by
  rw [List.all_eq_true]
  intro x hx
  obtain ⟨j, hj, rfl⟩ := List.mem_iff_getElem.1 hx
  simpa [hj] using h j hj
theorem allX_no {p : Int} {l : List Acd} {j : Nat} (hj : j < l.length) (h : okX p (l.getD j acd0) = false) : l.all (okX p) = false := by
  cases hq : l.all (okX p) with
  | false => rfl
  | true =>
    rw [List.all_eq_true] at hq
    have := hq (l[j]) (List.getElem_mem hj)
    simp [hj] at h
    rw [h] at this
    simp at this
set_option maxHeartbeats 4000000 in
set_option maxRecDepth 60000 in
theorem check_any (p : Int) (a : Option Addr) (len cap : Nat) (ls : List Acd) (w : World) (h : AcsAt w a len cap ls) : Calls Try.prog 9 #[.agg #[.int .i64 p, .slice a len cap]] w fun e w' => e = .returned (.int .i64 (if okA p ls = true then 0 else 1)) ∧ Below w.heap.size w w' := by
  have hm : len ≤ maxLen := Nat.le_trans h.2.1 h.2.2.1
  unfold maxLen at hm
  have hl := h.1
  have HL := Hid.mk9 hl
  have HB := Hid.mk9 (below_alloc w (.cells #[.int .i64 p, .slice a len cap] 24))
  have HX := Hid.mk9 (B2.new w 24 (.int .i64 p) (.slice a len cap))
  have HR := Hid.mk9 (h.below HB.out)
  have HN : Hid (∀ j, j < len → okX p (ls.getD j acd0) = false → okA p ls = false) := Hid.mk9 (fun j hj g => by unfold okA; rw [allX_no (by rw [hl]; exact hj) g, Bool.and_false])
  have HY : Hid ((∀ j, j < len → okX p (ls.getD j acd0) = true) → ls.all (okX p) = true) := Hid.mk9 (fun g => allX_yes (by rw [hl]; exact g))
  obtain ⟨q, hq⟩ : ∃ q, q = okA p ls := ⟨_, rfl⟩
  rw [← hq] at HN ⊢
  have HQ := Hid.mk9 hq
  clear h hl hq
  go_enter Try.func9, Try.ntmps9
  go_upto_region 1 with fail
  generalize w.alloc (.cells #[.int .i64 p, .slice a len cap] 24) = w1 at *
  obtain ⟨X, hX⟩ : ∃ X, w.heap.size = X := ⟨_, rfl⟩
  rw [hX] at HX ⊢
  clear hX
  obtain ⟨p0, p1⟩ := HX.out.cells
  by_cases c1 : inC p = true
  rotate_left
  · have HC : Hid (inB p 0 2147483647 = false) := Hid.mk9 (Bool.eq_false_iff.2 c1)
    obtain rfl : q = false := by rw [HQ.out]; unfold okA; rw [Bool.eq_false_iff.2 c1]; rfl
    clear c1
    go_wp2_with (go_at_call 21; refine (within_any p 0 2147483647 _).mono ?_; rintro en w4 ⟨rfl, hw⟩; have hw := hw.symm; subst hw; rw [HC.out])
    go_ret
    exact ⟨rfl, HB.out⟩
  have HC : Hid (inB p 0 2147483647 = true) := Hid.mk9 c1
  by_cases c2 : (len : Int) ≤ 256
  rotate_left
  · have d2 : decide (256 < (len : Int)) = true := decide_eq_true (by omega)
    obtain rfl : q = false := by rw [HQ.out]; unfold okA; have := HL.out; rw [decide_eq_false (show ¬ ls.length ≤ 256 by omega)]; simp
    clear c1 c2
    go_wp2_with (go_at_call 21; refine (within_any p 0 2147483647 _).mono ?_; rintro en w4 ⟨rfl, hw⟩; have hw := hw.symm; subst hw; rw [HC.out])
    go_ret
    exact ⟨rfl, HB.out⟩
  have d2 : decide (256 < (len : Int)) = false := decide_eq_false (by omega)
  by_cases c3 : idle ls = true
  · have HI := Hid.mk9 c3
    obtain rfl : q = false := by rw [HQ.out]; unfold okA; rw [c3]; simp
    clear c1 c2 c3
    go_wp2_with (first | (go_at_call 21; refine (within_any p 0 2147483647 _).mono ?_; rintro en w4 ⟨rfl, hw⟩; have hw := hw.symm; subst hw; rw [HC.out]) | (go_at_call 24; refine (endsIdle_any a len cap ls _ HR.out).mono ?_; rintro en w4 ⟨rfl, hw⟩; have hw := hw.symm; subst hw; rw [HI.out]))
    go_ret
    exact ⟨rfl, HB.out⟩
  have HI := Hid.mk9 (Bool.eq_false_iff.2 c3)
  have HQ2 : Hid (q = ls.all (okX p)) := Hid.mk9 (by rw [HQ.out]; unfold okA; have := HL.out; rw [c1, HI.out, decide_eq_true (show ls.length ≤ 256 by omega)]; rfl)
  clear c1 c3 HQ
  go_wp2_with (first | (go_at_call 21; refine (within_any p 0 2147483647 _).mono ?_; rintro en w4 ⟨rfl, hw⟩; have hw := hw.symm; subst hw; rw [HC.out]) | (go_at_call 24; refine (endsIdle_any a len cap ls _ HR.out).mono ?_; rintro en w4 ⟨rfl, hw⟩; have hw := hw.symm; subst hw; rw [HI.out]))
  go_loopw [23] (fun i wr => ∃ k : Nat, k ≤ len ∧ i = .int .i64 k ∧ Hid (Below w1.heap.size w1 wr) ∧ Hid (∀ j, j < k → okX p (ls.getD j acd0) = true)) (fun i _ => len - (intOf i).toNat)
  case atStart => exact ⟨0, Nat.zero_le _, rfl, Below.refl _ _, fun j hj => absurd hj (Nat.not_lt_zero _)⟩
  case round =>
    obtain ⟨k, hk, rfl, hwr, hT⟩ := hrel
    clear p0 p1
    obtain ⟨p0, p1⟩ := (HX.out.below hwr.out).cells
    by_cases hlt : k < len
    · have hk1 : (k : Int) < (len : Int) := by omega
      have hk0 : (0 : Int) ≤ (k : Int) := by omega
      obtain ⟨b, off, rfl, hb, c, hc, hx, hr⟩ := (HR.out.below hwr.out).at hlt
      obtain ⟨x0, x1, x2, x3, x4, x5, x6, x7⟩ := hx
      have HRc := Hid.mk9 hr
      have HNX : Hid (okX p c.x = true → ∀ j, j < k + 1 → okX p (ls.getD j acd0) = true) := Hid.mk9 fun h j hj => by
        by_cases e : j = k
        · rw [e, hc]; exact h
        · exact hT.out j (by omega)
      have HNK : Hid (okX p c.x = false → q = false) := Hid.mk9 (fun h => HN.out k hlt (by rw [hc]; exact h))
      clear hr hT hc
      have HBo := Hid.mk9 (below_alloc wr (.cells #[.int .i64 c.x.b, .int .i64 c.x.d.k, .int .i64 c.x.d.id, .int .i64 c.x.d.zn, .int .i64 c.x.d.rk, .int .i64 c.x.d.wt, .int .i64 c.x.d.g, .slice c.a c.l c.c] 49))
      have HXo := Hid.mk9 (B8.new wr 49 (.int .i64 c.x.b) (.int .i64 c.x.d.k) (.int .i64 c.x.d.id) (.int .i64 c.x.d.zn) (.int .i64 c.x.d.rk) (.int .i64 c.x.d.wt) (.int .i64 c.x.d.g) (.slice c.a c.l c.c))
      have HXp := Hid.mk9 ((HX.out.below hwr.out).below HBo.out)
      go_upto_region 6 with fail
      clear x0 x1 x2 x3 x4 x5 x6 x7 p0 p1
      generalize wr.alloc (.cells #[.int .i64 c.x.b, .int .i64 c.x.d.k, .int .i64 c.x.d.id, .int .i64 c.x.d.zn, .int .i64 c.x.d.rk, .int .i64 c.x.d.wt, .int .i64 c.x.d.g, .slice c.a c.l c.c] 49) = w5 at *
      obtain ⟨Y, hY⟩ : ∃ Y, wr.heap.size = Y := ⟨_, rfl⟩
      have HRd := Hid.mk9 (HRc.out.below HBo.out)
      have HB5 := Hid.mk9 (below2 hwr.out HBo.out)
      rw [hY] at HXo ⊢
      clear hY HBo
      obtain ⟨y0, y1, y2, y3, y4, y5, y6, y7⟩ := HXo.out.cells
      obtain ⟨p0, p1⟩ := HXp.out.cells
      cases hok : okX p c.x with
      | false =>
        have HOK := Hid.mk9 hok
        have hq := HNK.out hok
        subst hq
        clear hok HNX HNK HN HY HQ2
        go_wp2_with (go_at_call 25; refine (mayStand_any c.x c.a c.l c.c p _ HRd.out).mono ?_; rintro en w6 ⟨rfl, hb6⟩; rw [HOK.out]; have HW6 := Hid.mk9 (below2 HB.out (below2 HB5.out hb6)); clear hb6)
        go_ret
        exact ⟨rfl, HW6.out⟩
      | true =>
        have HOK := Hid.mk9 hok
        have HT2 := Hid.mk9 (HNX.out hok)
        clear hok HNX HNK
        go_wp2_with (go_at_call 25; refine (mayStand_any c.x c.a c.l c.c p _ HRd.out).mono ?_; rintro en w6 ⟨rfl, hb6⟩; rw [HOK.out]; have HW6 := Hid.mk9 (below2 HB5.out hb6); clear hb6 y0 y1 y2 y3 y4 y5 y6 y7 p0 p1)
        exact ⟨⟨k + 1, by omega, by go_num, HW6, HT2⟩, by simp [intOf]; omega⟩
    · obtain rfl : k = len := by omega
      obtain rfl : q = true := by rw [HQ2.out]; exact HY.out hT.out
      have HW6 := Hid.mk9 (below2 HB.out hwr.out)
      clear HN HY HQ2 hT
      go_wp2_with fail
      go_ret
      exact ⟨rfl, HW6.out⟩
end Go.Proofs.Ytejhmacbbdnlbaa.Ac
