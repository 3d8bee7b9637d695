/-
  Prepare.
-/
import Derived.Test.YtejhmacbbdnlbaaAcK
namespace Go.Proofs.Ytejhmacbbdnlbaa.Ac
open Go.ChangeShapes Go.WideShapes Go.ChangeAt Go.RowKit
theorem okD_len {d : Dl} (h : okD d = true) : d.ns.length ≤ 3 := by
  unfold okD at h
  simp only [Bool.and_eq_true, decide_eq_true_iff] at h
  exact h.1.1.1.1.1.1.2
theorem okA_len {p : Int} {ls : List Acd} (h : okA p ls = true) : ls.length ≤ 256 := by
  unfold okA at h
  simp only [Bool.and_eq_true, decide_eq_true_iff] at h
  exact h.1.1.2
theorem okA_slim {p : Int} {ls : List Acd} (h : okA p ls = true) : Slim ls := by
  refine ⟨by have := okA_len h; omega, fun x hx => ?_⟩
  unfold okA at h
  simp only [Bool.and_eq_true] at h
  have h1 := List.all_eq_true.1 h.2 x hx
  unfold okX at h1
  by_cases hb : x.b = 0
  · rw [if_pos hb, eqD_iff] at h1
    rw [h1]
    simp [dl0]
  · rw [if_neg hb, Bool.and_eq_true] at h1
    have := okD_len h1.2
    omega
theorem ret_3 {fn : Func} {p q r : Tmp} (h : fn.results = #[.cell p 24, .tmp q, .tmp r]) (tmps : Array Value) (w : World) (b : Nat) (v0 v1 u x : Value) (hp : tmps.getD p undef = .pointer (some ⟨b, 0, none⟩)) (hq : tmps.getD q undef = u) (hr : tmps.getD r undef = x)
    (hb : B2 w b 24 v0 v1) : (results fn tmps).run Try.prog w = .ok (.tuple #[.agg #[v0, v1], u, x]) w := by
  obtain ⟨h0, h1⟩ := hb.cells
  simp only [Array.getD_eq_getD_getElem?] at hp hq hr
  simp only [results, h]
  simp [go_sem, hp, hq, hr, h0, h1]
def prepE (p : Int) (ls : List Acd) (ballot fr : Int) : Int := if okA p ls = true then (if (inB ballot 1 2147483647 && inB fr 1 257) = true then (if ballot < p then 9 else 0) else 1) else 1
def prepP (p : Int) (ls : List Acd) (ballot fr : Int) : Int := if okA p ls = true then (if prepE p ls ballot fr = 0 then ballot else p) else 0
def prepL (p : Int) (ls : List Acd) : List Acd := if okA p ls = true then ls else []
def prepT (p : Int) (ls : List Acd) (ballot fr : Int) : List Acd := if prepE p ls ballot fr = 0 then ls.drop (fr - 1).toNat else []
def PrepPost (P : Int) (L T : List Acd) (E : Int) (w : World) (e : Ending) (w' : World) : Prop := Below w.heap.size w w' ∧ ∃ v vt, e = .returned (.tuple #[.agg #[.int .i64 P, v], vt, .int .i64 E]) ∧ OwnA w' w.heap.size v L ∧ OwnA w' w.heap.size vt T
set_option maxHeartbeats 4000000 in
set_option maxRecDepth 60000 in
theorem prepare_any (p : Int) (a : Option Addr) (len cap : Nat) (ls : List Acd) (ballot fr : Int) (w : World) (h : AcsAt w a len cap ls) : Calls Try.prog 7 #[.agg #[.int .i64 p, .slice a len cap], .int .i64 ballot, .int .i64 fr] w fun e w' => PrepPost (prepP p ls ballot fr) (prepL p ls) (prepT p ls ballot fr) (prepE p ls ballot fr) w e w' := by
  have hcm : cap ≤ maxLen := h.2.2.1
  unfold maxLen at hcm
  have hlc := h.2.1
  have hl := h.1
  have HL := Hid.mk9 hl
  have HA0 := Hid.mk9 h
  have HB := Hid.mk9 (below2 (below_alloc w (.cells #[.int .i64 p, .slice a len cap] 24)) (below_alloc _ (.cells #[.int .i64 0, .slice none 0 0] 24)))
  have HX := Hid.mk9 ((B2.new w 24 (.int .i64 p) (.slice a len cap)).below (below_alloc _ (.cells #[.int .i64 0, .slice none 0 0] 24)))
  have HR : Hid (B2 ((w.alloc (.cells #[.int .i64 p, .slice a len cap] 24)).alloc (.cells #[.int .i64 0, .slice none 0 0] 24)) (w.heap.size + 1) 24 (.int .i64 0) (.slice none 0 0)) := by
    have := B2.new (w.alloc (.cells #[.int .i64 p, .slice a len cap] 24)) 24 (.int .i64 0) (.slice none 0 0)
    rw [show (w.alloc (.cells #[.int .i64 p, .slice a len cap] 24)).heap.size = w.heap.size + 1 from by simp] at this
    exact this
  have HA := Hid.mk9 (h.below HB.out)
  have HSz : Hid (((w.alloc (.cells #[.int .i64 p, .slice a len cap] 24)).alloc (.cells #[.int .i64 0, .slice none 0 0] 24)).heap.size = w.heap.size + 2) := Hid.mk9 (by simp)
  obtain ⟨PP, hPP⟩ : ∃ PP, PP = prepP p ls ballot fr := ⟨_, rfl⟩
  obtain ⟨LL, hLL⟩ : ∃ LL, LL = prepL p ls := ⟨_, rfl⟩
  obtain ⟨TT, hTT⟩ : ∃ TT, TT = prepT p ls ballot fr := ⟨_, rfl⟩
  obtain ⟨EE, hEE⟩ : ∃ EE, EE = prepE p ls ballot fr := ⟨_, rfl⟩
  rw [← hPP, ← hLL, ← hTT, ← hEE]
  have HPP := Hid.mk9 hPP
  have HLL := Hid.mk9 hLL
  have HTT := Hid.mk9 hTT
  have HEE := Hid.mk9 hEE
  clear h hl hPP hLL hTT hEE
  go_enter Try.func7, Try.ntmps7
  go_upto_region 1 with fail
  generalize ((w.alloc (.cells #[.int .i64 p, .slice a len cap] 24)).alloc (.cells #[.int .i64 0, .slice none 0 0] 24)) = w1 at *
  obtain ⟨X, hX⟩ : ∃ X, w.heap.size = X := ⟨_, rfl⟩
  have HXw : Hid (w.heap.size = X) := Hid.mk9 hX
  rw [hX] at HX HR HSz ⊢
  clear hX
  obtain ⟨p0, p1⟩ := HX.out.cells
  by_cases hok : okA p ls = true
  rotate_left
  · have HOK := Hid.mk9 hok
    obtain rfl : EE = 1 := by rw [HEE.out]; unfold prepE; rw [if_neg hok]
    obtain rfl : PP = 0 := by rw [HPP.out]; unfold prepP; rw [if_neg hok]
    obtain rfl : LL = [] := by rw [HLL.out]; unfold prepL; rw [if_neg hok]
    obtain rfl : TT = [] := by rw [HTT.out]; unfold prepT; rw [← HEE.out]; rfl
    clear hok HEE HPP HLL HTT
    go_wp2_with (go_at_call 9; refine (check_any p a len cap ls _ HA.out).mono ?_; rintro en w3 ⟨rfl, hb3⟩; rw [if_neg HOK.out]; have HB3 := Hid.mk9 (below2 HB.out hb3); have HR3 := Hid.mk9 (HR.out.below hb3); clear hb3 p0 p1; obtain ⟨q0, q1⟩ := HR3.out.cells; obtain ⟨f0, f1⟩ := HR3.out.frz; have HZ := Hid.mk9 (HR3.out.set (.int .i64 0) (.slice none 0 0)); have HZb := Hid.mk9 (set2_below HB3.out (b := X + 1) (by have := HXw.out; omega) (.int .i64 0) (.slice none 0 0)))
    refine bodyPost_ret (ret_3 rfl _ _ (X + 1) (.int .i64 0) (.slice none 0 0) (.slice none 0 0) (.int .i64 1) rfl rfl rfl HZ.out) rfl ?_
    exact ⟨HZb.out, _, _, rfl, OwnA.nil _ _, OwnA.nil _ _⟩
  have HOK := Hid.mk9 hok
  obtain rfl : LL = ls := by rw [HLL.out]; unfold prepL; rw [if_pos hok]
  clear HLL
  have HE2 : Hid (EE = if (inB ballot 1 2147483647 && inB fr 1 257) = true then (if ballot < p then 9 else 0) else 1) := Hid.mk9 (by rw [HEE.out]; unfold prepE; rw [if_pos hok])
  have HP2 : Hid (PP = if EE = 0 then ballot else p) := Hid.mk9 (by rw [HPP.out]; unfold prepP; rw [if_pos hok, ← HEE.out])
  have HT2 : Hid (TT = if EE = 0 then LL.drop (fr - 1).toNat else []) := Hid.mk9 (by rw [HTT.out]; unfold prepT; rw [← HEE.out])
  have HSl := Hid.mk9 (okA_slim hok)
  clear hok HEE HPP HTT
  go_upto_region 4 with (first
    | (go_at_call 9; refine (check_any p a len cap LL _ HA.out).mono ?_; rintro en w3 ⟨rfl, hb3⟩; rw [if_pos HOK.out]; have HB3 := Hid.mk9 (below2 HB.out hb3); have HX3 := Hid.mk9 (HX.out.below hb3); have HR3 := Hid.mk9 (HR.out.below hb3); have HA3 := Hid.mk9 (HA.out.below hb3); have HS3 := Hid.mk9 hb3.size; clear hb3 p0 p1; obtain ⟨p0, p1⟩ := HX3.out.cells)
    | (go_at_call 20; refine (clone_any p a len cap LL _ HA3.out HSl.out).mono ?_; rintro en w4 ⟨hb4, v4, rfl, ho4⟩; have HB4 := Hid.mk9 (below2 HB3.out hb4); have HX4 := Hid.mk9 (HX3.out.below hb4); have HR4 := Hid.mk9 (HR3.out.below hb4); have HA4 := Hid.mk9 (HA3.out.below hb4); have HO4 := Hid.mk9 (ho4.base HB3.out.size); have HS4 := Hid.mk9 hb4.size; clear hb4 ho4 p0 p1; obtain ⟨a4, c4, rfl, -⟩ := HO4.out.at))
  have hbA := below_alloc w4 (.cells #[.int .i64 p, .slice a4 LL.length c4] 24)
  have HB5 := Hid.mk9 (below2 HB4.out hbA)
  have HX5 := Hid.mk9 (HX4.out.below hbA)
  have HR5 := Hid.mk9 (HR4.out.below hbA)
  have HA5 := Hid.mk9 (HA4.out.below hbA)
  have HO5 := Hid.mk9 (HO4.out.below hbA)
  have HY5 := Hid.mk9 (B2.new w4 24 (.int .i64 p) (.slice a4 LL.length c4))
  clear hbA HB HX HR HA HB3 HX3 HR3 HA3 HB4 HX4 HR4 HA4 HO4
  generalize w4.alloc (.cells #[.int .i64 p, .slice a4 LL.length c4] 24) = w5 at *
  obtain ⟨Y, hY⟩ : ∃ Y, w4.heap.size = Y := ⟨_, rfl⟩
  have HYX : Hid (X + 2 ≤ Y) := Hid.mk9 (by rw [← hY]; have := HS4.out; have := HS3.out; have := HSz.out; omega)
  rw [hY] at HY5 ⊢
  clear hY HS3 HS4 HSz
  obtain ⟨p0, p1⟩ := HX5.out.cells
  obtain ⟨y0, y1⟩ := HY5.out.cells
  obtain ⟨q0, q1⟩ := HR5.out.cells
  obtain ⟨f0, f1⟩ := HR5.out.frz
  have HZ := Hid.mk9 (HR5.out.set (.int .i64 p) (.slice a4 LL.length c4))
  have HZb := Hid.mk9 (set2_below HB5.out (b := X + 1) (by have := HXw.out; omega) (.int .i64 p) (.slice a4 LL.length c4))
  have HZo := Hid.mk9 (HO5.out.grown (set2_grownBy w5 (X + 1) (.int .i64 p) (.slice a4 LL.length c4)) HR5.out (by decide) (by decide))
  by_cases c1 : inB ballot 1 2147483647 = true
  rotate_left
  · have HC1 := Hid.mk9 (Bool.eq_false_iff.2 c1)
    obtain rfl : EE = 1 := by rw [HE2.out, HC1.out]; rfl
    obtain hpp : p = PP := by rw [HP2.out]; rfl
    obtain rfl : TT = [] := by rw [HT2.out]; rfl
    subst hpp
    clear c1 HE2 HP2 HT2
    go_wp2_with (go_at_call 21; refine (within_any _ _ _ _).mono ?_; rintro en w9 ⟨rfl, hw⟩; have hw := hw.symm; subst hw; rw [HC1.out])
    refine bodyPost_ret (ret_3 rfl _ _ (X + 1) (.int .i64 p) (.slice a4 LL.length c4) (.slice none 0 0) (.int .i64 1) rfl rfl rfl HZ.out) rfl ?_
    exact ⟨HZb.out, _, _, rfl, HZo.out, OwnA.nil _ _⟩
  have HC1 := Hid.mk9 c1
  by_cases c2 : inB fr 1 257 = true
  rotate_left
  · have HC2 := Hid.mk9 (Bool.eq_false_iff.2 c2)
    obtain rfl : EE = 1 := by rw [HE2.out, HC1.out, HC2.out]; rfl
    obtain hpp : p = PP := by rw [HP2.out]; rfl
    obtain rfl : TT = [] := by rw [HT2.out]; rfl
    subst hpp
    clear c1 c2 HE2 HP2 HT2
    go_wp2_with (go_at_call 21; refine (within_any _ _ _ _).mono ?_; rintro en w9 ⟨rfl, hw⟩; have hw := hw.symm; subst hw; first | rw [HC1.out] | rw [HC2.out])
    refine bodyPost_ret (ret_3 rfl _ _ (X + 1) (.int .i64 p) (.slice a4 LL.length c4) (.slice none 0 0) (.int .i64 1) rfl rfl rfl HZ.out) rfl ?_
    exact ⟨HZb.out, _, _, rfl, HZo.out, OwnA.nil _ _⟩
  have HC2 := Hid.mk9 c2
  have HE3 : Hid (EE = if ballot < p then 9 else 0) := Hid.mk9 (by rw [HE2.out, c1, c2]; rfl)
  obtain ⟨m, hm⟩ : ∃ m : Nat, fr = (m : Int) + 1 := ⟨(fr - 1).toNat, by have := ((inB_iff _ _ _).1 c2).1; omega⟩
  have hm256 : (m : Int) ≤ 256 := by have := ((inB_iff _ _ _).1 c2).2; omega
  clear c1 c2 HE2
  subst hm
  by_cases c3 : ballot < p
  · have d3 : decide (ballot < p) = true := decide_eq_true c3
    obtain rfl : EE = 9 := by rw [HE3.out, if_pos c3]
    obtain hpp : p = PP := by rw [HP2.out]; rfl
    obtain rfl : TT = [] := by rw [HT2.out]; rfl
    subst hpp
    clear c3 HE3 HP2 HT2
    go_wp2_with (go_at_call 21; refine (within_any _ _ _ _).mono ?_; rintro en w9 ⟨rfl, hw⟩; have hw := hw.symm; subst hw; first | rw [HC1.out] | rw [HC2.out])
    refine bodyPost_ret (ret_3 rfl _ _ (X + 1) (.int .i64 p) (.slice a4 LL.length c4) (.slice none 0 0) (.int .i64 9) rfl rfl rfl HZ.out) rfl ?_
    exact ⟨HZb.out, _, _, rfl, HZo.out, OwnA.nil _ _⟩
  have d3 : decide (ballot < p) = false := decide_eq_false c3
  obtain rfl : EE = 0 := by rw [HE3.out, if_neg c3]
  have hpb : ballot = PP := by rw [HP2.out, if_pos rfl]
  subst hpb
  have HT3 : Hid (TT = LL.drop m) := Hid.mk9 (by rw [HT2.out, if_pos rfl, show ((m : Int) + 1 - 1).toNat = m by omega])
  clear c3 HE3 HP2 HT2 HZ HZb HZo
  obtain ⟨g0, g1⟩ := HY5.out.frz
  go_upto_region 10 with (go_at_call 21; refine (within_any _ _ _ _).mono ?_; rintro en w9 ⟨rfl, hw⟩; have hw := hw.symm; subst hw; first | rw [HC1.out] | rw [HC2.out])
  obtain ⟨k, hk⟩ : ∃ k : Nat, k = min m len := ⟨_, rfl⟩
  have hmin : min (m : Int) (len : Int) = (k : Int) := by omega
  have hkl : k ≤ len := by omega
  have hkl' : (k : Int) ≤ (len : Int) := by omega
  have HDR : Hid (LL.drop k = LL.drop m) := Hid.mk9 (by
    by_cases hml : m ≤ len
    · rw [show k = m by omega]
    · rw [List.drop_of_length_le (by have := HL.out; omega), List.drop_of_length_le (by have := HL.out; omega)])
  rw [hmin]
  obtain ⟨a', hif, hrow⟩ := slice_fromA a len cap LL k hkl
  have HX6 := HX5.out.else (c := Y) (i := 0) (.int .i64 ballot) (by have := HYX.out; omega)
  have HY6 := HY5.out.put0 (.int .i64 ballot)
  have HR6 := Hid.mk9 (HR5.out.else (c := Y) (i := 0) (.int .i64 ballot) (by have := HYX.out; omega))
  have HB6 := Hid.mk9 (HB5.out.setCell (p := ⟨Y, 0, none⟩) (by show w.heap.size ≤ Y; have := HYX.out; have := HXw.out; omega) (.int .i64 ballot))
  have HO6 := Hid.mk9 (HO5.out.grown (set_grownBy w5 Y 0 (.int .i64 ballot)) HY5.out (by decide) (by decide))
  have HA6 : Hid (AcsAt (w5.setCell ⟨Y, 0, none⟩ (.int .i64 ballot)) a len cap LL) := Hid.mk9 (HA0.out.below HB6.out)
  clear p0 p1 y0 y1 q0 q1 f0 f1 g0 g1 hmin hk
  generalize w5.setCell ⟨Y, 0, none⟩ (.int .i64 ballot) = w6 at *
  refine prepare_10 _ _ _ _ _ _ _ _ _ _ _ _ _ _ _ _ _ _ _ _ _ _ _ _ _ _ _ _ _ _ _ _ _ _ _ _ _ _ _ _ _ X Y (X + 1) p ballot a a' a4 len cap LL.length c4 k LL _ _ w6 _ (by omega) (by have := HYX.out; omega) hkl' hif HX6 HY6 HR6 (Hid.mk9 (hrow _ HA6.out)) (Hid.mk9 (HSl.out.drop k)) (Hid.mk9 fun u39 u40 u41 u42 u43 u44 v3 w7 hb7 ho7 hr7 => ?_)
  have hR7 := HR6.out.below hb7
  have hg := set2_grownBy w7 (X + 1) (.int .i64 ballot) (.slice a4 LL.length c4)
  have HW := Hid.mk9 (set2_below (below2 HB6.out hb7) (b := X + 1) (by have := HXw.out; omega) (.int .i64 ballot) (.slice a4 LL.length c4))
  have HO7 := Hid.mk9 ((HO6.out.below hb7).grown hg hR7 (by decide) (by decide))
  have HV7 := Hid.mk9 ((ho7.base HB6.out.size).grown hg hR7 (by decide) (by decide))
  have HZ := Hid.mk9 hr7
  clear hR7 hg hb7 ho7 hr7
  go_wp2_with fail
  refine bodyPost_ret (ret_3 rfl _ _ (X + 1) (.int .i64 ballot) (.slice a4 LL.length c4) v3 (.int .i64 0) rfl rfl rfl HZ.out) rfl ?_
  rw [HT3.out, ← HDR.out]
  exact ⟨HW.out, _, _, rfl, HO7.out, HV7.out⟩
end Go.Proofs.Ytejhmacbbdnlbaa.Ac
