/-
  Accept.
-/
import Derived.Test.YtejhmacbbdnlbaaAcM
namespace Go.Proofs.Ytejhmacbbdnlbaa.Ac
open Go.ChangeShapes Go.WideShapes Go.ChangeAt Go.RowKit
theorem ret_2b {fn : Func} {p q : Tmp} (h : fn.results = #[.cell p 24, .tmp q]) (tmps : Array Value) (w : World) (b : Nat) (v0 v1 u : Value) (hp : tmps.getD p undef = .pointer (some ⟨b, 0, none⟩)) (hq : tmps.getD q undef = u)
    (hb : B2 w b 24 v0 v1) : (results fn tmps).run Try.prog w = .ok (.tuple #[.agg #[v0, v1], u]) w := by
  obtain ⟨h0, h1⟩ := hb.cells
  simp only [Array.getD_eq_getD_getElem?] at hp hq
  simp only [results, h]
  simp [go_sem, hp, hq, h0, h1]
theorem OwnA.row {w : World} {B n : Nat} {v : Value} {ls : List Acd} (h : OwnA w B v ls) (hl : ls.length = n) : ∃ xs, w.ownsRow B 49 8 v n xs := by
  obtain ⟨L, -, h2, -⟩ := h
  subst hl
  exact ⟨_, h2⟩
def padS (ls : List Acd) (s : Nat) : List Acd := ls ++ List.replicate (s - ls.length) acd0
def putS (ls : List Acd) (s : Nat) (x : Acd) : List Acd := (padS ls s).set (s - 1) x
def accE (p : Int) (ls : List Acd) (ballot slot : Int) (d : Dl) : Int := if okA p ls = true then (if (inB ballot 1 2147483647 && inB slot 1 256 && okD d) = true then (if ballot < p then 9 else 0) else 1) else 1
def accP (p : Int) (ls : List Acd) (ballot slot : Int) (d : Dl) : Int := if okA p ls = true then (if accE p ls ballot slot d = 0 then ballot else p) else 0
def accL (p : Int) (ls : List Acd) (ballot slot : Int) (d : Dl) : List Acd := if okA p ls = true then (if accE p ls ballot slot d = 0 then putS ls slot.toNat ⟨ballot, d⟩ else ls) else []
def AccPost (P : Int) (L : List Acd) (E : Int) (w : World) (e : Ending) (w' : World) : Prop := Below w.heap.size w w' ∧ ∃ v, e = .returned (.tuple #[.agg #[.int .i64 P, v], .int .i64 E]) ∧ OwnA w' w.heap.size v L
/-- how long the slice in a box is -/
def lenAt (w : World) (b : Nat) : Nat := match w.cell? ⟨b, 1, none⟩ with
  | some (.slice _ n _) => n
  | _ => 0
theorem lenAt_of {w : World} {b T n c : Nat} {v : Value} {a : Option Addr} (h : B2 w b T v (.slice a n c)) : lenAt w b = n := by
  unfold lenAt
  rw [h.cells.2]
theorem apart_own {w : World} {b B n g cap : Nat} {xs : List Value} {cs : Array Value} {T : TypeId} (h : w.heap[b]? = some (.cells cs T (0, 0))) (ho : w.ownsRow B 49 8 (.slice (some ⟨g, 0, none⟩) n cap) n xs) (hT : T ≠ 49) : ¬ b = g := fun e => by
  subst e
  obtain ⟨cur, hh, -⟩ := own_whole ho
  rw [hh] at h
  simp at h
  exact hT h.2.symm
theorem zero_at (w : World) : CelAt (w.alloc (.cells #[.int .i64 0, .int .i64 0, .int .i64 0, .int .i64 0, .int .i64 0, .int .i64 0, .int .i64 0, .slice none 0 0] 49)) w.heap.size 0 cel0 := (B8.new w 49 (.int .i64 0) (.int .i64 0) (.int .i64 0) (.int .i64 0) (.int .i64 0) (.int .i64 0) (.int .i64 0) (.slice none 0 0)).cells
set_option maxHeartbeats 4000000 in
set_option maxRecDepth 60000 in
theorem accept_any (p : Int) (a : Option Addr) (len cap : Nat) (ls : List Acd) (ballot slot : Int) (d : Dl) (ad : Option Addr) (ld cd : Nat) (w : World) (h : AcsAt w a len cap ls) (hd : RowI w ad ld cd d.ns) : Calls Try.prog 8 #[.agg #[.int .i64 p, .slice a len cap], .int .i64 ballot, .int .i64 slot, .agg #[.int .i64 d.k, .int .i64 d.id, .int .i64 d.zn, .int .i64 d.rk, .int .i64 d.wt, .int .i64 d.g, .slice ad ld cd]] w fun e w' => AccPost (accP p ls ballot slot d) (accL p ls ballot slot d) (accE p ls ballot slot d) w e w' := by
  have HL := Hid.mk9 h.1
  have HD0 := Hid.mk9 hd
  have HB := Hid.mk9 (below2 (below2 (below_alloc w (.cells #[.int .i64 p, .slice a len cap] 24)) (below_alloc _ (.cells #[.int .i64 d.k, .int .i64 d.id, .int .i64 d.zn, .int .i64 d.rk, .int .i64 d.wt, .int .i64 d.g, .slice ad ld cd] 28))) (below_alloc _ (.cells #[.int .i64 0, .slice none 0 0] 24)))
  have HX := Hid.mk9 (((B2.new w 24 (.int .i64 p) (.slice a len cap)).below (below_alloc _ (.cells #[.int .i64 d.k, .int .i64 d.id, .int .i64 d.zn, .int .i64 d.rk, .int .i64 d.wt, .int .i64 d.g, .slice ad ld cd] 28))).below (below_alloc _ (.cells #[.int .i64 0, .slice none 0 0] 24)))
  have HD : Hid (B7 (((w.alloc (.cells #[.int .i64 p, .slice a len cap] 24)).alloc (.cells #[.int .i64 d.k, .int .i64 d.id, .int .i64 d.zn, .int .i64 d.rk, .int .i64 d.wt, .int .i64 d.g, .slice ad ld cd] 28)).alloc (.cells #[.int .i64 0, .slice none 0 0] 24)) (w.heap.size + 1) 28 (.int .i64 d.k) (.int .i64 d.id) (.int .i64 d.zn) (.int .i64 d.rk) (.int .i64 d.wt) (.int .i64 d.g) (.slice ad ld cd)) := by
    have := (B7.new (w.alloc (.cells #[.int .i64 p, .slice a len cap] 24)) 28 (.int .i64 d.k) (.int .i64 d.id) (.int .i64 d.zn) (.int .i64 d.rk) (.int .i64 d.wt) (.int .i64 d.g) (.slice ad ld cd)).below (below_alloc _ (.cells #[.int .i64 0, .slice none 0 0] 24))
    rw [show (w.alloc (.cells #[.int .i64 p, .slice a len cap] 24)).heap.size = w.heap.size + 1 from by simp] at this
    exact this
  have HR : Hid (B2 (((w.alloc (.cells #[.int .i64 p, .slice a len cap] 24)).alloc (.cells #[.int .i64 d.k, .int .i64 d.id, .int .i64 d.zn, .int .i64 d.rk, .int .i64 d.wt, .int .i64 d.g, .slice ad ld cd] 28)).alloc (.cells #[.int .i64 0, .slice none 0 0] 24)) (w.heap.size + 1 + 1) 24 (.int .i64 0) (.slice none 0 0)) := by
    have := B2.new ((w.alloc (.cells #[.int .i64 p, .slice a len cap] 24)).alloc (.cells #[.int .i64 d.k, .int .i64 d.id, .int .i64 d.zn, .int .i64 d.rk, .int .i64 d.wt, .int .i64 d.g, .slice ad ld cd] 28)) 24 (.int .i64 0) (.slice none 0 0)
    rw [show ((w.alloc (.cells #[.int .i64 p, .slice a len cap] 24)).alloc (.cells #[.int .i64 d.k, .int .i64 d.id, .int .i64 d.zn, .int .i64 d.rk, .int .i64 d.wt, .int .i64 d.g, .slice ad ld cd] 28)).heap.size = w.heap.size + 1 + 1 from by simp] at this
    exact this
  have HA := Hid.mk9 (h.below HB.out)
  have HSz : Hid ((((w.alloc (.cells #[.int .i64 p, .slice a len cap] 24)).alloc (.cells #[.int .i64 d.k, .int .i64 d.id, .int .i64 d.zn, .int .i64 d.rk, .int .i64 d.wt, .int .i64 d.g, .slice ad ld cd] 28)).alloc (.cells #[.int .i64 0, .slice none 0 0] 24)).heap.size = w.heap.size + 3) := Hid.mk9 (by simp)
  obtain ⟨PP, hPP⟩ : ∃ PP, PP = accP p ls ballot slot d := ⟨_, rfl⟩
  obtain ⟨TT, hTT⟩ : ∃ TT, TT = accL p ls ballot slot d := ⟨_, rfl⟩
  obtain ⟨EE, hEE⟩ : ∃ EE, EE = accE p ls ballot slot d := ⟨_, rfl⟩
  rw [← hPP, ← hTT, ← hEE]
  have HPP := Hid.mk9 hPP
  have HTT := Hid.mk9 hTT
  have HEE := Hid.mk9 hEE
  clear h hd hPP hTT hEE
  go_enter Try.func8, Try.ntmps8
  go_upto_region 1 with fail
  generalize (((w.alloc (.cells #[.int .i64 p, .slice a len cap] 24)).alloc (.cells #[.int .i64 d.k, .int .i64 d.id, .int .i64 d.zn, .int .i64 d.rk, .int .i64 d.wt, .int .i64 d.g, .slice ad ld cd] 28)).alloc (.cells #[.int .i64 0, .slice none 0 0] 24)) = w1 at *
  obtain ⟨X, hX⟩ : ∃ X, w.heap.size = X := ⟨_, rfl⟩
  have HXw : Hid (w.heap.size = X) := Hid.mk9 hX
  rw [hX] at HX HR HSz HD ⊢
  clear hX
  obtain ⟨p0, p1⟩ := HX.out.cells
  by_cases hok : okA p ls = true
  rotate_left
  · have HOK := Hid.mk9 hok
    obtain rfl : EE = 1 := by rw [HEE.out]; unfold accE; rw [if_neg hok]
    obtain rfl : PP = 0 := by rw [HPP.out]; unfold accP; rw [if_neg hok]
    obtain rfl : TT = [] := by rw [HTT.out]; unfold accL; rw [if_neg hok]
    clear hok HEE HPP HTT
    go_wp2_with (go_at_call 9; refine (check_any p a len cap ls _ HA.out).mono ?_; rintro en w3 ⟨rfl, hb3⟩; rw [if_neg HOK.out]; have HB3 := Hid.mk9 (below2 HB.out hb3); have HR3 := Hid.mk9 (HR.out.below hb3); clear hb3 p0 p1; obtain ⟨q0, q1⟩ := HR3.out.cells; obtain ⟨f0, f1⟩ := HR3.out.frz; have HZ := Hid.mk9 (HR3.out.set (.int .i64 0) (.slice none 0 0)); have HZb := Hid.mk9 (set2_below HB3.out (b := X + 1 + 1) (by have := HXw.out; omega) (.int .i64 0) (.slice none 0 0)))
    refine bodyPost_ret (ret_2b rfl _ _ (X + 1 + 1) (.int .i64 0) (.slice none 0 0) (.int .i64 1) rfl rfl HZ.out) rfl ?_
    exact ⟨HZb.out, _, rfl, OwnA.nil _ _⟩
  have HOK := Hid.mk9 hok
  obtain ⟨LL, hLL⟩ : ∃ LL, ls = LL := ⟨_, rfl⟩
  subst hLL
  obtain ⟨LL, hLL⟩ : ∃ LL, LL = ls := ⟨_, rfl⟩
  subst hLL
  have HE2 : Hid (EE = if (inB ballot 1 2147483647 && inB slot 1 256 && okD d) = true then (if ballot < p then 9 else 0) else 1) := Hid.mk9 (by rw [HEE.out]; unfold accE; rw [if_pos hok])
  have HP2 : Hid (PP = if EE = 0 then ballot else p) := Hid.mk9 (by rw [HPP.out]; unfold accP; rw [if_pos hok, ← HEE.out])
  have HT2 : Hid (TT = if EE = 0 then putS LL slot.toNat ⟨ballot, d⟩ else LL) := Hid.mk9 (by rw [HTT.out]; unfold accL; rw [if_pos hok, ← HEE.out])
  have HSl := Hid.mk9 (okA_slim hok)
  have HLn := Hid.mk9 (okA_len hok)
  clear hok HEE HPP HTT
  go_upto_region 4 with (first
    | (go_at_call 9; refine (check_any p a len cap LL _ HA.out).mono ?_; rintro en w3 ⟨rfl, hb3⟩; rw [if_pos HOK.out]; have HB3 := Hid.mk9 (below2 HB.out hb3); have HX3 := Hid.mk9 (HX.out.below hb3); have HR3 := Hid.mk9 (HR.out.below hb3); have HD3 := Hid.mk9 (HD.out.below hb3); have HA3 := Hid.mk9 (HA.out.below hb3); have HS3 := Hid.mk9 hb3.size; clear hb3 p0 p1; obtain ⟨p0, p1⟩ := HX3.out.cells)
    | (go_at_call 20; refine (clone_any p a len cap LL _ HA3.out HSl.out).mono ?_; rintro en w4 ⟨hb4, v4, rfl, ho4⟩; have HB4 := Hid.mk9 (below2 HB3.out hb4); have HX4 := Hid.mk9 (HX3.out.below hb4); have HR4 := Hid.mk9 (HR3.out.below hb4); have HD4 := Hid.mk9 (HD3.out.below hb4); have HO4 := Hid.mk9 (ho4.base HB3.out.size); have HS4 := Hid.mk9 hb4.size; clear hb4 ho4 p0 p1; obtain ⟨a4, c4, rfl, -⟩ := HO4.out.at))
  have hbA := below_alloc w4 (.cells #[.int .i64 p, .slice a4 LL.length c4] 24)
  have HB5 := Hid.mk9 (below2 HB4.out hbA)
  have HX5 := Hid.mk9 (HX4.out.below hbA)
  have HR5 := Hid.mk9 (HR4.out.below hbA)
  have HD5 := Hid.mk9 (HD4.out.below hbA)
  have HO5 := Hid.mk9 (HO4.out.below hbA)
  have HY5 := Hid.mk9 (B2.new w4 24 (.int .i64 p) (.slice a4 LL.length c4))
  clear hbA HB HX HR HA HD HB3 HX3 HR3 HA3 HD3 HB4 HX4 HR4 HO4 HD4
  generalize w4.alloc (.cells #[.int .i64 p, .slice a4 LL.length c4] 24) = w5 at *
  obtain ⟨Y, hY⟩ : ∃ Y, w4.heap.size = Y := ⟨_, rfl⟩
  have HYX : Hid (X + 3 ≤ Y) := Hid.mk9 (by rw [← hY]; have := HS4.out; have := HS3.out; have := HSz.out; omega)
  rw [hY] at HY5 ⊢
  clear hY HS3 HS4 HSz
  have HDR5 := Hid.mk9 (HD0.out.below HB5.out)
  obtain ⟨p0, p1⟩ := HX5.out.cells
  obtain ⟨y0, y1⟩ := HY5.out.cells
  obtain ⟨d0, d1, d2, d3, d4, d5, d6⟩ := HD5.out.cells
  obtain ⟨q0, q1⟩ := HR5.out.cells
  obtain ⟨f0, f1⟩ := HR5.out.frz
  by_cases c1 : inB ballot 1 2147483647 = true
  rotate_left
  · have HC1 := Hid.mk9 (Bool.eq_false_iff.2 c1)
    obtain rfl : EE = 1 := by rw [HE2.out, HC1.out]; rfl
    have hpp : p = PP := by rw [HP2.out]; rfl
    have htt : LL = TT := by rw [HT2.out]; rfl
    subst hpp
    subst htt
    clear c1 HE2 HP2 HT2
    go_wp2_with (go_at_call 21; refine (within_any _ _ _ _).mono ?_; rintro en w9 ⟨rfl, hw⟩; have hw := hw.symm; subst hw; rw [HC1.out])
    refine bodyPost_ret (ret_2b rfl _ _ (X + 1 + 1) (.int .i64 p) (.slice a4 LL.length c4) (.int .i64 1) rfl rfl (HR5.out.set (.int .i64 p) (.slice a4 LL.length c4))) rfl ?_
    exact ⟨set2_below HB5.out (b := X + 1 + 1) (by have := HXw.out; omega) _ _, _, rfl, HO5.out.grown (set2_grownBy w5 (X + 1 + 1) _ _) HR5.out (by decide) (by decide)⟩
  have HC1 := Hid.mk9 c1
  by_cases c2 : inB slot 1 256 = true
  rotate_left
  · have HC2 := Hid.mk9 (Bool.eq_false_iff.2 c2)
    obtain rfl : EE = 1 := by rw [HE2.out, HC1.out, HC2.out]; rfl
    have hpp : p = PP := by rw [HP2.out]; rfl
    have htt : LL = TT := by rw [HT2.out]; rfl
    subst hpp
    subst htt
    clear c1 c2 HE2 HP2 HT2
    go_wp2_with (go_at_call 21; refine (within_any _ _ _ _).mono ?_; rintro en w9 ⟨rfl, hw⟩; have hw := hw.symm; subst hw; first | rw [HC1.out] | rw [HC2.out])
    refine bodyPost_ret (ret_2b rfl _ _ (X + 1 + 1) (.int .i64 p) (.slice a4 LL.length c4) (.int .i64 1) rfl rfl (HR5.out.set (.int .i64 p) (.slice a4 LL.length c4))) rfl ?_
    exact ⟨set2_below HB5.out (b := X + 1 + 1) (by have := HXw.out; omega) _ _, _, rfl, HO5.out.grown (set2_grownBy w5 (X + 1 + 1) _ _) HR5.out (by decide) (by decide)⟩
  have HC2 := Hid.mk9 c2
  by_cases c3 : okD d = true
  rotate_left
  · have HC3 := Hid.mk9 c3
    obtain rfl : EE = 1 := by rw [HE2.out, HC1.out, HC2.out, Bool.eq_false_iff.2 c3]; rfl
    have hpp : p = PP := by rw [HP2.out]; rfl
    have htt : LL = TT := by rw [HT2.out]; rfl
    subst hpp
    subst htt
    clear c1 c2 c3 HE2 HP2 HT2
    go_wp2_with (first | (go_at_call 21; refine (within_any _ _ _ _).mono ?_; rintro en w9 ⟨rfl, hw⟩; have hw := hw.symm; subst hw; first | rw [HC1.out] | rw [HC2.out]) | (go_at_call 11; refine (checkDelta_any d ad ld cd _ HDR5.out).mono ?_; rintro en w9 ⟨rfl, hb9⟩; rw [if_neg HC3.out]; have HX9 := Hid.mk9 (HX5.out.below hb9); have HR9 := Hid.mk9 (HR5.out.below hb9); have HY9 := Hid.mk9 (HY5.out.below hb9); have HD9 := Hid.mk9 (HD5.out.below hb9); have HB9 := Hid.mk9 (below2 HB5.out hb9); have HO9 := Hid.mk9 (HO5.out.below hb9); clear hb9 p0 p1 y0 y1 q0 q1 f0 f1 d0 d1 d2 d3 d4 d5 d6; obtain ⟨p0, p1⟩ := HX9.out.cells; obtain ⟨y0, y1⟩ := HY9.out.cells; obtain ⟨q0, q1⟩ := HR9.out.cells; obtain ⟨f0, f1⟩ := HR9.out.frz))
    refine bodyPost_ret (ret_2b rfl _ _ (X + 1 + 1) (.int .i64 p) (.slice a4 LL.length c4) (.int .i64 1) rfl rfl (HR9.out.set (.int .i64 p) (.slice a4 LL.length c4))) rfl ?_
    exact ⟨set2_below HB9.out (b := X + 1 + 1) (by have := HXw.out; omega) _ _, _, rfl, HO9.out.grown (set2_grownBy w9 (X + 1 + 1) _ _) HR9.out (by decide) (by decide)⟩
  have HC3 := Hid.mk9 c3
  have HE3 : Hid (EE = if ballot < p then 9 else 0) := Hid.mk9 (by rw [HE2.out, c1, c2, c3]; rfl)
  obtain ⟨m, hm⟩ : ∃ m : Nat, slot = (m : Int) + 1 := ⟨(slot - 1).toNat, by have := ((inB_iff _ _ _).1 c2).1; omega⟩
  have hm256 : (m : Int) ≤ 255 := by have := ((inB_iff _ _ _).1 c2).2; omega
  clear c1 c2 c3 HE2
  subst hm
  by_cases c4 : ballot < p
  · have d3' : decide (ballot < p) = true := decide_eq_true c4
    obtain rfl : EE = 9 := by rw [HE3.out, if_pos c4]
    have hpp : p = PP := by rw [HP2.out]; rfl
    have htt : LL = TT := by rw [HT2.out]; rfl
    subst hpp
    subst htt
    clear c4 HE3 HP2 HT2
    go_wp2_with (first | (go_at_call 21; refine (within_any _ _ _ _).mono ?_; rintro en w9 ⟨rfl, hw⟩; have hw := hw.symm; subst hw; first | rw [HC1.out] | rw [HC2.out]) | (go_at_call 11; refine (checkDelta_any d ad ld cd _ HDR5.out).mono ?_; rintro en w9 ⟨rfl, hb9⟩; rw [if_pos HC3.out]; have HX9 := Hid.mk9 (HX5.out.below hb9); have HR9 := Hid.mk9 (HR5.out.below hb9); have HY9 := Hid.mk9 (HY5.out.below hb9); have HD9 := Hid.mk9 (HD5.out.below hb9); have HB9 := Hid.mk9 (below2 HB5.out hb9); have HO9 := Hid.mk9 (HO5.out.below hb9); clear hb9 p0 p1 y0 y1 q0 q1 f0 f1 d0 d1 d2 d3 d4 d5 d6; obtain ⟨p0, p1⟩ := HX9.out.cells; obtain ⟨y0, y1⟩ := HY9.out.cells; obtain ⟨q0, q1⟩ := HR9.out.cells; obtain ⟨f0, f1⟩ := HR9.out.frz))
    refine bodyPost_ret (ret_2b rfl _ _ (X + 1 + 1) (.int .i64 p) (.slice a4 LL.length c4) (.int .i64 9) rfl rfl (HR9.out.set (.int .i64 p) (.slice a4 LL.length c4))) rfl ?_
    exact ⟨set2_below HB9.out (b := X + 1 + 1) (by have := HXw.out; omega) _ _, _, rfl, HO9.out.grown (set2_grownBy w9 (X + 1 + 1) _ _) HR9.out (by decide) (by decide)⟩
  have d3' : decide (ballot < p) = false := decide_eq_false c4
  obtain rfl : EE = 0 := by rw [HE3.out, if_neg c4]
  have hpb : ballot = PP := by rw [HP2.out, if_pos rfl]
  subst hpb
  have HT3 : Hid (TT = putS LL (m + 1) ⟨ballot, d⟩) := Hid.mk9 (by rw [HT2.out, if_pos rfl, show ((m : Int) + 1).toNat = m + 1 by omega])
  clear c4 HE3 HP2 HT2
  go_upto_region 8 with (first | (go_at_call 21; refine (within_any _ _ _ _).mono ?_; rintro en w9 ⟨rfl, hw⟩; have hw := hw.symm; subst hw; first | rw [HC1.out] | rw [HC2.out]) | (go_at_call 11; refine (checkDelta_any d ad ld cd _ HDR5.out).mono ?_; rintro en w9 ⟨rfl, hb9⟩; rw [if_pos HC3.out]; have HX9 := Hid.mk9 (HX5.out.below hb9); have HR9 := Hid.mk9 (HR5.out.below hb9); have HY9 := Hid.mk9 (HY5.out.below hb9); have HD9 := Hid.mk9 (HD5.out.below hb9); have HB9 := Hid.mk9 (below2 HB5.out hb9); have HO9 := Hid.mk9 (HO5.out.below hb9); clear hb9 p0 p1 y0 y1 q0 q1 f0 f1 d0 d1 d2 d3 d4 d5 d6; obtain ⟨p0, p1⟩ := HX9.out.cells; obtain ⟨y0, y1⟩ := HY9.out.cells; obtain ⟨q0, q1⟩ := HR9.out.cells; obtain ⟨f0, f1⟩ := HR9.out.frz))
  clear p0 p1 y0 y1 q0 q1 f0 f1
  obtain ⟨y0, y1⟩ := HY9.out.cells
  obtain ⟨g0, g1⟩ := HY9.out.frz
  have HX10 := Hid.mk9 (HX9.out.else (c := Y) (i := 0) (.int .i64 ballot) (by have := HYX.out; omega))
  have HR10 := Hid.mk9 (HR9.out.else (c := Y) (i := 0) (.int .i64 ballot) (by have := HYX.out; omega))
  have HD10 := Hid.mk9 (HD9.out.else (c := Y) (i := 0) (.int .i64 ballot) (by have := HYX.out; omega))
  have HY10 := Hid.mk9 (HY9.out.put0 (.int .i64 ballot))
  have HB10 := Hid.mk9 (HB9.out.setCell (p := ⟨Y, 0, none⟩) (by show w.heap.size ≤ Y; have := HYX.out; have := HXw.out; omega) (.int .i64 ballot))
  have HO10 := Hid.mk9 (HO9.out.grown (set_grownBy w9 Y 0 (.int .i64 ballot)) HY9.out (by decide) (by decide))
  go_upto_region 9 with fail
  clear y0 y1 g0 g1 HX9 HR9 HD9 HY9 HB9 HO9
  generalize w9.setCell ⟨Y, 0, none⟩ (.int .i64 ballot) = wA at *
  go_loopw [] (fun wr => ∃ (n : Nat) (a' : Option Addr) (c' : Nat), B2 wr Y 24 (.int .i64 ballot) (.slice a' n c') ∧ n ≤ 256 ∧ Hid (∃ j, n = LL.length + j ∧ (j = 0 ∨ LL.length + j ≤ m + 1) ∧ OwnA wr w.heap.size (.slice a' n c') (LL ++ List.replicate j acd0) ∧ Below w.heap.size w wr ∧ B2 wr X 24 (.int .i64 p) (.slice a len cap) ∧ B2 wr (X + 1 + 1) 24 (.int .i64 0) (.slice none 0 0) ∧ B7 wr (X + 1) 28 (.int .i64 d.k) (.int .i64 d.id) (.int .i64 d.zn) (.int .i64 d.rk) (.int .i64 d.wt) (.int .i64 d.g) (.slice ad ld cd))) (fun wr => m + 1 - lenAt wr Y)
  case atStart => exact ⟨LL.length, a4, c4, HY10.out, HLn.out, 0, rfl, .inl rfl, by simpa using HO10.out, HB10.out, HX10.out, HR10.out, HD10.out⟩
  case round =>
    obtain ⟨n, a', c', hy, hn, hj⟩ := hrel
    have HYr := Hid.mk9 hy
    have hlenY : lenAt wr Y = n := lenAt_of hy
    obtain ⟨y0, y1⟩ := hy.cells
    obtain ⟨g0, g1⟩ := hy.frz
    clear hy
    by_cases hlt : (n : Int) < (m : Int) + 1
    · have dlt : decide ((n : Int) < (m : Int) + 1) = true := decide_eq_true hlt
      have hzb := below_alloc wr (.cells #[.int .i64 0, .int .i64 0, .int .i64 0, .int .i64 0, .int .i64 0, .int .i64 0, .int .i64 0, .slice none 0 0] 49)
      obtain ⟨j, hnj, hjj, ho, hb, hx, hr, hd⟩ := hj.out
      have hla : (LL ++ List.replicate j acd0).length = n := by rw [List.length_append, List.length_replicate]; omega
      have HOz := Hid.mk9 (ho.below hzb)
      have HYz := Hid.mk9 (HYr.out.below hzb)
      have HXz := Hid.mk9 (hx.below hzb)
      have HRz := Hid.mk9 (hr.below hzb)
      have HDz := Hid.mk9 (hd.below hzb)
      have HBz := Hid.mk9 (below2 hb hzb)
      have HZz := Hid.mk9 (zero_at wr)
      have HLA := Hid.mk9 hla
      have HNJ := Hid.mk9 hnj
      clear hzb ho hb hx hr hd hla hnj hjj hj
      go_upto_region 10 with fail
      go_wp2_with (at_builtin; refine append_acd (w0 := w) rfl _ _ rfl (.slice a' n c') (LL ++ List.replicate j acd0) rfl HOz.out HBz.out wr.heap.size cel0 rfl HZz.out (own_nothing _ _ _ _) (by rw [HLA.out]; omega) ?_; rw [HLA.out]; intro a8 c8 w8 ho8 hb8 hk8; have HO8 := Hid.mk9 ho8; have HB8 := Hid.mk9 hb8; have HY8 := Hid.mk9 (HYz.out.kept (hk8 _ _ _ _ HYz.out (by decide))); have HX8 := Hid.mk9 (HXz.out.kept (hk8 _ _ _ _ HXz.out (by decide))); have HR8 := Hid.mk9 (HRz.out.kept (hk8 _ _ _ _ HRz.out (by decide))); have HD8 := Hid.mk9 (HDz.out.kept (hk8 _ _ _ _ HDz.out (by decide))); clear ho8 hb8 hk8 y0 y1 g0 g1; obtain ⟨y0, y1⟩ := HY8.out.cells; obtain ⟨g0, g1⟩ := HY8.out.frz)
      have HY9 := HY8.out.put1 (.slice a8 (n + 1) c8)
      refine ⟨⟨n + 1, a8, c8, HY9, by omega, Hid.mk9 ⟨j + 1, by have := HNJ.out; omega, .inr (by have := HNJ.out; omega), ?_, HB8.out.setCell (p := ⟨Y, 1, none⟩) (by show w.heap.size ≤ Y; have := HYX.out; have := HXw.out; omega) _, HX8.out.else _ (by have := HYX.out; omega), HR8.out.else _ (by have := HYX.out; omega), HD8.out.else _ (by have := HYX.out; omega)⟩⟩, ?_⟩
      · have h9 := HO8.out.grown (set_grownBy w8 Y 1 (.slice a8 (n + 1) c8)) HY8.out (by decide) (by decide)
        rw [List.append_assoc, show List.replicate j acd0 ++ [cel0.x] = List.replicate (j + 1) acd0 from List.replicate_succ'.symm] at h9
        exact h9
      · rw [lenAt_of HY9, hlenY]
        omega
    · have dlt : decide ((n : Int) < (m : Int) + 1) = false := decide_eq_false hlt
      go_upto_region 11 with fail
      obtain ⟨j, hnj, hjj, ho, hb, hx, hr, hd⟩ := hj.out
      have hla : (LL ++ List.replicate j acd0).length = n := by rw [List.length_append, List.length_replicate]; omega
      have hmn : m < n := by omega
      have hmn' : (m : Int) < (n : Int) := by omega
      have hwm : IntKind.i64.wrap (m : Int) = (m : Int) := by simp [IntKind.wrap, IntKind.bits, IntKind.signed]; omega
      obtain ⟨g, cg, ev, -, -, -⟩ := (OwnA.part (w0 := wr) ho).at (i := m) (by rw [hla]; exact hmn)
      have ev1 := congrArg (fun v => match v with | .slice a _ _ => a | _ => none) ev
      simp only at ev1
      subst ev1
      obtain ⟨xs, hrow⟩ := ho.row hla
      have hYg := apart_own HYr.out hrow (by decide)
      have hDg := apart_own hd hrow (by decide)
      have hRg := apart_own hr hrow (by decide)
      have hBg : w.heap.size ≤ g := own_lt hrow g rfl
      have hlm : (ld : Int) ≤ 1000 := by have h3 := okD_len HC3.out; have h4 := HD0.out.1; omega
      have HPAD : Hid (LL ++ List.replicate j acd0 = padS LL (m + 1)) := Hid.mk9 (by unfold padS; rw [show m + 1 - LL.length = j by omega])
      have HRr := Hid.mk9 hr
      have HBr := Hid.mk9 hb
      clear y0 y1 g0 g1 hrow ev hjj hnj hj hr hb hx hlt dlt hlenY hn
      refine accept_11 _ _ _ _ _ _ _ _ _ _ _ _ _ _ _ _ _ _ _ _ _ _ _ _ _ _ _ _ _ _ _ _ _ _ _ _ _ _ _ _ _ _ _ _ _ _ _ _ _ _ _ _ _ _ _ Y (X + 1) g n c' m ballot d ad ld cd (LL ++ List.replicate j acd0) w wr _ hwm hmn hmn' hYg hDg hlm (Hid.mk9 hla) HBr HYr.out hd (Hid.mk9 (HD0.out.below HBr.out)) (Hid.mk9 ho) (Hid.mk9 fun u49 u50 u51 u52 u53 u54 u55 u56 u57 u58 a6 c6 w3 hb3 ho3 hg3 hy3 => ?_)
      have hR3 := (HRr.out.below hb3).kept (hg3.block (X + 1 + 1) (HRr.out.below hb3).lt (by simp; exact hRg))
      have hB3 : Below w.heap.size w ((((((((w3.setCell ⟨g, m * 8, none⟩ (.int .i64 ballot)).setCell ⟨g, m * 8 + 1, none⟩ (.int .i64 d.k)).setCell ⟨g, m * 8 + 2, none⟩ (.int .i64 d.id)).setCell ⟨g, m * 8 + 3, none⟩ (.int .i64 d.zn)).setCell ⟨g, m * 8 + 4, none⟩ (.int .i64 d.rk)).setCell ⟨g, m * 8 + 5, none⟩ (.int .i64 d.wt)).setCell ⟨g, m * 8 + 6, none⟩ (.int .i64 d.g)).setCell ⟨g, m * 8 + 7, none⟩ (.slice a6 d.ns.length c6)) := (below2 HBr.out hb3).grown hg3 (below2 HBr.out hb3).size (fun k hk => by injection hk with hk; subst hk; exact hBg)
      have HRe := Hid.mk9 hR3
      have HBe := Hid.mk9 hB3
      have HYe := Hid.mk9 hy3
      have HOe := Hid.mk9 ho3
      clear hR3 hB3 hb3 ho3 hg3 hy3 ho hd hla
      generalize ((((((((w3.setCell ⟨g, m * 8, none⟩ (.int .i64 ballot)).setCell ⟨g, m * 8 + 1, none⟩ (.int .i64 d.k)).setCell ⟨g, m * 8 + 2, none⟩ (.int .i64 d.id)).setCell ⟨g, m * 8 + 3, none⟩ (.int .i64 d.zn)).setCell ⟨g, m * 8 + 4, none⟩ (.int .i64 d.rk)).setCell ⟨g, m * 8 + 5, none⟩ (.int .i64 d.wt)).setCell ⟨g, m * 8 + 6, none⟩ (.int .i64 d.g)).setCell ⟨g, m * 8 + 7, none⟩ (.slice a6 d.ns.length c6)) = wE at *
      obtain ⟨y0, y1⟩ := HYe.out.cells
      obtain ⟨q0, q1⟩ := HRe.out.cells
      obtain ⟨f0, f1⟩ := HRe.out.frz
      go_wp2_with fail
      refine bodyPost_ret (ret_2b rfl _ _ (X + 1 + 1) (.int .i64 ballot) (.slice (some ⟨g, 0, none⟩) n c') (.int .i64 0) rfl rfl (HRe.out.set (.int .i64 ballot) (.slice (some ⟨g, 0, none⟩) n c'))) rfl ?_
      refine ⟨set2_below HBe.out (b := X + 1 + 1) (by have := HXw.out; omega) _ _, _, rfl, ?_⟩
      rw [HT3.out]
      unfold putS
      rw [Nat.add_sub_cancel, ← HPAD.out]
      exact HOe.out.grown (set2_grownBy wE (X + 1 + 1) _ _) HRe.out (by decide) (by decide)
end Go.Proofs.Ytejhmacbbdnlbaa.Ac
