/-
  The answer's Accept.
-/
import Derived.Test.YtejhmacbbdnlbaaAcO
import Derived.Test.YtejhmacbbdnlbaaAcH
namespace Go.Proofs.Ytejhmacbbdnlbaa.Ac
open Go.ChangeShapes Go.WideShapes Go.ChangeAt Go.RowKit
theorem set_getG {α : Type} {xs : List α} {i k : Nat} {u : α} : (xs.set i u)[k]? = if k = i then (if k < xs.length then some u else none) else xs[k]? := by
  by_cases h : k = i
  · subst h
    rw [if_pos rfl]
    by_cases hk : k < xs.length
    · rw [if_pos hk, List.getElem?_set_self hk]
    · rw [if_neg hk]
      exact List.getElem?_eq_none (by rw [List.length_set]; omega)
  · rw [if_neg h, List.getElem?_set_ne (Ne.symm h)]
theorem putS_len (ls : List Acd) (m : Nat) (x : Acd) : (putS ls (m + 1) x).length = max ls.length (m + 1) := by
  unfold putS padS
  rw [List.length_set, List.length_append, List.length_replicate]
  omega
theorem putS_get (ls : List Acd) (m n : Nat) (x : Acd) (h : n < max ls.length (m + 1)) : (putS ls (m + 1) x).getD n acd0 = if n = m then x else ls.getD n acd0 := by
  have hl : (padS ls (m + 1)).length = max ls.length (m + 1) := by unfold padS; rw [List.length_append, List.length_replicate]; omega
  unfold putS
  rw [Nat.add_sub_cancel, List.getD_eq_getElem?_getD, set_getG, hl]
  by_cases e : n = m
  · subst e
    rw [if_pos rfl, if_pos rfl, if_pos h]
    rfl
  · rw [if_neg e, if_neg e, List.getD_eq_getElem?_getD]
    unfold padS
    by_cases hn : n < ls.length
    · rw [List.getElem?_append_left hn]
    · rw [List.getElem?_append_right (by omega), List.getElem?_eq_none (l := ls) (by omega), List.getElem?_replicate]
      split <;> rfl
theorem take_one {ls : List Acd} {n : Nat} (h : n < ls.length) : ls.take (n + 1) = ls.take n ++ [ls.getD n acd0] := by
  rw [List.take_add_one, List.getElem?_eq_getElem h, List.getD_eq_getElem?_getD, List.getElem?_eq_getElem h]
  rfl
def rprA (p ballot slot : Int) (d : Dl) : Int := if (inB ballot 1 2147483647 && inB slot 1 256 && okD d) = true then (if ballot < p then 9 else 0) else 1
def RAccPost (P : Int) (L : List Acd) (E : Int) (w : World) (e : Ending) (w' : World) : Prop := Below w.heap.size w w' ∧ ∃ a l c, e = .returned (.tuple #[.agg #[.int .i64 P, .slice a l c], .int .i64 E]) ∧ AcsAt w' a l c L
set_option maxHeartbeats 4000000 in
set_option maxRecDepth 60000 in
theorem refAccept_any (p : Int) (a : Option Addr) (len cap : Nat) (ls : List Acd) (ballot slot : Int) (d : Dl) (ad : Option Addr) (ld cd : Nat) (w : World) (h : AcsAt w a len cap ls) (hlen : (len : Int) ≤ 300) (hd : RowI w ad ld cd d.ns) : Calls Try.prog 15 #[.agg #[.int .i64 p, .slice a len cap], .int .i64 ballot, .int .i64 slot, .agg #[.int .i64 d.k, .int .i64 d.id, .int .i64 d.zn, .int .i64 d.rk, .int .i64 d.wt, .int .i64 d.g, .slice ad ld cd]] w fun e w' => RAccPost (if rprA p ballot slot d = 0 then ballot else p) (if rprA p ballot slot d = 0 then putS ls slot.toNat ⟨ballot, d⟩ else ls) (rprA p ballot slot d) w e w' := by
  have HL := Hid.mk9 h.1
  have HA0 := Hid.mk9 h
  have HD0 := Hid.mk9 hd
  have HB := Hid.mk9 (below2 (below2 (below_alloc w (.cells #[.int .i64 p, .slice a len cap] 24)) (below_alloc _ (.cells #[.int .i64 d.k, .int .i64 d.id, .int .i64 d.zn, .int .i64 d.rk, .int .i64 d.wt, .int .i64 d.g, .slice ad ld cd] 28))) (below_alloc _ (.cells #[.int .i64 0, .slice none 0 0] 24)))
  have HX := Hid.mk9 (((B2.new w 24 (.int .i64 p) (.slice a len cap)).below (below_alloc _ (.cells #[.int .i64 d.k, .int .i64 d.id, .int .i64 d.zn, .int .i64 d.rk, .int .i64 d.wt, .int .i64 d.g, .slice ad ld cd] 28))).below (below_alloc _ (.cells #[.int .i64 0, .slice none 0 0] 24)))
  have HD : Hid (B7 (((w.alloc (.cells #[.int .i64 p, .slice a len cap] 24)).alloc (.cells #[.int .i64 d.k, .int .i64 d.id, .int .i64 d.zn, .int .i64 d.rk, .int .i64 d.wt, .int .i64 d.g, .slice ad ld cd] 28)).alloc (.cells #[.int .i64 0, .slice none 0 0] 24)) (w.heap.size + 1) 28 (.int .i64 d.k) (.int .i64 d.id) (.int .i64 d.zn) (.int .i64 d.rk) (.int .i64 d.wt) (.int .i64 d.g) (.slice ad ld cd)) := by
    have := (B7.new (w.alloc (.cells #[.int .i64 p, .slice a len cap] 24)) 28 (.int .i64 d.k) (.int .i64 d.id) (.int .i64 d.zn) (.int .i64 d.rk) (.int .i64 d.wt) (.int .i64 d.g) (.slice ad ld cd)).below (below_alloc _ (.cells #[.int .i64 0, .slice none 0 0] 24))
    rw [show (w.alloc (.cells #[.int .i64 p, .slice a len cap] 24)).heap.size = w.heap.size + 1 from by simp] at this
    exact this
  have HR : Hid (B2 (((w.alloc (.cells #[.int .i64 p, .slice a len cap] 24)).alloc (.cells #[.int .i64 d.k, .int .i64 d.id, .int .i64 d.zn, .int .i64 d.rk, .int .i64 d.wt, .int .i64 d.g, .slice ad ld cd] 28)).alloc (.cells #[.int .i64 0, .slice none 0 0] 24)) (w.heap.size + 1 + 1) 24 (.int .i64 0) (.slice none 0 0)) := by
    have := B2.new ((w.alloc (.cells #[.int .i64 p, .slice a len cap] 24)).alloc (.cells #[.int .i64 d.k, .int .i64 d.id, .int .i64 d.zn, .int .i64 d.rk, .int .i64 d.wt, .int .i64 d.g, .slice ad ld cd] 28)) 24 (.int .i64 0) (.slice none 0 0)
    rw [show ((w.alloc (.cells #[.int .i64 p, .slice a len cap] 24)).alloc (.cells #[.int .i64 d.k, .int .i64 d.id, .int .i64 d.zn, .int .i64 d.rk, .int .i64 d.wt, .int .i64 d.g, .slice ad ld cd] 28)).heap.size = w.heap.size + 1 + 1 from by simp] at this
    exact this
  have HDR := Hid.mk9 (hd.below HB.out)
  obtain ⟨EE, hEE⟩ : ∃ EE, EE = rprA p ballot slot d := ⟨_, rfl⟩
  rw [← hEE]
  have HEE := Hid.mk9 hEE
  obtain ⟨PP, hPP⟩ : ∃ PP, PP = if EE = 0 then ballot else p := ⟨_, rfl⟩
  obtain ⟨TT, hTT⟩ : ∃ TT, TT = if EE = 0 then putS ls slot.toNat ⟨ballot, d⟩ else ls := ⟨_, rfl⟩
  rw [← hPP, ← hTT]
  have HPP := Hid.mk9 hPP
  have HTT := Hid.mk9 hTT
  clear h hd hEE hPP hTT
  go_enter Try.func15, Try.ntmps15
  go_upto_region 1 with fail
  generalize (((w.alloc (.cells #[.int .i64 p, .slice a len cap] 24)).alloc (.cells #[.int .i64 d.k, .int .i64 d.id, .int .i64 d.zn, .int .i64 d.rk, .int .i64 d.wt, .int .i64 d.g, .slice ad ld cd] 28)).alloc (.cells #[.int .i64 0, .slice none 0 0] 24)) = w1 at *
  obtain ⟨X, hX⟩ : ∃ X, w.heap.size = X := ⟨_, rfl⟩
  have HXw : Hid (w.heap.size = X) := Hid.mk9 hX
  rw [hX] at HX HR HD ⊢
  clear hX
  obtain ⟨p0, p1⟩ := HX.out.cells
  obtain ⟨q0, q1⟩ := HR.out.cells
  obtain ⟨f0, f1⟩ := HR.out.frz
  obtain ⟨g0, g1⟩ := HX.out.frz
  obtain ⟨d0, d1, d2, d3, d4, d5, d6⟩ := HD.out.cells
  by_cases c1 : (inB ballot 1 2147483647 && inB slot 1 256 && okD d) = true
  rotate_left
  · obtain rfl : EE = 1 := by rw [HEE.out]; unfold rprA; rw [if_neg c1]
    have hpp : p = PP := by rw [HPP.out]; rfl
    subst hpp
    have htt : ls = TT := by rw [HTT.out]; rfl
    subst htt
    clear HEE HPP HTT
    by_cases h1 : ballot < 1
    · have e1 : decide (ballot < 1) = true := decide_eq_true h1
      clear c1 h1
      go_wp2_with (fail)
      refine bodyPost_ret (ret_2b rfl _ _ (X + 1 + 1) (.int .i64 p) (.slice a len cap) (.int .i64 1) rfl rfl (HR.out.set (.int .i64 p) (.slice a len cap))) rfl ?_
      have hz := set2_below HB.out (b := X + 1 + 1) (by have := HXw.out; omega) (.int .i64 p) (.slice a len cap)
      exact ⟨hz, _, _, _, rfl, HA0.out.below hz⟩
    have e1 : decide (ballot < 1) = false := decide_eq_false h1
    by_cases h2 : inC ballot = true
    rotate_left
    · have HC := Hid.mk9 (Bool.eq_false_iff.2 h2)
      clear c1 h1 h2
      go_wp2_with (go_at_call 27; refine (in_any ballot _).mono ?_; rintro en w9 ⟨rfl, hw⟩; have hw := hw.symm; subst hw; rw [HC.out])
      refine bodyPost_ret (ret_2b rfl _ _ (X + 1 + 1) (.int .i64 p) (.slice a len cap) (.int .i64 1) rfl rfl (HR.out.set (.int .i64 p) (.slice a len cap))) rfl ?_
      have hz := set2_below HB.out (b := X + 1 + 1) (by have := HXw.out; omega) (.int .i64 p) (.slice a len cap)
      exact ⟨hz, _, _, _, rfl, HA0.out.below hz⟩
    have HC := Hid.mk9 h2
    have hb : inB ballot 1 2147483647 = true := (inB_iff _ _ _).2 ⟨by omega, ((inB_iff _ _ _).1 h2).2⟩
    by_cases h3 : slot < 1
    · have e3 : decide (slot < 1) = true := decide_eq_true h3
      clear c1 h1 h2 h3 hb
      go_wp2_with (go_at_call 27; refine (in_any ballot _).mono ?_; rintro en w9 ⟨rfl, hw⟩; have hw := hw.symm; subst hw; rw [HC.out])
      refine bodyPost_ret (ret_2b rfl _ _ (X + 1 + 1) (.int .i64 p) (.slice a len cap) (.int .i64 1) rfl rfl (HR.out.set (.int .i64 p) (.slice a len cap))) rfl ?_
      have hz := set2_below HB.out (b := X + 1 + 1) (by have := HXw.out; omega) (.int .i64 p) (.slice a len cap)
      exact ⟨hz, _, _, _, rfl, HA0.out.below hz⟩
    have e3 : decide (slot < 1) = false := decide_eq_false h3
    by_cases h4 : 256 < slot
    · have e4 : decide (256 < slot) = true := decide_eq_true h4
      clear c1 h1 h2 h3 h4 hb
      go_wp2_with (go_at_call 27; refine (in_any ballot _).mono ?_; rintro en w9 ⟨rfl, hw⟩; have hw := hw.symm; subst hw; rw [HC.out])
      refine bodyPost_ret (ret_2b rfl _ _ (X + 1 + 1) (.int .i64 p) (.slice a len cap) (.int .i64 1) rfl rfl (HR.out.set (.int .i64 p) (.slice a len cap))) rfl ?_
      have hz := set2_below HB.out (b := X + 1 + 1) (by have := HXw.out; omega) (.int .i64 p) (.slice a len cap)
      exact ⟨hz, _, _, _, rfl, HA0.out.below hz⟩
    have e4 : decide (256 < slot) = false := decide_eq_false h4
    have HD3 : Hid (okD d = false) := Hid.mk9 (by
      rw [hb, (inB_iff slot 1 256).2 ⟨by omega, by omega⟩] at c1
      simpa using c1)
    clear c1 h1 h2 h3 h4 hb
    go_wp2_with ((first | (go_at_call 27; refine (in_any ballot _).mono ?_; rintro en w9 ⟨rfl, hw⟩; have hw := hw.symm; subst hw; rw [HC.out]) | (go_at_call 12; refine (refDelta_any d ad ld cd _ HDR.out).mono ?_; rintro en w9 ⟨rfl, hb9⟩; rw [HD3.out]; have HX9 := Hid.mk9 (HX.out.below hb9); have HR9 := Hid.mk9 (HR.out.below hb9); have HD9 := Hid.mk9 (HD.out.below hb9); have HB9 := Hid.mk9 (below2 HB.out hb9); clear hb9 p0 p1 q0 q1 f0 f1 g0 g1 d0 d1 d2 d3 d4 d5 d6; obtain ⟨p0, p1⟩ := HX9.out.cells; obtain ⟨q0, q1⟩ := HR9.out.cells; obtain ⟨f0, f1⟩ := HR9.out.frz)))
    refine bodyPost_ret (ret_2b rfl _ _ (X + 1 + 1) (.int .i64 p) (.slice a len cap) (.int .i64 1) rfl rfl (HR9.out.set (.int .i64 p) (.slice a len cap))) rfl ?_
    have hz := set2_below HB9.out (b := X + 1 + 1) (by have := HXw.out; omega) (.int .i64 p) (.slice a len cap)
    exact ⟨hz, _, _, _, rfl, HA0.out.below hz⟩
  have c1' := c1
  rw [Bool.and_eq_true, Bool.and_eq_true, inB_iff, inB_iff] at c1
  have HC : Hid (inC ballot = true) := Hid.mk9 ((inB_iff _ _ _).2 ⟨by omega, c1.1.1.2⟩)
  have HD3 := Hid.mk9 c1.2
  have e1 : decide (ballot < 1) = false := decide_eq_false (by omega)
  have e3 : decide (slot < 1) = false := decide_eq_false (by omega)
  have e4 : decide (256 < slot) = false := decide_eq_false (by omega)
  obtain ⟨m, hm⟩ : ∃ m : Nat, slot = (m : Int) + 1 := ⟨(slot - 1).toNat, by omega⟩
  have hm256 : (m : Int) ≤ 255 := by omega
  have HE2 : Hid (EE = if ballot < p then 9 else 0) := Hid.mk9 (by rw [HEE.out]; unfold rprA; rw [if_pos c1'])
  clear c1 c1' HEE
  subst hm
  by_cases c2 : ballot < p
  · have e5 : decide (ballot < p) = true := decide_eq_true c2
    obtain rfl : EE = 9 := by rw [HE2.out, if_pos c2]
    have hpp : p = PP := by rw [HPP.out]; rfl
    subst hpp
    have htt : ls = TT := by rw [HTT.out]; rfl
    subst htt
    clear c2 HE2 HPP HTT
    go_wp2_with ((first | (go_at_call 27; refine (in_any ballot _).mono ?_; rintro en w9 ⟨rfl, hw⟩; have hw := hw.symm; subst hw; rw [HC.out]) | (go_at_call 12; refine (refDelta_any d ad ld cd _ HDR.out).mono ?_; rintro en w9 ⟨rfl, hb9⟩; rw [HD3.out]; have HX9 := Hid.mk9 (HX.out.below hb9); have HR9 := Hid.mk9 (HR.out.below hb9); have HD9 := Hid.mk9 (HD.out.below hb9); have HB9 := Hid.mk9 (below2 HB.out hb9); clear hb9 p0 p1 q0 q1 f0 f1 g0 g1 d0 d1 d2 d3 d4 d5 d6; obtain ⟨p0, p1⟩ := HX9.out.cells; obtain ⟨q0, q1⟩ := HR9.out.cells; obtain ⟨f0, f1⟩ := HR9.out.frz)))
    refine bodyPost_ret (ret_2b rfl _ _ (X + 1 + 1) (.int .i64 p) (.slice a len cap) (.int .i64 9) rfl rfl (HR9.out.set (.int .i64 p) (.slice a len cap))) rfl ?_
    have hz := set2_below HB9.out (b := X + 1 + 1) (by have := HXw.out; omega) (.int .i64 p) (.slice a len cap)
    exact ⟨hz, _, _, _, rfl, HA0.out.below hz⟩
  have e5 : decide (ballot < p) = false := decide_eq_false c2
  obtain rfl : EE = 0 := by rw [HE2.out, if_neg c2]
  have hpb : ballot = PP := by rw [HPP.out, if_pos rfl]
  subst hpb
  have HT2 : Hid (TT = putS ls (m + 1) ⟨ballot, d⟩) := Hid.mk9 (by rw [HTT.out, if_pos rfl, show ((m : Int) + 1).toNat = m + 1 by omega])
  clear c2 HE2 HPP HTT
  go_upto_region 5 with (first | (go_at_call 27; refine (in_any ballot _).mono ?_; rintro en w9 ⟨rfl, hw⟩; have hw := hw.symm; subst hw; rw [HC.out]) | (go_at_call 12; refine (refDelta_any d ad ld cd _ HDR.out).mono ?_; rintro en w9 ⟨rfl, hb9⟩; rw [HD3.out]; have HX9 := Hid.mk9 (HX.out.below hb9); have HR9 := Hid.mk9 (HR.out.below hb9); have HD9 := Hid.mk9 (HD.out.below hb9); have HB9 := Hid.mk9 (below2 HB.out hb9); clear hb9 p0 p1 q0 q1 f0 f1 g0 g1 d0 d1 d2 d3 d4 d5 d6; obtain ⟨p0, p1⟩ := HX9.out.cells; obtain ⟨q0, q1⟩ := HR9.out.cells; obtain ⟨f0, f1⟩ := HR9.out.frz))
  clear p0 p1 q0 q1 f0 f1
  have hba := below_alloc w9 (.cells #[] 49)
  have HX3 := Hid.mk9 (HX9.out.below hba)
  have HR3 := Hid.mk9 (HR9.out.below hba)
  have HD4 := Hid.mk9 (HD9.out.below hba)
  have HO3 := Hid.mk9 (ownB_empty w w9 HB9.out.size)
  have HB3 := Hid.mk9 (below2 HB9.out hba)
  clear hba HX HR HD HB
  go_upto_region 6 with fail
  generalize w9.alloc (.cells #[] 49) = w3 at *
  generalize w9.heap.size = G at *
  go_wp2_with fail
  go_loopw [10, 11] (fun o i wr => ∃ (n : Nat) (a' : Option Addr) (c' : Nat), o = .slice a' n c' ∧ i = .int .i64 (n : Int) ∧ (n ≤ len ∨ n ≤ m + 1) ∧ Hid (OwnB w wr (.slice a' n c') ((putS ls (m + 1) ⟨ballot, d⟩).take n) ∧ Below w.heap.size w wr ∧ B2 wr X 24 (.int .i64 p) (.slice a len cap) ∧ B2 wr (X + 1 + 1) 24 (.int .i64 0) (.slice none 0 0) ∧ B7 wr (X + 1) 28 (.int .i64 d.k) (.int .i64 d.id) (.int .i64 d.zn) (.int .i64 d.rk) (.int .i64 d.wt) (.int .i64 d.g) (.slice ad ld cd))) (fun _ i _ => max len (m + 1) - (intOf i).toNat)
  case atStart => exact ⟨0, some ⟨G, 0, none⟩, 0, rfl, rfl, .inl (Nat.zero_le _), by simpa using HO3.out, HB3.out, HX3.out, HR3.out, HD4.out⟩
  case round =>
    obtain ⟨n, a', c', rfl, rfl, hn, hh⟩ := hrel
    obtain ⟨ho, hb, hx, hr, hdd⟩ := hh.out
    have HXr := Hid.mk9 hx
    have HRr := Hid.mk9 hr
    have HBr := Hid.mk9 hb
    have HOr := Hid.mk9 ho
    have HDr := Hid.mk9 hdd
    obtain ⟨p0, p1⟩ := hx.cells
    clear ho hb hx hr hh hdd
    by_cases hlt : n < max len (m + 1)
    · have hla : ((putS ls (m + 1) ⟨ballot, d⟩).take n).length = n := by rw [List.length_take, putS_len, HL.out]; omega
      have HLA := Hid.mk9 hla
      have HNM := Hid.mk9 hlt
      have hn300 : (n : Int) ≤ 300 := by omega
      obtain ⟨d0, d1, d2, d3, d4, d5, d6⟩ := HDr.out.cells
      have hXs := HXr.out.lt
      have hDs := HDr.out.lt
      clear hla
      by_cases hl : n < len
      · have el : decide ((n : Int) < (len : Int)) = true := decide_eq_true (by omega)
        have hl1 : (n : Int) < (len : Int) := by omega
        have hl0 : (0 : Int) ≤ (n : Int) := by omega
        obtain ⟨b, off, rfl, hbs, c, hc, hxc, hrc⟩ := HA0.out.at (i := n) hl
        have hxr : CelAt wr b (off + n * 8) c := by
          obtain ⟨x0, x1, x2, x3, x4, x5, x6, x7⟩ := hxc
          exact ⟨(HBr.out.cell (p := ⟨b, off + n * 8, none⟩) hbs).trans x0, (HBr.out.cell (p := ⟨b, off + n * 8 + 1, none⟩) hbs).trans x1, (HBr.out.cell (p := ⟨b, off + n * 8 + 2, none⟩) hbs).trans x2, (HBr.out.cell (p := ⟨b, off + n * 8 + 3, none⟩) hbs).trans x3, (HBr.out.cell (p := ⟨b, off + n * 8 + 4, none⟩) hbs).trans x4, (HBr.out.cell (p := ⟨b, off + n * 8 + 5, none⟩) hbs).trans x5, (HBr.out.cell (p := ⟨b, off + n * 8 + 6, none⟩) hbs).trans x6, (HBr.out.cell (p := ⟨b, off + n * 8 + 7, none⟩) hbs).trans x7⟩
        obtain ⟨x0, x1, x2, x3, x4, x5, x6, x7⟩ := hxr
        have HRC := Hid.mk9 hrc
        have HC8 := Hid.mk9 hc
        have hbl : b < wr.heap.size := Nat.lt_of_lt_of_le hbs HBr.out.size
        clear hxc hrc hc hbs hlt hn hl
        by_cases hm : n = m
        · have HM := Hid.mk9 hm
          have em : ((n : Int) == (m : Int)) = true := by rw [beq_iff_eq]; omega
          clear hm
          go_upto_region 14 with fail
          have hba := below_alloc wr (.cells #[.int .i64 ballot, .int .i64 d.k, .int .i64 d.id, .int .i64 d.zn, .int .i64 d.rk, .int .i64 d.wt, .int .i64 d.g, .slice ad ld cd] 49)
          have HOz := Hid.mk9 (HOr.out.below hba)
          have HXz := Hid.mk9 (HXr.out.below hba)
          have HRz := Hid.mk9 (HRr.out.below hba)
          have HDz := Hid.mk9 (HDr.out.below hba)
          have HBz := Hid.mk9 (below2 HBr.out hba)
          have HCz := Hid.mk9 (cel_new wr (⟨⟨ballot, d⟩, ad, ld, cd⟩ : Cel))
          have HSz := Hid.mk9 (B8.new wr 49 (.int .i64 ballot) (.int .i64 d.k) (.int .i64 d.id) (.int .i64 d.zn) (.int .i64 d.rk) (.int .i64 d.wt) (.int .i64 d.g) (.slice ad ld cd))
          have HGX := Hid.mk9 (show (putS ls (m + 1) ⟨ballot, d⟩).getD n acd0 = ⟨ballot, d⟩ from by rw [putS_get _ _ _ _ (by rw [HL.out]; exact HNM.out), if_pos HM.out])
          have HRW := Hid.mk9 (HD0.out)
          clear hba hXs hDs p0 p1 d0 d1 d2 d3 d4 d5 d6 x0 x1 x2 x3 x4 x5 x6 x7 hbl
          change Hid (CelAt (wr.alloc (.cells #[.int .i64 ballot, .int .i64 d.k, .int .i64 d.id, .int .i64 d.zn, .int .i64 d.rk, .int .i64 d.wt, .int .i64 d.g, .slice ad ld cd] 49)) wr.heap.size 0 (⟨⟨ballot, d⟩, ad, ld, cd⟩ : Cel)) at HCz
          generalize wr.alloc (.cells #[.int .i64 ballot, .int .i64 d.k, .int .i64 d.id, .int .i64 d.zn, .int .i64 d.rk, .int .i64 d.wt, .int .i64 d.g, .slice ad ld cd] 49) = ws at *
          obtain ⟨S, hS⟩ : ∃ S, wr.heap.size = S := ⟨_, rfl⟩
          rw [hS] at HCz HSz ⊢
          clear hS
          obtain ⟨s0, s1, s2, s3, s4, s5, s6, s7⟩ := HSz.out.cells
          have hba := below_alloc ws (.cells #[.int .i64 ballot, .int .i64 d.k, .int .i64 d.id, .int .i64 d.zn, .int .i64 d.rk, .int .i64 d.wt, .int .i64 d.g, .slice ad ld cd] 49)
          have HOy := Hid.mk9 (HOz.out.below hba)
          have HXy := Hid.mk9 (HXz.out.below hba)
          have HRy := Hid.mk9 (HRz.out.below hba)
          have HDy := Hid.mk9 (HDz.out.below hba)
          have HBy := Hid.mk9 (below2 HBz.out hba)
          have HCy := Hid.mk9 (cel_new ws (⟨⟨ballot, d⟩, ad, ld, cd⟩ : Cel))
          clear hba
          go_wp2_with (at_builtin; refine append_acdB (w0 := w) rfl _ _ rfl (.slice a' n c') ((putS ls (m + 1) ⟨ballot, d⟩).take n) rfl HOy.out HBy.out ws.heap.size (⟨⟨ballot, d⟩, ad, ld, cd⟩ : Cel) rfl HCy.out HRW.out (by rw [HLA.out]; omega) ?_; rw [HLA.out]; intro a8 c8 w8 ho8 hb8 hk8; have HO8 := Hid.mk9 ho8; have HB8 := Hid.mk9 hb8; have HX8 := Hid.mk9 (HXy.out.kept (hk8 _ _ _ _ HXy.out (by decide))); have HR8 := Hid.mk9 (HRy.out.kept (hk8 _ _ _ _ HRy.out (by decide))); have HD8 := Hid.mk9 (HDy.out.kept (hk8 _ _ _ _ HDy.out (by decide))); clear ho8 hb8 hk8 s0 s1 s2 s3 s4 s5 s6 s7)
          refine ⟨⟨n + 1, a8, c8, rfl, by go_num, by have := HNM.out; omega, Hid.mk9 ⟨?_, HB8.out, HX8.out, HR8.out, HD8.out⟩⟩, by have := HNM.out; simp [intOf]; omega⟩
          have h9 := HO8.out
          rw [show ((⟨⟨ballot, d⟩, ad, ld, cd⟩ : Cel)).x = (putS ls (m + 1) ⟨ballot, d⟩).getD n acd0 from HGX.out.symm, ← take_one (by rw [putS_len, HL.out]; exact HNM.out)] at h9
          exact h9
        · have HM := Hid.mk9 hm
          have em : ((n : Int) == (m : Int)) = false := by rw [beq_eq_false_iff_ne]; omega
          clear hm
          go_upto_region 14 with fail
          have hba := below_alloc wr (.cells #[.int .i64 c.x.b, .int .i64 c.x.d.k, .int .i64 c.x.d.id, .int .i64 c.x.d.zn, .int .i64 c.x.d.rk, .int .i64 c.x.d.wt, .int .i64 c.x.d.g, .slice c.a c.l c.c] 49)
          have HOz := Hid.mk9 (HOr.out.below hba)
          have HXz := Hid.mk9 (HXr.out.below hba)
          have HRz := Hid.mk9 (HRr.out.below hba)
          have HDz := Hid.mk9 (HDr.out.below hba)
          have HBz := Hid.mk9 (below2 HBr.out hba)
          have HCz := Hid.mk9 (cel_new wr c)
          have HSz := Hid.mk9 (B8.new wr 49 (.int .i64 c.x.b) (.int .i64 c.x.d.k) (.int .i64 c.x.d.id) (.int .i64 c.x.d.zn) (.int .i64 c.x.d.rk) (.int .i64 c.x.d.wt) (.int .i64 c.x.d.g) (.slice c.a c.l c.c))
          have HGX := Hid.mk9 (show (putS ls (m + 1) ⟨ballot, d⟩).getD n acd0 = c.x from by rw [putS_get _ _ _ _ (by rw [HL.out]; exact HNM.out), if_neg HM.out, HC8.out])
          have HRW := Hid.mk9 (HRC.out)
          clear hba hXs hDs p0 p1 d0 d1 d2 d3 d4 d5 d6 x0 x1 x2 x3 x4 x5 x6 x7 hbl
          change Hid (CelAt (wr.alloc (.cells #[.int .i64 c.x.b, .int .i64 c.x.d.k, .int .i64 c.x.d.id, .int .i64 c.x.d.zn, .int .i64 c.x.d.rk, .int .i64 c.x.d.wt, .int .i64 c.x.d.g, .slice c.a c.l c.c] 49)) wr.heap.size 0 c) at HCz
          generalize wr.alloc (.cells #[.int .i64 c.x.b, .int .i64 c.x.d.k, .int .i64 c.x.d.id, .int .i64 c.x.d.zn, .int .i64 c.x.d.rk, .int .i64 c.x.d.wt, .int .i64 c.x.d.g, .slice c.a c.l c.c] 49) = ws at *
          obtain ⟨S, hS⟩ : ∃ S, wr.heap.size = S := ⟨_, rfl⟩
          rw [hS] at HCz HSz ⊢
          clear hS
          obtain ⟨s0, s1, s2, s3, s4, s5, s6, s7⟩ := HSz.out.cells
          have hba := below_alloc ws (.cells #[.int .i64 c.x.b, .int .i64 c.x.d.k, .int .i64 c.x.d.id, .int .i64 c.x.d.zn, .int .i64 c.x.d.rk, .int .i64 c.x.d.wt, .int .i64 c.x.d.g, .slice c.a c.l c.c] 49)
          have HOy := Hid.mk9 (HOz.out.below hba)
          have HXy := Hid.mk9 (HXz.out.below hba)
          have HRy := Hid.mk9 (HRz.out.below hba)
          have HDy := Hid.mk9 (HDz.out.below hba)
          have HBy := Hid.mk9 (below2 HBz.out hba)
          have HCy := Hid.mk9 (cel_new ws c)
          clear hba
          go_wp2_with (at_builtin; refine append_acdB (w0 := w) rfl _ _ rfl (.slice a' n c') ((putS ls (m + 1) ⟨ballot, d⟩).take n) rfl HOy.out HBy.out ws.heap.size c rfl HCy.out HRW.out (by rw [HLA.out]; omega) ?_; rw [HLA.out]; intro a8 c8 w8 ho8 hb8 hk8; have HO8 := Hid.mk9 ho8; have HB8 := Hid.mk9 hb8; have HX8 := Hid.mk9 (HXy.out.kept (hk8 _ _ _ _ HXy.out (by decide))); have HR8 := Hid.mk9 (HRy.out.kept (hk8 _ _ _ _ HRy.out (by decide))); have HD8 := Hid.mk9 (HDy.out.kept (hk8 _ _ _ _ HDy.out (by decide))); clear ho8 hb8 hk8 s0 s1 s2 s3 s4 s5 s6 s7)
          refine ⟨⟨n + 1, a8, c8, rfl, by go_num, by have := HNM.out; omega, Hid.mk9 ⟨?_, HB8.out, HX8.out, HR8.out, HD8.out⟩⟩, by have := HNM.out; simp [intOf]; omega⟩
          have h9 := HO8.out
          rw [show (c).x = (putS ls (m + 1) ⟨ballot, d⟩).getD n acd0 from HGX.out.symm, ← take_one (by rw [putS_len, HL.out]; exact HNM.out)] at h9
          exact h9
      · have el : decide ((n : Int) < (len : Int)) = false := decide_eq_false (by omega)
        have es : decide ((n : Int) < (m : Int) + 1) = true := decide_eq_true (by omega)
        have HLN := Hid.mk9 hl
        clear hlt hn hl
        by_cases hm : n = m
        · have HM := Hid.mk9 hm
          have em : ((n : Int) == (m : Int)) = true := by rw [beq_iff_eq]; omega
          clear hm
          go_upto_region 14 with fail
          have hba := below_alloc wr (.cells #[.int .i64 ballot, .int .i64 d.k, .int .i64 d.id, .int .i64 d.zn, .int .i64 d.rk, .int .i64 d.wt, .int .i64 d.g, .slice ad ld cd] 49)
          have HOz := Hid.mk9 (HOr.out.below hba)
          have HXz := Hid.mk9 (HXr.out.below hba)
          have HRz := Hid.mk9 (HRr.out.below hba)
          have HDz := Hid.mk9 (HDr.out.below hba)
          have HBz := Hid.mk9 (below2 HBr.out hba)
          have HCz := Hid.mk9 (cel_new wr (⟨⟨ballot, d⟩, ad, ld, cd⟩ : Cel))
          have HSz := Hid.mk9 (B8.new wr 49 (.int .i64 ballot) (.int .i64 d.k) (.int .i64 d.id) (.int .i64 d.zn) (.int .i64 d.rk) (.int .i64 d.wt) (.int .i64 d.g) (.slice ad ld cd))
          have HGX := Hid.mk9 (show (putS ls (m + 1) ⟨ballot, d⟩).getD n acd0 = ⟨ballot, d⟩ from by rw [putS_get _ _ _ _ (by rw [HL.out]; exact HNM.out), if_pos HM.out])
          have HRW := Hid.mk9 (HD0.out)
          clear hba hXs hDs p0 p1 d0 d1 d2 d3 d4 d5 d6
          change Hid (CelAt (wr.alloc (.cells #[.int .i64 ballot, .int .i64 d.k, .int .i64 d.id, .int .i64 d.zn, .int .i64 d.rk, .int .i64 d.wt, .int .i64 d.g, .slice ad ld cd] 49)) wr.heap.size 0 (⟨⟨ballot, d⟩, ad, ld, cd⟩ : Cel)) at HCz
          generalize wr.alloc (.cells #[.int .i64 ballot, .int .i64 d.k, .int .i64 d.id, .int .i64 d.zn, .int .i64 d.rk, .int .i64 d.wt, .int .i64 d.g, .slice ad ld cd] 49) = ws at *
          obtain ⟨S, hS⟩ : ∃ S, wr.heap.size = S := ⟨_, rfl⟩
          rw [hS] at HCz HSz ⊢
          clear hS
          obtain ⟨s0, s1, s2, s3, s4, s5, s6, s7⟩ := HSz.out.cells
          have hba := below_alloc ws (.cells #[.int .i64 ballot, .int .i64 d.k, .int .i64 d.id, .int .i64 d.zn, .int .i64 d.rk, .int .i64 d.wt, .int .i64 d.g, .slice ad ld cd] 49)
          have HOy := Hid.mk9 (HOz.out.below hba)
          have HXy := Hid.mk9 (HXz.out.below hba)
          have HRy := Hid.mk9 (HRz.out.below hba)
          have HDy := Hid.mk9 (HDz.out.below hba)
          have HBy := Hid.mk9 (below2 HBz.out hba)
          have HCy := Hid.mk9 (cel_new ws (⟨⟨ballot, d⟩, ad, ld, cd⟩ : Cel))
          clear hba
          go_wp2_with (at_builtin; refine append_acdB (w0 := w) rfl _ _ rfl (.slice a' n c') ((putS ls (m + 1) ⟨ballot, d⟩).take n) rfl HOy.out HBy.out ws.heap.size (⟨⟨ballot, d⟩, ad, ld, cd⟩ : Cel) rfl HCy.out HRW.out (by rw [HLA.out]; omega) ?_; rw [HLA.out]; intro a8 c8 w8 ho8 hb8 hk8; have HO8 := Hid.mk9 ho8; have HB8 := Hid.mk9 hb8; have HX8 := Hid.mk9 (HXy.out.kept (hk8 _ _ _ _ HXy.out (by decide))); have HR8 := Hid.mk9 (HRy.out.kept (hk8 _ _ _ _ HRy.out (by decide))); have HD8 := Hid.mk9 (HDy.out.kept (hk8 _ _ _ _ HDy.out (by decide))); clear ho8 hb8 hk8 s0 s1 s2 s3 s4 s5 s6 s7)
          refine ⟨⟨n + 1, a8, c8, rfl, by go_num, by have := HNM.out; omega, Hid.mk9 ⟨?_, HB8.out, HX8.out, HR8.out, HD8.out⟩⟩, by have := HNM.out; simp [intOf]; omega⟩
          have h9 := HO8.out
          rw [show ((⟨⟨ballot, d⟩, ad, ld, cd⟩ : Cel)).x = (putS ls (m + 1) ⟨ballot, d⟩).getD n acd0 from HGX.out.symm, ← take_one (by rw [putS_len, HL.out]; exact HNM.out)] at h9
          exact h9
        · have HM := Hid.mk9 hm
          have em : ((n : Int) == (m : Int)) = false := by rw [beq_eq_false_iff_ne]; omega
          clear hm
          go_upto_region 14 with fail
          have hba := below_alloc wr (.cells #[.int .i64 0, .int .i64 0, .int .i64 0, .int .i64 0, .int .i64 0, .int .i64 0, .int .i64 0, .slice none 0 0] 49)
          have HOz := Hid.mk9 (HOr.out.below hba)
          have HXz := Hid.mk9 (HXr.out.below hba)
          have HRz := Hid.mk9 (HRr.out.below hba)
          have HDz := Hid.mk9 (HDr.out.below hba)
          have HBz := Hid.mk9 (below2 HBr.out hba)
          have HCz := Hid.mk9 (cel_new wr cel0)
          have HSz := Hid.mk9 (B8.new wr 49 (.int .i64 0) (.int .i64 0) (.int .i64 0) (.int .i64 0) (.int .i64 0) (.int .i64 0) (.int .i64 0) (.slice none 0 0))
          have HGX := Hid.mk9 (show (putS ls (m + 1) ⟨ballot, d⟩).getD n acd0 = acd0 from by rw [putS_get _ _ _ _ (by rw [HL.out]; exact HNM.out), if_neg HM.out, List.getD_eq_getElem?_getD, List.getElem?_eq_none (by rw [HL.out]; have := HLN.out; omega)]; rfl)
          have HRW := Hid.mk9 (RowI.nil w)
          clear hba hXs hDs p0 p1 d0 d1 d2 d3 d4 d5 d6
          change Hid (CelAt (wr.alloc (.cells #[.int .i64 0, .int .i64 0, .int .i64 0, .int .i64 0, .int .i64 0, .int .i64 0, .int .i64 0, .slice none 0 0] 49)) wr.heap.size 0 cel0) at HCz
          generalize wr.alloc (.cells #[.int .i64 0, .int .i64 0, .int .i64 0, .int .i64 0, .int .i64 0, .int .i64 0, .int .i64 0, .slice none 0 0] 49) = ws at *
          obtain ⟨S, hS⟩ : ∃ S, wr.heap.size = S := ⟨_, rfl⟩
          rw [hS] at HCz HSz ⊢
          clear hS
          obtain ⟨s0, s1, s2, s3, s4, s5, s6, s7⟩ := HSz.out.cells
          have hba := below_alloc ws (.cells #[.int .i64 0, .int .i64 0, .int .i64 0, .int .i64 0, .int .i64 0, .int .i64 0, .int .i64 0, .slice none 0 0] 49)
          have HOy := Hid.mk9 (HOz.out.below hba)
          have HXy := Hid.mk9 (HXz.out.below hba)
          have HRy := Hid.mk9 (HRz.out.below hba)
          have HDy := Hid.mk9 (HDz.out.below hba)
          have HBy := Hid.mk9 (below2 HBz.out hba)
          have HCy := Hid.mk9 (cel_new ws cel0)
          clear hba
          go_wp2_with (at_builtin; refine append_acdB (w0 := w) rfl _ _ rfl (.slice a' n c') ((putS ls (m + 1) ⟨ballot, d⟩).take n) rfl HOy.out HBy.out ws.heap.size cel0 rfl HCy.out HRW.out (by rw [HLA.out]; omega) ?_; rw [HLA.out]; intro a8 c8 w8 ho8 hb8 hk8; have HO8 := Hid.mk9 ho8; have HB8 := Hid.mk9 hb8; have HX8 := Hid.mk9 (HXy.out.kept (hk8 _ _ _ _ HXy.out (by decide))); have HR8 := Hid.mk9 (HRy.out.kept (hk8 _ _ _ _ HRy.out (by decide))); have HD8 := Hid.mk9 (HDy.out.kept (hk8 _ _ _ _ HDy.out (by decide))); clear ho8 hb8 hk8 s0 s1 s2 s3 s4 s5 s6 s7)
          refine ⟨⟨n + 1, a8, c8, rfl, by go_num, by have := HNM.out; omega, Hid.mk9 ⟨?_, HB8.out, HX8.out, HR8.out, HD8.out⟩⟩, by have := HNM.out; simp [intOf]; omega⟩
          have h9 := HO8.out
          rw [show (cel0).x = (putS ls (m + 1) ⟨ballot, d⟩).getD n acd0 from HGX.out.symm, ← take_one (by rw [putS_len, HL.out]; exact HNM.out)] at h9
          exact h9
    · have el : decide ((n : Int) < (len : Int)) = false := decide_eq_false (by omega)
      have es : decide ((n : Int) < (m : Int) + 1) = false := decide_eq_false (by omega)
      have HTN : Hid ((putS ls (m + 1) ⟨ballot, d⟩).take n = TT) := Hid.mk9 (by rw [HT2.out]; exact List.take_of_length_le (by rw [putS_len, HL.out]; omega))
      obtain ⟨q0, q1⟩ := HRr.out.cells
      obtain ⟨f0, f1⟩ := HRr.out.frz
      have HZ := Hid.mk9 (HRr.out.set (.int .i64 ballot) (.slice a' n c'))
      have HZb := Hid.mk9 (set2_below HBr.out (b := X + 1 + 1) (by have := HXw.out; omega) (.int .i64 ballot) (.slice a' n c'))
      have HZo := Hid.mk9 (HOr.out.grown (set2_grownBy wr (X + 1 + 1) (.int .i64 ballot) (.slice a' n c')) HRr.out (by decide))
      have hnl : ¬ n < len := by omega
      have hnm : ¬ (n : Int) < (m : Int) + 1 := by omega
      clear hlt hn
      go_wp2_with fail
      refine bodyPost_ret (ret_2b rfl _ _ (X + 1 + 1) (.int .i64 ballot) (.slice a' n c') (.int .i64 0) rfl rfl HZ.out) rfl ?_
      have hz := HZo.out
      rw [HTN.out] at hz
      obtain ⟨a9, c9, ev, hat⟩ := hz.at HZb.out
      simp only [Value.slice.injEq] at ev
      obtain ⟨rfl, hn9, rfl⟩ := ev
      rw [← hn9] at hat
      exact ⟨HZb.out, _, _, _, rfl, hat⟩
end Go.Proofs.Ytejhmacbbdnlbaa.Ac
