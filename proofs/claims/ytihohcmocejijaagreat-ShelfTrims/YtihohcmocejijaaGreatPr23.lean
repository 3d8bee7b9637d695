/-
  trim.
-/
import Derived.Test.YtihohcmocejijaaGreatPr22
namespace Go.Proofs.YtihohcmocejijaaGreat.Bk
open Go.ChangeShapes Go.WideShapes Go.ChangeAt Go.RowKit
def trK (ls : List Ln) (f : Int) (k : Nat) : List Ln := (ls.take k).map (fun l => (l.1, trimP l.2 f)) ++ ls.drop k
theorem trK_zero (ls : List Ln) (f : Int) : trK ls f 0 = ls := by simp [trK]
theorem trK_all (ls : List Ln) (f : Int) (k : Nat) (h : ls.length ≤ k) : trK ls f k = ls.map (fun l => (l.1, trimP l.2 f)) := by simp [trK, List.take_of_length_le h, List.drop_eq_nil_of_le h]
theorem trK_getD (ls : List Ln) (f : Int) (k : Nat) (h : k < ls.length) : (trK ls f k).getD k ln0 = ls.getD k ln0 := by
  unfold trK
  rw [List.getD_eq_getElem?_getD, List.getElem?_append_right (by simp; omega)]
  simp [h, Nat.min_eq_left (Nat.le_of_lt h)]
theorem trK_succ (ls : List Ln) (f : Int) (k : Nat) (h : k < ls.length) : trK ls f (k + 1) = (trK ls f k).set k ((ls.getD k ln0).1, trimP (ls.getD k ln0).2 f) := by
  unfold trK
  rw [List.set_append_right _ _ (by simp; omega), List.take_succ_eq_append_getElem h, List.map_append, List.append_assoc]
  have e : k - ((ls.take k).map (fun l => (l.1, trimP l.2 f))).length = 0 := by simp; omega
  rw [e, List.drop_eq_getElem_cons h, List.set_cons_zero, getDn h]
  rfl
theorem spP_of {w : World} {Y : List LX} (h : RowsX w Y) : ∃ l : List SpX, spP l = Y ∧ ∀ x ∈ l, x.n = x.ns.length := by
  induction Y with
  | nil => exact ⟨[], rfl, fun x hx => by simp at hx⟩
  | cons y Y ih =>
    obtain ⟨l, e, hl⟩ := ih (fun x hx => h x (List.mem_cons_of_mem _ hx))
    obtain ⟨a, n, c, e2, hs, -⟩ := h y (List.mem_cons_self ..)
    obtain ⟨y1, y2, y3⟩ := y
    simp only at e2 hs
    refine ⟨⟨y1, a, n, c, y3⟩ :: l, ?_, fun x hx => ?_⟩
    · rw [← e, e2]; rfl
    · rcases List.mem_cons.1 hx with rfl | hx
      · exact hs.1.symm
      · exact hl x hx
theorem filt_ns {l : List SpX} (h : ∀ x ∈ l, x.n = x.ns.length) : lnsX (spP (l.filter fun x => !decide (x.n = 0))) = (lnsX (spP l)).filter fun y => decide (y.2 ≠ []) := by
  induction l with
  | nil => rfl
  | cons x l ih =>
    have e := ih (fun y hy => h y (List.mem_cons_of_mem _ hy))
    have e2 := h x (List.mem_cons_self ..)
    by_cases h0 : x.n = 0
    · have h1 : x.ns = [] := List.length_eq_zero_iff.1 (by omega)
      rw [List.filter_cons_of_neg (by simp [h0]), e]
      simp [lnsX, spP, h1]
    · have h1 : x.ns ≠ [] := fun h2 => h0 (by rw [e2, h2]; rfl)
      rw [List.filter_cons_of_pos (by simp [h0])]
      simp only [lnsX, spP, List.map_cons] at e ⊢
      rw [e, List.filter_cons_of_pos (by simp [h1])]
theorem spP_filter_mem {l : List SpX} {p : SpX → Bool} {x : LX} (h : x ∈ spP (l.filter p)) : x ∈ spP l := by
  unfold spP at *
  rw [List.mem_map] at *
  obtain ⟨y, hy, e⟩ := h
  exact ⟨y, (List.mem_filter.1 hy).1, e⟩
set_option maxRecDepth 60000 in
theorem tr1_any (s : ByteArray) (a : Option Addr) (n c : Nat) (w : World) : Calls Tryz.prog 81 #[.agg #[.string s, .slice a n c]] w fun e w' => e = .returned (.bool (decide (n = 0))) ∧ Below w.heap.size w w' := by
  go_enter Tryz.func81, Tryz.ntmps81
  go_wp2_with fail
  go_ret
  refine ⟨?_, below_alloc _ _⟩
  congr 2
  by_cases h : n = 0
  · subst h; rfl
  · have : ((n : Int) == 0) = false := by simpa using h
    simp [h]
set_option maxRecDepth 60000 in
theorem idxNil (w : World) : Calls Tryz.prog 116 #[.slice none 0 0, .func (.func 81) #[] #[]] w fun e w' => e = .returned (.int .i64 (-1)) ∧ Below w.heap.size w w' := by
  go_enter Tryz.func116, Tryz.ntmps116
  go_wp2_with fail
  refine wp_loop_rounds 1 ?_
  rw [rounds_succ]
  go_wp2_with fail
  go_ret
  exact ⟨rfl, Below.refl _ _⟩
set_option maxRecDepth 60000 in
theorem delNil (w : World) : Calls Tryz.prog 80 #[.slice none 0 0, .func (.func 81) #[] #[]] w fun e w' => e = .returned (.slice none 0 0) ∧ Below w.heap.size w w' := by
  have HC := Hid.mk9 (idxNil w)
  go_enter Tryz.func80, Tryz.ntmps80
  go_wp2_with (go_at_call 116; refine HC.out.mono ?_; rintro e w1 ⟨rfl, hb1⟩)
  have HB := Hid.mk9 hb1
  go_wp2_with fail
  go_ret
  exact ⟨rfl, HB.out⟩
set_option maxRecDepth 60000 in
/-- those without samples are taken out of lines of one's own -/
theorem LvA.del {B p : Nat} {la : Option Addr} {lc : Nat} {X : List LX} {da : Option Addr} {dc : Nat} {ds : List Dn} {fl : Int} {w : World} (h : LvA B p la lc X da dc ds fl w) (hX : X.length ≤ 100) :
    Calls Tryz.prog 80 #[.slice la X.length lc, .func (.func 81) #[] #[]] w fun e w' => ∃ la' lc' Y, e = .returned (.slice la' Y.length lc') ∧ lnsX Y = (lnsX X).filter (fun y => decide (y.2 ≠ [])) ∧ LvR B la' lc' Y da dc ds w' ∧ Bx3 w' p 25 (.slice la X.length lc) (.slice da ds.length dc) (.int .i64 fl) ∧ Below B w w' ∧ KpS p w w' := by
  have hB : B ≤ w.heap.size := Nat.le_trans h.2.1 (Nat.le_of_lt h.lt)
  obtain ⟨h1, ⟨e, h0⟩ | ⟨g, cap, cur, e, hr'⟩⟩ := id h.2.2.1
  · have hn : X = [] := List.length_eq_zero_iff.1 h0
    subst hn
    injection e with e1 e2 e3
    subst e1 e3
    refine (delNil w).mono ?_
    rintro e w' ⟨rfl, hb⟩
    exact ⟨none, 0, [], rfl, rfl, (h.below hb).rows, (h.below hb).1, hb.mono hB, KpS.of_below hb⟩
  · injection e with e1 e2 e3
    subst e1 e3
    obtain ⟨l, rfl, hl⟩ := spP_of h.2.2.2.1
    have hO := h.2.2.1
    refine (delLn_any (p := fun x => decide (x.n = 0)) (fun W x _ _ => tr1_any _ _ _ _ W) hO (by omega)).mono ?_
    rintro e w' ⟨rfl, hO', hg⟩
    have hlen := spP_len (l.filter fun x => !decide (x.n = 0))
    refine ⟨some ⟨g, 0, none⟩, _, spP (l.filter fun x => !decide (x.n = 0)), by rw [hlen], by rw [filt_ns hl], h.rows.of_lines hg (by rw [hlen]; exact hO') (fun x hx => h.2.2.2.1 x (spP_filter_mem hx)), h.box.kept (hg.block p h.lt (fun e => h.neL e.symm)), below_of_grown hB h.2.2.1 hg, KpS.of_grown h.2.2.1 (.inl rfl) hg⟩
set_option maxHeartbeats 4000000 in
set_option maxRecDepth 60000 in
theorem trim_any {B p : Nat} {la : Option Addr} {lc : Nat} {X : List LX} {da : Option Addr} {dc : Nat} {ds : List Dn} {fl : Int} {w : World} (h : LvA B p la lc X da dc ds fl w) (hM : LnsMay (lnsX X) fl) (f : Int) :
    Calls Tryz.prog 55 #[.pointer (some ⟨p, 0, none⟩), .int .i64 f] w fun e w' => TnPost B p (trimS ⟨lnsX X, ds, fl⟩ f) w e w' := by
  have HB0 : Hid (B ≤ w.heap.size) := Hid.mk9 (Nat.le_trans h.2.1 (Nat.le_of_lt h.lt))
  have HBp : Hid (B ≤ p) := Hid.mk9 h.2.1
  have HPL : Hid (p < w.heap.size) := Hid.mk9 h.lt
  have b0 := below_alloc w (.cells #[.int .i64 0, .bool false, .int .i64 0] 37)
  have HR := Hid.mk9 (Bx3.new w 37 (.int .i64 0) (.bool false) (.int .i64 0))
  have HA := Hid.mk9 (h.below b0)
  have HB := Hid.mk9 b0
  have HM := Hid.mk9 hM
  have hxl : (lnsX X).length = X.length := by simp [lnsX]
  have hX16 : X.length ≤ 16 := by have := hM.1; omega
  clear h b0 hM
  go_enter Tryz.func55, Tryz.ntmps55
  go_upto_region 1 with fail
  generalize (w.alloc (.cells #[.int .i64 0, .bool false, .int .i64 0] 37)) = wA at *
  have c2 := HA.out.c2
  by_cases hf : f < fl
  · have HW : Hid (trimS ⟨lnsX X, ds, fl⟩ f = (⟨lnsX X, ds, fl⟩, ⟨9, false, 0⟩)) := Hid.mk9 (by unfold trimS; rw [if_pos hf])
    have HKp := Hid.mk9 (KpS.of_below (p := p) HB.out)
    have HBb := Hid.mk9 (HB.out.mono HB0.out)
    have hf' : decide (f < fl) = true := decide_eq_true hf
    obtain ⟨c0, c1, c3⟩ := HR.out.cells
    obtain ⟨f0, f1, f2⟩ := HR.out.frz
    have HRs := Hid.mk9 (HR.out.set (.int .i64 9) (.bool false) (.int .i64 0))
    have HLs := Hid.mk9 (HA.out.ans HR.out (.int .i64 9) (.bool false) (.int .i64 0))
    have HKs := Hid.mk9 (HKp.out.ans (r := w.heap.size) (Nat.le_refl _) (.int .i64 9) (.bool false) (.int .i64 0))
    have HBs := Hid.mk9 (put3_below HBb.out (b := w.heap.size) HB0.out (.int .i64 9) (.bool false) (.int .i64 0))
    clear HR HA HKp HBb
    go_wp2_with fail
    refine bodyPost_ret (retA rfl _ _ w.heap.size (.int .i64 9) (.bool false) (.int .i64 0) rfl HRs.out) rfl ?_
    rw [HW.out]
    exact ⟨rfl, ⟨_, _, _, _, _, HLs.out, rfl⟩, HBs.out, HKs.out⟩
  · have HW : Hid (trimS ⟨lnsX X, ds, fl⟩ f = (⟨trimL (lnsX X) f, ds, f⟩, an0)) := Hid.mk9 (by unfold trimS; rw [if_neg hf])
    have hf' : decide (f < fl) = false := decide_eq_false hf
    have f2 := HA.out.f2
    go_upto_region 4 with fail
    have HA2 := Hid.mk9 (HA.out.floor f)
    have HR2 := Hid.mk9 (HR.out.kept (set_heap wA p 2 (.int .i64 f) w.heap.size (by have := HPL.out; omega)))
    have HK2 := Hid.mk9 ((KpS.of_below (p := p) HB.out).trans (KpS.set_box p 2 wA (.int .i64 f)))
    have HB2 := Hid.mk9 ((HB.out.mono HB0.out).setCell (p := ⟨p, 2, none⟩) HBp.out (.int .i64 f))
    clear HA HR HB c2 f2 hf'
    generalize wA.setCell ⟨p, 2, none⟩ (.int .i64 f) = wB at *
    have c0 := HA2.out.c0
    have HN : Hid (∃ N, N = X.length) := ⟨_, rfl⟩
    obtain ⟨N, hN⟩ := HN.out
    rw [← hN] at c0
    have hN16 : (N : Int) ≤ 16 := by omega
    have HNE := Hid.mk9 hN
    clear HN hN hxl hX16
    go_wp2_with fail
    go_loopw [23] (fun si wr => ∃ (k : Nat) (Y : List LX), si = .int .i64 k ∧ k ≤ N ∧ Hid (Y.length = N) ∧ Hid (LvA B p la lc Y da dc ds f wr) ∧ Hid (lnsX Y = trK (lnsX X) f k) ∧ Hid (Bx3 wr w.heap.size 37 (.int .i64 0) (.bool false) (.int .i64 0)) ∧ Hid (Below B w wr) ∧ Hid (KpS p w wr)) (fun i _ => N - (intOf i).toNat)
    case atStart => exact ⟨0, X, rfl, Nat.zero_le _, Hid.mk9 HNE.out.symm, HA2, Hid.mk9 (trK_zero _ _).symm, HR2, HB2, HK2⟩
    case round =>
      obtain ⟨k, Y, rfl, hkN, hYN, hA, hY, hR, hB, hK⟩ := hrel
      clear HA2 HR2 HB2 HK2 c0
      by_cases hlt : k < N
      · have hk1 : (k : Int) < (N : Int) := by omega
        have hk0 : (0 : Int) ≤ (k : Int) := by omega
        have hxk : k < (lnsX X).length := by have := HNE.out; simp [lnsX]; omega
        have HMk := Hid.mk9 (HM.out.2 k hxk).2.2.2.1
        have HYk : Hid ((Y.getD k lx0).1 = ((lnsX X).getD k ln0).1 ∧ (Y.getD k lx0).2.2 = ((lnsX X).getD k ln0).2) := by
          have e := congrArg (fun l => l.getD k ln0) hY.out
          simp only [lnsX_getD, trK_getD _ _ _ hxk] at e
          exact ⟨congrArg Prod.fst e |>.trans (by rw [lnsX_getD]), congrArg Prod.snd e |>.trans (by rw [lnsX_getD])⟩
        obtain ⟨g, a, n, c, rfl, hgs, -, c3, c4, -, hs, ht, hfz⟩ := hA.out.cell (k := k) (by have := hYN.out; omega)
        have HS := Hid.mk9 (hs.below (below_alloc wr (.cells #[.string (Y.getD k lx0).1, .slice a n c] 55)))
        have HAB := Hid.mk9 (hA.out.below (below_alloc wr (.cells #[.string (Y.getD k lx0).1, .slice a n c] 55)))
        have HRB := Hid.mk9 (hR.out.below (below_alloc wr (.cells #[.string (Y.getD k lx0).1, .slice a n c] 55)))
        have HBB := Hid.mk9 (below_alloc wr (.cells #[.string (Y.getD k lx0).1, .slice a n c] 55))
        have HL := Hid.mk9 ((Bx2.new wr 55 (.string (Y.getD k lx0).1) (.slice a n c)).cells.2)
        obtain ⟨s, hs1⟩ : ∃ s, (Y.getD k lx0).1 = s := ⟨_, rfl⟩
        rw [hs1] at c3 HS HAB HRB HBB HL
        have HS1 := Hid.mk9 hs1
        clear hs hs1 ht
        go_upto_region 7 with fail
        generalize (wr.alloc (.cells #[.string s, .slice a n c] 55)) = wD at *
        have hYk := hYN.out
        have d0 := HAB.out.c0
        obtain ⟨g2, a2, n2, c2, eg, hg2, hBg, -, d4, d5, hs2, -, hfz2⟩ := HAB.out.cell (k := k) (by omega)
        simp only [Option.some.injEq, Addr.mk.injEq, and_true] at eg
        subst eg
        rw [hYk] at d0
        refine tr_7 _ _ _ _ _ _ _ _ _ _ _ _ _ _ _ _ _ _ _ _ _ _ _ _ _ _ _ _ _ _ _ _ _ _ _ _ _ _ _ _ _ _ _ _ _ p wr.heap.size g k N lc n c a f (.slice a2 n2 c2) ((Y.getD k lx0).2.2) wD _ d0 HL.out d4 hfz2 hk0 hk1 HS.out (by rw [HYk.out.2]; exact HMk.out) (Hid.mk9 (fun u28 u29 u30 u31 u32 u33 u34 u35 u36 u37 u38 a3 n3 c5 w2 wC hb2 hs3 ht3 hwC => ?_))
        have HAC : Hid (LvA B p (some ⟨g, 0, none⟩) lc (Y.set k ((Y.getD k lx0).1, .slice a3 n3 c5, trimP (Y.getD k lx0).2.2 f)) da dc ds f wC) := Hid.mk9 (by rw [hwC]; exact (HAB.out.below hb2).samples (by omega) hs3 ht3)
        obtain ⟨cc, fz, hh⟩ := Lib.ownsRow_kind (HAB.out.below hb2).2.2.1 g rfl
        have HKC : Hid (KpS p w wC) := Hid.mk9 (by rw [hwC]; exact ((hK.out.trans (KpS.of_below (below2 HBB.out hb2))).trans (KpS.set_row (p := p) (j := k * 2 + 1) hh (.inl rfl) (.slice a3 n3 c5))))
        have HBC : Hid (Below B w wC) := Hid.mk9 (by rw [hwC]; exact ((hB.out.trans ((below2 HBB.out hb2).mono (Nat.le_trans HB0.out hB.out.size))).setCell (p := ⟨g, k * 2 + 1, none⟩) hBg _))
        have HRC : Hid (Bx3 wC w.heap.size 37 (.int .i64 0) (.bool false) (.int .i64 0)) := Hid.mk9 (by
          rw [hwC]
          refine (HRB.out.below hb2).kept (set_heap w2 g (k * 2 + 1) _ w.heap.size (fun e => ?_))
          have h1 : w2.heap[w.heap.size]? = _ := HRB.out.below hb2
          rw [e, hh] at h1
          injection h1 with h1
          injection h1 with _ e2
          exact absurd e2 (by decide))
        have HYC : Hid (lnsX (Y.set k ((Y.getD k lx0).1, .slice a3 n3 c5, trimP (Y.getD k lx0).2.2 f)) = trK (lnsX X) f (k + 1)) := Hid.mk9 (by rw [lnsX_set, trK_succ _ _ _ hxk, ← hY.out, HYk.out.1, HYk.out.2])
        have HNC : Hid ((Y.set k ((Y.getD k lx0).1, .slice a3 n3 c5, trimP (Y.getD k lx0).2.2 f)).length = N) := Hid.mk9 (by rw [List.length_set]; exact hYk)
        clear hb2 hs3 ht3 hwC hh HAB HRB HBB HL HS hs2 d0 d4 d5 hfz2 c3 c4 hfz hA hY hR hB hK hYk hYN HYk HMk HS1
        go_wp2_with fail
        exact ⟨⟨k + 1, _, by go_num, by omega, HNC, HAC, HYC, HRC, HBC, HKC⟩, by simp [intOf]; omega⟩
      · have hkz : ¬ (k : Int) < (N : Int) := by omega
        have hkE : k = N := by omega
        have HC := Hid.mk9 (hA.out.del (by have := hYN.out; omega))
        have d0 := hA.out.c0
        rw [hYN.out] at HC d0
        have HYT : Hid ((lnsX Y).filter (fun y => decide (y.2 ≠ [])) = trimL (lnsX X) f) := Hid.mk9 (by
          rw [hY.out, trK_all _ _ _ (by have := HNE.out; simp [lnsX]; omega)]
          rfl)
        go_upto_region 10 with (go_at_call 80; refine HC.out.mono ?_; rintro e wE ⟨la2, lc2, Z, rfl, hZ, hLR, hbx, hbE, hkE2⟩; (have e0 := hbx.cells.1); (have g0 := hbx.frz.1))
        have HLF := Hid.mk9 (hLR.lines hbx HBp.out)
        have HRF : Hid (Bx3 (wE.setCell ⟨p, 0, none⟩ (.slice la2 Z.length lc2)) w.heap.size 37 (.int .i64 0) (.bool false) (.int .i64 0)) := Hid.mk9 ((hR.out.kp hkE2 (by have := HPL.out; omega) (by decide) (by decide)).kept (set_heap wE p 0 _ w.heap.size (by have := HPL.out; omega)))
        have HKF := Hid.mk9 ((hK.out.trans hkE2).trans (KpS.set_box p 0 wE (.slice la2 Z.length lc2)))
        have HBF := Hid.mk9 ((hB.out.trans hbE).setCell (p := ⟨p, 0, none⟩) HBp.out (.slice la2 Z.length lc2))
        have HZ := Hid.mk9 hZ
        clear hZ hLR hbx hbE hkE2 e0 g0 hA hY hR hB hK hYN HC d0
        generalize wE.setCell ⟨p, 0, none⟩ (.slice la2 Z.length lc2) = wF at *
        obtain ⟨c0, c1, c3⟩ := HRF.out.cells
        obtain ⟨f0, f1, f2⟩ := HRF.out.frz
        have HRs := Hid.mk9 (HRF.out.set (.int .i64 0) (.bool false) (.int .i64 0))
        have HLs := Hid.mk9 (HLF.out.ans HRF.out (.int .i64 0) (.bool false) (.int .i64 0))
        have HKs := Hid.mk9 (HKF.out.ans (r := w.heap.size) (Nat.le_refl _) (.int .i64 0) (.bool false) (.int .i64 0))
        have HBs := Hid.mk9 (put3_below HBF.out (b := w.heap.size) HB0.out (.int .i64 0) (.bool false) (.int .i64 0))
        clear HRF HLF HKF HBF
        go_wp2_with fail
        refine bodyPost_ret (retA rfl _ _ w.heap.size (.int .i64 0) (.bool false) (.int .i64 0) rfl HRs.out) rfl ?_
        rw [HW.out]
        exact ⟨rfl, ⟨_, _, _, _, _, HLs.out, HZ.out.trans HYT.out⟩, HBs.out, HKs.out⟩
end Go.Proofs.YtihohcmocejijaaGreat.Bk
