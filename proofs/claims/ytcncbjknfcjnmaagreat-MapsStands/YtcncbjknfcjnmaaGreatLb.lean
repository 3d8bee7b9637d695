/-
  The contract of the answer's May, of whatever map.
  The answer's Of.
  The contract of the answer's Raw, of whatever map.
  The contract of the answer's Acting, of whatever map.
  The contract of the answer's Acting, of whatever map.
  The law MapsStands.
-/
import Derived.Test.YtcncbjknfcjnmaaGreatLj
import Derived.Test.YtcncbjknfcjnmaaGreatLp
import Derived.Test.YtcncbjknfcjnmaaGreatTpD
import Derived.Test.YtcncbjknfcjnmaaGreatLa
import Derived.Test.YtcncbjknfcjnmaaGreatL0
namespace Go.Proofs.YtcncbjknfcjnmaaGreat.Tp
open Go.ChangeShapes Go.WideShapes Go.ChangeAt Go.RowKit
set_option maxHeartbeats 2000000 in
set_option maxRecDepth 60000 in
theorem refMay_any8 {m : Mp} {s : MV} (w : World) (h : MapAt w m s) : Calls Tryz.prog 13 #[.agg (mapCells m s).toArray] w fun e w' => BoolPost (MayM m) w e w' := by
  by_cases hec : (0 ≤ m.ep ∧ m.ep ≤ 2147483647) ∧ CountOk m.size m.mn m.gr
  · by_cases hM : MayN m.nds
    · exact refMayTemps hec.1 hec.2 hM w h
    · have HF : Hid (¬ MayM m) := fun h => hM h.nds
      have HN : Hid (∀ W, Below w.heap.size w W → Calls Tryz.prog 33 #[.slice s.aN s.lN s.cN] W fun e w' => e = .returned (.bool false) ∧ Below W.heap.size W w') := fun W hb => refMay_no (h.nds.below hb) hM
      obtain ⟨⟨k1, k2⟩, ⟨k3, k4⟩, ⟨k5, k6⟩, k7, k8⟩ := hec
      rw [map_split]
      have x0 : decide (m.ep < 0) = false := by simp; omega
      have x1 : decide (2147483648 ≤ m.ep) = false := by simp; omega
      have x2 : decide (m.size < 1) = false := by simp; omega
      have x3 : decide (3 < m.size) = false := by simp; omega
      have x4 : decide (m.mn < 1) = false := by simp; omega
      have x5 : decide (m.size < m.mn) = false := by simp; omega
      have x6 : decide (m.gr < 1) = false := by simp; omega
      have x7 : decide (8 < m.gr) = false := by simp; omega
      have hb1 := below_alloc w (.cells #[.int .i64 m.ep, .int .i64 m.size, .int .i64 m.mn, .int .i64 m.gr, .slice s.aN s.lN s.cN, .slice s.aT s.lT s.cT, .slice s.aR s.lR s.cR] 26)
      clear h hM
      go_enter Tryz.func13, Tryz.ntmps13
      go_wp2_with (go_at_call 33; refine (HN.out _ hb1).mono ?_; rintro e w2 ⟨rfl, hb2⟩)
      go_ret
      exact bool_no (below2 hb1 hb2) HF.out
  · have HF : Hid (¬ MayM m) := fun h => hec ⟨h.ep, h.cnt⟩
    have hb1 := below_alloc w (.cells #[.int .i64 m.ep, .int .i64 m.size, .int .i64 m.mn, .int .i64 m.gr, .slice s.aN s.lN s.cN, .slice s.aT s.lT s.cT, .slice s.aR s.lR s.cR] 26)
    have key : ∀ (b0 b1 b2 b3 b4 b5 b6 b7 : Bool), decide (m.ep < 0) = b0 → decide (2147483648 ≤ m.ep) = b1 → decide (m.size < 1) = b2 → decide (3 < m.size) = b3 → decide (m.mn < 1) = b4 → decide (m.size < m.mn) = b5 → decide (m.gr < 1) = b6 → decide (8 < m.gr) = b7 → (b0 || (b1 || (b2 || (b3 || (b4 || (b5 || (b6 || b7))))))) = true → Calls Tryz.prog 13 #[.agg #[.int .i64 m.ep, .int .i64 m.size, .int .i64 m.mn, .int .i64 m.gr, .slice s.aN s.lN s.cN, .slice s.aT s.lT s.cT, .slice s.aR s.lR s.cR]] w fun e w' => BoolPost (MayM m) w e w' := by
      intro b0 b1 b2 b3 b4 b5 b6 b7 h0 h1 h2 h3 h4 h5 h6 h7 hor
      clear hec h
      cases b0 with
      | true =>
        go_enter Tryz.func13, Tryz.ntmps13
        go_wp2_with fail
        go_ret
        exact bool_no hb1 HF.out
      | false =>
        cases b1 with
        | true =>
          go_enter Tryz.func13, Tryz.ntmps13
          go_wp2_with fail
          go_ret
          exact bool_no hb1 HF.out
        | false =>
          cases b2 with
          | true =>
            go_enter Tryz.func13, Tryz.ntmps13
            go_wp2_with fail
            go_ret
            exact bool_no hb1 HF.out
          | false =>
            cases b3 with
            | true =>
              go_enter Tryz.func13, Tryz.ntmps13
              go_wp2_with fail
              go_ret
              exact bool_no hb1 HF.out
            | false =>
              cases b4 with
              | true =>
                go_enter Tryz.func13, Tryz.ntmps13
                go_wp2_with fail
                go_ret
                exact bool_no hb1 HF.out
              | false =>
                cases b5 with
                | true =>
                  go_enter Tryz.func13, Tryz.ntmps13
                  go_wp2_with fail
                  go_ret
                  exact bool_no hb1 HF.out
                | false =>
                  cases b6 with
                  | true =>
                    go_enter Tryz.func13, Tryz.ntmps13
                    go_wp2_with fail
                    go_ret
                    exact bool_no hb1 HF.out
                  | false =>
                    cases b7 with
                    | true =>
                      go_enter Tryz.func13, Tryz.ntmps13
                      go_wp2_with fail
                      go_ret
                      exact bool_no hb1 HF.out
                    | false =>
                      exact absurd hor (by decide)
    rw [map_split]
    refine key _ _ _ _ _ _ _ _ rfl rfl rfl rfl rfl rfl rfl rfl ?_
    simp only [Bool.or_eq_true, decide_eq_true_eq]
    unfold CountOk at hec
    omega
end Go.Proofs.YtcncbjknfcjnmaaGreat.Tp
namespace Go.Proofs.YtcncbjknfcjnmaaGreat.Tp
open Go.ChangeShapes Go.WideShapes Go.ChangeAt Go.RowKit
/-- what the answer's Of tells -/
def OfPostR (ls : List Nd) (g size : Int) (w : World) (e : Ending) (w' : World) : Prop := Below w.heap.size w w' ∧ ∃ a cap out, e = .returned (.slice a out.length cap) ∧ IntsAt w' a out ∧ OfIs ls g size out
/-- what the answer's Of tells -/
theorem refOf_any (a : Option Addr) (len cap : Nat) (ls : List Nd) (g size : Int) (w : World) (h : NdsAt w a len cap ls) : Calls Tryz.prog 55 #[.slice a len cap, .int .i64 g, .int .i64 size] w fun e w' => OfPostR ls g size w e w' := by
  have HMY : Hid (Calls Tryz.prog 33 #[.slice a len cap] w fun e w' => BoolPost (MayN ls) w e w') := refMay_any a len cap ls w h
  have HL : Hid (NdsAt w a len cap ls) := h
  clear h
  go_enter Tryz.func55, Tryz.ntmps55
  go_wp2_with fail
  refine HMY.out.mono ?_
  rintro e w2 ⟨hb2, q, rfl, hq⟩
  clear HMY
  cases q with
  | false =>
    have HO : Hid (OfIs ls g size []) := .inr ⟨fun hh => absurd (hq.2 hh.1.1) (by decide), rfl⟩
    clear hq
    go_wp2_with fail
    go_ret
    exact ⟨hb2, none, 0, [], rfl, .inl rfl, HO.out⟩
  | true =>
    have HM : Hid (MayN ls) := hq.1 rfl
    clear hq
    by_cases hg0 : g < 0
    · have HO : Hid (OfIs ls g size []) := .inr ⟨fun hh => by have := hh.1.2.1; omega, rfl⟩
      have d0 : decide (g < 0) = true := by simpa using hg0
      go_wp2_with fail
      go_ret
      exact ⟨hb2, none, 0, [], rfl, .inl rfl, HO.out⟩
    have d0 : decide (g < 0) = false := decide_eq_false hg0
    by_cases hg7 : 7 < g
    · have HO : Hid (OfIs ls g size []) := .inr ⟨fun hh => by have := hh.1.2.2; omega, rfl⟩
      have d7 : decide (7 < g) = true := by simpa using hg7
      go_wp2_with fail
      go_ret
      exact ⟨hb2, none, 0, [], rfl, .inl rfl, HO.out⟩
    have d7 : decide (7 < g) = false := decide_eq_false hg7
    by_cases hs1 : size < 1
    · have HO : Hid (OfIs ls g size []) := .inr ⟨fun hh => by have := hh.2.1; omega, rfl⟩
      have d1 : decide (size < 1) = true := by simpa using hs1
      go_wp2_with fail
      go_ret
      exact ⟨hb2, none, 0, [], rfl, .inl rfl, HO.out⟩
    have d1 : decide (size < 1) = false := decide_eq_false hs1
    by_cases hs3 : 3 < size
    · have HO : Hid (OfIs ls g size []) := .inr ⟨fun hh => by have := hh.2.2; omega, rfl⟩
      have d3 : decide (3 < size) = true := by simpa using hs3
      go_wp2_with fail
      go_ret
      exact ⟨hb2, none, 0, [], rfl, .inl rfl, HO.out⟩
    have d3 : decide (3 < size) = false := decide_eq_false hs3
    obtain ⟨n, rfl⟩ : ∃ n : Nat, size = (n : Int) := ⟨size.toNat, by omega⟩
    have HO : Hid (OfIs ls g (n : Int) (ofP ls g n)) := .inl ⟨⟨⟨HM.out, by omega, by omega⟩, by omega, by omega⟩, rfl⟩
    have HCM : Hid (∀ W : World, Calls Tryz.prog 85 #[.int .i64 (n : Int)] W fun e w' => e = .returned (.slice (some ⟨W.heap.size, 0, none⟩) 5 5) ∧ w' = W.alloc (.cells (comCells (n : Int)).toArray 121)) := refCommon_any n
    have HRN : Hid (Calls Tryz.prog 84 #[.slice a len cap, .slice (some ⟨w2.heap.size, 0, none⟩) 5 5, .int .i64 g, .int .i64 (n : Int)] (w2.alloc (.cells (comCells (n : Int)).toArray 121)) fun e w' => IntsPostR (ofP ls g n) (w2.alloc (.cells (comCells (n : Int)).toArray 121)) e w') := refRun_com a len cap ls w2.heap.size g n _ ((HL.out.below hb2).below (below_alloc _ _)) (com_new w2 n) HM.out (by omega)
    have hb3 := below2 hb2 (below_alloc w2 (.cells (comCells (n : Int)).toArray 121))
    go_wp2_with fail
    refine (HCM.out _).mono ?_
    rintro e w' ⟨rfl, hw'⟩
    subst hw'
    generalize w2.alloc (.cells (comCells (n : Int)).toArray 121) = w3 at *
    go_wp2_with fail
    refine HRN.out.mono ?_
    rintro e w4 ⟨hb4, a4, c4, rfl, hI⟩
    have HI : Hid (IntsAt w4 a4 (ofP ls g n)) := hI
    clear hI HRN HCM
    go_wp2_with fail
    go_ret
    exact ⟨below2 hb3 hb4, a4, c4, _, rfl, HI.out, HO.out⟩
end Go.Proofs.YtcncbjknfcjnmaaGreat.Tp
namespace Go.Proofs.YtcncbjknfcjnmaaGreat.Tp
open Go.ChangeShapes Go.WideShapes Go.ChangeAt Go.RowKit
theorem temp_len {m : Mp} (hM : MayM m) (g : Int) : ((tempP m g).length : Int) ≤ 3 := by
  unfold tempP
  cases h : m.tms.find? (fun t => t.g == g) with
  | some t => exact Int.le_trans (hM.stand.ns t (List.mem_of_find?_eq_some h)) hM.stand.size.2
  | none => exact (by decide : ((0 : Nat) : Int) ≤ 3)
theorem raw_of_temp {m : Mp} {g : Int} (h : tempP m g ≠ []) : rawP m g = tempP m g := by
  unfold tempP at h
  unfold rawP tempP
  cases hq : m.tms.find? (fun t => t.g == g) with
  | some t => rfl
  | none => rw [hq] at h; exact absurd rfl h
theorem raw_of_none {m : Mp} (hM : MayM m) {g : Int} (h : tempP m g = []) : rawP m g = ofP m.nds g m.size.toNat := by
  unfold tempP at h
  unfold rawP
  cases hq : m.tms.find? (fun t => t.g == g) with
  | some t =>
    rw [hq] at h
    have ht := List.mem_of_find?_eq_some hq
    obtain ⟨i, hi, e⟩ := List.getElem_of_mem ht
    have := (hM.tms i hi).2.2.1.1
    rw [show m.tms.getD i tm0 = m.tms[i] by simp [hi], e] at this
    have h0 : t.ns = [] := h
    rw [h0] at this
    exact absurd this (by decide)
  | none => rfl
/-- where a group shall stand, of whatever map -/
noncomputable def rawQ (m : Mp) (g : Int) : List Int := by
  classical
  exact if MayM m ∧ 0 ≤ g ∧ g < m.gr then rawP m g else []
theorem rawQ_yes {m : Mp} {g : Int} (h : MayM m ∧ 0 ≤ g ∧ g < m.gr) : rawQ m g = rawP m g := by unfold rawQ; rw [if_pos h]
theorem rawQ_no {m : Mp} {g : Int} (h : ¬ (MayM m ∧ 0 ≤ g ∧ g < m.gr)) : rawQ m g = [] := by unfold rawQ; rw [if_neg h]
theorem bool_off {q : Bool} {P : Prop} (h : q = true ↔ P) (hn : ¬ P) : q = false := by
  cases q with
  | false => rfl
  | true => exact absurd (h.1 rfl) hn
theorem row_none (w : World) : RowL w none 0 [] := ⟨rfl, Nat.zero_le _, .inl rfl⟩
set_option maxHeartbeats 1000000 in
set_option maxRecDepth 60000 in
theorem refRaw_any {m : Mp} {s : MV} (g : Int) (w : World) (h : MapAt w m s) : Calls Tryz.prog 24 #[.agg (mapCells m s).toArray, .int .i64 g] w fun e w' => RowPost (rawQ m g) w e w' := by
  have hb1 := below_alloc w (.cells (mapCells m s).toArray 26)
  have HMY : Hid (∀ W, Below w.heap.size w W → Calls Tryz.prog 13 #[.agg (mapCells m s).toArray] W fun e w' => BoolPost (MayM m) W e w') := fun W hb => refMay_any8 W (h.below hb)
  have HTP : Hid (∀ W, Below w.heap.size w W → Calls Tryz.prog 54 #[.agg (mapCells m s).toArray, .int .i64 g] W fun e w' => RowPost (tempP m g) W e w') := fun W hb => refTemp_any g W (h.below hb)
  have HOF : Hid (∀ W, Below w.heap.size w W → Calls Tryz.prog 55 #[.slice s.aN s.lN s.cN, .int .i64 g, .int .i64 m.size] W fun e w' => OfPostR m.nds g m.size W e w') := fun W hb => refOf_any _ _ _ m.nds g m.size W (h.nds.below hb)
  have HNO : Hid (¬ MayM m → rawQ m g = []) := fun hn => rawQ_no fun hh => hn hh.1
  have HNG : Hid (¬ (0 ≤ g ∧ g < m.gr) → rawQ m g = []) := fun hn => rawQ_no fun hh => hn hh.2
  have HYT : Hid (MayM m → 0 ≤ g ∧ g < m.gr → tempP m g ≠ [] → rawQ m g = tempP m g) := fun hM hg ht => by rw [rawQ_yes ⟨hM, hg⟩, raw_of_temp ht]
  have HYO : Hid (MayM m → 0 ≤ g ∧ g < m.gr → tempP m g = [] → ∀ out, OfIs m.nds g m.size out → out = rawQ m g ∧ out.length ≤ 64) := fun hM hg ht out ho => by
    rcases ho with ⟨_, ho⟩ | ⟨ho, _⟩
    · have h1 := of_len hM.nds g m.size.toNat
      have h2 := hM.cnt.1
      have h3 : out = rawQ m g := by rw [rawQ_yes ⟨hM, hg⟩, raw_of_none hM ht, ho]
      have h4 : out.length ≤ m.size.toNat := by rw [ho]; exact h1
      exact ⟨h3, by omega⟩
    · have h3 := hM.cnt.2.2.2
      exact absurd ⟨⟨hM.nds, by omega, by omega⟩, hM.cnt.1⟩ ho
  have HTL : Hid (MayM m → ((tempP m g).length : Int) ≤ 3) := fun hM => temp_len hM g
  clear h
  rw [map_split] at *
  generalize rawQ m g = rq at *
  generalize tempP m g = tp at *
  generalize MayM m = MM at *
  obtain ⟨ep, sz, mn, gr, nds, tms, trs⟩ := m
  obtain ⟨aN, lN, cN, aT, lT, cT, aR, lR, cR⟩ := s
  simp only [mapCells] at *
  have HBX : Hid (Box7 (w.alloc (.cells #[.int .i64 ep, .int .i64 sz, .int .i64 mn, .int .i64 gr, .slice aN lN cN, .slice aT lT cT, .slice aR lR cR] 26)) w.heap.size (.int .i64 ep) (.int .i64 sz) (.int .i64 mn) (.int .i64 gr) (.slice aN lN cN) (.slice aT lT cT) (.slice aR lR cR)) := Box7.new w _ _ _ _ _ _ _ _
  have HMW := HMY.out _ hb1
  clear HMY
  by_cases hM : MM
  · have HM1 : Hid (Calls Tryz.prog 13 #[.agg #[.int .i64 ep, .int .i64 sz, .int .i64 mn, .int .i64 gr, .slice aN lN cN, .slice aT lT cT, .slice aR lR cR]] (w.alloc (.cells #[.int .i64 ep, .int .i64 sz, .int .i64 mn, .int .i64 gr, .slice aN lN cN, .slice aT lT cT, .slice aR lR cR] 26)) fun e w' => e = .returned (.bool true) ∧ Below (w.alloc (.cells #[.int .i64 ep, .int .i64 sz, .int .i64 mn, .int .i64 gr, .slice aN lN cN, .slice aT lT cT, .slice aR lR cR] 26)).heap.size (w.alloc (.cells #[.int .i64 ep, .int .i64 sz, .int .i64 mn, .int .i64 gr, .slice aN lN cN, .slice aT lT cT, .slice aR lR cR] 26)) w') := HMW.mono fun e w' ⟨hb, q, he, hq⟩ => ⟨by rw [he, hq.2 hM], hb⟩
    clear HMW HNO
    by_cases hg0 : g < 0
    · have HR : Hid (rq = []) := HNG.out (by omega)
      clear HNG HYT HYO HTP HOF HTL
      go_enter Tryz.func24, Tryz.ntmps24
      go_wp2_with (go_at_call 13; refine HM1.out.mono ?_; rintro e w2 ⟨rfl, hb2⟩; obtain ⟨⟨c0, c1, c2, c3, c4, c5, c6⟩, -⟩ := HBX.out.below hb2)
      go_ret
      rw [HR.out]
      exact ⟨below2 hb1 hb2, none, 0, rfl, row_none _⟩
    · by_cases hg1 : g < gr
      · have hg2 : 0 ≤ g := by omega
        have HT3 : Hid ((tp.length : Int) ≤ 3) := HTL.out hM
        by_cases ht : tp = []
        · have HRO : Hid (∀ out, OfIs nds g sz out → out = rq ∧ out.length ≤ 64) := HYO.out hM ⟨hg2, hg1⟩ ht
          have HT0 : Hid (tp.length = 0) := by rw [ht]; exact rfl
          clear HNG HYT HYO HTL hM ht HT3
          have HTZ : Hid (∀ W, Below w.heap.size w W → Calls Tryz.prog 54 #[.agg #[.int .i64 ep, .int .i64 sz, .int .i64 mn, .int .i64 gr, .slice aN lN cN, .slice aT lT cT, .slice aR lR cR], .int .i64 g] W fun e w' => Below W.heap.size W w' ∧ ∃ a cap, e = .returned (.slice a 0 cap)) := fun W hb => (HTP.out W hb).mono fun e w' ⟨hb, a, cap, he, _⟩ => ⟨hb, a, cap, by rw [he, HT0.out]⟩
          clear HTP HT0
          go_enter Tryz.func24, Tryz.ntmps24
          go_wp2_with (first
            | (go_at_call 13; refine HM1.out.mono ?_; rintro e w2 ⟨rfl, hb2⟩; obtain ⟨⟨c0, c1, c2, c3, c4, c5, c6⟩, -⟩ := HBX.out.below hb2)
            | (go_at_call 54; refine (HTZ.out _ (below2 hb1 hb2)).mono ?_; rintro e w3 ⟨hb3, a3, c3', rfl⟩; obtain ⟨⟨d0, d1, d2, d3, d4, d5, d6⟩, -⟩ := (HBX.out.below (below2 hb2 hb3)))
            | (go_at_call 55; refine (HOF.out _ (below2 hb1 (below2 hb2 hb3))).mono ?_; rintro e w4 ⟨hb4, a4, c4', out, rfl, hI4, hO4⟩; have HI4 : Hid (IntsAt w4 a4 out) := hI4; have HO4 : Hid (OfIs nds g sz out) := hO4; clear hI4 hO4))
          go_ret
          obtain ⟨e1, e2⟩ := HRO.out out HO4.out
          rw [← e1]
          exact ⟨below2 hb1 (below2 hb2 (below2 hb3 hb4)), a4, c4', rfl, HI4.out.rowL e2⟩
        · have HR : Hid (rq = tp) := HYT.out hM ⟨hg2, hg1⟩ ht
          have ht3 : (tp.length : Int) ≤ 3 := HT3.out
          have ht0 : (0 : Int) < (tp.length : Int) := by
            have : tp.length ≠ 0 := fun e => ht (List.length_eq_zero_iff.1 e)
            omega
          clear HNG HYT HYO HTL hM ht HT3 HOF
          go_enter Tryz.func24, Tryz.ntmps24
          go_wp2_with (first
            | (go_at_call 13; refine HM1.out.mono ?_; rintro e w2 ⟨rfl, hb2⟩; obtain ⟨⟨c0, c1, c2, c3, c4, c5, c6⟩, -⟩ := HBX.out.below hb2)
            | (go_at_call 54; refine (HTP.out _ (below2 hb1 hb2)).mono ?_; rintro e w3 ⟨hb3, a3, c3', rfl, hR3⟩; have HR3 : Hid (RowL w3 a3 tp.length tp) := hR3; clear hR3))
          go_ret
          rw [HR.out]
          exact ⟨below2 hb1 (below2 hb2 hb3), a3, c3', rfl, HR3.out⟩
      · have HR : Hid (rq = []) := HNG.out (by omega)
        clear HNG HYT HYO HTP HOF HTL
        go_enter Tryz.func24, Tryz.ntmps24
        go_wp2_with (go_at_call 13; refine HM1.out.mono ?_; rintro e w2 ⟨rfl, hb2⟩; obtain ⟨⟨c0, c1, c2, c3, c4, c5, c6⟩, -⟩ := HBX.out.below hb2)
        go_ret
        rw [HR.out]
        exact ⟨below2 hb1 hb2, none, 0, rfl, row_none _⟩
  · have HM1 : Hid (Calls Tryz.prog 13 #[.agg #[.int .i64 ep, .int .i64 sz, .int .i64 mn, .int .i64 gr, .slice aN lN cN, .slice aT lT cT, .slice aR lR cR]] (w.alloc (.cells #[.int .i64 ep, .int .i64 sz, .int .i64 mn, .int .i64 gr, .slice aN lN cN, .slice aT lT cT, .slice aR lR cR] 26)) fun e w' => e = .returned (.bool false) ∧ Below (w.alloc (.cells #[.int .i64 ep, .int .i64 sz, .int .i64 mn, .int .i64 gr, .slice aN lN cN, .slice aT lT cT, .slice aR lR cR] 26)).heap.size (w.alloc (.cells #[.int .i64 ep, .int .i64 sz, .int .i64 mn, .int .i64 gr, .slice aN lN cN, .slice aT lT cT, .slice aR lR cR] 26)) w') := HMW.mono fun e w' ⟨hb, q, he, hq⟩ => ⟨by rw [he, bool_off hq hM], hb⟩
    have HR : Hid (rq = []) := HNO.out hM
    clear HMW HNO HNG HYT HYO HTP HOF HTL hM
    go_enter Tryz.func24, Tryz.ntmps24
    go_wp2_with (go_at_call 13; refine HM1.out.mono ?_; rintro e w2 ⟨rfl, hb2⟩; obtain ⟨⟨c0, c1, c2, c3, c4, c5, c6⟩, -⟩ := HBX.out.below hb2)
    go_ret
    rw [HR.out]
    exact ⟨below2 hb1 hb2, none, 0, rfl, row_none _⟩
end Go.Proofs.YtcncbjknfcjnmaaGreat.Tp
namespace Go.Proofs.YtcncbjknfcjnmaaGreat.Tp
open Go.ChangeShapes Go.WideShapes Go.ChangeAt Go.RowKit
theorem held_two {P : Program} {ops : Array Oper} {Q : Exit → Act → World → Prop} {md : Region.Mode} {S : World → Prop} {i j : Nat} {o o2 : Oper} {fuel : Nat} {listed : Array Bool} {a : Act} {w : World} (hr : Region.ready md ops listed = [i, j]) (hi : ops.toList[i]? = some o) (hj : ops.toList[j]? = some o2) (hg : Region.wanted o (yielded ops a.tmps) = true) (hg2 : Region.wanted o2 (yielded ops a.tmps) = true)
    (h : ∀ K : Act → World → Prop, Hid (∀ a' w', S w' → wpAnyH P md ops Q S fuel (listed.setIfInBounds i true) a' w' → K a' w') → o.wp P a w K Q)
    (h2 : ∀ K : Act → World → Prop, Hid (∀ a' w', S w' → wpAnyH P md ops Q S fuel (listed.setIfInBounds j true) a' w' → K a' w') → o2.wp P a w K Q) : wpAnyH P md ops Q S (fuel + 1) listed a w := by
  have ho : ops[i]? = some o := by simpa using hi
  have ho2 : ops[j]? = some o2 := by simpa using hj
  refine wpAnyH_all hr (by simp) (fun l hl => ?_)
  have hl2 : l = i ∨ l = j := by simpa using hl
  rcases hl2 with rfl | rfl
  · unfold wpOp
    simp only [ho]
    rw [if_pos hg]
    exact .inl (h _ (fun _ _ h1 h2 => ⟨h1, h2⟩))
  · unfold wpOp
    simp only [ho2]
    rw [if_pos hg2]
    exact .inl (h2 _ (fun _ _ h1 h2 => ⟨h1, h2⟩))
set_option maxHeartbeats 4000000 in
set_option maxRecDepth 60000 in
theorem act_get (t0 t1 t3 t4 t6 t8 t9 t10 t11 t12 t13 t14 t15 t16 t17 t18 t19 t20 t21 t22 t23 t24 t25 t26 t27 t28 t29 t30 t31 t32 t33 t34 t35 t36 t37 t38 t39 : Value) (Bx p po n cp k lN cN : Nat) (aN : Option Addr) (id c1 c2 c3 c4 : Int) (c5 c6 ok : Bool) (w1 : World) (Q : Exit → Act → World → Prop)
    (x0 : w1.cell? ⟨Bx, 4, none⟩ = some (.slice aN lN cN)) (x1 : w1.cell? ⟨p, po + k, none⟩ = some (.int .i64 id)) (hX0 : Bx < w1.heap.size) (hX1 : p < w1.heap.size) (hk0 : (0 : Int) ≤ (k : Int)) (hk1 : (k : Int) < (n : Int))
    (HF : Hid (∀ W, Below w1.heap.size w1 W → Calls Tryz.prog 57 #[.slice aN lN cN, .int .i64 id] W fun e w' => e = .returned (.tuple #[.agg #[.int .i64 c1, .int .i64 c2, .int .i64 c3, .int .i64 c4, .bool c5, .bool c6], .bool ok]) ∧ Grown W w'))
    (hQ : Hid (∀ (u9 u20 u21 u22 u23 u24 u25 u26 u27 u28 u29 : Value) (j : Nat) (wC : World), w1.heap.size ≤ j → j < wC.heap.size → Below w1.heap.size w1 wC → wC.cell? ⟨j, 4, none⟩ = some (.bool c5) → Q .normal ⟨#[t0, t1, .pointer (some ⟨Bx, 0, none⟩), t3, t4, .slice (some ⟨p, po, none⟩) n cp, t6, .int .i64 (k : Int), .pointer (some ⟨j, 0, none⟩), u9, t10, t11, t12, t13, t14, t15, t16, t17, t18, t19, u20, u21, u22, u23, u24, u25, u26, u27, u28, u29, t30, t31, t32, t33, t34, t35, t36, t37, t38, t39], []⟩ wC)) :
    Code.wp Tryz.prog ((Tryz.f26.body.bind (regionOf 6)).getD .skip) Q ⟨#[t0, t1, .pointer (some ⟨Bx, 0, none⟩), t3, t4, .slice (some ⟨p, po, none⟩) n cp, t6, .int .i64 (k : Int), t8, t9, t10, t11, t12, t13, t14, t15, t16, t17, t18, t19, t20, t21, t22, t23, t24, t25, t26, t27, t28, t29, t30, t31, t32, t33, t34, t35, t36, t37, t38, t39], []⟩ w1 := by
  have HS : Hid (∀ w', Below w1.heap.size w1 w' → (fun w' => w'.cell? ⟨Bx, 4, none⟩ = some (.slice aN lN cN) ∧ w'.cell? ⟨p, po + k, none⟩ = some (.int .i64 id)) w') := fun w' h => ⟨(h.cell (p := ⟨Bx, 4, none⟩) hX0).trans x0, (h.cell (p := ⟨p, po + k, none⟩) hX1).trans x1⟩
  clear x0 x1
  have hS := HS.out w1.drew (below_drew w1)
  conv => arg 2; whnf
  refine held_start (S := (fun w' => w'.cell? ⟨Bx, 4, none⟩ = some (.slice aN lN cN) ∧ w'.cell? ⟨p, po + k, none⟩ = some (.int .i64 id))) mixed5 ?_
  refine held_take (i := 0) (v := .pointer (some ⟨Bx, 4, none⟩)) rfl (by kernel_rfl) (fun _ _ _ h => h) (.inl ⟨rfl, fun w hS => ?_⟩) hS ?_
  · obtain ⟨s0, s1⟩ := hS
    go_simp
  simp only [Act.put, List.setIfInBounds_toArray, List.set_cons_zero, List.set_cons_succ]
  refine held_take (i := 1) (v := .slice aN lN cN) rfl (by kernel_rfl) (fun _ _ _ h => h) (.inl ⟨rfl, fun w hS => ?_⟩) hS ?_
  · obtain ⟨s0, s1⟩ := hS
    go_simp
  simp only [Act.put, List.setIfInBounds_toArray, List.set_cons_zero, List.set_cons_succ]
  refine held_take (i := 2) (v := .slice (some ⟨p, po, none⟩) n cp) rfl (by kernel_rfl) (fun _ _ _ h => h) (.inl ⟨rfl, fun w hS => ?_⟩) hS ?_
  · obtain ⟨s0, s1⟩ := hS
    go_simp
  simp only [Act.put, List.setIfInBounds_toArray, List.set_cons_zero, List.set_cons_succ]
  refine held_take (i := 3) (v := .int .i64 (k : Int)) rfl (by kernel_rfl) (fun _ _ _ h => h) (.inl ⟨rfl, fun w hS => ?_⟩) hS ?_
  · obtain ⟨s0, s1⟩ := hS
    go_simp
  simp only [Act.put, List.setIfInBounds_toArray, List.set_cons_zero, List.set_cons_succ]
  refine held_take (i := 4) (v := .pointer (some ⟨p, po + k, none⟩)) rfl (by kernel_rfl) (fun _ _ _ h => h) (.inl ⟨rfl, fun w hS => ?_⟩) hS ?_
  · obtain ⟨s0, s1⟩ := hS
    go_simp
  simp only [Act.put, List.setIfInBounds_toArray, List.set_cons_zero, List.set_cons_succ]
  refine held_take (i := 5) (v := .int .i64 id) rfl (by kernel_rfl) (fun _ _ _ h => h) (.inl ⟨rfl, fun w hS => ?_⟩) hS ?_
  · obtain ⟨s0, s1⟩ := hS
    go_simp
  simp only [Act.put, List.setIfInBounds_toArray, List.set_cons_zero, List.set_cons_succ]
  refine held_two (i := 6) (j := 10) (by kernel_rfl) rfl rfl rfl rfl ?_ ?_
  · intro K hK
    go_simp
    go_at_call 57
    refine (HF.out _ (below_drew w1)).mono ?_
    rintro en w3 ⟨rfl, hg3⟩
    have hb3 : Below w1.heap.size w1 w3 := below2 (below_drew w1) (grown_below hg3)
    refine hK.out _ _ (HS.out w3 hb3) ?_
    clear hK hS hg3
    have hS := HS.out w3 hb3
    refine held_take (i := 7) (v := .tuple #[.agg #[.int .i64 c1, .int .i64 c2, .int .i64 c3, .int .i64 c4, .bool c5, .bool c6], .bool ok]) rfl (by kernel_rfl) (fun _ _ _ h => h) (.inl ⟨rfl, fun w hS => ?_⟩) hS ?_
    · obtain ⟨s0, s1⟩ := hS
      go_simp
    simp only [Act.put, List.setIfInBounds_toArray, List.set_cons_zero, List.set_cons_succ]
    refine held_take (i := 8) (v := .agg #[.int .i64 c1, .int .i64 c2, .int .i64 c3, .int .i64 c4, .bool c5, .bool c6]) rfl (by kernel_rfl) (fun _ _ _ h => h) (.inl ⟨rfl, fun w hS => ?_⟩) hS ?_
    · obtain ⟨s0, s1⟩ := hS
      go_simp
    simp only [Act.put, List.setIfInBounds_toArray, List.set_cons_zero, List.set_cons_succ]
    refine held_take (i := 9) (v := .bool ok) rfl (by kernel_rfl) (fun _ _ _ h => h) (.inl ⟨rfl, fun w hS => ?_⟩) hS ?_
    · obtain ⟨s0, s1⟩ := hS
      go_simp
    simp only [Act.put, List.setIfInBounds_toArray, List.set_cons_zero, List.set_cons_succ]
    refine held_one (i := 10) (by kernel_rfl) rfl rfl ?_
    intro K hK
    go_simp
    have hb4 : Below w1.heap.size w1 (w3.alloc (.cells #[.int .i64 0, .int .i64 0, .int .i64 0, .int .i64 0, .bool false, .bool false] 72)) := hb3.alloc hb3.size _
    have H6 : Hid (Six (w3.alloc (.cells #[.int .i64 0, .int .i64 0, .int .i64 0, .int .i64 0, .bool false, .bool false] 72)) w3.heap.size (.int .i64 0) (.int .i64 0) (.int .i64 0) (.int .i64 0) (.bool false) (.bool false)) := ⟨by simp, by simp, by simp, by simp, by simp, by simp⟩
    have hj : w1.heap.size ≤ w3.heap.size := hb3.size
    have f0 : (w3.alloc (.cells #[.int .i64 0, .int .i64 0, .int .i64 0, .int .i64 0, .bool false, .bool false] 72)).frozen? ⟨w3.heap.size, 0, none⟩ = false := by simp
    have f1 : (w3.alloc (.cells #[.int .i64 0, .int .i64 0, .int .i64 0, .int .i64 0, .bool false, .bool false] 72)).frozen? ⟨w3.heap.size, 1, none⟩ = false := by simp
    have f2 : (w3.alloc (.cells #[.int .i64 0, .int .i64 0, .int .i64 0, .int .i64 0, .bool false, .bool false] 72)).frozen? ⟨w3.heap.size, 2, none⟩ = false := by simp
    have f3 : (w3.alloc (.cells #[.int .i64 0, .int .i64 0, .int .i64 0, .int .i64 0, .bool false, .bool false] 72)).frozen? ⟨w3.heap.size, 3, none⟩ = false := by simp
    have f4 : (w3.alloc (.cells #[.int .i64 0, .int .i64 0, .int .i64 0, .int .i64 0, .bool false, .bool false] 72)).frozen? ⟨w3.heap.size, 4, none⟩ = false := by simp
    have f5 : (w3.alloc (.cells #[.int .i64 0, .int .i64 0, .int .i64 0, .int .i64 0, .bool false, .bool false] 72)).frozen? ⟨w3.heap.size, 5, none⟩ = false := by simp
    refine hK.out _ _ (HS.out _ hb4) ?_
    clear hK hS
    have hS := HS.out _ hb4
    try simp only [Act.put, List.setIfInBounds_toArray, List.set_cons_zero, List.set_cons_succ]
    generalize w3.alloc (.cells #[.int .i64 0, .int .i64 0, .int .i64 0, .int .i64 0, .bool false, .bool false] 72) = w4 at *
    generalize w3.heap.size = j at *
    refine held_one (i := 11) (by kernel_rfl) rfl rfl ?_
    intro K hK
    obtain ⟨z0, z1, z2, z3, z4, z5⟩ := H6.out
    go_simp
    have hb5 : Below w1.heap.size w1 (set6 w4 j (.int .i64 c1) (.int .i64 c2) (.int .i64 c3) (.int .i64 c4) (.bool c5) (.bool c6)) := set6_below hb4 hj (.int .i64 c1) (.int .i64 c2) (.int .i64 c3) (.int .i64 c4) (.bool c5) (.bool c6)
    have h65 := (H6.out.set (.int .i64 c1) (.int .i64 c2) (.int .i64 c3) (.int .i64 c4) (.bool c5) (.bool c6)).2.2.2.2.1
    have hs5 : j < (set6 w4 j (.int .i64 c1) (.int .i64 c2) (.int .i64 c3) (.int .i64 c4) (.bool c5) (.bool c6)).heap.size := World.block_lt_of_cell? _ ⟨j, 4, none⟩ h65
    refine hK.out _ (set6 w4 j (.int .i64 c1) (.int .i64 c2) (.int .i64 c3) (.int .i64 c4) (.bool c5) (.bool c6)) (HS.out _ hb5) ?_
    clear hK hS z0 z1 z2 z3 z4 z5
    have hS := HS.out _ hb5
    try simp only [Act.put, List.setIfInBounds_toArray, List.set_cons_zero, List.set_cons_succ]
    refine held_take (i := 12) (v := .bool ok) rfl (by kernel_rfl) (fun _ _ _ h => h) (.inl ⟨rfl, fun w hS => ?_⟩) hS ?_
    · obtain ⟨s0, s1⟩ := hS
      go_simp
    simp only [Act.put, List.setIfInBounds_toArray, List.set_cons_zero, List.set_cons_succ]
    refine wpAnyH_done (by kernel_rfl) ?_ _
    refine NoPanic.normal ?_
    exact hQ.out _ _ _ _ _ _ _ _ _ _ _ j _ hj hs5 hb5 h65
  · intro K hK
    go_simp
    have hb2 : Below w1.heap.size w1 (w1.alloc (.cells #[.int .i64 0, .int .i64 0, .int .i64 0, .int .i64 0, .bool false, .bool false] 72)) := below_alloc _ _
    have hb3 : Below w1.heap.size w1 (w1.alloc (.cells #[.int .i64 0, .int .i64 0, .int .i64 0, .int .i64 0, .bool false, .bool false] 72)).drew := below2 hb2 (below_drew _)
    have H2 : Hid (Six (w1.alloc (.cells #[.int .i64 0, .int .i64 0, .int .i64 0, .int .i64 0, .bool false, .bool false] 72)) w1.heap.size (.int .i64 0) (.int .i64 0) (.int .i64 0) (.int .i64 0) (.bool false) (.bool false)) := ⟨by simp, by simp, by simp, by simp, by simp, by simp⟩
    have hl2 : w1.heap.size < (w1.alloc (.cells #[.int .i64 0, .int .i64 0, .int .i64 0, .int .i64 0, .bool false, .bool false] 72)).heap.size := World.block_lt_of_cell? _ ⟨w1.heap.size, 0, none⟩ H2.out.1
    have hbd : Below (w1.alloc (.cells #[.int .i64 0, .int .i64 0, .int .i64 0, .int .i64 0, .bool false, .bool false] 72)).heap.size (w1.alloc (.cells #[.int .i64 0, .int .i64 0, .int .i64 0, .int .i64 0, .bool false, .bool false] 72)) (w1.alloc (.cells #[.int .i64 0, .int .i64 0, .int .i64 0, .int .i64 0, .bool false, .bool false] 72)).drew := below_drew _
    have H3 : Hid (Six (w1.alloc (.cells #[.int .i64 0, .int .i64 0, .int .i64 0, .int .i64 0, .bool false, .bool false] 72)).drew w1.heap.size (.int .i64 0) (.int .i64 0) (.int .i64 0) (.int .i64 0) (.bool false) (.bool false)) := ⟨(hbd.cell (p := ⟨w1.heap.size, 0, none⟩) hl2).trans H2.out.1, (hbd.cell (p := ⟨w1.heap.size, 1, none⟩) hl2).trans H2.out.2.1, (hbd.cell (p := ⟨w1.heap.size, 2, none⟩) hl2).trans H2.out.2.2.1, (hbd.cell (p := ⟨w1.heap.size, 3, none⟩) hl2).trans H2.out.2.2.2.1, (hbd.cell (p := ⟨w1.heap.size, 4, none⟩) hl2).trans H2.out.2.2.2.2.1, (hbd.cell (p := ⟨w1.heap.size, 5, none⟩) hl2).trans H2.out.2.2.2.2.2⟩
    have g0 : (w1.alloc (.cells #[.int .i64 0, .int .i64 0, .int .i64 0, .int .i64 0, .bool false, .bool false] 72)).drew.frozen? ⟨w1.heap.size, 0, none⟩ = false := (hbd.frozen (p := ⟨w1.heap.size, 0, none⟩) hl2).trans (by simp)
    have g1 : (w1.alloc (.cells #[.int .i64 0, .int .i64 0, .int .i64 0, .int .i64 0, .bool false, .bool false] 72)).drew.frozen? ⟨w1.heap.size, 1, none⟩ = false := (hbd.frozen (p := ⟨w1.heap.size, 1, none⟩) hl2).trans (by simp)
    have g2 : (w1.alloc (.cells #[.int .i64 0, .int .i64 0, .int .i64 0, .int .i64 0, .bool false, .bool false] 72)).drew.frozen? ⟨w1.heap.size, 2, none⟩ = false := (hbd.frozen (p := ⟨w1.heap.size, 2, none⟩) hl2).trans (by simp)
    have g3 : (w1.alloc (.cells #[.int .i64 0, .int .i64 0, .int .i64 0, .int .i64 0, .bool false, .bool false] 72)).drew.frozen? ⟨w1.heap.size, 3, none⟩ = false := (hbd.frozen (p := ⟨w1.heap.size, 3, none⟩) hl2).trans (by simp)
    have g4 : (w1.alloc (.cells #[.int .i64 0, .int .i64 0, .int .i64 0, .int .i64 0, .bool false, .bool false] 72)).drew.frozen? ⟨w1.heap.size, 4, none⟩ = false := (hbd.frozen (p := ⟨w1.heap.size, 4, none⟩) hl2).trans (by simp)
    have g5 : (w1.alloc (.cells #[.int .i64 0, .int .i64 0, .int .i64 0, .int .i64 0, .bool false, .bool false] 72)).drew.frozen? ⟨w1.heap.size, 5, none⟩ = false := (hbd.frozen (p := ⟨w1.heap.size, 5, none⟩) hl2).trans (by simp)
    have hl3 : w1.heap.size < (w1.alloc (.cells #[.int .i64 0, .int .i64 0, .int .i64 0, .int .i64 0, .bool false, .bool false] 72)).drew.heap.size := Nat.lt_of_lt_of_le hl2 hbd.size
    clear hb2 H2 hl2 hbd
    refine hK.out _ _ (HS.out _ hb3) ?_
    clear hK hS
    have hS := HS.out _ hb3
    try simp only [Act.put, List.setIfInBounds_toArray, List.set_cons_zero, List.set_cons_succ]
    generalize (w1.alloc (.cells #[.int .i64 0, .int .i64 0, .int .i64 0, .int .i64 0, .bool false, .bool false] 72)).drew = w3 at *
    refine held_one (i := 6) (by kernel_rfl) rfl rfl ?_
    intro K hK
    go_simp
    go_at_call 57
    refine (HF.out _ hb3).mono ?_
    rintro en w4 ⟨rfl, hg4⟩
    have hb34 := grown_below hg4
    have hb4 : Below w1.heap.size w1 w4 := below2 hb3 hb34
    have H6 : Hid (Six w4 w1.heap.size (.int .i64 0) (.int .i64 0) (.int .i64 0) (.int .i64 0) (.bool false) (.bool false)) := ⟨(hb34.cell (p := ⟨w1.heap.size, 0, none⟩) hl3).trans H3.out.1, (hb34.cell (p := ⟨w1.heap.size, 1, none⟩) hl3).trans H3.out.2.1, (hb34.cell (p := ⟨w1.heap.size, 2, none⟩) hl3).trans H3.out.2.2.1, (hb34.cell (p := ⟨w1.heap.size, 3, none⟩) hl3).trans H3.out.2.2.2.1, (hb34.cell (p := ⟨w1.heap.size, 4, none⟩) hl3).trans H3.out.2.2.2.2.1, (hb34.cell (p := ⟨w1.heap.size, 5, none⟩) hl3).trans H3.out.2.2.2.2.2⟩
    have f0 : w4.frozen? ⟨w1.heap.size, 0, none⟩ = false := (hb34.frozen (p := ⟨w1.heap.size, 0, none⟩) hl3).trans g0
    have f1 : w4.frozen? ⟨w1.heap.size, 1, none⟩ = false := (hb34.frozen (p := ⟨w1.heap.size, 1, none⟩) hl3).trans g1
    have f2 : w4.frozen? ⟨w1.heap.size, 2, none⟩ = false := (hb34.frozen (p := ⟨w1.heap.size, 2, none⟩) hl3).trans g2
    have f3 : w4.frozen? ⟨w1.heap.size, 3, none⟩ = false := (hb34.frozen (p := ⟨w1.heap.size, 3, none⟩) hl3).trans g3
    have f4 : w4.frozen? ⟨w1.heap.size, 4, none⟩ = false := (hb34.frozen (p := ⟨w1.heap.size, 4, none⟩) hl3).trans g4
    have f5 : w4.frozen? ⟨w1.heap.size, 5, none⟩ = false := (hb34.frozen (p := ⟨w1.heap.size, 5, none⟩) hl3).trans g5
    clear g0 g1 g2 g3 g4 g5
    have hj : w1.heap.size ≤ w1.heap.size := Nat.le_refl _
    refine hK.out _ _ (HS.out w4 hb4) ?_
    clear hK hS hg4 H3 hl3
    have hS := HS.out w4 hb4
    refine held_take (i := 7) (v := .tuple #[.agg #[.int .i64 c1, .int .i64 c2, .int .i64 c3, .int .i64 c4, .bool c5, .bool c6], .bool ok]) rfl (by kernel_rfl) (fun _ _ _ h => h) (.inl ⟨rfl, fun w hS => ?_⟩) hS ?_
    · obtain ⟨s0, s1⟩ := hS
      go_simp
    simp only [Act.put, List.setIfInBounds_toArray, List.set_cons_zero, List.set_cons_succ]
    refine held_take (i := 8) (v := .agg #[.int .i64 c1, .int .i64 c2, .int .i64 c3, .int .i64 c4, .bool c5, .bool c6]) rfl (by kernel_rfl) (fun _ _ _ h => h) (.inl ⟨rfl, fun w hS => ?_⟩) hS ?_
    · obtain ⟨s0, s1⟩ := hS
      go_simp
    simp only [Act.put, List.setIfInBounds_toArray, List.set_cons_zero, List.set_cons_succ]
    refine held_take (i := 9) (v := .bool ok) rfl (by kernel_rfl) (fun _ _ _ h => h) (.inl ⟨rfl, fun w hS => ?_⟩) hS ?_
    · obtain ⟨s0, s1⟩ := hS
      go_simp
    simp only [Act.put, List.setIfInBounds_toArray, List.set_cons_zero, List.set_cons_succ]
    refine held_one (i := 11) (by kernel_rfl) rfl rfl ?_
    intro K hK
    obtain ⟨z0, z1, z2, z3, z4, z5⟩ := H6.out
    go_simp
    have hb5 : Below w1.heap.size w1 (set6 w4 w1.heap.size (.int .i64 c1) (.int .i64 c2) (.int .i64 c3) (.int .i64 c4) (.bool c5) (.bool c6)) := set6_below hb4 hj (.int .i64 c1) (.int .i64 c2) (.int .i64 c3) (.int .i64 c4) (.bool c5) (.bool c6)
    have h65 := (H6.out.set (.int .i64 c1) (.int .i64 c2) (.int .i64 c3) (.int .i64 c4) (.bool c5) (.bool c6)).2.2.2.2.1
    have hs5 : w1.heap.size < (set6 w4 w1.heap.size (.int .i64 c1) (.int .i64 c2) (.int .i64 c3) (.int .i64 c4) (.bool c5) (.bool c6)).heap.size := World.block_lt_of_cell? _ ⟨w1.heap.size, 4, none⟩ h65
    refine hK.out _ (set6 w4 w1.heap.size (.int .i64 c1) (.int .i64 c2) (.int .i64 c3) (.int .i64 c4) (.bool c5) (.bool c6)) (HS.out _ hb5) ?_
    clear hK hS z0 z1 z2 z3 z4 z5
    have hS := HS.out _ hb5
    try simp only [Act.put, List.setIfInBounds_toArray, List.set_cons_zero, List.set_cons_succ]
    refine held_take (i := 12) (v := .bool ok) rfl (by kernel_rfl) (fun _ _ _ h => h) (.inl ⟨rfl, fun w hS => ?_⟩) hS ?_
    · obtain ⟨s0, s1⟩ := hS
      go_simp
    simp only [Act.put, List.setIfInBounds_toArray, List.set_cons_zero, List.set_cons_succ]
    refine wpAnyH_done (by kernel_rfl) ?_ _
    refine NoPanic.normal ?_
    exact hQ.out _ _ _ _ _ _ _ _ _ _ _ w1.heap.size _ hj hs5 hb5 h65
end Go.Proofs.YtcncbjknfcjnmaaGreat.Tp
namespace Go.Proofs.YtcncbjknfcjnmaaGreat.Tp
open Go.ChangeShapes Go.WideShapes Go.ChangeAt Go.RowKit
theorem rawQ_len (m : Mp) (g : Int) : ((rawQ m g).length : Int) ≤ 3 := by
  by_cases h : MayM m ∧ 0 ≤ g ∧ g < m.gr
  · rw [rawQ_yes h]
    exact Int.le_trans (raw_len h.1.stand g) h.1.cnt.1.2
  · rw [rawQ_no h]
    exact (by decide : ((0 : Nat) : Int) ≤ 3)
/-- who acts, of whatever map -/
noncomputable def actQ (m : Mp) (g : Int) : List Int := (rawQ m g).filter (upB m.nds)
theorem actQ_yes {m : Mp} {g : Int} (h : MayM m ∧ 0 ≤ g ∧ g < m.gr) : actQ m g = actP m g := by unfold actQ actP; rw [rawQ_yes h]
theorem actQ_no {m : Mp} {g : Int} (h : ¬ (MayM m ∧ 0 ≤ g ∧ g < m.gr)) : actQ m g = [] := by unfold actQ; rw [rawQ_no h]; rfl
theorem up_find (ls : List Nd) (id : Int) : upB ls id = ((findN ls id).getD nd0).up := by
  unfold upB
  cases findN ls id with
  | some x => rfl
  | none => rfl
theorem filt_take (f : Int → Bool) (l : List Int) {k : Nat} (h : k < l.length) : (l.take (k + 1)).filter f = (l.take k).filter f ++ (if f (l.getD k 0) = true then [l.getD k 0] else []) := by
  rw [List.take_succ_eq_append_getElem h, List.filter_append]
  rw [show l.getD k 0 = l[k] by simp [h]]
  congr 1
  by_cases hs : f l[k] = true
  · rw [if_pos hs, List.filter_cons_of_pos hs]
    rfl
  · rw [if_neg hs, List.filter_cons_of_neg hs]
    rfl
set_option maxHeartbeats 4000000 in
set_option maxRecDepth 60000 in
theorem refActing_any {m : Mp} {s : MV} (g : Int) (w : World) (h : MapAt w m s) : Calls Tryz.prog 26 #[.agg (mapCells m s).toArray, .int .i64 g] w fun e w' => RowPost (actQ m g) w e w' := by
  obtain ⟨i0, hi, hz0, hz1, hz2⟩ := info_parts info3
  have hb1 := below_alloc w (.cells (mapCells m s).toArray 26)
  have HRW : Hid (Calls Tryz.prog 24 #[.agg (mapCells m s).toArray, .int .i64 g] (w.alloc (.cells (mapCells m s).toArray 26)) fun e w' => RowPost (rawQ m g) (w.alloc (.cells (mapCells m s).toArray 26)) e w') := refRaw_any g _ (h.below hb1)
  have HFD : Hid (∀ W id, Below w.heap.size w W → Calls Tryz.prog 57 #[.slice s.aN s.lN s.cN, .int .i64 id] W fun e w' => e = .returned (.tuple #[.agg (ndCells ((findN m.nds id).getD nd0)).toArray, .bool (findN m.nds id).isSome]) ∧ Grown W w') := fun W id hb => refFind_g _ _ _ m.nds id W (h.nds.below hb)
  have HUP : Hid (∀ id, upB m.nds id = ((findN m.nds id).getD nd0).up) := fun id => up_find m.nds id
  have HEN : Hid (((rawQ m g).take (rawQ m g).length).filter (upB m.nds) = actQ m g) := by unfold Hid actQ; rw [List.take_length]
  have HTK : Hid (∀ k, k < (rawQ m g).length → ((rawQ m g).take (k + 1)).filter (upB m.nds) = ((rawQ m g).take k).filter (upB m.nds) ++ (if upB m.nds ((rawQ m g).getD k 0) = true then [(rawQ m g).getD k 0] else [])) := fun k hk => filt_take (upB m.nds) (rawQ m g) hk
  have h3 := rawQ_len m g
  clear h
  rw [map_split] at *
  generalize actQ m g = aq at *
  generalize rawQ m g = rq at *
  generalize upB m.nds = up at *
  obtain ⟨ep, sz, mn, gr, nds, tms, trs⟩ := m
  obtain ⟨aN, lN, cN, aT, lT, cT, aR, lR, cR⟩ := s
  simp only [mapCells] at *
  have HBX : Hid (Box7 (w.alloc (.cells #[.int .i64 ep, .int .i64 sz, .int .i64 mn, .int .i64 gr, .slice aN lN cN, .slice aT lT cT, .slice aR lR cR] 26)) w.heap.size (.int .i64 ep) (.int .i64 sz) (.int .i64 mn) (.int .i64 gr) (.slice aN lN cN) (.slice aT lT cT) (.slice aR lR cR)) := Box7.new w _ _ _ _ _ _ _ _
  have hlw : w.heap.size < (w.alloc (.cells #[.int .i64 ep, .int .i64 sz, .int .i64 mn, .int .i64 gr, .slice aN lN cN, .slice aT lT cT, .slice aR lR cR] 26)).heap.size := by simp
  go_enter Tryz.func26, Tryz.ntmps26
  go_upto_region 2 with (go_at_call 24; refine HRW.out.mono ?_; rintro e w2 ⟨hb2, a2, c2', rfl, hR2⟩; have HR2 : Hid (RowL w2 a2 rq.length rq) := hR2; clear hR2)
  have hbw2 : Below w.heap.size w w2 := below2 hb1 hb2
  have hlw2 : w.heap.size < w2.heap.size := Nat.lt_of_lt_of_le hlw hb2.size
  have HC4 : Hid (w2.cell? ⟨w.heap.size, 4, none⟩ = some (.slice aN lN cN)) := by
    obtain ⟨⟨c0, c1, c2, c3, c4, c5, c6⟩, -⟩ := HBX.out.below hb2
    exact c4
  clear HRW HBX hb1 hb2 hlw
  have HLIT : Hid ((w2.alloc (.cells #[] 3)).ownsRow w2.heap.size 3 1 (.slice (some ⟨w2.heap.size, 0, none⟩) 0 0) ([] : List Int).length (intCells [])) := World.ownsRow_lit (base := w2.heap.size) (size := 1) (e := 3) w2 #[] 0 (Nat.le_refl _) (Nat.zero_le _) (by simp)
  have hb0 := below_alloc w2 (.cells #[] 3)
  go_wp2_with fail
  go_loopw [6, 7] (fun o i wr => ∃ (k : Nat) (out : List Int), k ≤ rq.length ∧ i = .int .i64 k ∧ Hid (out = (rq.take k).filter up) ∧ out.length ≤ k ∧ Hid (wr.ownsRow w2.heap.size 3 1 o out.length (intCells out)) ∧ Below w2.heap.size w2 wr) (fun _ i _ => rq.length - (intOf i).toNat)
  case atStart => exact ⟨0, [], Nat.zero_le _, rfl, rfl, Nat.le_refl _, HLIT, hb0⟩
  case round =>
    obtain ⟨k, out, hk, rfl, hT, hok, hown, hbel⟩ := hrel
    obtain ⟨ao, co, he, -⟩ := own_slice hown.out
    subst he
    by_cases hlt : k < rq.length
    · have hk1 : (k : Int) < (rq.length : Int) := by omega
      have hk0 : (0 : Int) ≤ (k : Int) := by omega
      obtain ⟨p, po, rfl, hp2, hcp⟩ := HR2.out.some (by omega)
      have hsz := hbel.size
      have hp : p < wr.heap.size := Nat.lt_of_lt_of_le hp2 hsz
      have x0 := (hbel.cell (p := ⟨w.heap.size, 4, none⟩) hlw2).trans HC4.out
      have x1 := (hbel.cell (p := ⟨p, po + k, none⟩) hp2).trans (hcp k hlt)
      have hX : w.heap.size < wr.heap.size := Nat.lt_of_lt_of_le hlw2 hsz
      have HST := HTK.out k hlt
      rw [← hT.out] at HST
      have HUK := HUP.out (rq.getD k 0)
      have HF0 : Hid (∀ W, Below wr.heap.size wr W → Calls Tryz.prog 57 #[.slice aN lN cN, .int .i64 (rq.getD k 0)] W fun e w' => e = .returned (.tuple #[.agg (ndCells ((findN nds (rq.getD k 0)).getD nd0)).toArray, .bool (findN nds (rq.getD k 0)).isSome]) ∧ Grown W w') := fun W hb => HFD.out W (rq.getD k 0) (below2 hbw2 (below2 hbel hb))
      clear hT hcp
      generalize (findN nds (rq.getD k 0)).isSome = ok at *
      generalize (findN nds (rq.getD k 0)).getD nd0 = x at *
      generalize rq.getD k 0 = id at *
      obtain ⟨c1, c2, c3, c4, c5, c6⟩ := x
      simp only [ndCells] at HUK HF0
      rw [HUK] at HST
      have HO : Hid (wr.ownsRow w2.heap.size 3 1 (.slice ao out.length co) out.length (intCells out)) := hown.out
      have HSTH : Hid ((rq.take (k + 1)).filter up = out ++ (if c5 = true then [id] else [])) := HST
      clear hown HST HUK
      go_wp2_with fail
      refine act_get _ _ _ _ _ _ _ _ _ _ _ _ _ _ _ _ _ _ _ _ _ _ _ _ _ _ _ _ _ _ _ _ _ _ _ _ _ w.heap.size p po rq.length c2' k lN cN aN id c1 c2 c3 c4 c5 c6 ok wr _ x0 x1 hX hp hk0 hk1 HF0 (fun u9 u20 u21 u22 u23 u24 u25 u26 u27 u28 u29 j wC hj1 hj2 hbC hz => ?_)
      have hb5 : Below w2.heap.size w2 wC := below2 hbel hbC
      have y1 := (hbC.cell (p := ⟨p, po + k, none⟩) hp).trans x1
      have HO5 : Hid (wC.ownsRow w2.heap.size 3 1 (.slice ao out.length co) out.length (intCells out)) := own_below HO.out hbC
      have hpC : p < wC.heap.size := Nat.lt_of_lt_of_le hp hbC.size
      clear HF0 HO x0 x1 hX
      dsimp only
      cases c5 with
      | true =>
        have HE : Hid (out ++ [id] = (rq.take (k + 1)).filter up) := HSTH.out.symm
        have hownB := own_alloc HO5.out (.cells #[.int .i64 id] 3)
        have hnews := cells_lit wC [.int .i64 id] 3
        have HBB : Hid (Below w2.heap.size w2 (wC.alloc (.cells #[.int .i64 id] 3))) := below2 hb5 (below_alloc _ _)
        have HSZ : Hid (w2.heap.size ≤ (wC.alloc (.cells #[.int .i64 id] 3)).heap.size) := HBB.out.size
        clear HSTH
        go_wp2_with (at_builtin; refine wpList_append_own _ rfl _ _ 35 rfl w2.heap.size 3 i0 (.int .i64 0) 1 8 Tryz.underlying35 hi hz0 hz1 hz2 rfl (by decide) _ _ _ rfl hownB ⟨wC.heap.size, 0, none⟩ 1 1 [.int .i64 id] rfl rfl hnews (by intro u hu; simp at hu; subst hu; rfl) (by unfold maxLen; omega) (by omega) HSZ.out ?_)
        intro v7 w7 hown7' hg7 _
        have HO7 : Hid (w7.ownsRow w2.heap.size 3 1 v7 (out ++ [id]).length (intCells (out ++ [id]))) := by
          rw [intCells_snoc, List.length_append]
          exact hown7'
        have hb7 : Below w2.heap.size w2 w7 := HBB.out.grown hg7 HSZ.out (fun k hk => (hownB.lt k hk).1)
        clear hown7' hg7 hownB hnews HO5 HSZ HBB
        go_wp2_with fail
        exact ⟨⟨k + 1, out ++ [id], by omega, by go_num, HE, by simp; omega, HO7, hb7⟩, by simp [intOf]; omega⟩
      | false =>
        have HE : Hid (out = (rq.take (k + 1)).filter up) := by
          have := HSTH.out
          rw [if_neg (by decide), List.append_nil] at this
          exact this.symm
        clear HSTH
        go_wp2_with fail
        exact ⟨⟨k + 1, out, by omega, by go_num, HE, by omega, HO5, hb5⟩, by simp [intOf]; omega⟩
    · obtain rfl : k = rq.length := by omega
      have HE : Hid (out = aq) := by unfold Hid; rw [hT.out, HEN.out]
      have HI : Hid (IntsAt wr ao out) := ints_own hown.out rfl
      have h64 : out.length ≤ 64 := by omega
      clear hown hT
      go_wp2_with fail
      go_ret
      rw [← HE.out]
      exact ⟨below2 hbw2 hbel, ao, co, rfl, HI.out.rowL h64⟩
end Go.Proofs.YtcncbjknfcjnmaaGreat.Tp
namespace Go.Proofs.YtcncbjknfcjnmaaGreat.Tp
open Go.ChangeShapes Go.WideShapes Go.ChangeAt Go.RowKit
theorem actQ_len (m : Mp) (g : Int) : ((actQ m g).length : Int) ≤ 3 := by
  have h1 := rawQ_len m g
  have h2 : (actQ m g).length ≤ (rawQ m g).length := List.length_filter_le _ _
  omega
theorem rawX_any {m : Mp} {s : MV} (g : Int) (w : World) (h : MapAt w m s) : Calls Tryz.prog 23 #[.agg (mapCells m s).toArray, .int .i64 g] w fun e w' => RowPost (rawQ m g) w e w' := by
  by_cases hg : MayM m ∧ 0 ≤ g ∧ g < m.gr
  · have h3 : ((rawQ m g).length : Int) ≤ 3 := rawQ_len m g
    rw [rawQ_yes hg] at h3 ⊢
    refine (rawX_may hg.1 hg.2 w h).mono fun e w' ⟨hb, a, cap, he, hI⟩ => ⟨hb, a, cap, he, hI.1.rowL (by omega)⟩
  · rw [rawQ_no hg]
    exact (rawX_no hg w h).mono fun e w' ⟨he, hb⟩ => ⟨hb, none, 0, he, row_none _⟩
theorem actX_any {m : Mp} {s : MV} (g : Int) (w : World) (h : MapAt w m s) : Calls Tryz.prog 25 #[.agg (mapCells m s).toArray, .int .i64 g] w fun e w' => RowPost (actQ m g) w e w' := by
  by_cases hg : MayM m ∧ 0 ≤ g ∧ g < m.gr
  · have h3 : ((actQ m g).length : Int) ≤ 3 := actQ_len m g
    rw [actQ_yes hg] at h3 ⊢
    refine (actX_may hg.1 hg.2 w h).mono fun e w' ⟨hb, a, cap, he, hI⟩ => ⟨hb, a, cap, he, hI.1.rowL (by omega)⟩
  · rw [actQ_no hg]
    exact (actX_no hg w h).mono fun e w' ⟨he, hb⟩ => ⟨hb, none, 0, he, row_none _⟩
set_option maxHeartbeats 4000000 in
set_option maxRecDepth 60000 in
theorem st_all (t0 t3 t4 t5 t6 t7 t8 t9 t10 t11 t12 t13 t14 t15 t16 t17 t18 t19 t20 t21 t22 t23 t24 t25 t26 t27 : Value) (Bx lN cN lT cT lR cR : Nat) (aN aT aR : Option Addr) (g ep sz mn gr : Int) (rq aq : List Int) (w1 : World) (Q : Exit → Act → World → Prop)
    (HS : Hid (∀ w', Below w1.heap.size w1 w' → (fun w' => Box7 w' Bx (.int .i64 ep) (.int .i64 sz) (.int .i64 mn) (.int .i64 gr) (.slice aN lN cN) (.slice aT lT cT) (.slice aR lR cR)) w'))
    (H1 : Hid (∀ W, Below w1.heap.size w1 W → Calls Tryz.prog 23 #[.agg #[.int .i64 ep, .int .i64 sz, .int .i64 mn, .int .i64 gr, .slice aN lN cN, .slice aT lT cT, .slice aR lR cR], .int .i64 g] W fun e w' => RowPost rq W e w')) (H2 : Hid (∀ W, Below w1.heap.size w1 W → Calls Tryz.prog 24 #[.agg #[.int .i64 ep, .int .i64 sz, .int .i64 mn, .int .i64 gr, .slice aN lN cN, .slice aT lT cT, .slice aR lR cR], .int .i64 g] W fun e w' => RowPost rq W e w')) (H3 : Hid (∀ W, Below w1.heap.size w1 W → Calls Tryz.prog 25 #[.agg #[.int .i64 ep, .int .i64 sz, .int .i64 mn, .int .i64 gr, .slice aN lN cN, .slice aT lT cT, .slice aR lR cR], .int .i64 g] W fun e w' => RowPost aq W e w')) (H4 : Hid (∀ W, Below w1.heap.size w1 W → Calls Tryz.prog 26 #[.agg #[.int .i64 ep, .int .i64 sz, .int .i64 mn, .int .i64 gr, .slice aN lN cN, .slice aT lT cT, .slice aR lR cR], .int .i64 g] W fun e w' => RowPost aq W e w'))
    (HAW : Hid (∀ W, Calls Tryz.prog 11 #[] W fun e w' => TruePost W e w'))
    (hQ : Hid (∀ (u9 u10 u11 u12 u13 u14 u15 u16 u17 u18 u19 u20 u21 u22 u23 u24 u25 u26 u27 : Value) (wC : World), Below w1.heap.size w1 wC → Q .normal ⟨#[t0, .int .i64 g, .pointer (some ⟨Bx, 0, none⟩), t3, .bool true, t5, t6, t7, t8, u9, u10, u11, u12, u13, u14, u15, u16, u17, u18, u19, u20, u21, u22, u23, u24, u25, u26, u27], []⟩ wC)) :
    Code.wp Tryz.prog ((Tryz.f5.body.bind (regionOf 3)).getD .skip) Q ⟨#[t0, .int .i64 g, .pointer (some ⟨Bx, 0, none⟩), t3, t4, t5, t6, t7, t8, t9, t10, t11, t12, t13, t14, t15, t16, t17, t18, t19, t20, t21, t22, t23, t24, t25, t26, t27], []⟩ w1 := by
  have hS := HS.out w1.drew (below_drew w1)
  conv => arg 2; whnf
  refine held_start (S := (fun w' => Box7 w' Bx (.int .i64 ep) (.int .i64 sz) (.int .i64 mn) (.int .i64 gr) (.slice aN lN cN) (.slice aT lT cT) (.slice aR lR cR))) mixed5 ?_
  refine held_take (i := 0) (v := .agg #[.int .i64 ep, .int .i64 sz, .int .i64 mn, .int .i64 gr, .slice aN lN cN, .slice aT lT cT, .slice aR lR cR]) rfl (by kernel_rfl) (fun _ _ _ h => h) (.inl ⟨rfl, fun w hS => ?_⟩) hS ?_
  · obtain ⟨⟨s0, s1, s2, s3, s4, s5, s6⟩, -⟩ := hS
    go_simp
  simp only [Act.put, List.setIfInBounds_toArray, List.set_cons_zero, List.set_cons_succ]
  refine held_take (i := 1) (v := .int .i64 g) rfl (by kernel_rfl) (fun _ _ _ h => h) (.inl ⟨rfl, fun w hS => ?_⟩) hS ?_
  · obtain ⟨⟨s0, s1, s2, s3, s4, s5, s6⟩, -⟩ := hS
    go_simp
  simp only [Act.put, List.setIfInBounds_toArray, List.set_cons_zero, List.set_cons_succ]
  refine held_take (i := 3) (v := .agg #[.int .i64 ep, .int .i64 sz, .int .i64 mn, .int .i64 gr, .slice aN lN cN, .slice aT lT cT, .slice aR lR cR]) rfl (by kernel_rfl) (fun _ _ _ h => h) (.inl ⟨rfl, fun w hS => ?_⟩) hS ?_
  · obtain ⟨⟨s0, s1, s2, s3, s4, s5, s6⟩, -⟩ := hS
    go_simp
  simp only [Act.put, List.setIfInBounds_toArray, List.set_cons_zero, List.set_cons_succ]
  refine held_take (i := 4) (v := .int .i64 g) rfl (by kernel_rfl) (fun _ _ _ h => h) (.inl ⟨rfl, fun w hS => ?_⟩) hS ?_
  · obtain ⟨⟨s0, s1, s2, s3, s4, s5, s6⟩, -⟩ := hS
    go_simp
  simp only [Act.put, List.setIfInBounds_toArray, List.set_cons_zero, List.set_cons_succ]
  refine held_one (i := 2) (by kernel_rfl) rfl rfl ?_
  intro K hK
  go_simp
  go_at_call 23
  refine (H1.out _ (below_drew w1)).mono ?_
  rintro en v1 ⟨hv1, a1, c1, rfl, hr1⟩
  have hb1 : Below w1.heap.size w1 v1 := below2 (below_drew w1) hv1
  have HR1 : Hid (RowL v1 a1 rq.length rq) := hr1
  refine hK.out _ _ (HS.out v1 hb1) ?_
  clear hK hS hr1
  have hS := HS.out v1 hb1
  refine held_one (i := 5) (by kernel_rfl) rfl rfl ?_
  intro K hK
  go_simp
  go_at_call 24
  refine (H2.out _ hb1).mono ?_
  rintro en v2 ⟨hv2, a2, c2, rfl, hr2⟩
  have hb2 : Below w1.heap.size w1 v2 := below2 hb1 hv2
  have HR2 : Hid (RowL v2 a2 rq.length rq) := hr2
  refine hK.out _ _ (HS.out v2 hb2) ?_
  clear hK hS hr2
  have hS := HS.out v2 hb2
  refine held_one (i := 6) (by kernel_rfl) rfl rfl ?_
  intro K hK
  go_simp
  go_at_call 22
  refine (refIntsL a1 a2 rq.length c1 rq.length c2 rq rq v2 (HR1.out.below hv2) HR2.out).mono ?_
  rintro en v3 ⟨rfl, hg3⟩
  have hv3 := grown_below hg3
  have hb3 : Below w1.heap.size w1 v3 := below2 hb2 hv3
  rw [show decide (rq = rq) = true from decide_eq_true rfl]
  refine hK.out _ _ (HS.out v3 hb3) ?_
  clear hK hS hg3 HR1 HR2
  have hS := HS.out v3 hb3
  refine held_take (i := 7) (v := .bool true) rfl (by kernel_rfl) (fun _ _ _ h => h) (.inl ⟨rfl, fun w hS => ?_⟩) hS ?_
  · obtain ⟨⟨s0, s1, s2, s3, s4, s5, s6⟩, -⟩ := hS
    go_simp
  simp only [Act.put, List.setIfInBounds_toArray, List.set_cons_zero, List.set_cons_succ]
  refine held_take (i := 8) (v := .agg #[.int .i64 ep, .int .i64 sz, .int .i64 mn, .int .i64 gr, .slice aN lN cN, .slice aT lT cT, .slice aR lR cR]) rfl (by kernel_rfl) (fun _ _ _ h => h) (.inl ⟨rfl, fun w hS => ?_⟩) hS ?_
  · obtain ⟨⟨s0, s1, s2, s3, s4, s5, s6⟩, -⟩ := hS
    go_simp
  simp only [Act.put, List.setIfInBounds_toArray, List.set_cons_zero, List.set_cons_succ]
  refine held_take (i := 9) (v := .int .i64 g) rfl (by kernel_rfl) (fun _ _ _ h => h) (.inl ⟨rfl, fun w hS => ?_⟩) hS ?_
  · obtain ⟨⟨s0, s1, s2, s3, s4, s5, s6⟩, -⟩ := hS
    go_simp
  simp only [Act.put, List.setIfInBounds_toArray, List.set_cons_zero, List.set_cons_succ]
  refine held_take (i := 11) (v := .agg #[.int .i64 ep, .int .i64 sz, .int .i64 mn, .int .i64 gr, .slice aN lN cN, .slice aT lT cT, .slice aR lR cR]) rfl (by kernel_rfl) (fun _ _ _ h => h) (.inl ⟨rfl, fun w hS => ?_⟩) hS ?_
  · obtain ⟨⟨s0, s1, s2, s3, s4, s5, s6⟩, -⟩ := hS
    go_simp
  simp only [Act.put, List.setIfInBounds_toArray, List.set_cons_zero, List.set_cons_succ]
  refine held_take (i := 12) (v := .int .i64 g) rfl (by kernel_rfl) (fun _ _ _ h => h) (.inl ⟨rfl, fun w hS => ?_⟩) hS ?_
  · obtain ⟨⟨s0, s1, s2, s3, s4, s5, s6⟩, -⟩ := hS
    go_simp
  simp only [Act.put, List.setIfInBounds_toArray, List.set_cons_zero, List.set_cons_succ]
  refine held_one (i := 10) (by kernel_rfl) rfl rfl ?_
  intro K hK
  go_simp
  go_at_call 25
  refine (H3.out _ hb3).mono ?_
  rintro en v4 ⟨hv4, a4, c4, rfl, hr4⟩
  have hb4 : Below w1.heap.size w1 v4 := below2 hb3 hv4
  have HR4 : Hid (RowL v4 a4 aq.length aq) := hr4
  refine hK.out _ _ (HS.out v4 hb4) ?_
  clear hK hS hr4
  have hS := HS.out v4 hb4
  refine held_one (i := 13) (by kernel_rfl) rfl rfl ?_
  intro K hK
  go_simp
  go_at_call 26
  refine (H4.out _ hb4).mono ?_
  rintro en v5 ⟨hv5, a5, c5, rfl, hr5⟩
  have hb5 : Below w1.heap.size w1 v5 := below2 hb4 hv5
  have HR5 : Hid (RowL v5 a5 aq.length aq) := hr5
  refine hK.out _ _ (HS.out v5 hb5) ?_
  clear hK hS hr5
  have hS := HS.out v5 hb5
  refine held_one (i := 14) (by kernel_rfl) rfl rfl ?_
  intro K hK
  go_simp
  go_at_call 22
  refine (refIntsL a4 a5 aq.length c4 aq.length c5 aq aq v5 (HR4.out.below hv5) HR5.out).mono ?_
  rintro en v6 ⟨rfl, hg6⟩
  have hv6 := grown_below hg6
  have hb6 : Below w1.heap.size w1 v6 := below2 hb5 hv6
  rw [show decide (aq = aq) = true from decide_eq_true rfl]
  refine hK.out _ _ (HS.out v6 hb6) ?_
  clear hK hS hg6 HR4 HR5
  have hS := HS.out v6 hb6
  refine held_take (i := 15) (v := .bool true) rfl (by kernel_rfl) (fun _ _ _ h => h) (.inl ⟨rfl, fun w hS => ?_⟩) hS ?_
  · obtain ⟨⟨s0, s1, s2, s3, s4, s5, s6⟩, -⟩ := hS
    go_simp
  simp only [Act.put, List.setIfInBounds_toArray, List.set_cons_zero, List.set_cons_succ]
  refine held_take (i := 16) (v := .bool true) rfl (by kernel_rfl) (fun _ _ _ h => h) (.inl ⟨rfl, fun w hS => ?_⟩) hS ?_
  · obtain ⟨⟨s0, s1, s2, s3, s4, s5, s6⟩, -⟩ := hS
    go_simp
  simp only [Act.put, List.setIfInBounds_toArray, List.set_cons_zero, List.set_cons_succ]
  refine held_one (i := 17) (by kernel_rfl) rfl rfl ?_
  intro K hK
  go_simp
  go_at_call 11
  refine (HAW.out _).mono ?_
  rintro en v7 ⟨rfl, hv7⟩
  have hb7 : Below w1.heap.size w1 v7 := below2 hb6 hv7
  refine hK.out _ _ (HS.out v7 hb7) ?_
  clear hK hS
  have hS := HS.out v7 hb7
  refine held_take (i := 18) (v := .bool true) rfl (by kernel_rfl) (fun _ _ _ h => h) (.inl ⟨rfl, fun w hS => ?_⟩) hS ?_
  · obtain ⟨⟨s0, s1, s2, s3, s4, s5, s6⟩, -⟩ := hS
    go_simp
  simp only [Act.put, List.setIfInBounds_toArray, List.set_cons_zero, List.set_cons_succ]
  refine held_take (i := 19) (v := .bool true) rfl (by kernel_rfl) (fun _ _ _ h => h) (.inl ⟨rfl, fun w hS => ?_⟩) hS ?_
  · obtain ⟨⟨s0, s1, s2, s3, s4, s5, s6⟩, -⟩ := hS
    go_simp
  simp only [Act.put, List.setIfInBounds_toArray, List.set_cons_zero, List.set_cons_succ]
  refine wpAnyH_done (by kernel_rfl) ?_ _
  refine NoPanic.normal ?_
  exact hQ.out _ _ _ _ _ _ _ _ _ _ _ _ _ _ _ _ _ _ _ v7 hb7
set_option maxHeartbeats 4000000 in
set_option maxRecDepth 60000 in
theorem mapsStands_any (m : Mp) (s : MV) (g : Int) (w : World) (h : MapAt w m s) : Calls Tryz.prog 5 #[.agg (mapCells m s).toArray, .int .i64 g] w fun e w' => e = .returned (.bool true) ∧ Below w.heap.size w w' := by
  have hb1 := below_alloc w (.cells (mapCells m s).toArray 26)
  have HL : Hid (Calls Tryz.prog 14 #[.agg (mapCells m s).toArray] (w.alloc (.cells (mapCells m s).toArray 26)) fun e w' => AnyBool (w.alloc (.cells (mapCells m s).toArray 26)) e w') := light_any _ (h.below hb1)
  have H1 : Hid (∀ W, Below w.heap.size w W → Calls Tryz.prog 23 #[.agg (mapCells m s).toArray, .int .i64 g] W fun e w' => RowPost (rawQ m g) W e w') := fun W hb => rawX_any g W (h.below hb)
  have H2 : Hid (∀ W, Below w.heap.size w W → Calls Tryz.prog 24 #[.agg (mapCells m s).toArray, .int .i64 g] W fun e w' => RowPost (rawQ m g) W e w') := fun W hb => refRaw_any g W (h.below hb)
  have H3 : Hid (∀ W, Below w.heap.size w W → Calls Tryz.prog 25 #[.agg (mapCells m s).toArray, .int .i64 g] W fun e w' => RowPost (actQ m g) W e w') := fun W hb => actX_any g W (h.below hb)
  have H4 : Hid (∀ W, Below w.heap.size w W → Calls Tryz.prog 26 #[.agg (mapCells m s).toArray, .int .i64 g] W fun e w' => RowPost (actQ m g) W e w') := fun W hb => refActing_any g W (h.below hb)
  have HAW : Hid (∀ W, Calls Tryz.prog 11 #[] W fun e w' => TruePost W e w') := awake_any
  clear h
  rw [map_split] at *
  generalize rawQ m g = rq at *
  generalize actQ m g = aq at *
  obtain ⟨ep, sz, mn, gr, nds, tms, trs⟩ := m
  obtain ⟨aN, lN, cN, aT, lT, cT, aR, lR, cR⟩ := s
  simp only [mapCells] at *
  have HBX : Hid (Box7 (w.alloc (.cells #[.int .i64 ep, .int .i64 sz, .int .i64 mn, .int .i64 gr, .slice aN lN cN, .slice aT lT cT, .slice aR lR cR] 26)) w.heap.size (.int .i64 ep) (.int .i64 sz) (.int .i64 mn) (.int .i64 gr) (.slice aN lN cN) (.slice aT lT cT) (.slice aR lR cR)) := Box7.new w _ _ _ _ _ _ _ _
  go_enter Tryz.func5, Tryz.ntmps5
  go_wp2_with fail
  refine HL.out.mono ?_
  rintro e w2 ⟨q, rfl, hb2⟩
  clear HL
  have hbw2 := below2 hb1 hb2
  cases q with
  | false =>
    clear H1 H2 H3 H4 HBX
    go_wp2_with (go_at_call 11; refine (HAW.out _).mono ?_; rintro e w3 ⟨rfl, hb3⟩)
    go_ret
    exact ⟨rfl, below2 hbw2 hb3⟩
  | true =>
    have HS : Hid (∀ w', Below w2.heap.size w2 w' → (fun w' => Box7 w' w.heap.size (.int .i64 ep) (.int .i64 sz) (.int .i64 mn) (.int .i64 gr) (.slice aN lN cN) (.slice aT lT cT) (.slice aR lR cR)) w') := fun w' hb => HBX.out.below (below2 hb2 hb)
    clear HBX
    go_wp2_with fail
    refine st_all _ _ _ _ _ _ _ _ _ _ _ _ _ _ _ _ _ _ _ _ _ _ _ _ _ _ w.heap.size lN cN lT cT lR cR aN aT aR g ep sz mn gr rq aq w2 _ HS (fun W hb => H1.out W (below2 hbw2 hb)) (fun W hb => H2.out W (below2 hbw2 hb)) (fun W hb => H3.out W (below2 hbw2 hb)) (fun W hb => H4.out W (below2 hbw2 hb)) HAW (fun u9 u10 u11 u12 u13 u14 u15 u16 u17 u18 u19 u20 u21 u22 u23 u24 u25 u26 u27 wC hbC => ?_)
    go_wp2_with fail
    go_ret
    exact ⟨rfl, below2 hbw2 hbC⟩
end Go.Proofs.YtcncbjknfcjnmaaGreat.Tp
