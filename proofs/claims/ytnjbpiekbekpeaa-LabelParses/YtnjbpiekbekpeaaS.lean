/-
  The contracts of both Sames and of slices.Equal: whether series are alike.
-/
import Derived.Test.YtnjbpiekbekpeaaM
import Derived.Laws.StructEq
namespace Go.Proofs.Ytnjbpiekbekpeaa
open Go.ChangeShapes Go.WideShapes Go.ChangeAt Go.RowKit
theorem neqLab (x y : Lab) (w : World) : (binOp .neq 46 (.agg #[.string x.1, .string x.2]) (.agg #[.string y.1, .string y.2])).run Try.prog w = .ok (.bool (!decide (x = y))) w := by
  have u9 := Try.underlying9
  have a9 := Try.isAgg9
  have z9 := Try.sizeOf9
  have hS : Try.prog.underlying 46 = some (.struct (Try.prog.fieldsOf 46)) := by kernel_rfl
  have hp : Try.prog.stoodInHeld 46 = false := by kernel_rfl
  rw [run_neq_struct, show (10000 : Nat) = 9999 + 1 from rfl, run_equalIn_agg w 9999 46 _ _ hS hp]
  simp only [Program.fieldsOf, Try.underlying46]
  obtain ⟨x1, x2⟩ := x
  obtain ⟨y1, y2⟩ := y
  have e1 := eqB x1 y1
  have e2 := eqB x2 y2
  by_cases h1 : x1 = y1 <;> by_cases h2 : x2 = y2
  all_goals
    simp only [h1, h2, decide_true, decide_false] at e1 e2
    go_simp
theorem guardLab (op : BinOp) (a b : Operand) (x y : Lab) (w : World) : (eqGuard op 46 a b (.agg #[.string x.1, .string x.2]) (.agg #[.string y.1, .string y.2])).run Try.prog w = .ok () w :=
  run_eqGuard_agg w op 46 a b _ _ (by kernel_rfl)
theorem take_ext {α : Type} (d : α) {l m : List α} {k : Nat} (h : l.take k = m.take k) (h1 : k < l.length) (h2 : k < m.length) (e : l.getD k d = m.getD k d) : l.take (k + 1) = m.take (k + 1) := by
  have e1 : l.getD k d = l[k] := by simp [h1]
  have e2 : m.getD k d = m[k] := by simp [h2]
  rw [e1, e2] at e
  rw [List.take_add_one, List.take_add_one, List.getElem?_eq_getElem h1, List.getElem?_eq_getElem h2, h, e]
set_option maxHeartbeats 8000000 in
set_option maxRecDepth 20000 in
theorem equal_any (a : Option Addr) (n1 c1 : Nat) (b : Option Addr) (n2 c2 : Nat) (ls ls' : List Lab) (w : World) (h1 : LabsAt w a n1 c1 ls) (h2 : LabsAt w b n2 c2 ls') :
    Calls Try.prog 37 #[.slice a n1 c1, .slice b n2 c2] w fun e w' => BoolPost (ls = ls') w e w' := by
  have hl : ls.length = n1 := h1.1
  have hm : ls'.length = n2 := h2.1
  have hx : n1 ≤ maxLen := Nat.le_trans h1.2.1 h1.2.2.1
  have hy : n2 ≤ maxLen := Nat.le_trans h2.2.1 h2.2.2.1
  unfold maxLen at hx hy
  have H1 : Hid (LabsAt w a n1 c1 ls) := h1
  have H2 : Hid (LabsAt w b n2 c2 ls') := h2
  clear h1 h2
  by_cases hn : n1 = n2
  · subst hn
    go_enter Try.func37, Try.ntmps37
    go_wp2
    go_loopw [13] (fun i wr => ∃ k : Nat, k ≤ n1 ∧ i = .int .i64 k ∧ Hid (ls.take k = ls'.take k) ∧ Below w.heap.size w wr) (fun i _ => n1 - (intOf i).toNat)
    case atStart => exact ⟨0, Nat.zero_le _, rfl, by show _ = _; simp, Below.refl _ _⟩
    case round =>
      obtain ⟨k, hk, rfl, hT, hbel⟩ := hrel
      by_cases hlt : k < n1
      · obtain ⟨p, off, rfl, hcell⟩ := (H1.out.below hbel).some (by omega)
        obtain ⟨p2, off2, rfl, hcell2⟩ := (H2.out.below hbel).some (by omega)
        obtain ⟨e0, e1⟩ := hcell k hlt
        obtain ⟨g0, g1⟩ := hcell2 k hlt
        clear hcell hcell2
        have hi0 : (0 : Int) ≤ (k : Int) := by omega
        have hi1 : (k : Int) < (n1 : Int) := by omega
        have HE : Hid (ls.getD k lab0 = ls'.getD k lab0 → ls.take (k + 1) = ls'.take (k + 1)) := fun e => take_ext lab0 hT.out (by omega) (by omega) e
        have HNE : Hid (ls = ls' → ls.getD k lab0 = ls'.getD k lab0) := fun e => by rw [e]
        have hneq := neqLab (ls.getD k lab0) (ls'.getD k lab0)
        have hgrd := fun op u v => guardLab op u v (ls.getD k lab0) (ls'.getD k lab0)
        generalize ls.getD k lab0 = d1 at *
        generalize ls'.getD k lab0 = d2 at *
        by_cases hd : d1 = d2
        · have HT : Hid (ls.take (k + 1) = ls'.take (k + 1)) := HE.out hd
          simp only [hd, decide_true, Bool.not_true] at hneq
          rw [hd] at e0 e1 hgrd
          clear HE HNE hT hd
          go_wp2_with fail
          go_quiet (fail)
          have hb : Below w.heap.size w (wr.drewN nq) := hbel.trans ((below_drewN _ _).mono hbel.size)
          go_wp2
          exact ⟨⟨k + 1, by omega, by go_num, HT, hb⟩, by simp [intOf]; omega⟩
        · have HN : Hid (¬ ls = ls') := fun e => hd (HNE.out e)
          simp only [hd, decide_false, Bool.not_false] at hneq
          clear HE HNE hT hd
          go_wp2_with fail
          go_quiet (fail)
          have hb : Below w.heap.size w (wr.drewN nq) := hbel.trans ((below_drewN _ _).mono hbel.size)
          go_wp2
          go_ret
          exact bool_no hb HN.out
      · go_wp2
        go_ret
        have e := hT.out
        rw [List.take_of_length_le (by omega), List.take_of_length_le (by omega)] at e
        exact bool_yes hbel e
  · have hne : ((n1 : Int) != (n2 : Int)) = true := by simp; omega
    go_enter Try.func37, Try.ntmps37
    go_wp2
    go_ret
    exact bool_no (Below.refl _ _) (fun e => by rw [e] at hl; omega)
set_option maxHeartbeats 8000000 in
set_option maxRecDepth 20000 in
theorem refSame_any (v v' : Value) (nm nm' : ByteArray) (ls ls' : List Lab) (w : World) (h : SerAt w v nm ls) (h' : SerAt w v' nm' ls') :
    Calls Try.prog 15 #[v, v'] w fun e w' => BoolPost (nm = nm' ∧ ls = ls') w e w' := by
  obtain ⟨a, n1, c1, rfl, h1, -, -⟩ := h
  obtain ⟨b, n2, c2, rfl, h2, -, -⟩ := h'
  have hl : ls.length = n1 := h1.1
  have hm : ls'.length = n2 := h2.1
  have hx : n1 ≤ maxLen := Nat.le_trans h1.2.1 h1.2.2.1
  have hy : n2 ≤ maxLen := Nat.le_trans h2.2.1 h2.2.2.1
  unfold maxLen at hx hy
  have H1 : Hid (LabsAt w a n1 c1 ls) := h1
  have H2 : Hid (LabsAt w b n2 c2 ls') := h2
  clear h1 h2
  have B0 : Below w.heap.size w ((w.alloc (.cells #[.string nm, .slice a n1 c1] 24)).alloc (.cells #[.string nm', .slice b n2 c2] 24)) := (below_alloc w _).alloc (by simp) _
  by_cases hnm : nm = nm'
  · have hq : (!nm.toList == nm'.toList) = false := by rw [eqB, hnm]; simp
    have HNM : Hid (nm = nm') := hnm
    clear hnm
    by_cases hn : n1 = n2
    · subst hn
      go_enter Try.func15, Try.ntmps15
      go_wp2
      go_loopw [5] (fun i wr => ∃ k : Nat, k ≤ n1 ∧ i = .int .i64 k ∧ Hid (ls.take k = ls'.take k) ∧ Below w.heap.size w wr ∧ wr.cell? ⟨w.heap.size, 1, none⟩ = some (.slice a n1 c1) ∧ wr.cell? ⟨w.heap.size + 1, 1, none⟩ = some (.slice b n1 c2)) (fun i _ => n1 - (intOf i).toNat)
      case atStart => exact ⟨0, Nat.zero_le _, rfl, by show _ = _; simp, B0, by simp, by simp⟩
      case round =>
        obtain ⟨k, hk, rfl, hT, hbel, x1, x2⟩ := hrel
        by_cases hlt : k < n1
        · obtain ⟨p, off, rfl, hcell⟩ := (H1.out.below hbel).some (by omega)
          obtain ⟨p2, off2, rfl, hcell2⟩ := (H2.out.below hbel).some (by omega)
          obtain ⟨e0, e1⟩ := hcell k hlt
          obtain ⟨g0, g1⟩ := hcell2 k hlt
          clear hcell hcell2
          have hi0 : (0 : Int) ≤ (k : Int) := by omega
          have hi1 : (k : Int) < (n1 : Int) := by omega
          have HE : Hid (ls.getD k lab0 = ls'.getD k lab0 → ls.take (k + 1) = ls'.take (k + 1)) := fun e => take_ext lab0 hT.out (by omega) (by omega) e
          have HNE : Hid (ls = ls' → ls.getD k lab0 = ls'.getD k lab0) := fun e => by rw [e]
          have hneq := neqLab (ls.getD k lab0) (ls'.getD k lab0)
          have hgrd := fun op u v => guardLab op u v (ls.getD k lab0) (ls'.getD k lab0)
          generalize ls.getD k lab0 = d1 at *
          generalize ls'.getD k lab0 = d2 at *
          by_cases hd : d1 = d2
          · have HT : Hid (ls.take (k + 1) = ls'.take (k + 1)) := HE.out hd
            simp only [hd, decide_true, Bool.not_true] at hneq
            rw [hd] at e0 e1 hgrd
            clear HE HNE hT hd
            go_wp2_with fail
            go_quiet (fail)
            have hb : Below w.heap.size w (wr.drewN nq) := hbel.trans ((below_drewN _ _).mono hbel.size)
            have y1 : (wr.drewN nq).cell? ⟨w.heap.size, 1, none⟩ = _ := x1
            have y2 : (wr.drewN nq).cell? ⟨w.heap.size + 1, 1, none⟩ = _ := x2
            go_wp2
            exact ⟨⟨k + 1, by omega, by go_num, HT, hb, y1, y2⟩, by simp [intOf]; omega⟩
          · have HN : Hid (¬ (nm = nm' ∧ ls = ls')) := fun e => hd (HNE.out e.2)
            simp only [hd, decide_false, Bool.not_false] at hneq
            clear HE HNE hT hd
            go_wp2_with fail
            go_quiet (fail)
            have hb : Below w.heap.size w (wr.drewN nq) := hbel.trans ((below_drewN _ _).mono hbel.size)
            go_wp2
            go_ret
            exact bool_no hb HN.out
        · go_wp2
          go_ret
          have e := hT.out
          rw [List.take_of_length_le (by omega), List.take_of_length_le (by omega)] at e
          exact bool_yes hbel ⟨HNM.out, e⟩
    · have hne : ((n1 : Int) != (n2 : Int)) = true := by simp; omega
      have HN : Hid (¬ (nm = nm' ∧ ls = ls')) := fun e => by rw [e.2] at hl; omega
      go_enter Try.func15, Try.ntmps15
      go_wp2
      go_ret
      exact bool_no B0 HN.out
  · have hq : (!nm.toList == nm'.toList) = true := by rw [eqB]; simp [hnm]
    have HN : Hid (¬ (nm = nm' ∧ ls = ls')) := fun e => hnm e.1
    clear hnm
    go_enter Try.func15, Try.ntmps15
    go_wp2
    go_ret
    exact bool_no B0 HN.out
set_option maxHeartbeats 8000000 in
set_option maxRecDepth 20000 in
theorem same_any (v v' : Value) (nm nm' : ByteArray) (ls ls' : List Lab) (w : World) (h : SerAt w v nm ls) (h' : SerAt w v' nm' ls') :
    Calls Try.prog 25 #[v, v'] w fun e w' => BoolPost (nm = nm' ∧ ls = ls') w e w' := by
  obtain ⟨a, n1, c1, rfl, h1, -, -⟩ := h
  obtain ⟨b, n2, c2, rfl, h2, -, -⟩ := h'
  have H1 : Hid (LabsAt w a n1 c1 ls) := h1
  have H2 : Hid (LabsAt w b n2 c2 ls') := h2
  clear h1 h2
  have B0 : Below w.heap.size w ((w.alloc (.cells #[.string nm, .slice a n1 c1] 24)).alloc (.cells #[.string nm', .slice b n2 c2] 24)) := (below_alloc w _).alloc (by simp) _
  by_cases hnm : nm = nm'
  · have hq : (nm.toList == nm'.toList) = true := by rw [eqB, hnm]; simp
    have HN : Hid (nm = nm') := hnm
    clear hnm
    go_enter Try.func25, Try.ntmps25
    go_wp2_with fail
    refine (equal_any _ _ _ _ _ _ ls ls' _ (H1.out.below B0) (H2.out.below B0)).mono ?_
    rintro e w3 ⟨hb3, q, rfl, hq3⟩
    have HB : Hid (Below w.heap.size w w3) := below2 B0 hb3
    have HQ : Hid (q = true ↔ ls = ls') := hq3
    clear hb3 hq3
    cases q with
    | true =>
      have HE : Hid (nm = nm' ∧ ls = ls') := ⟨HN.out, HQ.out.1 rfl⟩
      clear HQ HN
      go_wp2
      go_ret
      exact bool_yes HB.out HE.out
    | false =>
      have HE : Hid (¬ (nm = nm' ∧ ls = ls')) := fun h => by have := HQ.out.2 h.2; cases this
      clear HQ HN
      go_wp2
      go_ret
      exact bool_no HB.out HE.out
  · have hq : (nm.toList == nm'.toList) = false := by rw [eqB]; simp [hnm]
    have HN : Hid (¬ (nm = nm' ∧ ls = ls')) := fun e => hnm e.1
    clear hnm
    go_enter Try.func25, Try.ntmps25
    go_wp2
    go_ret
    exact bool_no B0 HN.out
end Go.Proofs.Ytnjbpiekbekpeaa
