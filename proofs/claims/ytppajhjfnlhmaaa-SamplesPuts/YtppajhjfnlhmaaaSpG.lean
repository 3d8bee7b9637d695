/-
  The contracts of the answer's Get, Trim, Range, with and Put.
-/
import Derived.Test.YtppajhjfnlhmaaaSpF
namespace Go.Proofs.Ytppajhjfnlhmaaa.Bk
open Go.ChangeShapes Go.WideShapes Go.ChangeAt Go.RowKit
set_option maxHeartbeats 1000000 in
set_option maxRecDepth 60000 in
theorem refGet_any (a : Option Addr) (len cap : Nat) (ls : List Sm) (t : Int) (w : World) (h : SmsAt w a len cap ls) :
    Calls Try.prog 15 #[.slice a len cap, .int .i64 t] w fun e w' => FindPost (findP ls t) w e w' := by
  have hl : ls.length = len := h.1
  have hm : len ≤ maxLen := Nat.le_trans h.2.1 h.2.2.1
  unfold maxLen at hm
  have HL : Hid (SmsAt w a len cap ls) := h
  have HX := Hid.mk9 (SmBox.new w 0 0)
  have HB0 := Hid.mk9 (below_alloc w (.cells #[.int .i64 0, .int .i64 0] 24))
  clear h
  go_enter Try.func15, Try.ntmps15
  go_wp2_with fail
  go_loopw [6] (fun i wr => ∃ k : Nat, k ≤ len ∧ i = .int .i64 k ∧ Hid (∀ j, j < k → ¬ (ls.getD j sm0).1 = t) ∧ Hid (SmBox wr w.heap.size 0 0) ∧ Hid (Below w.heap.size w wr)) (fun i _ => len - (intOf i).toNat)
  case atStart => exact ⟨0, Nat.zero_le _, rfl, (fun j hj => absurd hj (Nat.not_lt_zero _)), HX, HB0⟩
  case round =>
    clear HX HB0
    obtain ⟨k, hk, rfl, hT, HX1, HB⟩ := hrel
    have c0 := HX1.out.c0
    have c1 := HX1.out.c1
    have c2 := HX1.out.f0
    have c3 := HX1.out.f1
    by_cases hlt : k < len
    · obtain ⟨b, off, rfl, hbs, hcell⟩ := (HL.out.below HB.out).some (by omega)
      obtain ⟨e0, e1⟩ := hcell k hlt
      clear hcell
      have hk1 : (k : Int) < (len : Int) := by omega
      have hk0 : (0 : Int) ≤ (k : Int) := by omega
      have HN : Hid (¬ (ls.getD k sm0).1 = t → ∀ j, j < k + 1 → ¬ (ls.getD j sm0).1 = t) := fun h j hj => by
        rcases Nat.lt_succ_iff_lt_or_eq.1 hj with h' | rfl
        · exact hT.out j h'
        · exact h
      have HY : Hid ((ls.getD k sm0).1 = t → findP ls t = some (ls.getD k sm0)) := fun e => find_first hT.out (by omega) e
      generalize ls.getD k sm0 = x at *
      obtain ⟨x1, x2⟩ := x
      clear hT
      by_cases hx : x1 = t
      · have HF := Hid.mk9 (HY.out hx)
        have HXs := Hid.mk9 (HX1.out.set x1 x2)
        have HBs := Hid.mk9 (set2_below HB.out (b := w.heap.size) (Nat.le_refl _) (.int .i64 x1) (.int .i64 x2))
        clear HY HN
        subst hx
        go_wp2_with fail
        refine bodyPost_ret (ret_find rfl _ _ w.heap.size x1 x2 (.bool true) rfl rfl HXs.out) rfl ?_
        exact findP_yes (x := (x1, x2)) HF.out HBs.out
      · have HN' := Hid.mk9 (HN.out hx)
        clear HY HN
        go_wp2_with fail
        exact ⟨⟨k + 1, by omega, by go_num, HN', HX1, HB⟩, by simp [intOf]; omega⟩
    · obtain rfl : k = len := by omega
      have HF : Hid (findP ls t = none) := find_never (by rw [hl]; exact hT.out)
      have HXs := Hid.mk9 (HX1.out.set 0 0)
      have HBs := Hid.mk9 (set2_below HB.out (b := w.heap.size) (Nat.le_refl _) (.int .i64 0) (.int .i64 0))
      clear hT
      go_wp2_with fail
      refine bodyPost_ret (ret_find rfl _ _ w.heap.size 0 0 (.bool false) rfl rfl HXs.out) rfl ?_
      exact findP_no HF.out HBs.out
/-- in the midst of the answer's Trim and Range -/
def PickIn (L : List Sm) (w : World) (v : Value) (wr : World) : Prop := Below w.heap.size w wr ∧ wr.ownsRow w.heap.size 24 2 v L.length (cellsS L)
theorem pick_start (w : World) : PickIn [] w (.slice (some ⟨w.heap.size, 0, none⟩) 0 0) (w.alloc (.cells #[] 24)) := by
  refine ⟨below_alloc _ _, ?_⟩
  have := World.ownsRow_lit (base := w.heap.size) (e := 24) (size := 2) w #[] 0 (by simp) (by unfold maxLen; omega) rfl
  simpa [cellsS] using this
theorem pick_row {L : List Sm} {w w' : World} {v : Value} (h : PickIn L w v w') : RowPost L w (.returned v) w' := by
  obtain ⟨a, c, rfl, hs⟩ := own_sms' h.2
  exact ⟨h.1, a, _, c, rfl, hs⟩
theorem pick_next {ls : List Sm} {p : Sm → Bool} {k : Nat} (h : k < ls.length) : (ls.take (k + 1)).filter p = (ls.take k).filter p ++ [ls.getD k sm0].filter p := by
  rw [take_next h, List.filter_append]
theorem pick_all {ls : List Sm} {p : Sm → Bool} {k : Nat} (h : ls.length = k) : (ls.take k).filter p = ls.filter p := by rw [List.take_of_length_le (by omega)]
set_option maxHeartbeats 1000000 in
set_option maxRecDepth 60000 in
theorem refTrim_any (a : Option Addr) (len cap : Nat) (ls : List Sm) (t : Int) (w : World) (h : SmsAt w a len cap ls) (hm : len ≤ 64) :
    Calls Try.prog 17 #[.slice a len cap, .int .i64 t] w fun e w' => RowPost (trimP ls t) w e w' := by
  have hl : ls.length = len := h.1
  have HL : Hid (SmsAt w a len cap ls) := h
  have H0 := Hid.mk9 (pick_start w)
  clear h
  go_enter Try.func17, Try.ntmps17
  go_wp2_with fail
  go_loopw [5, 6] (fun v i wr => ∃ k : Nat, k ≤ len ∧ i = .int .i64 k ∧ Hid (PickIn ((ls.take k).filter (fun x => decide (t ≤ x.1))) w v wr)) (fun _ i _ => len - (intOf i).toNat)
  case atStart => exact ⟨0, Nat.zero_le _, rfl, H0⟩
  case round =>
    clear H0
    obtain ⟨k, hk, rfl, HP⟩ := hrel
    by_cases hlt : k < len
    · obtain ⟨b, off, rfl, hbs, hcell⟩ := (HL.out.below HP.out.1).some (by omega)
      obtain ⟨e0, e1⟩ := hcell k hlt
      clear hcell
      have hk1 : (k : Int) < (len : Int) := by omega
      have hk0 : (0 : Int) ≤ (k : Int) := by omega
      have HN := Hid.mk9 (pick_next (p := (fun x => decide (t ≤ x.1))) (show k < ls.length by omega))
      have HS : Hid (((ls.take k).filter (fun x => decide (t ≤ x.1))).length ≤ 64) := Hid.mk9 (Nat.le_trans (List.length_filter_le _ _) (by simp; omega))
      generalize ls.getD k sm0 = x at *
      obtain ⟨x1, x2⟩ := x
      by_cases q1 : t ≤ x1
      · have HF : Hid ((ls.take (k + 1)).filter (fun x => decide (t ≤ x.1)) = (ls.take k).filter (fun x => decide (t ≤ x.1)) ++ [(x1, x2)]) := Hid.mk9 (HN.out.trans (by congr 1; simp; omega))
        clear HN
        generalize (ls.take k).filter (fun x => decide (t ≤ x.1)) = L at *
        generalize hL9 : (ls.take (k + 1)).filter (fun x => decide (t ≤ x.1)) = L2 at *
        have HL9 := Hid.mk9 hL9
        clear hL9
        go_wp2_with (at_builtin; refine append_sms (w0 := w) rfl _ _ rfl _ L.length L rfl (own_below HP.out.2 (below_alloc wr _)) (below2 HP.out.1 (below_alloc wr _)) _ 1 1 [(x1, x2)] rfl (sms_lit wr x1 x2) (by have := HS.out; omega) (by omega) ?_; intro v4 w4 ho4 hb4; have HP4 : Hid (PickIn L2 w v4 w4) := (by rw [HF.out]; exact ⟨hb4, (by rw [List.length_append]; exact ho4)⟩); clear ho4 hb4)
        exact ⟨⟨k + 1, by omega, by go_num, by rw [HL9.out]; exact HP4⟩, by simp [intOf]; omega⟩
      · have d1 : decide (t ≤ x1) = false := decide_eq_false q1
        have HF : Hid ((ls.take (k + 1)).filter (fun x => decide (t ≤ x.1)) = (ls.take k).filter (fun x => decide (t ≤ x.1))) := Hid.mk9 (HN.out.trans (by simp; omega))
        clear HN
        go_wp2_with fail
        exact ⟨⟨k + 1, by omega, by go_num, by rw [HF.out]; exact HP⟩, by simp [intOf]; omega⟩
    · obtain rfl : k = len := by omega
      have HR := Hid.mk9 (pick_row HP.out)
      rw [pick_all hl] at HR
      clear HP
      go_wp2_with fail
      go_ret
      exact HR.out
set_option maxHeartbeats 1000000 in
set_option maxRecDepth 60000 in
theorem refRange_any (a : Option Addr) (len cap : Nat) (ls : List Sm) (f t : Int) (w : World) (h : SmsAt w a len cap ls) (hm : len ≤ 64) :
    Calls Try.prog 16 #[.slice a len cap, .int .i64 f, .int .i64 t] w fun e w' => RowPost (rangeP ls f t) w e w' := by
  have hl : ls.length = len := h.1
  have HL : Hid (SmsAt w a len cap ls) := h
  have H0 := Hid.mk9 (pick_start w)
  clear h
  go_enter Try.func16, Try.ntmps16
  go_wp2_with fail
  go_loopw [7, 8] (fun v i wr => ∃ k : Nat, k ≤ len ∧ i = .int .i64 k ∧ Hid (PickIn ((ls.take k).filter (fun x => decide (f ≤ x.1) && decide (x.1 < t))) w v wr)) (fun _ i _ => len - (intOf i).toNat)
  case atStart => exact ⟨0, Nat.zero_le _, rfl, H0⟩
  case round =>
    clear H0
    obtain ⟨k, hk, rfl, HP⟩ := hrel
    by_cases hlt : k < len
    · obtain ⟨b, off, rfl, hbs, hcell⟩ := (HL.out.below HP.out.1).some (by omega)
      obtain ⟨e0, e1⟩ := hcell k hlt
      clear hcell
      have hk1 : (k : Int) < (len : Int) := by omega
      have hk0 : (0 : Int) ≤ (k : Int) := by omega
      have HN := Hid.mk9 (pick_next (p := (fun x => decide (f ≤ x.1) && decide (x.1 < t))) (show k < ls.length by omega))
      have HS : Hid (((ls.take k).filter (fun x => decide (f ≤ x.1) && decide (x.1 < t))).length ≤ 64) := Hid.mk9 (Nat.le_trans (List.length_filter_le _ _) (by simp; omega))
      generalize ls.getD k sm0 = x at *
      obtain ⟨x1, x2⟩ := x
      by_cases q1 : f ≤ x1
      · by_cases q2 : x1 < t
        · have HF : Hid ((ls.take (k + 1)).filter (fun x => decide (f ≤ x.1) && decide (x.1 < t)) = (ls.take k).filter (fun x => decide (f ≤ x.1) && decide (x.1 < t)) ++ [(x1, x2)]) := Hid.mk9 (HN.out.trans (by congr 1; simp; omega))
          clear HN
          generalize (ls.take k).filter (fun x => decide (f ≤ x.1) && decide (x.1 < t)) = L at *
          generalize hL9 : (ls.take (k + 1)).filter (fun x => decide (f ≤ x.1) && decide (x.1 < t)) = L2 at *
          have HL9 := Hid.mk9 hL9
          clear hL9
          go_wp2_with (at_builtin; refine append_sms (w0 := w) rfl _ _ rfl _ L.length L rfl (own_below HP.out.2 (below_alloc wr _)) (below2 HP.out.1 (below_alloc wr _)) _ 1 1 [(x1, x2)] rfl (sms_lit wr x1 x2) (by have := HS.out; omega) (by omega) ?_; intro v4 w4 ho4 hb4; have HP4 : Hid (PickIn L2 w v4 w4) := (by rw [HF.out]; exact ⟨hb4, (by rw [List.length_append]; exact ho4)⟩); clear ho4 hb4)
          exact ⟨⟨k + 1, by omega, by go_num, by rw [HL9.out]; exact HP4⟩, by simp [intOf]; omega⟩
        · have d1 : decide (x1 < t) = false := decide_eq_false q2
          have HF : Hid ((ls.take (k + 1)).filter (fun x => decide (f ≤ x.1) && decide (x.1 < t)) = (ls.take k).filter (fun x => decide (f ≤ x.1) && decide (x.1 < t))) := Hid.mk9 (HN.out.trans (by simp; omega))
          clear HN
          go_wp2_with fail
          exact ⟨⟨k + 1, by omega, by go_num, by rw [HF.out]; exact HP⟩, by simp [intOf]; omega⟩
      · have d1 : decide (f ≤ x1) = false := decide_eq_false q1
        have HF : Hid ((ls.take (k + 1)).filter (fun x => decide (f ≤ x.1) && decide (x.1 < t)) = (ls.take k).filter (fun x => decide (f ≤ x.1) && decide (x.1 < t))) := Hid.mk9 (HN.out.trans (by simp; omega))
        clear HN
        go_wp2_with fail
        exact ⟨⟨k + 1, by omega, by go_num, by rw [HF.out]; exact HP⟩, by simp [intOf]; omega⟩
    · obtain rfl : k = len := by omega
      have HR := Hid.mk9 (pick_row HP.out)
      rw [pick_all hl] at HR
      clear HP
      go_wp2_with fail
      go_ret
      exact HR.out
end Go.Proofs.Ytppajhjfnlhmaaa.Bk
