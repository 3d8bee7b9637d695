/-
  The laws TotalOf, TotalFolds, TotalParts.
-/
import Derived.Test.YthdeemaanndggaaToF
namespace Go.Proofs.Ythdeemaanndggaa.Bk
open Go.ChangeShapes Go.WideShapes Go.ChangeAt Go.RowKit
set_option maxHeartbeats 1000000 in
set_option maxRecDepth 60000 in
theorem totalOf_any (kind : Int) (a : Option Addr) (len cap : Nat) (ls : List Sm) (w : World) (h : SmsAt w a len cap ls) :
    Calls Try.prog 3 #[.int .i64 kind, .slice a len cap] w fun e w' => TruePost w e w' := by
  have hm : len ≤ maxLen := Nat.le_trans h.2.1 h.2.2.1
  unfold maxLen at hm
  have HL := Hid.mk9 h
  have HB := Hid.mk9 (Below.refl w.heap.size w)
  clear h
  by_cases hbig : 200 < len
  · have hb' : (200 : Int) < (len : Int) := by omega
    go_enter Try.func3, Try.ntmps3
    go_wp2_with (go_at_call 6; refine (awake_t _).mono ?_; rintro e w1 ⟨rfl, hb1⟩)
    go_ret
    exact ⟨rfl, hb1⟩
  have hb' : (len : Int) ≤ 200 := by omega
  clear hbig
  obtain ⟨o, H1, H2⟩ : ∃ o, Hid (∀ W, Below w.heap.size w W → Calls Try.prog 7 #[.int .i64 kind, .slice a len cap] W fun e w' => TotPost o W e w') ∧ Hid (∀ W, Below w.heap.size w W → Calls Try.prog 8 #[.int .i64 kind, .slice a len cap] W fun e w' => TotPost o W e w') := by
    by_cases hM : MayS ls
    · by_cases hk : 1 ≤ kind ∧ kind ≤ 5
      · exact ⟨totP kind ls, fun W hb => of_yes kind a len cap ls W (HL.out.below hb) hM, fun W hb => refOf_yes kind a len cap ls W (HL.out.below hb) hM hk.1 hk.2⟩
      · have hn : totP kind ls = none := by
          unfold totP
          rw [if_neg (by omega), if_neg (by omega), if_neg (by omega), if_neg (by omega), if_neg (by omega)]
        refine ⟨none, fun W hb => ?_, fun W hb => refOf_bad kind a len cap ls W (HL.out.below hb) hM (by omega)⟩
        have := of_yes kind a len cap ls W (HL.out.below hb) hM
        rw [hn] at this
        exact this
    · exact ⟨none, fun W hb => of_no kind a len cap ls W (HL.out.below hb) hM, fun W hb => refOf_no kind a len cap ls W (HL.out.below hb) hM⟩
  unfold TotPost at H1 H2
  generalize o.getD 0 = n at *
  generalize o.isSome = q at *
  go_enter Try.func3, Try.ntmps3
  go_wp2_with (first
    | (go_at_call 7; refine (H1.out _ HB.out).mono ?_; rintro e w1 ⟨hb1, rfl⟩; replace HB := Hid.mk9 (below2 HB.out hb1); clear hb1)
    | (go_at_call 8; refine (H2.out _ HB.out).mono ?_; rintro e w2 ⟨hb1, rfl⟩; replace HB := Hid.mk9 (below2 HB.out hb1); clear hb1)
    | (go_at_call 6; refine (awake_t _).mono ?_; rintro e w3 ⟨rfl, hb1⟩; replace HB := Hid.mk9 (below2 HB.out hb1); clear hb1))
  go_ret
  exact ⟨rfl, HB.out⟩
theorem foldP_no {kind a b : Int} (h : foldB a = false ∨ foldB b = false) : foldP kind a b = none := by
  unfold foldP
  rcases h with h | h <;> simp [h]
def FoldArm (kind a b : Int) (o : Option Int) (w : World) : Prop := Calls Try.prog 9 #[.int .i64 kind, .int .i64 a, .int .i64 b] w fun e w' => e = .returned (.tuple #[.int .i64 (o.getD 0), .bool o.isSome]) ∧ Below w.heap.size w w'
theorem fold_arm {kind a b : Int} {o : Option Int} (h : foldP kind a b = o) (w : World) : FoldArm kind a b o w := by
  have := fold_any kind a b w
  rw [h] at this
  exact this.mono fun _ _ ⟨hb, he⟩ => ⟨he, hb⟩
set_option maxHeartbeats 2000000 in
set_option maxRecDepth 60000 in
theorem totalFolds_any (kind a b : Int) (w : World) : Calls Try.prog 4 #[.int .i64 kind, .int .i64 a, .int .i64 b] w fun e w' => TruePost w e w' := by
  by_cases h1 : 9007199254740992 < a
  · have HF := Hid.mk9 (fold_arm (foldP_no (kind := kind) (b := b) (.inl (foldB_no (.inr h1)))) w)
    go_enter Try.func4, Try.ntmps4
    go_wp2_with (first | (go_at_call 9; refine HF.out.mono ?_; rintro e w1 ⟨rfl, hb1⟩; have HB := Hid.mk9 hb1; clear hb1) | (go_at_call 6; refine (awake_t _).mono ?_; rintro e w3 ⟨rfl, hb1⟩; replace HB := Hid.mk9 (below2 HB.out hb1); clear hb1))
    go_ret
    exact ⟨rfl, HB.out⟩
  have d1 : decide (9007199254740992 < a) = false := decide_eq_false h1
  by_cases h2 : a < -9007199254740992
  · have HF := Hid.mk9 (fold_arm (foldP_no (kind := kind) (b := b) (.inl (foldB_no (.inl h2)))) w)
    clear h1
    go_enter Try.func4, Try.ntmps4
    go_wp2_with (first | (go_at_call 9; refine HF.out.mono ?_; rintro e w1 ⟨rfl, hb1⟩; have HB := Hid.mk9 hb1; clear hb1) | (go_at_call 6; refine (awake_t _).mono ?_; rintro e w3 ⟨rfl, hb1⟩; replace HB := Hid.mk9 (below2 HB.out hb1); clear hb1))
    go_ret
    exact ⟨rfl, HB.out⟩
  have d2 : decide (a < -9007199254740992) = false := decide_eq_false h2
  by_cases h3 : 9007199254740992 < b
  · have HF := Hid.mk9 (fold_arm (foldP_no (kind := kind) (a := a) (.inr (foldB_no (.inr h3)))) w)
    clear h1 h2
    go_enter Try.func4, Try.ntmps4
    go_wp2_with (first | (go_at_call 9; refine HF.out.mono ?_; rintro e w1 ⟨rfl, hb1⟩; have HB := Hid.mk9 hb1; clear hb1) | (go_at_call 6; refine (awake_t _).mono ?_; rintro e w3 ⟨rfl, hb1⟩; replace HB := Hid.mk9 (below2 HB.out hb1); clear hb1))
    go_ret
    exact ⟨rfl, HB.out⟩
  have d3 : decide (9007199254740992 < b) = false := decide_eq_false h3
  by_cases h4 : b < -9007199254740992
  · have HF := Hid.mk9 (fold_arm (foldP_no (kind := kind) (a := a) (.inr (foldB_no (.inl h4)))) w)
    clear h1 h2 h3
    go_enter Try.func4, Try.ntmps4
    go_wp2_with (first | (go_at_call 9; refine HF.out.mono ?_; rintro e w1 ⟨rfl, hb1⟩; have HB := Hid.mk9 hb1; clear hb1) | (go_at_call 6; refine (awake_t _).mono ?_; rintro e w3 ⟨rfl, hb1⟩; replace HB := Hid.mk9 (below2 HB.out hb1); clear hb1))
    go_ret
    exact ⟨rfl, HB.out⟩
  have d4 : decide (b < -9007199254740992) = false := decide_eq_false h4
  have ha : foldB a = true := foldB_yes (by omega) (by omega)
  have hb : foldB b = true := foldB_yes (by omega) (by omega)
  have HP := foldP_yes (kind := kind) ha hb
  have HW := Hid.mk9 (fold_w ha hb)
  clear h1 h2 h3 h4 ha hb
  by_cases h5 : kind < 1
  · rw [if_neg (by omega), if_neg (by omega), if_neg (by omega), if_neg (by omega)] at HP
    have HF := Hid.mk9 (fold_arm HP w)
    clear HP
    go_enter Try.func4, Try.ntmps4
    go_wp2_with (first | (go_at_call 9; refine HF.out.mono ?_; rintro e w1 ⟨rfl, hb1⟩; have HB := Hid.mk9 hb1; clear hb1) | (go_at_call 6; refine (awake_t _).mono ?_; rintro e w3 ⟨rfl, hb1⟩; replace HB := Hid.mk9 (below2 HB.out hb1); clear hb1))
    go_ret
    exact ⟨rfl, HB.out⟩
  have d5 : decide (kind < 1) = false := decide_eq_false h5
  by_cases h6 : 4 < kind
  · rw [if_neg (by omega), if_neg (by omega), if_neg (by omega), if_neg (by omega)] at HP
    have HF := Hid.mk9 (fold_arm HP w)
    clear HP h5
    go_enter Try.func4, Try.ntmps4
    go_wp2_with (first | (go_at_call 9; refine HF.out.mono ?_; rintro e w1 ⟨rfl, hb1⟩; have HB := Hid.mk9 hb1; clear hb1) | (go_at_call 6; refine (awake_t _).mono ?_; rintro e w3 ⟨rfl, hb1⟩; replace HB := Hid.mk9 (below2 HB.out hb1); clear hb1))
    go_ret
    exact ⟨rfl, HB.out⟩
  have d6 : decide (4 < kind) = false := decide_eq_false h6
  rcases (show kind = 1 ∨ kind = 4 ∨ kind = 2 ∨ kind = 3 from by omega) with rfl | rfl | rfl | rfl
  · have HF := Hid.mk9 (fold_arm (show foldP 1 a b = some (a + b) from HP) w)
    have hw := HW.out
    clear HP h5 h6 d5 d6
    go_enter Try.func4, Try.ntmps4
    go_wp2_with (first | (go_at_call 9; refine HF.out.mono ?_; rintro e w1 ⟨rfl, hb1⟩; have HB := Hid.mk9 hb1; clear hb1) | (go_at_call 6; refine (awake_t _).mono ?_; rintro e w3 ⟨rfl, hb1⟩; replace HB := Hid.mk9 (below2 HB.out hb1); clear hb1))
    go_ret
    exact ⟨rfl, HB.out⟩
  · have HF := Hid.mk9 (fold_arm (show foldP 4 a b = some (a + b) from HP) w)
    have hw := HW.out
    clear HP h5 h6 d5 d6
    go_enter Try.func4, Try.ntmps4
    go_wp2_with (first | (go_at_call 9; refine HF.out.mono ?_; rintro e w1 ⟨rfl, hb1⟩; have HB := Hid.mk9 hb1; clear hb1) | (go_at_call 6; refine (awake_t _).mono ?_; rintro e w3 ⟨rfl, hb1⟩; replace HB := Hid.mk9 (below2 HB.out hb1); clear hb1))
    go_ret
    exact ⟨rfl, HB.out⟩
  · by_cases hab : a < b
    · have HF := Hid.mk9 (fold_arm (show foldP 2 a b = some a from HP.trans (by show some (min a b) = _; rw [Int.min_def, if_pos (by omega)])) w)
      clear HP h5 h6 d5 d6
      go_enter Try.func4, Try.ntmps4
      go_wp2_with (first | (go_at_call 9; refine HF.out.mono ?_; rintro e w1 ⟨rfl, hb1⟩; have HB := Hid.mk9 hb1; clear hb1) | (go_at_call 6; refine (awake_t _).mono ?_; rintro e w3 ⟨rfl, hb1⟩; replace HB := Hid.mk9 (below2 HB.out hb1); clear hb1))
      go_ret
      exact ⟨rfl, HB.out⟩
    · have HF := Hid.mk9 (fold_arm (show foldP 2 a b = some b from HP.trans (by show some (min a b) = _; rw [show min a b = b from by omega])) w)
      have dab : decide (a < b) = false := decide_eq_false hab
      clear HP h5 h6 d5 d6
      go_enter Try.func4, Try.ntmps4
      go_wp2_with (first | (go_at_call 9; refine HF.out.mono ?_; rintro e w1 ⟨rfl, hb1⟩; have HB := Hid.mk9 hb1; clear hb1) | (go_at_call 6; refine (awake_t _).mono ?_; rintro e w3 ⟨rfl, hb1⟩; replace HB := Hid.mk9 (below2 HB.out hb1); clear hb1))
      go_ret
      exact ⟨rfl, HB.out⟩
  · by_cases hab : b < a
    · have HF := Hid.mk9 (fold_arm (show foldP 3 a b = some a from HP.trans (by show some (max a b) = _; rw [show max a b = a from by omega])) w)
      clear HP h5 h6 d5 d6
      go_enter Try.func4, Try.ntmps4
      go_wp2_with (first | (go_at_call 9; refine HF.out.mono ?_; rintro e w1 ⟨rfl, hb1⟩; have HB := Hid.mk9 hb1; clear hb1) | (go_at_call 6; refine (awake_t _).mono ?_; rintro e w3 ⟨rfl, hb1⟩; replace HB := Hid.mk9 (below2 HB.out hb1); clear hb1))
      go_ret
      exact ⟨rfl, HB.out⟩
    · have HF := Hid.mk9 (fold_arm (show foldP 3 a b = some b from HP.trans (by show some (max a b) = _; rw [show max a b = b from by omega])) w)
      have dab : decide (b < a) = false := decide_eq_false hab
      clear HP h5 h6 d5 d6
      go_enter Try.func4, Try.ntmps4
      go_wp2_with (first | (go_at_call 9; refine HF.out.mono ?_; rintro e w1 ⟨rfl, hb1⟩; have HB := Hid.mk9 hb1; clear hb1) | (go_at_call 6; refine (awake_t _).mono ?_; rintro e w3 ⟨rfl, hb1⟩; replace HB := Hid.mk9 (below2 HB.out hb1); clear hb1))
      go_ret
      exact ⟨rfl, HB.out⟩
end Go.Proofs.Ythdeemaanndggaa.Bk
