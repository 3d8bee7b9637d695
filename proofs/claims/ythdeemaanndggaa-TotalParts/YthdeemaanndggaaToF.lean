/-
  The contracts of Fold and of awake; the laws TotalOf, TotalFolds, TotalParts.
-/
import Derived.Test.YthdeemaanndggaaToD
import Derived.Test.YthdeemaanndggaaToE
namespace Go.Proofs.Ythdeemaanndggaa.Bk
open Go.ChangeShapes Go.WideShapes Go.ChangeAt Go.RowKit
def foldB (a : Int) : Bool := decide (-9007199254740992 ≤ a) && decide (a ≤ 9007199254740992)
theorem foldB_yes {a : Int} (h1 : -9007199254740992 ≤ a) (h2 : a ≤ 9007199254740992) : foldB a = true := by simp [foldB, h1, h2]
theorem foldB_no {a : Int} (h : a < -9007199254740992 ∨ 9007199254740992 < a) : foldB a = false := by
  unfold foldB
  rcases h with h | h
  · rw [decide_eq_false (by omega : ¬ -9007199254740992 ≤ a)]; rfl
  · rw [decide_eq_false (by omega : ¬ a ≤ 9007199254740992)]; simp
theorem folds_any (a : Int) (w : World) : Calls Try.prog 18 #[.int .i64 a] w fun e w' => e = .returned (.bool (foldB a)) ∧ w' = w := by
  have HF : Hid (foldB a = (decide (-9007199254740992 ≤ a) && decide (a ≤ 9007199254740992))) := rfl
  generalize foldB a = q at *
  cases h1 : decide (-9007199254740992 ≤ a) with
  | false =>
    rw [h1] at HF
    have HQ : Hid (q = false) := by show _ = _; rw [HF.out]; rfl
    clear HF
    go_enter Try.func18, Try.ntmps18
    go_wp2
    go_ret
    exact ⟨by rw [HQ.out]; rfl, rfl⟩
  | true =>
    rw [h1] at HF
    generalize hd : decide (a ≤ 9007199254740992) = d at *
    have HQ : Hid (q = d) := by show _ = _; rw [HF.out]; simp
    clear HF
    go_enter Try.func18, Try.ntmps18
    go_wp2
    go_ret
    exact ⟨by rw [HQ.out]; rfl, rfl⟩
/-- two totals, folded -/
def foldP (kind a b : Int) : Option Int := bif foldB a && foldB b then (if kind = 1 then some (a + b) else if kind = 4 then some (a + b) else if kind = 2 then some (min a b) else if kind = 3 then some (max a b) else none) else none
theorem fold_w {a b : Int} (ha : foldB a = true) (hb : foldB b = true) : wrap64 (a + b) = a + b := by
  simp only [foldB, Bool.and_eq_true, decide_eq_true_eq] at ha hb
  exact w64_id (by omega) (by omega)
theorem foldP_yes {kind a b : Int} (ha : foldB a = true) (hb : foldB b = true) : foldP kind a b = (if kind = 1 then some (a + b) else if kind = 4 then some (a + b) else if kind = 2 then some (min a b) else if kind = 3 then some (max a b) else none) := by
  unfold foldP; rw [ha, hb]; rfl
set_option maxHeartbeats 1000000 in
set_option maxRecDepth 60000 in
theorem fold_any (kind a b : Int) (w : World) : Calls Try.prog 9 #[.int .i64 kind, .int .i64 a, .int .i64 b] w fun e w' => TotPost (foldP kind a b) w e w' := by
  have HB := Hid.mk9 (Below.refl w.heap.size w)
  have H1 := Hid.mk9 (folds_any a)
  have H2 := Hid.mk9 (folds_any b)
  cases ha : foldB a with
  | false =>
    have HP : Hid (foldP kind a b = none) := by show _ = _; unfold foldP; rw [ha]; rfl
    rw [ha] at H1
    clear ha
    go_enter Try.func9, Try.ntmps9
    go_wp2_with (go_at_call 18; refine (H1.out _).mono ?_; rintro e w1 ⟨rfl, rfl⟩)
    go_returns
    exact tot_no HP.out HB.out
  | true =>
    cases hb : foldB b with
    | false =>
      have HP : Hid (foldP kind a b = none) := by show _ = _; unfold foldP; rw [ha, hb]; rfl
      rw [ha] at H1
      rw [hb] at H2
      clear ha hb
      go_enter Try.func9, Try.ntmps9
      go_wp2_with (first
        | (go_at_call_of 18 a; refine (H1.out _).mono ?_; rintro e w1 ⟨rfl, rfl⟩)
        | (go_at_call 18; refine (H2.out _).mono ?_; rintro e w1 ⟨rfl, rfl⟩))
      go_returns
      exact tot_no HP.out HB.out
    | true =>
      have HP := Hid.mk9 (foldP_yes (kind := kind) ha hb)
      have HW := Hid.mk9 (fold_w ha hb)
      rw [ha] at H1
      rw [hb] at H2
      clear ha hb
      by_cases h1 : kind = 1
      · subst h1
        rw [if_pos rfl] at HP
        go_enter Try.func9, Try.ntmps9
        go_wp2_with (first
          | (go_at_call_of 18 a; refine (H1.out _).mono ?_; rintro e w1 ⟨rfl, rfl⟩)
          | (go_at_call 18; refine (H2.out _).mono ?_; rintro e w1 ⟨rfl, rfl⟩))
        go_returns
        rw [HW.out]
        exact tot_yes HP.out HB.out
      rw [if_neg h1] at HP
      by_cases h4 : kind = 4
      · subst h4
        rw [if_pos rfl] at HP
        clear h1
        go_enter Try.func9, Try.ntmps9
        go_wp2_with (first
          | (go_at_call_of 18 a; refine (H1.out _).mono ?_; rintro e w1 ⟨rfl, rfl⟩)
          | (go_at_call 18; refine (H2.out _).mono ?_; rintro e w1 ⟨rfl, rfl⟩))
        go_returns
        rw [HW.out]
        exact tot_yes HP.out HB.out
      rw [if_neg h4] at HP
      by_cases h2 : kind = 2
      · subst h2
        rw [if_pos rfl] at HP
        clear h1 h4
        go_enter Try.func9, Try.ntmps9
        go_wp2_with (first
          | (go_at_call_of 18 a; refine (H1.out _).mono ?_; rintro e w1 ⟨rfl, rfl⟩)
          | (go_at_call 18; refine (H2.out _).mono ?_; rintro e w1 ⟨rfl, rfl⟩))
        go_returns
        exact tot_yes HP.out HB.out
      rw [if_neg h2] at HP
      by_cases h3 : kind = 3
      · subst h3
        rw [if_pos rfl] at HP
        clear h1 h4 h2
        go_enter Try.func9, Try.ntmps9
        go_wp2_with (first
          | (go_at_call_of 18 a; refine (H1.out _).mono ?_; rintro e w1 ⟨rfl, rfl⟩)
          | (go_at_call 18; refine (H2.out _).mono ?_; rintro e w1 ⟨rfl, rfl⟩))
        go_returns
        exact tot_yes HP.out HB.out
      rw [if_neg h3] at HP
      have d1 : (kind == 1) = false := by simp [h1]
      have d2 : (kind == 2) = false := by simp [h2]
      have d3 : (kind == 3) = false := by simp [h3]
      have d4 : (kind == 4) = false := by simp [h4]
      clear h1 h2 h3 h4
      go_enter Try.func9, Try.ntmps9
      go_wp2_with (first
        | (go_at_call_of 18 a; refine (H1.out _).mono ?_; rintro e w1 ⟨rfl, rfl⟩)
        | (go_at_call 18; refine (H2.out _).mono ?_; rintro e w1 ⟨rfl, rfl⟩))
      go_returns
      exact tot_no HP.out HB.out
def three : List Sm := [(0, 10), (30, 25), (60, 5)]
theorem three_at (w : World) : SmsAt (w.alloc (.cells #[.int .i64 0, .int .i64 10, .int .i64 30, .int .i64 25, .int .i64 60, .int .i64 5] 32)) (some ⟨w.heap.size, 0, none⟩) 3 3 three := by
  refine ⟨rfl, by decide, by decide, .inr ⟨_, _, rfl, fun i hi => ?_⟩⟩
  match i, hi with
  | 0, _ => exact ⟨by simp [three], by simp [three]⟩
  | 1, _ => exact ⟨by simp [three], by simp [three]⟩
  | 2, _ => exact ⟨by simp [three], by simp [three]⟩
theorem three_may : MayS three := by
  refine ⟨by decide, fun i hi => ?_⟩
  match i, hi with
  | 0, _ => exact ⟨by simp [three, InS], fun h => absurd h (by decide)⟩
  | 1, _ => exact ⟨by simp [three, InS], fun _ => by simp [three]⟩
  | 2, _ => exact ⟨by simp [three, InS], fun _ => by simp [three]⟩
theorem three_rate : totP 5 three = some 20 := by decide
set_option maxRecDepth 60000 in
theorem awake_t (w : World) : Calls Try.prog 6 #[] w fun e w' => TruePost w e w' := by
  have HC := Hid.mk9 (of_yes 5 _ _ _ three _ (three_at w) three_may)
  rw [three_rate] at HC
  have HB := Hid.mk9 (below_alloc w (.cells #[.int .i64 0, .int .i64 10, .int .i64 30, .int .i64 25, .int .i64 60, .int .i64 5] 32))
  go_enter Try.func6, Try.ntmps6
  go_wp2_with (go_at_call 7; refine HC.out.mono ?_; rintro e w1 ⟨hb1, rfl⟩; replace HB := Hid.mk9 (below2 HB.out hb1); clear hb1)
  go_ret
  exact ⟨rfl, HB.out⟩
end Go.Proofs.Ythdeemaanndggaa.Bk
