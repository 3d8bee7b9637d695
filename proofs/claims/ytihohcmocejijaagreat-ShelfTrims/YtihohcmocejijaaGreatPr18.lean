/-
  within, isCount, mayEnter, isSeries, mayLast.
-/
import Derived.Test.YtihohcmocejijaaGreatPr12
import Derived.Test.YtihohcmocejijaaGreatPr17
namespace Go.Proofs.YtihohcmocejijaaGreat.Bk
open Go.ChangeShapes Go.WideShapes Go.ChangeAt Go.RowKit
set_option maxRecDepth 60000 in
theorem within_any (n lo hi : Int) (w : World) : Calls Tryz.prog 28 #[.int .i64 n, .int .i64 lo, .int .i64 hi] w fun e w' => e = .returned (.bool (decide (lo ≤ n ∧ n ≤ hi))) ∧ w' = w := by
  by_cases h1 : lo ≤ n
  · by_cases h2 : n ≤ hi
    · go_enter Tryz.func28, Tryz.ntmps28
      go_wp2
      go_ret
      exact ⟨by simp [h1, h2], rfl⟩
    · have d : decide (n ≤ hi) = false := decide_eq_false h2
      go_enter Tryz.func28, Tryz.ntmps28
      go_wp2
      go_ret
      exact ⟨by simp, rfl⟩
  · have d : decide (lo ≤ n) = false := decide_eq_false h1
    go_enter Tryz.func28, Tryz.ntmps28
    go_wp2
    go_ret
    exact ⟨by simp, rfl⟩
theorem within_yes {n lo hi : Int} (h : lo ≤ n ∧ n ≤ hi) (w : World) : Calls Tryz.prog 28 #[.int .i64 n, .int .i64 lo, .int .i64 hi] w fun e w' => e = .returned (.bool true) ∧ w' = w :=
  (within_any n lo hi w).mono fun _ _ ⟨he, hw⟩ => ⟨by rw [he, decide_eq_true h], hw⟩
theorem within_no {n lo hi : Int} (h : ¬ (lo ≤ n ∧ n ≤ hi)) (w : World) : Calls Tryz.prog 28 #[.int .i64 n, .int .i64 lo, .int .i64 hi] w fun e w' => e = .returned (.bool false) ∧ w' = w :=
  (within_any n lo hi w).mono fun _ _ ⟨he, hw⟩ => ⟨by rw [he, decide_eq_false h], hw⟩
instance (n : Int) : Decidable (Count n) := inferInstanceAs (Decidable (1 ≤ n ∧ n ≤ 2147483647))
set_option maxRecDepth 60000 in
theorem isCount_any (n : Int) (w : World) : Calls Tryz.prog 42 #[.int .i64 n] w fun e w' => e = .returned (.bool (decide (Count n))) ∧ w' = w := by
  go_enter Tryz.func42, Tryz.ntmps42
  go_wp2_with (go_at_call 28; refine (within_any _ _ _ _).mono ?_; rintro e w1 ⟨rfl, rfl⟩)
  go_ret
  exact ⟨Lb.ret_bool (by rw [Bool.eq_iff_iff]; simp only [Bool.and_eq_true, decide_eq_true_iff]; exact Iff.rfl), rfl⟩
theorem count_yes {n : Int} (h : Count n) (w : World) : Calls Tryz.prog 42 #[.int .i64 n] w fun e w' => e = .returned (.bool true) ∧ w' = w :=
  (isCount_any n w).mono fun _ _ ⟨he, hw⟩ => ⟨by rw [he, decide_eq_true h], hw⟩
theorem count_no {n : Int} (h : ¬ Count n) (w : World) : Calls Tryz.prog 42 #[.int .i64 n] w fun e w' => e = .returned (.bool false) ∧ w' = w :=
  (isCount_any n w).mono fun _ _ ⟨he, hw⟩ => ⟨by rw [he, decide_eq_false h], hw⟩
set_option maxHeartbeats 1000000 in
set_option maxRecDepth 60000 in
theorem mayEnter_any (e : Ent) (w : World) : Calls Tryz.prog 25 #[entV e] w fun x w' => BoolPost (EntMay e) w x w' := by
  obtain ⟨ep, cl, id, k, s, t, v, f, u, m⟩ := e
  unfold entV
  by_cases h1 : 0 ≤ cl ∧ cl ≤ 2147483647
  · have HW := Hid.mk9 (within_yes h1)
    by_cases h2 : Count id
    · have HC := Hid.mk9 (count_yes h2)
      have HP : Hid (EntMay ⟨ep, cl, id, k, s, t, v, f, u, m⟩) := Hid.mk9 ⟨h1, h2⟩
      clear h1 h2
      go_enter Tryz.func25, Tryz.ntmps25
      go_wp2_with (first
        | (go_at_call 28; refine (HW.out _).mono ?_; rintro e w1 ⟨rfl, rfl⟩)
        | (go_at_call 42; refine (HC.out _).mono ?_; rintro e w1 ⟨rfl, rfl⟩))
      go_ret
      exact bool_yes (below_alloc _ _) HP.out
    · have HC := Hid.mk9 (count_no h2)
      have HP : Hid (¬ EntMay ⟨ep, cl, id, k, s, t, v, f, u, m⟩) := Hid.mk9 fun h => h2 h.2
      clear h1 h2
      go_enter Tryz.func25, Tryz.ntmps25
      go_wp2_with (first
        | (go_at_call 28; refine (HW.out _).mono ?_; rintro e w1 ⟨rfl, rfl⟩)
        | (go_at_call 42; refine (HC.out _).mono ?_; rintro e w1 ⟨rfl, rfl⟩))
      go_ret
      exact bool_no (below_alloc _ _) HP.out
  · have HW := Hid.mk9 (within_no h1)
    have HP : Hid (¬ EntMay ⟨ep, cl, id, k, s, t, v, f, u, m⟩) := Hid.mk9 fun h => h1 h.1
    clear h1
    go_enter Tryz.func25, Tryz.ntmps25
    go_wp2_with (go_at_call 28; refine (HW.out _).mono ?_; rintro e w1 ⟨rfl, rfl⟩)
    go_ret
    exact bool_no (below_alloc _ _) HP.out
theorem parses_same {s nm nm' : ByteArray} {ls ls' : List Lb.Lab} (h : Lb.ParsesTo s nm ls) (h' : Lb.ParsesTo s nm' ls') : nm = nm' ∧ ls = ls' := by
  obtain ⟨st, a1, a2, a3, a4, a5, a6⟩ := h
  obtain ⟨st', b1, b2, b3, b4, b5, b6⟩ := h'
  rw [a1] at b1
  obtain rfl := Option.some.inj b1
  exact ⟨a3.trans b3.symm, Lb.uniq (a4.trans b4.symm) (Lb.may_pair a6) b5.pair⟩
theorem ser_iff {s nm : ByteArray} {ls : List Lb.Lab} (h : Lb.ParsesTo s nm ls) : IsSer s ↔ (⟨(Lb.textL nm ls).toArray⟩ : ByteArray) = s := by
  constructor
  · rintro ⟨nm', ls', h', e⟩
    obtain ⟨rfl, rfl⟩ := parses_same h h'
    apply Lb.sg_ext
    rw [← e]
    simp [Lb.sg]
  · intro e
    refine ⟨nm, ls, h, ?_⟩
    rw [← e]
    simp [Lb.sg]
set_option maxHeartbeats 1000000 in
set_option maxRecDepth 60000 in
theorem isSeries_any (s : ByteArray) (w : World) : Calls Tryz.prog 49 #[.string s] w fun e w' => BoolPost (IsSer s) w e w' := by
  go_enter Tryz.func49, Tryz.ntmps49
  go_wp2_with fail
  refine (Lb.parse_any s _).mono ?_
  rintro e w1 ⟨hb1, hP⟩
  have HB := Hid.mk9 hb1
  clear hb1
  rcases hP with ⟨v, nm, ls, rfl, hs, hp⟩ | ⟨rfl, hno⟩
  · obtain ⟨a, len, cap, rfl, hL⟩ := hs
    have HI := Hid.mk9 (ser_iff hp)
    have HM : Hid (Lb.MayS nm ls) := by obtain ⟨st, _, _, _, _, _, a6⟩ := hp; exact a6
    have b1 := below_alloc w1 (.cells #[.string nm, .slice a len cap] 86)
    have HSr : Hid (Lb.SerAt (w1.alloc (.cells #[.string nm, .slice a len cap] 86)) (.agg #[.string nm, .slice a len cap]) nm ls) := Hid.mk9 (Lb.SerAt.below ⟨a, len, cap, rfl, hL⟩ b1)
    replace HB := Hid.mk9 (below2 HB.out b1)
    clear hp hL b1
    have HPr := Hid.mk9 (Lb.print_any _ nm ls _ HSr.out)
    unfold Lb.PrintPost at HPr
    generalize (⟨(Lb.textL nm ls).toArray⟩ : ByteArray) = tx at *
    go_wp2_with (go_at_call 72; refine HPr.out.mono ?_; rintro e w2 ⟨hb2, hq⟩; obtain ⟨-, rfl⟩ := hq.resolve_right (fun h => h.1 HM.out); replace HB := Hid.mk9 (below2 HB.out hb2); clear hb2)
    go_ret
    refine ⟨HB.out, _, rfl, ?_⟩
    show (tx.toList == s.toList) = true ↔ _
    rw [Lb.eqB, HI.out]
    simp
  · have HN : Hid (¬ IsSer s) := Hid.mk9 fun ⟨nm, ls, h, _⟩ => hno nm ls h
    clear hno
    unfold Lb.noSer
    go_wp2_with fail
    go_ret
    exact bool_no (below2 HB.out (below_alloc _ _)) HN.out
set_option maxRecDepth 60000 in
theorem mayLast_any (a : Option Addr) (len cap : Nat) (ls : List Sm) (fl : Int) (w : World) (h : SmsAt w a len cap ls) :
    Calls Tryz.prog 50 #[.slice a len cap, .int .i64 fl] w fun e w' => BoolPost (ls ≠ [] ∧ MayS ls ∧ fl ≤ (ls.getD 0 sm0).1) w e w' := by
  have hl : ls.length = len := h.1
  by_cases h0 : len = 0
  · subst h0
    go_enter Tryz.func50, Tryz.ntmps50
    go_wp2_with fail
    go_ret
    exact bool_no (Below.refl _ _) fun h => h.1 (List.length_eq_zero_iff.1 hl)
  · obtain ⟨b, off, rfl, hbl, hc⟩ := h.some (by omega)
    have hc0 := (hc 0 (by omega)).1
    have hne : ls ≠ [] := fun e => h0 (by rw [← hl, e]; rfl)
    have hp : (0 : Int) < (len : Int) := by omega
    rw [Nat.zero_mul, Nat.add_zero] at hc0
    clear hc
    by_cases hM : MayS ls
    · have HC := Hid.mk9 (check_yes h hM)
      by_cases hf : fl ≤ (ls.getD 0 sm0).1
      · have HP : Hid (ls ≠ [] ∧ MayS ls ∧ fl ≤ (ls.getD 0 sm0).1) := Hid.mk9 ⟨hne, hM, hf⟩
        generalize (ls.getD 0 sm0).1 = x at *
        clear h hM hne hl h0
        go_enter Tryz.func50, Tryz.ntmps50
        go_wp2_with (go_at_call 53; refine HC.out.mono ?_; rintro e w1 ⟨rfl, hb1⟩; have hc1 := (hb1.cell (p := ⟨b, off, none⟩) hbl).trans hc0; have HB := Hid.mk9 hb1; clear hb1)
        go_ret
        exact bool_yes HB.out HP.out
      · have HP : Hid (¬ (ls ≠ [] ∧ MayS ls ∧ fl ≤ (ls.getD 0 sm0).1)) := Hid.mk9 fun h => hf h.2.2
        generalize (ls.getD 0 sm0).1 = x at *
        have d : decide (fl ≤ x) = false := decide_eq_false hf
        clear h hM hne hl h0
        go_enter Tryz.func50, Tryz.ntmps50
        go_wp2_with (go_at_call 53; refine HC.out.mono ?_; rintro e w1 ⟨rfl, hb1⟩; have hc1 := (hb1.cell (p := ⟨b, off, none⟩) hbl).trans hc0; have HB := Hid.mk9 hb1; clear hb1)
        go_ret
        exact bool_no HB.out HP.out
    · have HC := Hid.mk9 (check_no h hM)
      have HP : Hid (¬ (ls ≠ [] ∧ MayS ls ∧ fl ≤ (ls.getD 0 sm0).1)) := Hid.mk9 fun h => hM h.2.1
      generalize (ls.getD 0 sm0).1 = x at *
      clear h hM hne hl h0
      go_enter Tryz.func50, Tryz.ntmps50
      go_wp2_with (go_at_call 53; refine HC.out.mono ?_; rintro e w1 ⟨rfl, hb1⟩; have HB := Hid.mk9 hb1; clear hb1)
      go_ret
      exact bool_no HB.out HP.out
end Go.Proofs.YtihohcmocejijaaGreat.Bk
