/-
  The contract of Of.
-/
import Derived.Test.YthdeemaanndggaaToB
import Derived.Test.YthdeemaanndggaaToC
namespace Go.Proofs.Ythdeemaanndggaa.Bk
open Go.ChangeShapes Go.WideShapes Go.ChangeAt Go.RowKit
def fewP (kind : Int) : Int := if kind = 2 then 1 else if kind = 3 then 1 else if kind = 5 then 2 else 0
set_option maxRecDepth 60000 in
theorem fewest_any (kind : Int) (w : World) : Calls Try.prog 12 #[.int .i64 kind] w fun e w' => e = .returned (.int .i64 (fewP kind)) ∧ Grown w w' := by
  have HG := Hid.mk9 (grown_refl w)
  by_cases h2 : kind = 2
  · subst h2
    go_enter Try.func12, Try.ntmps12
    go_wp2
    go_ret
    exact ⟨rfl, HG.out⟩
  by_cases h3 : kind = 3
  · subst h3
    go_enter Try.func12, Try.ntmps12
    go_wp2
    go_ret
    exact ⟨rfl, HG.out⟩
  by_cases h5 : kind = 5
  · subst h5
    go_enter Try.func12, Try.ntmps12
    go_wp2
    go_ret
    exact ⟨rfl, HG.out⟩
  have HF : Hid (fewP kind = 0) := by show _ = _; unfold fewP; rw [if_neg h2, if_neg h3, if_neg h5]
  have d2 : (kind == 2) = false := by simp [h2]
  have d3 : (kind == 3) = false := by simp [h3]
  have d5 : (kind == 5) = false := by simp [h5]
  clear h2 h3 h5
  go_enter Try.func12, Try.ntmps12
  go_wp2
  go_ret
  exact ⟨ret_int HF.out.symm, HG.out⟩
set_option maxHeartbeats 1000000 in
set_option maxRecDepth 60000 in
theorem of_no (kind : Int) (a : Option Addr) (len cap : Nat) (ls : List Sm) (w : World) (h : SmsAt w a len cap ls) (hM : ¬ MayS ls) :
    Calls Try.prog 7 #[.int .i64 kind, .slice a len cap] w fun e w' => TotPost none w e w' := by
  have HC := Hid.mk9 (check_no h hM)
  clear h hM
  go_enter Try.func7, Try.ntmps7
  go_wp2_with (go_at_call 11; refine HC.out.mono ?_; rintro e w1 ⟨rfl, hb1⟩)
  go_returns
  exact tot_no rfl hb1
set_option maxHeartbeats 2000000 in
set_option maxRecDepth 60000 in
theorem of_yes (kind : Int) (a : Option Addr) (len cap : Nat) (ls : List Sm) (w : World) (h : SmsAt w a len cap ls) (hM : MayS ls) :
    Calls Try.prog 7 #[.int .i64 kind, .slice a len cap] w fun e w' => TotPost (totP kind ls) w e w' := by
  have hl : ls.length = len := h.1
  have h64 : ls.length ≤ 64 := hM.1
  have hm : (len : Int) ≤ 64 := by omega
  have HL := Hid.mk9 h
  have HM := Hid.mk9 hM
  have HC := Hid.mk9 (check_yes h hM)
  have HF := Hid.mk9 (fewest_any kind)
  clear h hM h64
  by_cases h1 : kind = 1
  · subst h1
    have HT : Hid (totP 1 ls = some (sumN ls ls.length)) := by show _ = _; unfold totP; rw [if_pos rfl]
    generalize totP 1 ls = o at *
    have HS : Hid (∀ W, Below w.heap.size w W → Calls Try.prog 13 #[.slice a len cap] W fun e w' => IntPost (sumN ls ls.length) W e w') := fun W hb => sum_any a len cap ls W (HL.out.below hb) HM.out
    generalize sumN ls ls.length = s at *
    rw [show fewP 1 = 0 from rfl] at HF
    go_enter Try.func7, Try.ntmps7
    go_wp2_with (first
      | (go_at_call 11; refine HC.out.mono ?_; rintro e w1 ⟨rfl, hb1⟩; have HB := Hid.mk9 hb1; clear hb1)
      | (go_at_call 12; refine (HF.out _).mono ?_; rintro e w2 ⟨rfl, hg2⟩; replace HB := Hid.mk9 (below2 HB.out (grown_below hg2)); clear hg2)
      | (go_at_call 13; refine (HS.out _ HB.out).mono ?_; rintro e w3 ⟨rfl, hb3⟩; replace HB := Hid.mk9 (below2 HB.out hb3); clear hb3))
    go_returns
    exact tot_yes HT.out HB.out
  by_cases h2 : kind = 2
  · subst h2
    rw [show fewP 2 = 1 from rfl] at HF
    clear h1
    by_cases h0 : len = 0
    · have HT : Hid (totP 2 ls = none) := by show _ = _; unfold totP; rw [hl]; simp [h0]
      generalize totP 2 ls = o at *
      subst h0
      go_enter Try.func7, Try.ntmps7
      go_wp2_with (first
      | (go_at_call 11; refine HC.out.mono ?_; rintro e w1 ⟨rfl, hb1⟩; have HB := Hid.mk9 hb1; clear hb1)
      | (go_at_call 12; refine (HF.out _).mono ?_; rintro e w2 ⟨rfl, hg2⟩; replace HB := Hid.mk9 (below2 HB.out (grown_below hg2)); clear hg2))
      go_returns
      exact tot_no HT.out HB.out
    · have HT : Hid (totP 2 ls = some (minN ls (len - 1))) := by show _ = _; unfold totP; rw [hl]; simp [h0]
      generalize totP 2 ls = o at *
      have HS : Hid (∀ W, Below w.heap.size w W → Calls Try.prog 14 #[.slice a len cap, .func (.func 15) #[] #[]] W fun e w' => BestPost (minN ls (len - 1)) W e w') := fun W hb => minFunc_any a len cap ls W (HL.out.below hb) (by omega) hm
      generalize minN ls (len - 1) = s at *
      have hl1 : ¬ (len : Int) < 1 := by omega
      have hl2 : decide ((len : Int) < 1) = false := decide_eq_false hl1
      have hfd : ∀ (x : Int) (w : World), (Instr.field 32 (.agg #[.int .i64 x, .int .i64 s]) 1).run Try.prog w = .ok (.int .i64 s) w := fun _ _ => by kernel_rfl
      clear hl1
      go_enter Try.func7, Try.ntmps7
      go_wp2_with (first
      | (go_at_call 11; refine HC.out.mono ?_; rintro e w1 ⟨rfl, hb1⟩; have HB := Hid.mk9 hb1; clear hb1)
      | (go_at_call 12; refine (HF.out _).mono ?_; rintro e w2 ⟨rfl, hg2⟩; replace HB := Hid.mk9 (below2 HB.out (grown_below hg2)); clear hg2)
      | (go_at_call 14; refine (HS.out _ HB.out).mono ?_; rintro e w3 ⟨hb3, x3, rfl⟩; replace HB := Hid.mk9 (below2 HB.out hb3); clear hb3))
      go_returns
      exact tot_yes HT.out HB.out
  by_cases h3 : kind = 3
  · subst h3
    rw [show fewP 3 = 1 from rfl] at HF
    clear h1 h2
    by_cases h0 : len = 0
    · have HT : Hid (totP 3 ls = none) := by show _ = _; unfold totP; rw [hl]; simp [h0]
      generalize totP 3 ls = o at *
      subst h0
      go_enter Try.func7, Try.ntmps7
      go_wp2_with (first
      | (go_at_call 11; refine HC.out.mono ?_; rintro e w1 ⟨rfl, hb1⟩; have HB := Hid.mk9 hb1; clear hb1)
      | (go_at_call 12; refine (HF.out _).mono ?_; rintro e w2 ⟨rfl, hg2⟩; replace HB := Hid.mk9 (below2 HB.out (grown_below hg2)); clear hg2))
      go_returns
      exact tot_no HT.out HB.out
    · have HT : Hid (totP 3 ls = some (maxN ls (len - 1))) := by show _ = _; unfold totP; rw [hl]; simp [h0]
      generalize totP 3 ls = o at *
      have HS : Hid (∀ W, Below w.heap.size w W → Calls Try.prog 16 #[.slice a len cap, .func (.func 15) #[] #[]] W fun e w' => BestPost (maxN ls (len - 1)) W e w') := fun W hb => maxFunc_any a len cap ls W (HL.out.below hb) (by omega) hm
      generalize maxN ls (len - 1) = s at *
      have hl1 : ¬ (len : Int) < 1 := by omega
      have hl2 : decide ((len : Int) < 1) = false := decide_eq_false hl1
      have hfd : ∀ (x : Int) (w : World), (Instr.field 32 (.agg #[.int .i64 x, .int .i64 s]) 1).run Try.prog w = .ok (.int .i64 s) w := fun _ _ => by kernel_rfl
      clear hl1
      go_enter Try.func7, Try.ntmps7
      go_wp2_with (first
      | (go_at_call 11; refine HC.out.mono ?_; rintro e w1 ⟨rfl, hb1⟩; have HB := Hid.mk9 hb1; clear hb1)
      | (go_at_call 12; refine (HF.out _).mono ?_; rintro e w2 ⟨rfl, hg2⟩; replace HB := Hid.mk9 (below2 HB.out (grown_below hg2)); clear hg2)
      | (go_at_call 16; refine (HS.out _ HB.out).mono ?_; rintro e w3 ⟨hb3, x3, rfl⟩; replace HB := Hid.mk9 (below2 HB.out hb3); clear hb3))
      go_returns
      exact tot_yes HT.out HB.out
  by_cases h4 : kind = 4
  · subst h4
    rw [show fewP 4 = 0 from rfl] at HF
    clear h1 h2 h3
    have HT : Hid (totP 4 ls = some (len : Int)) := by show _ = _; unfold totP; rw [hl]; simp
    generalize totP 4 ls = o at *
    go_enter Try.func7, Try.ntmps7
    go_wp2_with (first
      | (go_at_call 11; refine HC.out.mono ?_; rintro e w1 ⟨rfl, hb1⟩; have HB := Hid.mk9 hb1; clear hb1)
      | (go_at_call 12; refine (HF.out _).mono ?_; rintro e w2 ⟨rfl, hg2⟩; replace HB := Hid.mk9 (below2 HB.out (grown_below hg2)); clear hg2))
    go_returns
    exact tot_yes HT.out HB.out
  by_cases h5 : kind = 5
  · subst h5
    rw [show fewP 5 = 2 from rfl] at HF
    clear h1 h2 h3 h4
    by_cases h0 : len < 2
    · have HT : Hid (totP 5 ls = none) := by show _ = _; unfold totP; rw [hl]; simp [h0]
      generalize totP 5 ls = o at *
      have hl2 : decide ((len : Int) < 2) = true := by simp; omega
      go_enter Try.func7, Try.ntmps7
      go_wp2_with (first
      | (go_at_call 11; refine HC.out.mono ?_; rintro e w1 ⟨rfl, hb1⟩; have HB := Hid.mk9 hb1; clear hb1)
      | (go_at_call 12; refine (HF.out _).mono ?_; rintro e w2 ⟨rfl, hg2⟩; replace HB := Hid.mk9 (below2 HB.out (grown_below hg2)); clear hg2))
      go_returns
      exact tot_no HT.out HB.out
    · have HT : Hid (totP 5 ls = some (rateP ls)) := by show _ = _; unfold totP; rw [hl]; simp [h0]
      generalize totP 5 ls = o at *
      have HS : Hid (∀ W, Below w.heap.size w W → Calls Try.prog 17 #[.slice a len cap] W fun e w' => IntPost (rateP ls) W e w') := fun W hb => rate_any a len cap ls W (HL.out.below hb) HM.out (by omega)
      generalize rateP ls = s at *
      have hl2 : decide ((len : Int) < 2) = false := by simp; omega
      go_enter Try.func7, Try.ntmps7
      go_wp2_with (first
      | (go_at_call 11; refine HC.out.mono ?_; rintro e w1 ⟨rfl, hb1⟩; have HB := Hid.mk9 hb1; clear hb1)
      | (go_at_call 12; refine (HF.out _).mono ?_; rintro e w2 ⟨rfl, hg2⟩; replace HB := Hid.mk9 (below2 HB.out (grown_below hg2)); clear hg2)
      | (go_at_call 17; refine (HS.out _ HB.out).mono ?_; rintro e w3 ⟨rfl, hb3⟩; replace HB := Hid.mk9 (below2 HB.out hb3); clear hb3))
      go_returns
      exact tot_yes HT.out HB.out
  have HT : Hid (totP kind ls = none) := by show _ = _; unfold totP; rw [if_neg h1, if_neg h4, if_neg h2, if_neg h3, if_neg h5]
  generalize totP kind ls = o at *
  rw [show fewP kind = 0 from by unfold fewP; rw [if_neg h2, if_neg h3, if_neg h5]] at HF
  have d1 : (kind == 1) = false := by simp [h1]
  have d2 : (kind == 2) = false := by simp [h2]
  have d3 : (kind == 3) = false := by simp [h3]
  have d4 : (kind == 4) = false := by simp [h4]
  have d5 : (kind == 5) = false := by simp [h5]
  clear h1 h2 h3 h4 h5
  go_enter Try.func7, Try.ntmps7
  go_wp2_with (first
      | (go_at_call 11; refine HC.out.mono ?_; rintro e w1 ⟨rfl, hb1⟩; have HB := Hid.mk9 hb1; clear hb1)
      | (go_at_call 12; refine (HF.out _).mono ?_; rintro e w2 ⟨rfl, hg2⟩; replace HB := Hid.mk9 (below2 HB.out (grown_below hg2)); clear hg2))
  go_returns
  exact tot_no HT.out HB.out
end Go.Proofs.Ythdeemaanndggaa.Bk
