/-
  The contract of rate.
  The contract of Of.
-/
import Derived.Test.YtihohcmocejijaaGreatPr20
import Derived.Test.YtihohcmocejijaaGreatPr27
namespace Go.Proofs.YtihohcmocejijaaGreat.Bk
open Go.ChangeShapes Go.WideShapes Go.ChangeAt Go.RowKit
theorem sorted_ends {ls : List Sm} (h : MayS ls) : ∀ k, k + 1 < ls.length → (ls.getD 0 sm0).1 < (ls.getD (k + 1) sm0).1 := by
  intro k
  induction k with
  | zero => intro hk; exact (h.2 1 hk).2 (by omega)
  | succ k ih =>
    intro hk
    have h1 := ih (by omega)
    have h2 := (h.2 (k + 1 + 1) hk).2 (by omega)
    simp only [Nat.add_sub_cancel] at h2
    omega
set_option maxHeartbeats 1000000 in
set_option maxRecDepth 60000 in
theorem rate_any (a : Option Addr) (len cap : Nat) (ls : List Sm) (w : World) (h : SmsAt w a len cap ls) (hM : MayS ls) (h2 : 2 ≤ len) :
    Calls Tryz.prog 87 #[.slice a len cap] w fun e w' => IntPost (rateP ls) w e w' := by
  have hl : ls.length = len := h.1
  have h64 : ls.length ≤ 64 := hM.1
  have hm : (len : Int) ≤ 64 := by omega
  have h2' : (2 : Int) ≤ (len : Int) := by omega
  have HL : Hid (SmsAt w a len cap ls) := h
  have HM := Hid.mk9 hM
  have HI : Hid (∀ k, k < len → 0 ≤ growN ls k ∧ growN ls k ≤ 2199023255552 * (k : Int)) := fun k hk => growN_in hM k (by omega)
  have HV : Hid (∀ k, k < len → -1099511627776 ≤ vAt ls k ∧ vAt ls k ≤ 1099511627776) := fun k hk => vAt_in hM (by omega)
  have HRT : Hid (rateP ls = IntKind.i64.wrap (Int.tdiv (growN ls (len - 1) * 60) ((ls.getD (len - 1) sm0).1 - (ls.getD 0 sm0).1))) := by show _ = _; unfold rateP; rw [hl]
  generalize rateP ls = rt at *
  clear h hM h64
  go_enter Tryz.func87, Tryz.ntmps87
  go_wp2_with fail
  go_loopw [3, 4] (fun s i wr => ∃ (k : Nat) (x : Int), k + 1 ≤ len ∧ i = .int .i64 ((k : Int) + 1) ∧ s = .int .i64 x ∧ Hid (x = growN ls k) ∧ Below w.heap.size w wr) (fun _ i _ => len - (intOf i).toNat)
  case atStart => exact ⟨0, 0, by omega, rfl, rfl, rfl, Below.refl _ _⟩
  case round =>
    obtain ⟨k, x, hk, rfl, rfl, hT, hbel⟩ := hrel
    by_cases hlt : k + 1 < len
    · obtain ⟨b, off, rfl, hbs, hcell⟩ := (HL.out.below hbel).some (by omega)
      obtain ⟨-, e0⟩ := hcell k (by omega)
      obtain ⟨-, e1⟩ := hcell (k + 1) hlt
      clear hcell
      have hk1 : (k : Int) + 1 < (len : Int) := by omega
      have hk0 : (0 : Int) ≤ (k : Int) + 1 := by omega
      have hk2 : (k : Int) < (len : Int) := by omega
      have hk3 : (0 : Int) ≤ (k : Int) := by omega
      have hkn : ((k : Int) + 1).toNat = k + 1 := by omega
      have hkw : IntKind.i64.wrap ((k : Int) + 1) = (k : Int) + 1 := by rw [IntKind.wrap_i64]; omega
      have hkm : IntKind.i64.wrap (k : Int) = (k : Int) := by rw [IntKind.wrap_i64]; omega
      have HN : Hid (x + gr (ls.getD k sm0).2 (ls.getD (k + 1) sm0).2 = growN ls (k + 1)) := by show _ = _; rw [hT.out]; rfl
      have hx := HI.out k (by omega)
      rw [← hT.out] at hx
      have hv : -1099511627776 ≤ (ls.getD k sm0).2 ∧ (ls.getD k sm0).2 ≤ 1099511627776 := HV.out k (by omega)
      have hv' : -1099511627776 ≤ (ls.getD (k + 1) sm0).2 ∧ (ls.getD (k + 1) sm0).2 ≤ 1099511627776 := HV.out (k + 1) hlt
      generalize (ls.getD k sm0).2 = c at *
      generalize (ls.getD (k + 1) sm0).2 = d at *
      have hg := gr_in hv hv'
      have HC : Hid (∀ W, Calls Tryz.prog 117 #[.int .i64 c, .int .i64 d] W fun e w' => e = .returned (.int .i64 (gr c d)) ∧ Grown W w') := fun W => growth_any c d W hv hv'
      generalize gr c d = g at *
      have hw : IntKind.i64.wrap (x + g) = x + g := by rw [IntKind.wrap_i64]; omega
      have y0 := cell_grown (a := ⟨b, off + k * 2 + 1, none⟩) hbs e0
      have y1 := cell_grown (a := ⟨b, off + (k + 1) * 2 + 1, none⟩) hbs e1
      have HB : Hid (∀ n os, Below w.heap.size w (Go.Sort.grow (wr.drewN n) os)) := fun n os => below2 hbel (below_grow _ _ _)
      clear hx hv hv' hg hT e0 e1
      go_wp2_with fail
      refine wp_region_QW mixed5 (by kernel_rfl) ?_
      repeat (refine QW_step (fun K hK => ?_); go_simp; first | (refine hK _ ?_; clear hK K) | (apply Exists.intro; refine ⟨fun _ => ?_, hK _ ?_⟩; (go_at_call 117; refine Calls.grown_of (HC.out _)); clear hK K))
      refine QW_nil ?_
      intro _ hw9
      obtain ⟨⟨nq, osq⟩, hw8⟩ := hw9
      subst hw8
      have hb := HB.out nq osq
      go_wp2_with fail
      exact ⟨⟨k + 1, x + g, by omega, by go_num, rfl, HN, hb⟩, by simp [intOf]; omega⟩
    · obtain ⟨m, hm1⟩ : ∃ m, len = m + 1 := ⟨len - 1, by omega⟩
      obtain rfl : k = m := by omega
      have hltz : ¬ (k : Int) + 1 < (len : Int) := by omega
      obtain ⟨b, off, rfl, hbs, hcell⟩ := (HL.out.below hbel).some (by omega)
      obtain ⟨e0, -⟩ := hcell 0 (by omega)
      obtain ⟨e1, -⟩ := hcell k (by omega)
      clear hcell
      rw [Nat.zero_mul, Nat.add_zero] at e0
      have hx := HI.out k (by omega)
      rw [← hT.out] at hx
      have HEE := HRT.out
      rw [show len - 1 = k from by omega, ← hT.out] at HEE
      replace HEE := Hid.mk9 HEE
      have ht : (ls.getD 0 sm0).1 < (ls.getD k sm0).1 := by
        have := sorted_ends HM.out (k - 1) (by omega)
        rwa [show k - 1 + 1 = k from by omega] at this
      have hi0 : 0 ≤ (ls.getD 0 sm0).1 := ((HM.out.2 0 (by omega)).1).1
      have hi1 : (ls.getD k sm0).1 ≤ 1099511627776 := ((HM.out.2 k (by omega)).1).2.1
      generalize (ls.getD 0 sm0).1 = p at *
      generalize (ls.getD k sm0).1 = q at *
      have hk64 : (k : Int) ≤ 64 := by omega
      have hkl : IntKind.i64.wrap ((len : Int) - 1) = (k : Int) := by rw [IntKind.wrap_i64]; omega
      have hk2 : (k : Int) < (len : Int) := by omega
      have hk3 : (0 : Int) ≤ (k : Int) := by omega
      have hl0 : 0 < len := by omega
      have w1 : IntKind.i64.wrap (x * 60) = x * 60 := by rw [IntKind.wrap_i64]; omega
      have w2 : IntKind.i64.wrap (q - p) = q - p := by rw [IntKind.wrap_i64]; omega
      have w0 : ¬ q - p = 0 := by omega
      have y0 := cell_grown (a := ⟨b, off, none⟩) hbs e0
      have y1 := cell_grown (a := ⟨b, off + k * 2, none⟩) hbs e1
      have HB : Hid (∀ n os, Below w.heap.size w (Go.Sort.grow (wr.drewN n) os)) := fun n os => below2 hbel (below_grow _ _ _)
      have HXX := Hid.mk9 hx
      have HPQ := Hid.mk9 ht
      clear hT HL e0 e1 hm1 HI HV HRT hx ht hi0 hi1
      go_wp2_with fail
      refine wp_region_QW mixed5 (by kernel_rfl) ?_
      repeat (refine QW_step (fun K hK => ?_); go_simp; refine hK _ ?_; clear hK K)
      refine QW_nil ?_
      intro _ hw9
      obtain ⟨⟨nq, osq⟩, hw8⟩ := hw9
      subst hw8
      have hb := HB.out nq osq
      go_wp2_with fail
      go_ret
      exact ⟨ret_int HEE.out.symm, hb⟩
end Go.Proofs.YtihohcmocejijaaGreat.Bk
namespace Go.Proofs.YtihohcmocejijaaGreat.Bk
open Go.ChangeShapes Go.WideShapes Go.ChangeAt Go.RowKit
def fewP (kind : Int) : Int := if kind = 2 then 1 else if kind = 3 then 1 else if kind = 5 then 2 else 0
set_option maxRecDepth 60000 in
theorem fewest_any (kind : Int) (w : World) : Calls Tryz.prog 82 #[.int .i64 kind] w fun e w' => e = .returned (.int .i64 (fewP kind)) ∧ Grown w w' := by
  have HG := Hid.mk9 (grown_refl w)
  by_cases h2 : kind = 2
  · subst h2
    go_enter Tryz.func82, Tryz.ntmps82
    go_wp2
    go_ret
    exact ⟨rfl, HG.out⟩
  by_cases h3 : kind = 3
  · subst h3
    go_enter Tryz.func82, Tryz.ntmps82
    go_wp2
    go_ret
    exact ⟨rfl, HG.out⟩
  by_cases h5 : kind = 5
  · subst h5
    go_enter Tryz.func82, Tryz.ntmps82
    go_wp2
    go_ret
    exact ⟨rfl, HG.out⟩
  have HF : Hid (fewP kind = 0) := by show _ = _; unfold fewP; rw [if_neg h2, if_neg h3, if_neg h5]
  have d2 : (kind == 2) = false := by simp [h2]
  have d3 : (kind == 3) = false := by simp [h3]
  have d5 : (kind == 5) = false := by simp [h5]
  clear h2 h3 h5
  go_enter Tryz.func82, Tryz.ntmps82
  go_wp2
  go_ret
  exact ⟨ret_int HF.out.symm, HG.out⟩
set_option maxHeartbeats 2000000 in
set_option maxRecDepth 60000 in
theorem of_yes (kind : Int) (a : Option Addr) (len cap : Nat) (ls : List Sm) (w : World) (h : SmsAt w a len cap ls) (hM : MayS ls) :
    Calls Tryz.prog 56 #[.int .i64 kind, .slice a len cap] w fun e w' => TotPost (totP kind ls) w e w' := by
  have hl : ls.length = len := h.1
  have h64 : ls.length ≤ 64 := hM.1
  have hm : (len : Int) ≤ 64 := by omega
  have HL := Hid.mk9 h
  have HM := Hid.mk9 hM
  have HC := Hid.mk9 (check_yes h hM)
  have HF := Hid.mk9 (fewest_any kind)
  clear h hM h64
  by_cases h1 : kind = 1
  · subst h1
    have HT : Hid (totP 1 ls = some (sumN ls ls.length)) := by show _ = _; unfold totP; rw [if_pos rfl]
    generalize totP 1 ls = o at *
    have HS : Hid (∀ W, Below w.heap.size w W → Calls Tryz.prog 83 #[.slice a len cap] W fun e w' => IntPost (sumN ls ls.length) W e w') := fun W hb => sum_any a len cap ls W (HL.out.below hb) HM.out
    generalize sumN ls ls.length = s at *
    rw [show fewP 1 = 0 from rfl] at HF
    go_enter Tryz.func56, Tryz.ntmps56
    go_wp2_with (first
      | (go_at_call 53; refine HC.out.mono ?_; rintro e w1 ⟨rfl, hb1⟩; have HB := Hid.mk9 hb1; clear hb1)
      | (go_at_call 82; refine (HF.out _).mono ?_; rintro e w2 ⟨rfl, hg2⟩; replace HB := Hid.mk9 (below2 HB.out (grown_below hg2)); clear hg2)
      | (go_at_call 83; refine (HS.out _ HB.out).mono ?_; rintro e w3 ⟨rfl, hb3⟩; replace HB := Hid.mk9 (below2 HB.out hb3); clear hb3))
    go_returns
    exact tot_yes HT.out HB.out
  by_cases h2 : kind = 2
  · subst h2
    rw [show fewP 2 = 1 from rfl] at HF
    clear h1
    by_cases h0 : len = 0
    · have HT : Hid (totP 2 ls = none) := by show _ = _; unfold totP; rw [hl]; simp [h0]
      generalize totP 2 ls = o at *
      subst h0
      go_enter Tryz.func56, Tryz.ntmps56
      go_wp2_with (first
      | (go_at_call 53; refine HC.out.mono ?_; rintro e w1 ⟨rfl, hb1⟩; have HB := Hid.mk9 hb1; clear hb1)
      | (go_at_call 82; refine (HF.out _).mono ?_; rintro e w2 ⟨rfl, hg2⟩; replace HB := Hid.mk9 (below2 HB.out (grown_below hg2)); clear hg2))
      go_returns
      exact tot_no HT.out HB.out
    · have HT : Hid (totP 2 ls = some (minN ls (len - 1))) := by show _ = _; unfold totP; rw [hl]; simp [h0]
      generalize totP 2 ls = o at *
      have HS : Hid (∀ W, Below w.heap.size w W → Calls Tryz.prog 84 #[.slice a len cap, .func (.func 85) #[] #[]] W fun e w' => BestPost (minN ls (len - 1)) W e w') := fun W hb => minFunc_any a len cap ls W (HL.out.below hb) (by omega) hm
      generalize minN ls (len - 1) = s at *
      have hl1 : ¬ (len : Int) < 1 := by omega
      have hl2 : decide ((len : Int) < 1) = false := decide_eq_false hl1
      have hfd : ∀ (x : Int) (w : World), (Instr.field 27 (.agg #[.int .i64 x, .int .i64 s]) 1).run Tryz.prog w = .ok (.int .i64 s) w := fun _ _ => by kernel_rfl
      clear hl1
      go_enter Tryz.func56, Tryz.ntmps56
      go_wp2_with (first
      | (go_at_call 53; refine HC.out.mono ?_; rintro e w1 ⟨rfl, hb1⟩; have HB := Hid.mk9 hb1; clear hb1)
      | (go_at_call 82; refine (HF.out _).mono ?_; rintro e w2 ⟨rfl, hg2⟩; replace HB := Hid.mk9 (below2 HB.out (grown_below hg2)); clear hg2)
      | (go_at_call 84; refine (HS.out _ HB.out).mono ?_; rintro e w3 ⟨hb3, x3, rfl⟩; replace HB := Hid.mk9 (below2 HB.out hb3); clear hb3))
      go_returns
      exact tot_yes HT.out HB.out
  by_cases h3 : kind = 3
  · subst h3
    rw [show fewP 3 = 1 from rfl] at HF
    clear h1 h2
    by_cases h0 : len = 0
    · have HT : Hid (totP 3 ls = none) := by show _ = _; unfold totP; rw [hl]; simp [h0]
      generalize totP 3 ls = o at *
      subst h0
      go_enter Tryz.func56, Tryz.ntmps56
      go_wp2_with (first
      | (go_at_call 53; refine HC.out.mono ?_; rintro e w1 ⟨rfl, hb1⟩; have HB := Hid.mk9 hb1; clear hb1)
      | (go_at_call 82; refine (HF.out _).mono ?_; rintro e w2 ⟨rfl, hg2⟩; replace HB := Hid.mk9 (below2 HB.out (grown_below hg2)); clear hg2))
      go_returns
      exact tot_no HT.out HB.out
    · have HT : Hid (totP 3 ls = some (maxN ls (len - 1))) := by show _ = _; unfold totP; rw [hl]; simp [h0]
      generalize totP 3 ls = o at *
      have HS : Hid (∀ W, Below w.heap.size w W → Calls Tryz.prog 86 #[.slice a len cap, .func (.func 85) #[] #[]] W fun e w' => BestPost (maxN ls (len - 1)) W e w') := fun W hb => maxFunc_any a len cap ls W (HL.out.below hb) (by omega) hm
      generalize maxN ls (len - 1) = s at *
      have hl1 : ¬ (len : Int) < 1 := by omega
      have hl2 : decide ((len : Int) < 1) = false := decide_eq_false hl1
      have hfd : ∀ (x : Int) (w : World), (Instr.field 27 (.agg #[.int .i64 x, .int .i64 s]) 1).run Tryz.prog w = .ok (.int .i64 s) w := fun _ _ => by kernel_rfl
      clear hl1
      go_enter Tryz.func56, Tryz.ntmps56
      go_wp2_with (first
      | (go_at_call 53; refine HC.out.mono ?_; rintro e w1 ⟨rfl, hb1⟩; have HB := Hid.mk9 hb1; clear hb1)
      | (go_at_call 82; refine (HF.out _).mono ?_; rintro e w2 ⟨rfl, hg2⟩; replace HB := Hid.mk9 (below2 HB.out (grown_below hg2)); clear hg2)
      | (go_at_call 86; refine (HS.out _ HB.out).mono ?_; rintro e w3 ⟨hb3, x3, rfl⟩; replace HB := Hid.mk9 (below2 HB.out hb3); clear hb3))
      go_returns
      exact tot_yes HT.out HB.out
  by_cases h4 : kind = 4
  · subst h4
    rw [show fewP 4 = 0 from rfl] at HF
    clear h1 h2 h3
    have HT : Hid (totP 4 ls = some (len : Int)) := by show _ = _; unfold totP; rw [hl]; simp
    generalize totP 4 ls = o at *
    go_enter Tryz.func56, Tryz.ntmps56
    go_wp2_with (first
      | (go_at_call 53; refine HC.out.mono ?_; rintro e w1 ⟨rfl, hb1⟩; have HB := Hid.mk9 hb1; clear hb1)
      | (go_at_call 82; refine (HF.out _).mono ?_; rintro e w2 ⟨rfl, hg2⟩; replace HB := Hid.mk9 (below2 HB.out (grown_below hg2)); clear hg2))
    go_returns
    exact tot_yes HT.out HB.out
  by_cases h5 : kind = 5
  · subst h5
    rw [show fewP 5 = 2 from rfl] at HF
    clear h1 h2 h3 h4
    by_cases h0 : len < 2
    · have HT : Hid (totP 5 ls = none) := by show _ = _; unfold totP; rw [hl]; simp [h0]
      generalize totP 5 ls = o at *
      have hl2 : decide ((len : Int) < 2) = true := by simp; omega
      go_enter Tryz.func56, Tryz.ntmps56
      go_wp2_with (first
      | (go_at_call 53; refine HC.out.mono ?_; rintro e w1 ⟨rfl, hb1⟩; have HB := Hid.mk9 hb1; clear hb1)
      | (go_at_call 82; refine (HF.out _).mono ?_; rintro e w2 ⟨rfl, hg2⟩; replace HB := Hid.mk9 (below2 HB.out (grown_below hg2)); clear hg2))
      go_returns
      exact tot_no HT.out HB.out
    · have HT : Hid (totP 5 ls = some (rateP ls)) := by show _ = _; unfold totP; rw [hl]; simp [h0]
      generalize totP 5 ls = o at *
      have HS : Hid (∀ W, Below w.heap.size w W → Calls Tryz.prog 87 #[.slice a len cap] W fun e w' => IntPost (rateP ls) W e w') := fun W hb => rate_any a len cap ls W (HL.out.below hb) HM.out (by omega)
      generalize rateP ls = s at *
      have hl2 : decide ((len : Int) < 2) = false := by simp; omega
      go_enter Tryz.func56, Tryz.ntmps56
      go_wp2_with (first
      | (go_at_call 53; refine HC.out.mono ?_; rintro e w1 ⟨rfl, hb1⟩; have HB := Hid.mk9 hb1; clear hb1)
      | (go_at_call 82; refine (HF.out _).mono ?_; rintro e w2 ⟨rfl, hg2⟩; replace HB := Hid.mk9 (below2 HB.out (grown_below hg2)); clear hg2)
      | (go_at_call 87; refine (HS.out _ HB.out).mono ?_; rintro e w3 ⟨rfl, hb3⟩; replace HB := Hid.mk9 (below2 HB.out hb3); clear hb3))
      go_returns
      exact tot_yes HT.out HB.out
  have HT : Hid (totP kind ls = none) := by show _ = _; unfold totP; rw [if_neg h1, if_neg h4, if_neg h2, if_neg h3, if_neg h5]
  generalize totP kind ls = o at *
  rw [show fewP kind = 0 from by unfold fewP; rw [if_neg h2, if_neg h3, if_neg h5]] at HF
  have d1 : (kind == 1) = false := by simp [h1]
  have d2 : (kind == 2) = false := by simp [h2]
  have d3 : (kind == 3) = false := by simp [h3]
  have d4 : (kind == 4) = false := by simp [h4]
  have d5 : (kind == 5) = false := by simp [h5]
  clear h1 h2 h3 h4 h5
  go_enter Tryz.func56, Tryz.ntmps56
  go_wp2_with (first
      | (go_at_call 53; refine HC.out.mono ?_; rintro e w1 ⟨rfl, hb1⟩; have HB := Hid.mk9 hb1; clear hb1)
      | (go_at_call 82; refine (HF.out _).mono ?_; rintro e w2 ⟨rfl, hg2⟩; replace HB := Hid.mk9 (below2 HB.out (grown_below hg2)); clear hg2))
  go_returns
  exact tot_no HT.out HB.out
end Go.Proofs.YtihohcmocejijaaGreat.Bk
