/-
  The contract of rate.
-/
import Derived.Test.YthdeemaanndggaaToA
namespace Go.Proofs.Ythdeemaanndggaa.Bk
open Go.ChangeShapes Go.WideShapes Go.ChangeAt Go.RowKit
theorem sorted_ends {ls : List Sm} (h : MayS ls) : ∀ k, k + 1 < ls.length → (ls.getD 0 sm0).1 < (ls.getD (k + 1) sm0).1 := by
  intro k
  induction k with
  | zero => intro hk; exact (h.2 1 hk).2 (by omega)
  | succ k ih =>
    intro hk
    have h1 := ih (by omega)
    have h2 := (h.2 (k + 1 + 1) hk).2 (by omega)
    simp only [Nat.add_sub_cancel] at h2
    omega
set_option maxHeartbeats 1000000 in
set_option maxRecDepth 60000 in
theorem rate_any (a : Option Addr) (len cap : Nat) (ls : List Sm) (w : World) (h : SmsAt w a len cap ls) (hM : MayS ls) (h2 : 2 ≤ len) :
    Calls Try.prog 17 #[.slice a len cap] w fun e w' => IntPost (rateP ls) w e w' := by
  have hl : ls.length = len := h.1
  have h64 : ls.length ≤ 64 := hM.1
  have hm : (len : Int) ≤ 64 := by omega
  have h2' : (2 : Int) ≤ (len : Int) := by omega
  have HL : Hid (SmsAt w a len cap ls) := h
  have HM := Hid.mk9 hM
  have HI : Hid (∀ k, k < len → 0 ≤ growN ls k ∧ growN ls k ≤ 2199023255552 * (k : Int)) := fun k hk => growN_in hM k (by omega)
  have HV : Hid (∀ k, k < len → -1099511627776 ≤ vAt ls k ∧ vAt ls k ≤ 1099511627776) := fun k hk => vAt_in hM (by omega)
  have HRT : Hid (rateP ls = IntKind.i64.wrap (Int.tdiv (growN ls (len - 1) * 60) ((ls.getD (len - 1) sm0).1 - (ls.getD 0 sm0).1))) := by show _ = _; unfold rateP; rw [hl]
  generalize rateP ls = rt at *
  clear h hM h64
  go_enter Try.func17, Try.ntmps17
  go_wp2_with fail
  go_loopw [3, 4] (fun s i wr => ∃ (k : Nat) (x : Int), k + 1 ≤ len ∧ i = .int .i64 ((k : Int) + 1) ∧ s = .int .i64 x ∧ Hid (x = growN ls k) ∧ Below w.heap.size w wr) (fun _ i _ => len - (intOf i).toNat)
  case atStart => exact ⟨0, 0, by omega, rfl, rfl, rfl, Below.refl _ _⟩
  case round =>
    obtain ⟨k, x, hk, rfl, rfl, hT, hbel⟩ := hrel
    by_cases hlt : k + 1 < len
    · obtain ⟨b, off, rfl, hbs, hcell⟩ := (HL.out.below hbel).some (by omega)
      obtain ⟨-, e0⟩ := hcell k (by omega)
      obtain ⟨-, e1⟩ := hcell (k + 1) hlt
      clear hcell
      have hk1 : (k : Int) + 1 < (len : Int) := by omega
      have hk0 : (0 : Int) ≤ (k : Int) + 1 := by omega
      have hk2 : (k : Int) < (len : Int) := by omega
      have hk3 : (0 : Int) ≤ (k : Int) := by omega
      have hkn : ((k : Int) + 1).toNat = k + 1 := by omega
      have hkw : IntKind.i64.wrap ((k : Int) + 1) = (k : Int) + 1 := by rw [IntKind.wrap_i64]; omega
      have hkm : IntKind.i64.wrap (k : Int) = (k : Int) := by rw [IntKind.wrap_i64]; omega
      have HN : Hid (x + gr (ls.getD k sm0).2 (ls.getD (k + 1) sm0).2 = growN ls (k + 1)) := by show _ = _; rw [hT.out]; rfl
      have hx := HI.out k (by omega)
      rw [← hT.out] at hx
      have hv : -1099511627776 ≤ (ls.getD k sm0).2 ∧ (ls.getD k sm0).2 ≤ 1099511627776 := HV.out k (by omega)
      have hv' : -1099511627776 ≤ (ls.getD (k + 1) sm0).2 ∧ (ls.getD (k + 1) sm0).2 ≤ 1099511627776 := HV.out (k + 1) hlt
      generalize (ls.getD k sm0).2 = c at *
      generalize (ls.getD (k + 1) sm0).2 = d at *
      have hg := gr_in hv hv'
      have HC : Hid (∀ W, Calls Try.prog 21 #[.int .i64 c, .int .i64 d] W fun e w' => e = .returned (.int .i64 (gr c d)) ∧ Grown W w') := fun W => growth_any c d W hv hv'
      generalize gr c d = g at *
      have hw : IntKind.i64.wrap (x + g) = x + g := by rw [IntKind.wrap_i64]; omega
      have y0 := cell_grown (a := ⟨b, off + k * 2 + 1, none⟩) hbs e0
      have y1 := cell_grown (a := ⟨b, off + (k + 1) * 2 + 1, none⟩) hbs e1
      have HB : Hid (∀ n os, Below w.heap.size w (Go.Sort.grow (wr.drewN n) os)) := fun n os => below2 hbel (below_grow _ _ _)
      clear hx hv hv' hg hT e0 e1
      go_wp2_with fail
      refine wp_region_QW mixed5 (by kernel_rfl) ?_
      repeat (refine QW_step (fun K hK => ?_); go_simp; first | (refine hK _ ?_; clear hK K) | (apply Exists.intro; refine ⟨fun _ => ?_, hK _ ?_⟩; (go_at_call 21; refine Calls.grown_of (HC.out _)); clear hK K))
      refine QW_nil ?_
      intro _ hw9
      obtain ⟨⟨nq, osq⟩, hw8⟩ := hw9
      subst hw8
      have hb := HB.out nq osq
      go_wp2_with fail
      exact ⟨⟨k + 1, x + g, by omega, by go_num, rfl, HN, hb⟩, by simp [intOf]; omega⟩
    · obtain ⟨m, hm1⟩ : ∃ m, len = m + 1 := ⟨len - 1, by omega⟩
      obtain rfl : k = m := by omega
      have hltz : ¬ (k : Int) + 1 < (len : Int) := by omega
      obtain ⟨b, off, rfl, hbs, hcell⟩ := (HL.out.below hbel).some (by omega)
      obtain ⟨e0, -⟩ := hcell 0 (by omega)
      obtain ⟨e1, -⟩ := hcell k (by omega)
      clear hcell
      rw [Nat.zero_mul, Nat.add_zero] at e0
      have hx := HI.out k (by omega)
      rw [← hT.out] at hx
      have HEE := HRT.out
      rw [show len - 1 = k from by omega, ← hT.out] at HEE
      replace HEE := Hid.mk9 HEE
      have ht : (ls.getD 0 sm0).1 < (ls.getD k sm0).1 := by
        have := sorted_ends HM.out (k - 1) (by omega)
        rwa [show k - 1 + 1 = k from by omega] at this
      have hi0 : 0 ≤ (ls.getD 0 sm0).1 := ((HM.out.2 0 (by omega)).1).1
      have hi1 : (ls.getD k sm0).1 ≤ 1099511627776 := ((HM.out.2 k (by omega)).1).2.1
      generalize (ls.getD 0 sm0).1 = p at *
      generalize (ls.getD k sm0).1 = q at *
      have hk64 : (k : Int) ≤ 64 := by omega
      have hkl : IntKind.i64.wrap ((len : Int) - 1) = (k : Int) := by rw [IntKind.wrap_i64]; omega
      have hk2 : (k : Int) < (len : Int) := by omega
      have hk3 : (0 : Int) ≤ (k : Int) := by omega
      have hl0 : 0 < len := by omega
      have w1 : IntKind.i64.wrap (x * 60) = x * 60 := by rw [IntKind.wrap_i64]; omega
      have w2 : IntKind.i64.wrap (q - p) = q - p := by rw [IntKind.wrap_i64]; omega
      have w0 : ¬ q - p = 0 := by omega
      have y0 := cell_grown (a := ⟨b, off, none⟩) hbs e0
      have y1 := cell_grown (a := ⟨b, off + k * 2, none⟩) hbs e1
      have HB : Hid (∀ n os, Below w.heap.size w (Go.Sort.grow (wr.drewN n) os)) := fun n os => below2 hbel (below_grow _ _ _)
      have HXX := Hid.mk9 hx
      have HPQ := Hid.mk9 ht
      clear hT HL e0 e1 hm1 HI HV HRT hx ht hi0 hi1
      go_wp2_with fail
      refine wp_region_QW mixed5 (by kernel_rfl) ?_
      repeat (refine QW_step (fun K hK => ?_); go_simp; refine hK _ ?_; clear hK K)
      refine QW_nil ?_
      intro _ hw9
      obtain ⟨⟨nq, osq⟩, hw8⟩ := hw9
      subst hw8
      have hb := HB.out nq osq
      go_wp2_with fail
      go_ret
      exact ⟨ret_int HEE.out.symm, hb⟩
end Go.Proofs.Ythdeemaanndggaa.Bk
