/-
  The contract of the answer's May: which samples may be.
-/
import Derived.Test.YtcdlkdbnlomghaaDoorBkB
namespace Go.Proofs.YtcdlkdbnlomghaaDoor.Bk
open Go.ChangeShapes Go.WideShapes Go.ChangeAt Go.RowKit
set_option maxHeartbeats 2000000 in
set_option maxRecDepth 60000 in
theorem refMay_any (a : Option Addr) (len cap : Nat) (ls : List Sm) (w : World) (h : SmsAt w a len cap ls) :
    Calls Tryd.prog 11 #[.slice a len cap] w fun e w' => BoolPost (MayS ls) w e w' := by
  have hl : ls.length = len := h.1
  have hm : len ≤ maxLen := Nat.le_trans h.2.1 h.2.2.1
  unfold maxLen at hm
  have HL : Hid (SmsAt w a len cap ls) := h
  clear h
  go_enter Tryd.func11, Tryd.ntmps11
  go_wp2_with fail
  go_loopw [3] (fun i wr => ∃ k : Nat, k ≤ len ∧ i = .int .i64 k ∧ Hid (∀ j, j < k → OkS ls j) ∧ Below w.heap.size w wr) (fun i _ => len - (intOf i).toNat)
  case atStart => exact ⟨0, Nat.zero_le _, rfl, (fun j hj => absurd hj (Nat.not_lt_zero _)), Below.refl _ _⟩
  case round =>
    obtain ⟨k, hk, rfl, hT, hbel⟩ := hrel
    by_cases hlt : k < len
    · obtain ⟨b, off, rfl, hbs, hcell⟩ := (HL.out.below hbel).some (by omega)
      obtain ⟨e0, e1⟩ := hcell k hlt
      have hk1 : (k : Int) < (len : Int) := by omega
      have hk0' : (0 : Int) ≤ (k : Int) := by omega
      have HPV : Hid (0 < k → wr.cell? ⟨b, off + (k - 1) * 2, none⟩ = some (.int .i64 (ls.getD (k - 1) sm0).1)) := fun h => (hcell (k - 1) (by omega)).1
      clear hcell
      have HOK : Hid (OkS ls k ↔ InS (ls.getD k sm0) ∧ (0 < k → (ls.getD (k - 1) sm0).1 < (ls.getD k sm0).1)) := Iff.rfl
      have HNO : Hid (¬ OkS ls k → ¬ MayS ls) := fun hn hM => hn (hM.2 k (by omega))
      have HYES : Hid (OkS ls k → ∀ j, j < k + 1 → OkS ls j) := fun h j hj => by
        rcases Nat.lt_succ_iff_lt_or_eq.1 hj with h' | rfl
        · exact hT.out j h'
        · exact h
      have HB1 : Hid (∀ n os, Below w.heap.size w (Go.Sort.grow (wr.drewN n) os)) := fun n os => below2 hbel (below_grow _ _ _)
      generalize ls.getD k sm0 = x at *
      obtain ⟨c1, c2⟩ := x
      have x0 := cell_grown (a := ⟨b, off + k * 2, none⟩) hbs e0
      have x1 := cell_grown (a := ⟨b, off + k * 2 + 1, none⟩) hbs e1
      clear hT
      have HNI : Hid (¬ InS (c1, c2) → ¬ MayS ls) := fun h => HNO.out fun h' => h (HOK.out.1 h').1
      by_cases q1 : c1 < 0
      · have HN : Hid (¬ MayS ls) := HNI.out fun h => by have := h.1; simp only at this; omega
        clear HNO HOK HYES HPV HNI
        go_wp2_with fail
        refine wp_region_QW mixed5 (by kernel_rfl) ?_
        repeat (refine QW_step (fun K hK => ?_); go_simp; first | (refine hK _ ?_; clear hK K) | (apply Exists.intro; refine ⟨fun _ => ?_, hK _ ?_⟩; fail; clear hK K))
        refine QW_nil ?_
        intro _ hw9
        obtain ⟨⟨nq, osq⟩, hw8⟩ := hw9
        subst hw8
        have hb := HB1.out nq osq
        go_wp2_with fail
        go_ret
        exact bool_no hb HN.out
      by_cases q2 : 1099511627776 < c1
      · have HN : Hid (¬ MayS ls) := HNI.out fun h => by have := h.2.1; simp only at this; omega
        clear HNO HOK HYES HPV HNI
        go_wp2_with fail
        refine wp_region_QW mixed5 (by kernel_rfl) ?_
        repeat (refine QW_step (fun K hK => ?_); go_simp; first | (refine hK _ ?_; clear hK K) | (apply Exists.intro; refine ⟨fun _ => ?_, hK _ ?_⟩; fail; clear hK K))
        refine QW_nil ?_
        intro _ hw9
        obtain ⟨⟨nq, osq⟩, hw8⟩ := hw9
        subst hw8
        have hb := HB1.out nq osq
        go_wp2_with fail
        go_ret
        exact bool_no hb HN.out
      by_cases q3 : c2 < -1099511627776
      · have HN : Hid (¬ MayS ls) := HNI.out fun h => by have := h.2.2.1; simp only at this; omega
        clear HNO HOK HYES HPV HNI
        go_wp2_with fail
        refine wp_region_QW mixed5 (by kernel_rfl) ?_
        repeat (refine QW_step (fun K hK => ?_); go_simp; first | (refine hK _ ?_; clear hK K) | (apply Exists.intro; refine ⟨fun _ => ?_, hK _ ?_⟩; fail; clear hK K))
        refine QW_nil ?_
        intro _ hw9
        obtain ⟨⟨nq, osq⟩, hw8⟩ := hw9
        subst hw8
        have hb := HB1.out nq osq
        go_wp2_with fail
        go_ret
        exact bool_no hb HN.out
      by_cases q4 : 1099511627776 < c2
      · have HN : Hid (¬ MayS ls) := HNI.out fun h => by have := h.2.2.2; simp only at this; omega
        clear HNO HOK HYES HPV HNI
        go_wp2_with fail
        refine wp_region_QW mixed5 (by kernel_rfl) ?_
        repeat (refine QW_step (fun K hK => ?_); go_simp; first | (refine hK _ ?_; clear hK K) | (apply Exists.intro; refine ⟨fun _ => ?_, hK _ ?_⟩; fail; clear hK K))
        refine QW_nil ?_
        intro _ hw9
        obtain ⟨⟨nq, osq⟩, hw8⟩ := hw9
        subst hw8
        have hb := HB1.out nq osq
        go_wp2_with fail
        go_ret
        exact bool_no hb HN.out
      have HIN : Hid (InS (c1, c2)) := ⟨by show 0 ≤ c1; omega, by show c1 ≤ 1099511627776; omega, by show -1099511627776 ≤ c2; omega, by show c2 ≤ 1099511627776; omega⟩
      by_cases hk0 : k = 0
      · have HY : Hid (∀ j, j < k + 1 → OkS ls j) := HYES.out (HOK.out.2 ⟨HIN.out, fun h => absurd h (by omega)⟩)
        have hkz : decide (0 < k) = false := by simp; omega
        clear hk0 HNO HOK HYES HPV HNI HIN
        go_wp2_with fail
        refine wp_region_QW mixed5 (by kernel_rfl) ?_
        repeat (refine QW_step (fun K hK => ?_); go_simp; first | (refine hK _ ?_; clear hK K) | (apply Exists.intro; refine ⟨fun _ => ?_, hK _ ?_⟩; fail; clear hK K))
        refine QW_nil ?_
        intro _ hw9
        obtain ⟨⟨nq, osq⟩, hw8⟩ := hw9
        subst hw8
        have hb := HB1.out nq osq
        go_wp2_with fail
        exact ⟨⟨k + 1, by omega, by go_num, HY, hb⟩, by simp [intOf]; omega⟩
      · obtain ⟨m, hmk⟩ : ∃ m, k = m + 1 := ⟨k - 1, by omega⟩
        have ep : wr.cell? ⟨b, off + m * 2, none⟩ = some (.int .i64 (ls.getD m sm0).1) := by have := HPV.out (by omega); rw [hmk] at this; exact this
        have em : IntKind.i64.wrap ((k : Int) - 1) = (m : Int) := by
          rw [show (k : Int) - 1 = (m : Int) from by omega]; simp [IntKind.wrap, IntKind.bits, IntKind.signed]; omega
        have em0 : (0 : Int) ≤ (m : Int) := by omega
        have em1 : (m : Int) < (len : Int) := by omega
        have ek0 : decide (0 < k) = true := by simp; omega
        have HOK2 : Hid (OkS ls k ↔ (ls.getD m sm0).1 < c1) := by
          have em2 : k - 1 = m := by omega
          have := HOK.out
          rw [em2] at this
          exact ⟨fun h => (this.1 h).2 (by omega), fun h => this.2 ⟨HIN.out, fun _ => h⟩⟩
        have x2 := cell_grown (a := ⟨b, off + m * 2, none⟩) hbs ep
        clear HOK HPV hmk hk0 ep HNI HIN
        generalize (ls.getD m sm0).1 = y at *
        by_cases hy : y < c1
        · have HY : Hid (∀ j, j < k + 1 → OkS ls j) := HYES.out (HOK2.out.2 hy)
          have hd : decide (c1 ≤ y) = false := by simp; omega
          clear HNO HOK2 HYES
          go_wp2_with fail
          refine wp_region_QW mixed5 (by kernel_rfl) ?_
          repeat (refine QW_step (fun K hK => ?_); go_simp; first | (refine hK _ ?_; clear hK K) | (apply Exists.intro; refine ⟨fun _ => ?_, hK _ ?_⟩; fail; clear hK K))
          refine QW_nil ?_
          intro _ hw9
          obtain ⟨⟨nq, osq⟩, hw8⟩ := hw9
          subst hw8
          have hb := HB1.out nq osq
          go_wp2_with fail
          exact ⟨⟨k + 1, by omega, by go_num, HY, hb⟩, by simp [intOf]; omega⟩
        · have HN : Hid (¬ MayS ls) := HNO.out fun h => hy (HOK2.out.1 h)
          have hd : decide (c1 ≤ y) = true := by simp; omega
          clear HNO HOK2 HYES
          go_wp2_with fail
          refine wp_region_QW mixed5 (by kernel_rfl) ?_
          repeat (refine QW_step (fun K hK => ?_); go_simp; first | (refine hK _ ?_; clear hK K) | (apply Exists.intro; refine ⟨fun _ => ?_, hK _ ?_⟩; fail; clear hK K))
          refine QW_nil ?_
          intro _ hw9
          obtain ⟨⟨nq, osq⟩, hw8⟩ := hw9
          subst hw8
          have hb := HB1.out nq osq
          go_wp2_with fail
          go_ret
          exact bool_no hb HN.out
    · obtain rfl : k = len := by omega
      by_cases h64 : (k : Int) ≤ 64
      · have HM : Hid (MayS ls) := ⟨by omega, fun i hi => hT.out i (by omega)⟩
        clear hT HL
        go_wp2_with fail
        go_ret
        exact bool_yes hbel HM.out
      · have HM : Hid (¬ MayS ls) := fun h => by have := h.1; omega
        have h64' : decide ((k : Int) ≤ 64) = false := decide_eq_false h64
        clear hT HL
        go_wp2_with fail
        go_ret
        exact bool_no hbel HM.out
end Go.Proofs.YtcdlkdbnlomghaaDoor.Bk
