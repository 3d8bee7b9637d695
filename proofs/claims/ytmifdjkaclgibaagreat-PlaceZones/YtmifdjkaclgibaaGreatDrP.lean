/-
  The contract of the answer's Best.
-/
import Derived.Test.YtmifdjkaclgibaaGreatDrO
namespace Go.Proofs.YtmifdjkaclgibaaGreat.Dr
open Go.ChangeShapes Go.WideShapes Go.ChangeAt Go.RowKit
theorem best_take {cost : Int → Int} {ls : List Ch} {k : Nat} (h : k < ls.length) : bestC cost (ls.take (k + 1)) = stepC cost (bestC cost (ls.take k)) (ls.getD k ch0) := by
  rw [List.take_succ_eq_append_getElem h, getD_get h]
  unfold bestC
  rw [List.foldl_append, List.foldl_cons, List.foldl_nil]
/-- where the best one so far stands -/
def AtIs (cost : Int → Int) (ls : List Ch) (k : Nat) (z : Int) : Prop := (z = -1 ∧ bestC cost (ls.take k) = none) ∨ ∃ j : Nat, j < k ∧ z = j ∧ bestC cost (ls.take k) = some (ls.getD j ch0)
/-- weights that fit -/
def FitC (ls : List Ch) : Prop := ls.length ≤ 64 ∧ ∀ c ∈ ls, 0 ≤ c.2 ∧ c.2 ≤ 65536
theorem FitC.at {ls : List Ch} (h : FitC ls) {i : Nat} (hi : i < ls.length) : 0 ≤ (ls.getD i ch0).2 ∧ (ls.getD i ch0).2 ≤ 65536 := by
  rw [getD_get hi]
  exact h.2 _ (List.getElem_mem hi)
theorem prod_fits {p x : Int} (hp : 0 ≤ p ∧ p < 1114112) (hx : 0 ≤ x ∧ x ≤ 65536) : IntKind.i64.wrap (p * x) = p * x ∧ wrap64 (p * x) = p * x := by
  have h1 : 0 ≤ p * x := Int.mul_nonneg hp.1 hx.1
  have h2 : p * x ≤ 1114112 * 65536 := Int.mul_le_mul (by omega) hx.2 hx.1 (by omega)
  refine ⟨by rw [IntKind.wrap_i64]; omega, by unfold wrap64; omega⟩
def PairPost (r : Option Ch) (w : World) (e : Ending) (w' : World) : Prop := Below w.heap.size w w' ∧ e = .returned (.tuple #[.int .i64 (idO r), .bool (isO r)])
set_option maxHeartbeats 2000000 in
set_option maxRecDepth 60000 in
theorem refBest_any (key : Nat) (a : Option Addr) (len cap : Nat) (ls : List Ch) (w : World) (hkey : key < 18446744073709551616) (h : ChsAt w a len cap ls) (hF : FitC ls) :
    Calls Tryz.prog 35 #[.int .u64 (key : Int), .slice a len cap] w fun e w' => PairPost (bestC (costOf key) ls) w e w' := by
  have hl : ls.length = len := h.1
  have h64 : (len : Int) ≤ 64 := by have := hF.1; omega
  have HL : Hid (ChsAt w a len cap ls) := h
  have HF : Hid (FitC ls) := hF
  have HC : Hid (∀ i W, Calls Tryz.prog 49 #[.int .u64 (key : Int), .int .i64 i] W fun e w' => e = .returned (.int .i64 (costOf key i)) ∧ Grown W w') := fun i W => refCost5_any key i W hkey
  clear h hF hkey
  go_enter Tryz.func35, Tryz.ntmps35
  go_wp2_with fail
  go_loopw [6, 7] (fun s i wr => ∃ (k : Nat) (z : Int), k ≤ len ∧ s = .int .i64 z ∧ i = .int .i64 k ∧ Hid (AtIs (costOf key) ls k z) ∧ Below w.heap.size w wr) (fun _ i _ => len - (intOf i).toNat)
  case atStart => exact ⟨0, -1, Nat.zero_le _, rfl, rfl, .inl ⟨rfl, rfl⟩, Below.refl _ _⟩
  case round =>
    obtain ⟨k, z, hk, rfl, rfl, hT, hbel⟩ := hrel
    by_cases hlt : k < len
    · obtain ⟨b, off, rfl, hbs, hcell⟩ := (HL.out.below hbel).some (by omega)
      obtain ⟨e0, e1⟩ := hcell k hlt
      have hk1 : (k : Int) < (len : Int) := by omega
      have hk0 : (0 : Int) ≤ (k : Int) := by omega
      have HST := best_take (cost := costOf key) (ls := ls) (k := k) (by omega)
      have hc2 := HF.out.at (i := k) (by omega)
      have HB1 : Hid (∀ n os, Below w.heap.size w (Go.Sort.grow (wr.drewN n) os)) := fun n os => below2 hbel (below_grow _ _ _)
      have HNEW : Hid (bestC (costOf key) (ls.take (k + 1)) = some (ls.getD k ch0) → AtIs (costOf key) ls (k + 1) k) := fun h => .inr ⟨k, by omega, rfl, h⟩
      generalize hx : ls.getD k ch0 = x at *
      obtain ⟨c1, c2⟩ := x
      have x0 := cell_grown (a := ⟨b, off + k * 2, none⟩) hbs e0
      have x1 := cell_grown (a := ⟨b, off + k * 2 + 1, none⟩) hbs e1
      clear hx
      by_cases hz0 : c2 = 0
      · have HY : Hid (AtIs (costOf key) ls (k + 1) z) := by
          have hst : bestC (costOf key) (ls.take (k + 1)) = bestC (costOf key) (ls.take k) := HST.trans (stepC_zero _ hz0)
          rcases hT.out with ⟨h1, h2⟩ | ⟨j, h1, h2, h3⟩
          · exact .inl ⟨h1, hst.trans h2⟩
          · exact .inr ⟨j, by omega, h2, hst.trans h3⟩
        subst hz0
        clear hT HST hcell HNEW x0 x1 hc2
        go_wp2_with fail
        exact ⟨⟨k + 1, z, by omega, rfl, by go_num, HY, hbel⟩, by simp [intOf]; omega⟩
      · have hd0 : (c2 == 0) = false := beq_eq_false_iff_ne.2 hz0
        rcases hT.out with ⟨hz, hb⟩ | ⟨j, hj, hz, hb⟩
        · subst hz
          have HY : Hid (AtIs (costOf key) ls (k + 1) k) := HNEW.out (by rw [HST, hb, stepC_none _ hz0])
          clear hT HST hcell HNEW hb hc2
          go_wp2_with fail
          refine wp_region_QW mixed5 (by kernel_rfl) ?_
          repeat (refine QW_step (fun K hK => ?_); go_simp; first | (refine hK _ ?_; clear hK K) | (apply Exists.intro; refine ⟨fun _ => ?_, hK _ ?_⟩; (go_at_call 49; refine Calls.grown_of (HC.out _ _)); clear hK K))
          refine QW_nil ?_
          intro _ hw9
          obtain ⟨⟨nq, osq⟩, hw8⟩ := hw9
          subst hw8
          have hbe := HB1.out nq osq
          go_wp2_with fail
          exact ⟨⟨k + 1, k, by omega, rfl, by go_num, HY, hbe⟩, by simp [intOf]; omega⟩
        · subst hz
          obtain ⟨g0, g1⟩ := hcell j (by omega)
          have hm := HF.out.at (i := j) (by omega)
          have HOLD : Hid (bestC (costOf key) (ls.take (k + 1)) = some (ls.getD j ch0) → AtIs (costOf key) ls (k + 1) j) := fun h => .inr ⟨j, by omega, rfl, h⟩
          have hj1 : (j : Int) < (len : Int) := by omega
          have hj0 : (0 : Int) ≤ (j : Int) := by omega
          have hj2 : decide ((j : Int) < 0) = false := by simp
          generalize ls.getD j ch0 = y at *
          obtain ⟨m1, m2⟩ := y
          have y0 := cell_grown (a := ⟨b, off + j * 2, none⟩) hbs g0
          have y1 := cell_grown (a := ⟨b, off + j * 2 + 1, none⟩) hbs g1
          obtain ⟨p1, p2⟩ := prod_fits (costOf_bound key c1) hm
          obtain ⟨p3, p4⟩ := prod_fits (costOf_bound key m1) hc2
          simp only at p1 p2 p3 p4
          rw [hb] at HST
          clear hT hcell hb hm hc2 g0 g1
          by_cases hq : costOf key c1 * m2 < costOf key m1 * c2
          · have HY : Hid (AtIs (costOf key) ls (k + 1) k) := HNEW.out (HST.trans (stepC_yes _ hz0 hq))
            clear HST HNEW HOLD
            go_wp2_with fail
            refine wp_region_QW mixed5 (by kernel_rfl) ?_
            repeat (refine QW_step (fun K hK => ?_); go_simp; first | (refine hK _ ?_; clear hK K) | (apply Exists.intro; refine ⟨fun _ => ?_, hK _ ?_⟩; (go_at_call 49; refine Calls.grown_of (HC.out _ _)); clear hK K))
            refine QW_nil ?_
            intro _ hw9
            obtain ⟨⟨nq, osq⟩, hw8⟩ := hw9
            subst hw8
            have hbe := HB1.out nq osq
            go_wp2_with fail
            exact ⟨⟨k + 1, k, by omega, rfl, by go_num, HY, hbe⟩, by simp [intOf]; omega⟩
          · have HY : Hid (AtIs (costOf key) ls (k + 1) j) := HOLD.out (HST.trans (stepC_no _ hz0 hq))
            have hqd : decide (costOf key c1 * m2 < costOf key m1 * c2) = false := decide_eq_false hq
            clear HST HNEW HOLD
            go_wp2_with fail
            refine wp_region_QW mixed5 (by kernel_rfl) ?_
            repeat (refine QW_step (fun K hK => ?_); go_simp; first | (refine hK _ ?_; clear hK K) | (apply Exists.intro; refine ⟨fun _ => ?_, hK _ ?_⟩; (go_at_call 49; refine Calls.grown_of (HC.out _ _)); clear hK K))
            refine QW_nil ?_
            intro _ hw9
            obtain ⟨⟨nq, osq⟩, hw8⟩ := hw9
            subst hw8
            have hbe := HB1.out nq osq
            go_wp2_with fail
            exact ⟨⟨k + 1, j, by omega, rfl, by go_num, HY, hbe⟩, by simp [intOf]; omega⟩
    · obtain rfl : k = len := by omega
      have hT' := hT.out
      unfold AtIs at hT'
      rw [List.take_of_length_le (by omega)] at hT'
      rcases hT' with ⟨hz, hb⟩ | ⟨j, hj, hz, hb⟩
      · subst hz
        have HE : Hid (bestC (costOf key) ls = none) := hb
        clear hT hb
        go_wp2_with fail
        go_returns
        exact ⟨hbel, by rw [HE.out]; rfl⟩
      · subst hz
        obtain ⟨b, off, rfl, hbs, hcell⟩ := (HL.out.below hbel).some (by omega)
        obtain ⟨g0, g1⟩ := hcell j (by omega)
        have hj1 : (j : Int) < (k : Int) := by omega
        have hj0 : (0 : Int) ≤ (j : Int) := by omega
        have hj2 : decide ((j : Int) < 0) = false := by simp
        generalize ls.getD j ch0 = y at *
        obtain ⟨m1, m2⟩ := y
        have HE : Hid (bestC (costOf key) ls = some (m1, m2)) := hb
        clear hT hb hcell
        go_wp2_with fail
        go_returns
        exact ⟨hbel, by rw [HE.out]; rfl⟩
end Go.Proofs.YtmifdjkaclgibaaGreat.Dr
