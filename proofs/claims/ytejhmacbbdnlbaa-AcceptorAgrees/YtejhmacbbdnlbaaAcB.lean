/-
  Ints, deltas and what was accepted, compared: the program's and the answer's.
-/
import Derived.Test.YtejhmacbbdnlbaaAcA
namespace Go.Proofs.Ytejhmacbbdnlbaa.Ac
open Go.ChangeShapes Go.WideShapes Go.ChangeAt Go.RowKit
set_option maxHeartbeats 1000000 in
set_option maxRecDepth 60000 in
theorem eqInts (a b : Option Addr) (la ca lb cb : Nat) (l r : List Int) (w : World) (hl : RowI w a la ca l) (hr : RowI w b lb cb r) :
    Calls Try.prog 35 #[.slice a la ca, .slice b lb cb] w fun e w' => e = .returned (.bool (decide (l = r))) ∧ Grown w w' := by
  have hla := hl.1
  have hlb := hr.1
  have hma : la ≤ maxLen := Nat.le_trans hl.2.1 hl.2.2.1
  unfold maxLen at hma
  have HL : Hid (RowI w a la ca l) := hl
  have HR : Hid (RowI w b lb cb r) := hr
  clear hl hr
  by_cases hn : la = lb
  · subst hn
    have HE : Hid ((∀ j, j < la → l.getD j 0 = r.getD j 0) → decide (l = r) = true) := fun h => by simpa using eq_of_getD hla hlb h
    have HNE : Hid (∀ j, j < la → l.getD j 0 ≠ r.getD j 0 → decide (l = r) = false) := fun j hj h => by
      rw [decide_eq_false_iff_not]
      intro e
      rw [e] at h
      exact h rfl
    generalize decide (l = r) = q at *
    clear hla hlb
    go_enter Try.func35, Try.ntmps35
    go_wp2_with fail
    go_loopw [13] (fun i wr => ∃ k : Nat, k ≤ la ∧ i = .int .i64 k ∧ Grown w wr ∧ Hid (∀ j, j < k → l.getD j 0 = r.getD j 0)) (fun i _ => la - (intOf i).toNat)
    case atStart => exact ⟨0, Nat.zero_le _, rfl, grown_refl _, fun j hj => absurd hj (Nat.not_lt_zero _)⟩
    case round =>
      obtain ⟨k, hk, rfl, hgr, hT⟩ := hrel
      by_cases hlt : k < la
      · have hk1 : (k : Int) < (la : Int) := by omega
        have hk0 : (0 : Int) ≤ (k : Int) := by omega
        obtain ⟨p, po, rfl, hp, hcp⟩ := (HL.out.below (grown_below hgr)).some (by omega)
        obtain ⟨q2, qo, rfl, hq, hcq⟩ := (HR.out.below (grown_below hgr)).some (by omega)
        have x0 := cell_grown (a := ⟨p, po + k, none⟩) hp (hcp k hlt)
        have x1 := cell_grown (a := ⟨q2, qo + k, none⟩) hq (hcq k hlt)
        have HG : Hid (∀ n os, Grown w (Go.Sort.grow (wr.drewN n) os)) := fun n os => grown2 hgr ⟨n, os, rfl⟩
        have HNX : Hid (l.getD k 0 = r.getD k 0 → ∀ j, j < k + 1 → l.getD j 0 = r.getD j 0) := fun h j hj => by
          by_cases e : j = k
          · rw [e]; exact h
          · exact hT.out j (by omega)
        have HNK := HNE.out k hlt
        clear hcp hcq hT
        generalize l.getD k 0 = y at *
        generalize r.getD k 0 = z at *
        by_cases hyz : y = z
        · subst hyz
          have HX : Hid (∀ j, j < k + 1 → l.getD j 0 = r.getD j 0) := HNX.out rfl
          clear HNX HNK
          go_wp2_with fail
          refine wp_region_QW mixed5 (by kernel_rfl) ?_
          repeat (refine QW_step (fun K hK => ?_); go_simp; first | (refine hK _ ?_; clear hK K) | (apply Exists.intro; refine ⟨fun _ => ?_, hK _ ?_⟩; fail; clear hK K))
          refine QW_nil ?_
          intro _ hw9
          obtain ⟨⟨nq, osq⟩, hw8⟩ := hw9
          subst hw8
          have hb := HG.out nq osq
          go_wp2_with fail
          exact ⟨⟨k + 1, by omega, by go_num, hb, HX⟩, by simp [intOf]; omega⟩
        · have hq0 : q = false := HNK hyz
          subst hq0
          have hyd : (y == z) = false := by simpa using hyz
          clear HNX HNK HE HNE
          go_wp2_with fail
          refine wp_region_QW mixed5 (by kernel_rfl) ?_
          repeat (refine QW_step (fun K hK => ?_); go_simp; first | (refine hK _ ?_; clear hK K) | (apply Exists.intro; refine ⟨fun _ => ?_, hK _ ?_⟩; fail; clear hK K))
          refine QW_nil ?_
          intro _ hw9
          obtain ⟨⟨nq, osq⟩, hw8⟩ := hw9
          subst hw8
          have hb := HG.out nq osq
          go_wp2_with fail
          go_ret
          exact ⟨rfl, hb⟩
      · obtain rfl : k = la := by omega
        have hq0 : q = true := HE.out hT.out
        subst hq0
        clear HE HNE hT
        go_wp2_with fail
        go_ret
        exact ⟨rfl, hgr⟩
  · have hq0 : decide (l = r) = false := by
      rw [decide_eq_false_iff_not]
      intro e
      rw [e] at hla
      omega
    rw [hq0]
    have hnd : (la == lb) = false := by simpa using hn
    have hnd' : ((la : Int) == (lb : Int)) = false := beq_eq_false_iff_ne.2 (by omega)
    clear hq0 hla hlb
    go_enter Try.func35, Try.ntmps35
    go_wp2_with fail
    go_ret
    exact ⟨rfl, grown_refl _⟩
set_option maxHeartbeats 1000000 in
set_option maxRecDepth 60000 in
theorem refInts (a b : Option Addr) (la ca lb cb : Nat) (l r : List Int) (w : World) (hl : RowI w a la ca l) (hr : RowI w b lb cb r) :
    Calls Try.prog 34 #[.slice a la ca, .slice b lb cb] w fun e w' => e = .returned (.bool (decide (l = r))) ∧ Grown w w' := by
  have hla := hl.1
  have hlb := hr.1
  have hma : la ≤ maxLen := Nat.le_trans hl.2.1 hl.2.2.1
  unfold maxLen at hma
  have HL : Hid (RowI w a la ca l) := hl
  have HR : Hid (RowI w b lb cb r) := hr
  clear hl hr
  by_cases hn : la = lb
  · subst hn
    have HE : Hid ((∀ j, j < la → l.getD j 0 = r.getD j 0) → decide (l = r) = true) := fun h => by simpa using eq_of_getD hla hlb h
    have HNE : Hid (∀ j, j < la → l.getD j 0 ≠ r.getD j 0 → decide (l = r) = false) := fun j hj h => by
      rw [decide_eq_false_iff_not]
      intro e
      rw [e] at h
      exact h rfl
    generalize decide (l = r) = q at *
    clear hla hlb
    go_enter Try.func34, Try.ntmps34
    go_wp2_with fail
    go_loopw [5] (fun i wr => ∃ k : Nat, k ≤ la ∧ i = .int .i64 k ∧ Grown w wr ∧ Hid (∀ j, j < k → l.getD j 0 = r.getD j 0)) (fun i _ => la - (intOf i).toNat)
    case atStart => exact ⟨0, Nat.zero_le _, rfl, grown_refl _, fun j hj => absurd hj (Nat.not_lt_zero _)⟩
    case round =>
      obtain ⟨k, hk, rfl, hgr, hT⟩ := hrel
      by_cases hlt : k < la
      · have hk1 : (k : Int) < (la : Int) := by omega
        have hk0 : (0 : Int) ≤ (k : Int) := by omega
        obtain ⟨p, po, rfl, hp, hcp⟩ := (HL.out.below (grown_below hgr)).some (by omega)
        obtain ⟨q2, qo, rfl, hq, hcq⟩ := (HR.out.below (grown_below hgr)).some (by omega)
        have x0 := cell_grown (a := ⟨p, po + k, none⟩) hp (hcp k hlt)
        have x1 := cell_grown (a := ⟨q2, qo + k, none⟩) hq (hcq k hlt)
        have HG : Hid (∀ n os, Grown w (Go.Sort.grow (wr.drewN n) os)) := fun n os => grown2 hgr ⟨n, os, rfl⟩
        have HNX : Hid (l.getD k 0 = r.getD k 0 → ∀ j, j < k + 1 → l.getD j 0 = r.getD j 0) := fun h j hj => by
          by_cases e : j = k
          · rw [e]; exact h
          · exact hT.out j (by omega)
        have HNK := HNE.out k hlt
        clear hcp hcq hT
        generalize l.getD k 0 = y at *
        generalize r.getD k 0 = z at *
        by_cases hyz : y = z
        · subst hyz
          have HX : Hid (∀ j, j < k + 1 → l.getD j 0 = r.getD j 0) := HNX.out rfl
          clear HNX HNK
          go_wp2_with fail
          refine wp_region_QW mixed5 (by kernel_rfl) ?_
          repeat (refine QW_step (fun K hK => ?_); go_simp; first | (refine hK _ ?_; clear hK K) | (apply Exists.intro; refine ⟨fun _ => ?_, hK _ ?_⟩; fail; clear hK K))
          refine QW_nil ?_
          intro _ hw9
          obtain ⟨⟨nq, osq⟩, hw8⟩ := hw9
          subst hw8
          have hb := HG.out nq osq
          go_wp2_with fail
          exact ⟨⟨k + 1, by omega, by go_num, hb, HX⟩, by simp [intOf]; omega⟩
        · have hq0 : q = false := HNK hyz
          subst hq0
          have hyd : (y == z) = false := by simpa using hyz
          clear HNX HNK HE HNE
          go_wp2_with fail
          refine wp_region_QW mixed5 (by kernel_rfl) ?_
          repeat (refine QW_step (fun K hK => ?_); go_simp; first | (refine hK _ ?_; clear hK K) | (apply Exists.intro; refine ⟨fun _ => ?_, hK _ ?_⟩; fail; clear hK K))
          refine QW_nil ?_
          intro _ hw9
          obtain ⟨⟨nq, osq⟩, hw8⟩ := hw9
          subst hw8
          have hb := HG.out nq osq
          go_wp2_with fail
          go_ret
          exact ⟨rfl, hb⟩
      · obtain rfl : k = la := by omega
        have hq0 : q = true := HE.out hT.out
        subst hq0
        clear HE HNE hT
        go_wp2_with fail
        go_ret
        exact ⟨rfl, hgr⟩
  · have hq0 : decide (l = r) = false := by
      rw [decide_eq_false_iff_not]
      intro e
      rw [e] at hla
      omega
    rw [hq0]
    have hnd : (la == lb) = false := by simpa using hn
    have hnd' : ((la : Int) == (lb : Int)) = false := beq_eq_false_iff_ne.2 (by omega)
    clear hq0 hla hlb
    go_enter Try.func34, Try.ntmps34
    go_wp2_with fail
    go_ret
    exact ⟨rfl, grown_refl _⟩
def sameD (k id z r wt g : Int) (ns : List Int) (k' id' z' r' wt' g' : Int) (ns' : List Int) : Prop := k = k' ∧ id = id' ∧ z = z' ∧ r = r' ∧ wt = wt' ∧ g = g' ∧ ns = ns'
set_option maxHeartbeats 4000000 in
set_option maxRecDepth 60000 in
theorem refDeltas_any (k id z r wt g : Int) (ad : Option Addr) (ld cd : Nat) (ns : List Int) (k' id' z' r' wt' g' : Int) (ad' : Option Addr) (ld' cd' : Nat) (ns' : List Int) (w : World) (hR : RowI w ad ld cd ns) (hR' : RowI w ad' ld' cd' ns') (q : Bool) (hq : q = true ↔ sameD k id z r wt g ns k' id' z' r' wt' g' ns') :
    Calls Try.prog 19 #[.agg #[.int .i64 k, .int .i64 id, .int .i64 z, .int .i64 r, .int .i64 wt, .int .i64 g, .slice ad ld cd], .agg #[.int .i64 k', .int .i64 id', .int .i64 z', .int .i64 r', .int .i64 wt', .int .i64 g', .slice ad' ld' cd']] w fun e w' => e = .returned (.bool q) ∧ Below w.heap.size w w' := by
  have HBa := Hid.mk9 (below2 (below_alloc w (.cells #[.int .i64 k, .int .i64 id, .int .i64 z, .int .i64 r, .int .i64 wt, .int .i64 g, .slice ad ld cd] 28)) (below_alloc _ (.cells #[.int .i64 k', .int .i64 id', .int .i64 z', .int .i64 r', .int .i64 wt', .int .i64 g', .slice ad' ld' cd'] 28)))
  have HX0 := Hid.mk9 ((B7.new w 28 (.int .i64 k) (.int .i64 id) (.int .i64 z) (.int .i64 r) (.int .i64 wt) (.int .i64 g) (.slice ad ld cd)).below (below_alloc _ (.cells #[.int .i64 k', .int .i64 id', .int .i64 z', .int .i64 r', .int .i64 wt', .int .i64 g', .slice ad' ld' cd'] 28)))
  have HY0 : Hid (B7 ((w.alloc (.cells #[.int .i64 k, .int .i64 id, .int .i64 z, .int .i64 r, .int .i64 wt, .int .i64 g, .slice ad ld cd] 28)).alloc (.cells #[.int .i64 k', .int .i64 id', .int .i64 z', .int .i64 r', .int .i64 wt', .int .i64 g', .slice ad' ld' cd'] 28)) (w.heap.size + 1) 28 (.int .i64 k') (.int .i64 id') (.int .i64 z') (.int .i64 r') (.int .i64 wt') (.int .i64 g') (.slice ad' ld' cd')) := by
    have := B7.new (w.alloc (.cells #[.int .i64 k, .int .i64 id, .int .i64 z, .int .i64 r, .int .i64 wt, .int .i64 g, .slice ad ld cd] 28)) 28 (.int .i64 k') (.int .i64 id') (.int .i64 z') (.int .i64 r') (.int .i64 wt') (.int .i64 g') (.slice ad' ld' cd')
    rw [show (w.alloc (.cells #[.int .i64 k, .int .i64 id, .int .i64 z, .int .i64 r, .int .i64 wt, .int .i64 g, .slice ad ld cd] 28)).heap.size = w.heap.size + 1 from by simp] at this
    exact this
  have HI := Hid.mk9 (refInts ad ad' ld cd ld' cd' ns ns' _ (hR.below HBa.out) (hR'.below HBa.out))
  have HQ := Hid.mk9 hq
  clear hR hR' hq
  go_enter Try.func19, Try.ntmps19
  go_upto_region 1 with fail
  generalize (w.alloc (.cells #[.int .i64 k, .int .i64 id, .int .i64 z, .int .i64 r, .int .i64 wt, .int .i64 g, .slice ad ld cd] 28)).alloc (.cells #[.int .i64 k', .int .i64 id', .int .i64 z', .int .i64 r', .int .i64 wt', .int .i64 g', .slice ad' ld' cd'] 28) = w1 at *
  obtain ⟨p0, p1, p2, p3, p4, p5, p6⟩ := HX0.out.cells
  obtain ⟨q0, q1, q2, q3, q4, q5, q6⟩ := HY0.out.cells
  clear HX0 HY0
  by_cases c0 : k = k'
  rotate_left
  · have hqf : q = false := by
      cases q with
      | false => rfl
      | true => exact absurd (HQ.out.1 rfl) (fun h => c0 h.1)
    subst hqf
    go_wp2_with fail
    go_ret
    exact ⟨rfl, HBa.out⟩
  subst c0
  by_cases c1 : id = id'
  rotate_left
  · have hqf : q = false := by
      cases q with
      | false => rfl
      | true => exact absurd (HQ.out.1 rfl) (fun h => c1 h.2.1)
    subst hqf
    go_wp2_with fail
    go_ret
    exact ⟨rfl, HBa.out⟩
  subst c1
  by_cases c2 : z = z'
  rotate_left
  · have hqf : q = false := by
      cases q with
      | false => rfl
      | true => exact absurd (HQ.out.1 rfl) (fun h => c2 h.2.2.1)
    subst hqf
    go_wp2_with fail
    go_ret
    exact ⟨rfl, HBa.out⟩
  subst c2
  by_cases c3 : r = r'
  rotate_left
  · have hqf : q = false := by
      cases q with
      | false => rfl
      | true => exact absurd (HQ.out.1 rfl) (fun h => c3 h.2.2.2.1)
    subst hqf
    go_wp2_with fail
    go_ret
    exact ⟨rfl, HBa.out⟩
  subst c3
  by_cases c4 : wt = wt'
  rotate_left
  · have hqf : q = false := by
      cases q with
      | false => rfl
      | true => exact absurd (HQ.out.1 rfl) (fun h => c4 h.2.2.2.2.1)
    subst hqf
    go_wp2_with fail
    go_ret
    exact ⟨rfl, HBa.out⟩
  subst c4
  by_cases c5 : g = g'
  rotate_left
  · have hqf : q = false := by
      cases q with
      | false => rfl
      | true => exact absurd (HQ.out.1 rfl) (fun h => c5 h.2.2.2.2.2.1)
    subst hqf
    go_wp2_with fail
    go_ret
    exact ⟨rfl, HBa.out⟩
  subst c5
  have hqd : q = decide (ns = ns') := by
    by_cases h : ns = ns'
    · rw [decide_eq_true h]; exact HQ.out.2 ⟨rfl, rfl, rfl, rfl, rfl, rfl, h⟩
    · rw [decide_eq_false h]
      cases q with
      | false => rfl
      | true => exact absurd (HQ.out.1 rfl) (fun h' => h h'.2.2.2.2.2.2)
  rw [← hqd] at HI
  clear hqd
  go_wp2_with (go_at_call 34; refine HI.out.mono ?_; rintro e w2 ⟨rfl, hg2⟩; have HB2 := Hid.mk9 (below2 HBa.out (grown_below hg2)); clear hg2)
  go_ret
  exact ⟨rfl, HB2.out⟩
set_option maxHeartbeats 4000000 in
set_option maxRecDepth 60000 in
theorem sameDelta_l (k id z r wt g : Int) (ad : Option Addr) (ld cd : Nat) (ns : List Int) (k' id' z' r' wt' g' : Int) (ad' : Option Addr) (ld' cd' : Nat) (ns' : List Int) (w : World) (hR : RowI w ad ld cd ns) (hR' : RowI w ad' ld' cd' ns') (q : Bool) (hq : q = true ↔ sameD k id z r wt g ns k' id' z' r' wt' g' ns') :
    Calls Try.prog 29 #[.agg #[.int .i64 k, .int .i64 id, .int .i64 z, .int .i64 r, .int .i64 wt, .int .i64 g, .slice ad ld cd], .agg #[.int .i64 k', .int .i64 id', .int .i64 z', .int .i64 r', .int .i64 wt', .int .i64 g', .slice ad' ld' cd']] w fun e w' => e = .returned (.bool q) ∧ Below w.heap.size w w' := by
  have HBa := Hid.mk9 (below2 (below_alloc w (.cells #[.int .i64 k, .int .i64 id, .int .i64 z, .int .i64 r, .int .i64 wt, .int .i64 g, .slice ad ld cd] 28)) (below_alloc _ (.cells #[.int .i64 k', .int .i64 id', .int .i64 z', .int .i64 r', .int .i64 wt', .int .i64 g', .slice ad' ld' cd'] 28)))
  have HX0 := Hid.mk9 ((B7.new w 28 (.int .i64 k) (.int .i64 id) (.int .i64 z) (.int .i64 r) (.int .i64 wt) (.int .i64 g) (.slice ad ld cd)).below (below_alloc _ (.cells #[.int .i64 k', .int .i64 id', .int .i64 z', .int .i64 r', .int .i64 wt', .int .i64 g', .slice ad' ld' cd'] 28)))
  have HY0 : Hid (B7 ((w.alloc (.cells #[.int .i64 k, .int .i64 id, .int .i64 z, .int .i64 r, .int .i64 wt, .int .i64 g, .slice ad ld cd] 28)).alloc (.cells #[.int .i64 k', .int .i64 id', .int .i64 z', .int .i64 r', .int .i64 wt', .int .i64 g', .slice ad' ld' cd'] 28)) (w.heap.size + 1) 28 (.int .i64 k') (.int .i64 id') (.int .i64 z') (.int .i64 r') (.int .i64 wt') (.int .i64 g') (.slice ad' ld' cd')) := by
    have := B7.new (w.alloc (.cells #[.int .i64 k, .int .i64 id, .int .i64 z, .int .i64 r, .int .i64 wt, .int .i64 g, .slice ad ld cd] 28)) 28 (.int .i64 k') (.int .i64 id') (.int .i64 z') (.int .i64 r') (.int .i64 wt') (.int .i64 g') (.slice ad' ld' cd')
    rw [show (w.alloc (.cells #[.int .i64 k, .int .i64 id, .int .i64 z, .int .i64 r, .int .i64 wt, .int .i64 g, .slice ad ld cd] 28)).heap.size = w.heap.size + 1 from by simp] at this
    exact this
  have HI := Hid.mk9 (eqInts ad ad' ld cd ld' cd' ns ns' _ (hR.below HBa.out) (hR'.below HBa.out))
  have HQ := Hid.mk9 hq
  clear hR hR' hq
  go_enter Try.func29, Try.ntmps29
  go_upto_region 1 with fail
  generalize (w.alloc (.cells #[.int .i64 k, .int .i64 id, .int .i64 z, .int .i64 r, .int .i64 wt, .int .i64 g, .slice ad ld cd] 28)).alloc (.cells #[.int .i64 k', .int .i64 id', .int .i64 z', .int .i64 r', .int .i64 wt', .int .i64 g', .slice ad' ld' cd'] 28) = w1 at *
  obtain ⟨p0, p1, p2, p3, p4, p5, p6⟩ := HX0.out.cells
  obtain ⟨q0, q1, q2, q3, q4, q5, q6⟩ := HY0.out.cells
  clear HX0 HY0
  by_cases c0 : k = k'
  rotate_left
  · have hqf : q = false := by
      cases q with
      | false => rfl
      | true => exact absurd (HQ.out.1 rfl) (fun h => c0 h.1)
    subst hqf
    go_wp2_with fail
    go_ret
    exact ⟨rfl, HBa.out⟩
  subst c0
  by_cases c1 : id = id'
  rotate_left
  · have hqf : q = false := by
      cases q with
      | false => rfl
      | true => exact absurd (HQ.out.1 rfl) (fun h => c1 h.2.1)
    subst hqf
    go_wp2_with fail
    go_ret
    exact ⟨rfl, HBa.out⟩
  subst c1
  by_cases c2 : z = z'
  rotate_left
  · have hqf : q = false := by
      cases q with
      | false => rfl
      | true => exact absurd (HQ.out.1 rfl) (fun h => c2 h.2.2.1)
    subst hqf
    go_wp2_with fail
    go_ret
    exact ⟨rfl, HBa.out⟩
  subst c2
  by_cases c3 : r = r'
  rotate_left
  · have hqf : q = false := by
      cases q with
      | false => rfl
      | true => exact absurd (HQ.out.1 rfl) (fun h => c3 h.2.2.2.1)
    subst hqf
    go_wp2_with fail
    go_ret
    exact ⟨rfl, HBa.out⟩
  subst c3
  by_cases c4 : wt = wt'
  rotate_left
  · have hqf : q = false := by
      cases q with
      | false => rfl
      | true => exact absurd (HQ.out.1 rfl) (fun h => c4 h.2.2.2.2.1)
    subst hqf
    go_wp2_with fail
    go_ret
    exact ⟨rfl, HBa.out⟩
  subst c4
  by_cases c5 : g = g'
  rotate_left
  · have hqf : q = false := by
      cases q with
      | false => rfl
      | true => exact absurd (HQ.out.1 rfl) (fun h => c5 h.2.2.2.2.2.1)
    subst hqf
    go_wp2_with fail
    go_ret
    exact ⟨rfl, HBa.out⟩
  subst c5
  have hqd : q = decide (ns = ns') := by
    by_cases h : ns = ns'
    · rw [decide_eq_true h]; exact HQ.out.2 ⟨rfl, rfl, rfl, rfl, rfl, rfl, h⟩
    · rw [decide_eq_false h]
      cases q with
      | false => rfl
      | true => exact absurd (HQ.out.1 rfl) (fun h' => h h'.2.2.2.2.2.2)
  rw [← hqd] at HI
  clear hqd
  go_wp2_with (go_at_call 35; refine HI.out.mono ?_; rintro e w2 ⟨rfl, hg2⟩; have HB2 := Hid.mk9 (below2 HBa.out (grown_below hg2)); clear hg2)
  go_ret
  exact ⟨rfl, HB2.out⟩
def eqD (d e : Dl) : Bool := decide (d.k = e.k ∧ d.id = e.id ∧ d.zn = e.zn ∧ d.rk = e.rk ∧ d.wt = e.wt ∧ d.g = e.g ∧ d.ns = e.ns)
theorem eqD_iff (d e : Dl) : eqD d e = true ↔ d = e := by
  unfold eqD
  rw [decide_eq_true_iff]
  constructor
  · intro h
    cases d; cases e
    simp only at h
    obtain ⟨rfl, rfl, rfl, rfl, rfl, rfl, rfl⟩ := h
    rfl
  · rintro rfl
    exact ⟨rfl, rfl, rfl, rfl, rfl, rfl, rfl⟩
theorem eqD_self (d : Dl) : eqD d d = true := (eqD_iff d d).2 rfl
def eqA (x y : Acd) : Bool := decide (x.b = y.b) && eqD x.d y.d
theorem eqA_iff (x y : Acd) : eqA x y = true ↔ x = y := by
  unfold eqA
  rw [Bool.and_eq_true, decide_eq_true_iff, eqD_iff]
  constructor
  · rintro ⟨h1, h2⟩
    cases x; cases y
    simp only at h1 h2
    subst h1; subst h2; rfl
  · rintro rfl
    exact ⟨rfl, rfl⟩
theorem deltas_any (d e : Dl) (a a' : Option Addr) (l c l' c' : Nat) (w : World) (h : RowI w a l c d.ns) (h' : RowI w a' l' c' e.ns) :
    Calls Try.prog 19 #[.agg #[.int .i64 d.k, .int .i64 d.id, .int .i64 d.zn, .int .i64 d.rk, .int .i64 d.wt, .int .i64 d.g, .slice a l c], .agg #[.int .i64 e.k, .int .i64 e.id, .int .i64 e.zn, .int .i64 e.rk, .int .i64 e.wt, .int .i64 e.g, .slice a' l' c']] w fun en w' => en = .returned (.bool (eqD d e)) ∧ Below w.heap.size w w' :=
  refDeltas_any _ _ _ _ _ _ a l c d.ns _ _ _ _ _ _ a' l' c' e.ns w h h' (eqD d e) (by unfold eqD sameD; exact decide_eq_true_iff)
theorem sameDelta_any (d e : Dl) (a a' : Option Addr) (l c l' c' : Nat) (w : World) (h : RowI w a l c d.ns) (h' : RowI w a' l' c' e.ns) :
    Calls Try.prog 29 #[.agg #[.int .i64 d.k, .int .i64 d.id, .int .i64 d.zn, .int .i64 d.rk, .int .i64 d.wt, .int .i64 d.g, .slice a l c], .agg #[.int .i64 e.k, .int .i64 e.id, .int .i64 e.zn, .int .i64 e.rk, .int .i64 e.wt, .int .i64 e.g, .slice a' l' c']] w fun en w' => en = .returned (.bool (eqD d e)) ∧ Below w.heap.size w w' :=
  sameDelta_l _ _ _ _ _ _ a l c d.ns _ _ _ _ _ _ a' l' c' e.ns w h h' (eqD d e) (by unfold eqD sameD; exact decide_eq_true_iff)
set_option maxHeartbeats 4000000 in
set_option maxRecDepth 60000 in
theorem one_any (x y : Acd) (a a' : Option Addr) (l c l' c' : Nat) (w : World) (h : RowI w a l c x.d.ns) (h' : RowI w a' l' c' y.d.ns) :
    Calls Try.prog 26 #[.agg #[.int .i64 x.b, .int .i64 x.d.k, .int .i64 x.d.id, .int .i64 x.d.zn, .int .i64 x.d.rk, .int .i64 x.d.wt, .int .i64 x.d.g, .slice a l c], .agg #[.int .i64 y.b, .int .i64 y.d.k, .int .i64 y.d.id, .int .i64 y.d.zn, .int .i64 y.d.rk, .int .i64 y.d.wt, .int .i64 y.d.g, .slice a' l' c']] w fun en w' => en = .returned (.bool (eqA x y)) ∧ Below w.heap.size w w' := by
  have HBa := Hid.mk9 (below2 (below_alloc w (.cells #[.int .i64 x.b, .int .i64 x.d.k, .int .i64 x.d.id, .int .i64 x.d.zn, .int .i64 x.d.rk, .int .i64 x.d.wt, .int .i64 x.d.g, .slice a l c] 49)) (below_alloc _ (.cells #[.int .i64 y.b, .int .i64 y.d.k, .int .i64 y.d.id, .int .i64 y.d.zn, .int .i64 y.d.rk, .int .i64 y.d.wt, .int .i64 y.d.g, .slice a' l' c'] 49)))
  have HX0 := Hid.mk9 ((B8.new w 49 (.int .i64 x.b) (.int .i64 x.d.k) (.int .i64 x.d.id) (.int .i64 x.d.zn) (.int .i64 x.d.rk) (.int .i64 x.d.wt) (.int .i64 x.d.g) (.slice a l c)).below (below_alloc _ (.cells #[.int .i64 y.b, .int .i64 y.d.k, .int .i64 y.d.id, .int .i64 y.d.zn, .int .i64 y.d.rk, .int .i64 y.d.wt, .int .i64 y.d.g, .slice a' l' c'] 49)))
  have HY0 : Hid (B8 ((w.alloc (.cells #[.int .i64 x.b, .int .i64 x.d.k, .int .i64 x.d.id, .int .i64 x.d.zn, .int .i64 x.d.rk, .int .i64 x.d.wt, .int .i64 x.d.g, .slice a l c] 49)).alloc (.cells #[.int .i64 y.b, .int .i64 y.d.k, .int .i64 y.d.id, .int .i64 y.d.zn, .int .i64 y.d.rk, .int .i64 y.d.wt, .int .i64 y.d.g, .slice a' l' c'] 49)) (w.heap.size + 1) 49 (.int .i64 y.b) (.int .i64 y.d.k) (.int .i64 y.d.id) (.int .i64 y.d.zn) (.int .i64 y.d.rk) (.int .i64 y.d.wt) (.int .i64 y.d.g) (.slice a' l' c')) := by
    have := B8.new (w.alloc (.cells #[.int .i64 x.b, .int .i64 x.d.k, .int .i64 x.d.id, .int .i64 x.d.zn, .int .i64 x.d.rk, .int .i64 x.d.wt, .int .i64 x.d.g, .slice a l c] 49)) 49 (.int .i64 y.b) (.int .i64 y.d.k) (.int .i64 y.d.id) (.int .i64 y.d.zn) (.int .i64 y.d.rk) (.int .i64 y.d.wt) (.int .i64 y.d.g) (.slice a' l' c')
    rw [show (w.alloc (.cells #[.int .i64 x.b, .int .i64 x.d.k, .int .i64 x.d.id, .int .i64 x.d.zn, .int .i64 x.d.rk, .int .i64 x.d.wt, .int .i64 x.d.g, .slice a l c] 49)).heap.size = w.heap.size + 1 from by simp] at this
    exact this
  have HI := Hid.mk9 (deltas_any x.d y.d a a' l c l' c' _ (h.below HBa.out) (h'.below HBa.out))
  obtain ⟨q, hq⟩ : ∃ q, q = eqA x y := ⟨_, rfl⟩
  rw [← hq]
  have HQ := Hid.mk9 hq
  clear h h' hq
  go_enter Try.func26, Try.ntmps26
  go_upto_region 1 with fail
  generalize (w.alloc (.cells #[.int .i64 x.b, .int .i64 x.d.k, .int .i64 x.d.id, .int .i64 x.d.zn, .int .i64 x.d.rk, .int .i64 x.d.wt, .int .i64 x.d.g, .slice a l c] 49)).alloc (.cells #[.int .i64 y.b, .int .i64 y.d.k, .int .i64 y.d.id, .int .i64 y.d.zn, .int .i64 y.d.rk, .int .i64 y.d.wt, .int .i64 y.d.g, .slice a' l' c'] 49) = w1 at *
  obtain ⟨p0, p1, p2, p3, p4, p5, p6, p7⟩ := HX0.out.cells
  obtain ⟨q0, q1, q2, q3, q4, q5, q6, q7⟩ := HY0.out.cells
  clear HX0 HY0
  by_cases c0 : x.b = y.b
  · have hq : eqA x y = eqD x.d y.d := by simp [eqA, c0]
    obtain rfl := HQ.out.trans hq
    rw [c0] at p0
    clear hq c0 HQ
    go_wp2_with (go_at_call 19; refine HI.out.mono ?_; rintro en w2 ⟨rfl, hg2⟩; have HB2 := Hid.mk9 (below2 HBa.out hg2); clear hg2)
    go_ret
    exact ⟨rfl, HB2.out⟩
  · have hq : eqA x y = false := by simp [eqA, c0]
    obtain rfl := HQ.out.trans hq
    go_wp2_with fail
    go_ret
    exact ⟨rfl, HBa.out⟩
set_option maxHeartbeats 4000000 in
set_option maxRecDepth 60000 in
theorem sameAcc_any (x y : Acd) (a a' : Option Addr) (l c l' c' : Nat) (w : World) (h : RowI w a l c x.d.ns) (h' : RowI w a' l' c' y.d.ns) :
    Calls Try.prog 33 #[.agg #[.int .i64 x.b, .int .i64 x.d.k, .int .i64 x.d.id, .int .i64 x.d.zn, .int .i64 x.d.rk, .int .i64 x.d.wt, .int .i64 x.d.g, .slice a l c], .agg #[.int .i64 y.b, .int .i64 y.d.k, .int .i64 y.d.id, .int .i64 y.d.zn, .int .i64 y.d.rk, .int .i64 y.d.wt, .int .i64 y.d.g, .slice a' l' c']] w fun en w' => en = .returned (.bool (eqA x y)) ∧ Below w.heap.size w w' := by
  have HBa := Hid.mk9 (below2 (below_alloc w (.cells #[.int .i64 x.b, .int .i64 x.d.k, .int .i64 x.d.id, .int .i64 x.d.zn, .int .i64 x.d.rk, .int .i64 x.d.wt, .int .i64 x.d.g, .slice a l c] 49)) (below_alloc _ (.cells #[.int .i64 y.b, .int .i64 y.d.k, .int .i64 y.d.id, .int .i64 y.d.zn, .int .i64 y.d.rk, .int .i64 y.d.wt, .int .i64 y.d.g, .slice a' l' c'] 49)))
  have HX0 := Hid.mk9 ((B8.new w 49 (.int .i64 x.b) (.int .i64 x.d.k) (.int .i64 x.d.id) (.int .i64 x.d.zn) (.int .i64 x.d.rk) (.int .i64 x.d.wt) (.int .i64 x.d.g) (.slice a l c)).below (below_alloc _ (.cells #[.int .i64 y.b, .int .i64 y.d.k, .int .i64 y.d.id, .int .i64 y.d.zn, .int .i64 y.d.rk, .int .i64 y.d.wt, .int .i64 y.d.g, .slice a' l' c'] 49)))
  have HY0 : Hid (B8 ((w.alloc (.cells #[.int .i64 x.b, .int .i64 x.d.k, .int .i64 x.d.id, .int .i64 x.d.zn, .int .i64 x.d.rk, .int .i64 x.d.wt, .int .i64 x.d.g, .slice a l c] 49)).alloc (.cells #[.int .i64 y.b, .int .i64 y.d.k, .int .i64 y.d.id, .int .i64 y.d.zn, .int .i64 y.d.rk, .int .i64 y.d.wt, .int .i64 y.d.g, .slice a' l' c'] 49)) (w.heap.size + 1) 49 (.int .i64 y.b) (.int .i64 y.d.k) (.int .i64 y.d.id) (.int .i64 y.d.zn) (.int .i64 y.d.rk) (.int .i64 y.d.wt) (.int .i64 y.d.g) (.slice a' l' c')) := by
    have := B8.new (w.alloc (.cells #[.int .i64 x.b, .int .i64 x.d.k, .int .i64 x.d.id, .int .i64 x.d.zn, .int .i64 x.d.rk, .int .i64 x.d.wt, .int .i64 x.d.g, .slice a l c] 49)) 49 (.int .i64 y.b) (.int .i64 y.d.k) (.int .i64 y.d.id) (.int .i64 y.d.zn) (.int .i64 y.d.rk) (.int .i64 y.d.wt) (.int .i64 y.d.g) (.slice a' l' c')
    rw [show (w.alloc (.cells #[.int .i64 x.b, .int .i64 x.d.k, .int .i64 x.d.id, .int .i64 x.d.zn, .int .i64 x.d.rk, .int .i64 x.d.wt, .int .i64 x.d.g, .slice a l c] 49)).heap.size = w.heap.size + 1 from by simp] at this
    exact this
  have HI := Hid.mk9 (sameDelta_any x.d y.d a a' l c l' c' _ (h.below HBa.out) (h'.below HBa.out))
  obtain ⟨q, hq⟩ : ∃ q, q = eqA x y := ⟨_, rfl⟩
  rw [← hq]
  have HQ := Hid.mk9 hq
  clear h h' hq
  go_enter Try.func33, Try.ntmps33
  go_upto_region 1 with fail
  generalize (w.alloc (.cells #[.int .i64 x.b, .int .i64 x.d.k, .int .i64 x.d.id, .int .i64 x.d.zn, .int .i64 x.d.rk, .int .i64 x.d.wt, .int .i64 x.d.g, .slice a l c] 49)).alloc (.cells #[.int .i64 y.b, .int .i64 y.d.k, .int .i64 y.d.id, .int .i64 y.d.zn, .int .i64 y.d.rk, .int .i64 y.d.wt, .int .i64 y.d.g, .slice a' l' c'] 49) = w1 at *
  obtain ⟨p0, p1, p2, p3, p4, p5, p6, p7⟩ := HX0.out.cells
  obtain ⟨q0, q1, q2, q3, q4, q5, q6, q7⟩ := HY0.out.cells
  clear HX0 HY0
  by_cases c0 : x.b = y.b
  · have hq : eqA x y = eqD x.d y.d := by simp [eqA, c0]
    obtain rfl := HQ.out.trans hq
    rw [c0] at p0
    clear hq c0 HQ
    go_wp2_with (go_at_call 29; refine HI.out.mono ?_; rintro en w2 ⟨rfl, hg2⟩; have HB2 := Hid.mk9 (below2 HBa.out hg2); clear hg2)
    go_ret
    exact ⟨rfl, HB2.out⟩
  · have hq : eqA x y = false := by simp [eqA, c0]
    obtain rfl := HQ.out.trans hq
    go_wp2_with fail
    go_ret
    exact ⟨rfl, HBa.out⟩
end Go.Proofs.Ytejhmacbbdnlbaa.Ac
