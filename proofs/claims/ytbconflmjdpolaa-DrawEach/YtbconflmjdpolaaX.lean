/-
  The law DrawEach: in any order each one costs no more for its weight than the next one.
-/
import Derived.Test.YtbconflmjdpolaaW
namespace Go.Proofs.Ytbconflmjdpolaa
open Go.ChangeShapes Go.WideShapes Go.ChangeAt Go.RowKit
open Go.Maps
theorem order_each {key : Nat} {w : World} {a : Option Addr} {len cap : Nat} {ls : List Ch} (hk : key < 18446744073709551616) (h : ChsAt w a len cap ls) (hM : MayC ls) (W : World) (hW : Below w.heap.size w W) : Calls Try.prog 8 #[.int .u64 (key : Int), .slice a len cap] W fun e w' => ∃ ao co, ∃ s : List Ch, e = .returned (.slice ao s.length co) ∧ Below w.heap.size w w' ∧ Hid (IntsAt w' ao (s.map (·.1)) ∧ s.length ≤ 64 ∧ s.Perm (heavy ls) ∧ s.Pairwise (ltC (costOf key))) :=
  (order_any key a len cap ls W hk (h.below hW)).mono fun _ _ ⟨hb, ao, co, ids, he, hi, hl, ho⟩ => by
    rcases ho with ⟨_, s, hp, hs, rfl⟩ | ⟨hn, _⟩
    · simp only [List.length_map] at he hl
      exact ⟨ao, co, s, he, below2 hW hb, hi, hl, hp, hs⟩
    · exact absurd hM hn
theorem pair_at {R : Ch → Ch → Prop} {s : List Ch} (h : s.Pairwise R) {j : Nat} (hj : j + 1 < s.length) : R (s.getD j ch0) (s.getD (j + 1) ch0) := by
  rw [List.pairwise_iff_getElem] at h
  rw [getD_get (i := j) (by omega), getD_get hj]
  exact h j (j + 1) (by omega) hj (by omega)
theorem mem_at {s : List Ch} {j : Nat} (hj : j < s.length) : s.getD j ch0 ∈ s := by
  rw [getD_get hj]
  exact List.getElem_mem hj
set_option maxHeartbeats 1000000 in
set_option maxRecDepth 60000 in
theorem each_idle (key : Nat) (a : Option Addr) (len cap : Nat) (ls : List Ch) (w : World) (h : ChsAt w a len cap ls) (hG : 64 < len ∨ ¬ MayC ls) :
    Calls Try.prog 6 #[.int .u64 (key : Int), .slice a len cap] w fun e w' => TruePost w e w' := by
  have hB0 : Below w.heap.size w w := Below.refl _ _
  have HA : Hid (∀ W, Below w.heap.size w W → Calls Try.prog 7 #[] W fun e w' => e = .returned (.bool true) ∧ Below w.heap.size w w') := awake_from
  by_cases h64 : (64 : Int) < (len : Int)
  · clear h hG
    go_enter Try.func6, Try.ntmps6
    go_wp2_with (go_at_call 7; refine (HA.out _ (by assumption)).mono ?_; rintro e w5 ⟨rfl, hb5⟩)
    go_ret
    exact ⟨rfl, by assumption⟩
  · have hN : ¬ MayC ls := hG.resolve_left (by omega)
    have HMAY : Hid (∀ W, Below w.heap.size w W → Calls Try.prog 11 #[.slice a len cap] W fun e w' => e = .returned (.bool false) ∧ Below w.heap.size w w') := refMay_no h hN
    clear h hG hN
    go_enter Try.func6, Try.ntmps6
    go_wp2_with (first | (go_at_call 11; refine (HMAY.out _ (by assumption)).mono ?_; rintro e w2 ⟨rfl, hb2⟩) | (go_at_call 7; refine (HA.out _ (by assumption)).mono ?_; rintro e w5 ⟨rfl, hb5⟩))
    go_ret
    exact ⟨rfl, by assumption⟩
set_option maxHeartbeats 2000000 in
set_option maxRecDepth 60000 in
theorem each_main (key : Nat) (a : Option Addr) (len cap : Nat) (ls : List Ch) (w : World) (hkey : key < 18446744073709551616) (h : ChsAt w a len cap ls) (hM : MayC ls) :
    Calls Try.prog 6 #[.int .u64 (key : Int), .slice a len cap] w fun e w' => TruePost w e w' := by
  have hB0 : Below w.heap.size w w := Below.refl _ _
  have hl : ls.length = len := h.1
  have h64 : ¬ (64 : Int) < (len : Int) := by have := hM.1; omega
  have h64' : (len : Int) ≤ 64 := by omega
  have HMAY : Hid (∀ W, Below w.heap.size w W → Calls Try.prog 11 #[.slice a len cap] W fun e w' => e = .returned (.bool true) ∧ Below w.heap.size w w') := refMay_yes h hM
  have HORD : Hid _ := order_each hkey h hM
  have HL : Hid (ChsAt w a len cap ls) := h
  have HM : Hid (MayC ls) := hM
  have HC : Hid (∀ i W, Calls Try.prog 16 #[.int .u64 (key : Int), .int .i64 i] W fun e w' => e = .returned (.int .i64 (costOf key i)) ∧ Grown W w') := fun i W => cost5_any key i W hkey
  have hmm := @run_makeMap Try.prog
  clear h hM hkey
  go_enter Try.func6, Try.ntmps6
  go_wp2_with fail
  refine (HMAY.out _ hB0).mono ?_
  rintro e w1 ⟨rfl, hb1⟩
  clear HMAY
  go_wp2_with fail
  refine (HORD.out _ hb1).mono ?_
  rintro e w2 ⟨ao, co, s, rfl, hb2, hI⟩
  clear HORD
  have HA : Hid (∀ W, Below w2.heap.size w2 W → Calls Try.prog 7 #[] W fun e w' => e = .returned (.bool true) ∧ Below w2.heap.size w2 w') := awake_from
  have HL2 : Hid (ChsAt w2 a len cap ls) := HL.out.below hb2
  have HMP : Hid ((w2.alloc (.map #[] 0)).ownsMap Try.prog 3 (plainElem Try.prog 3) w2.heap.size 0 (mapTo (ls.take 0))) := World.ownsMap_made w2 Try.prog 3 (plainElem Try.prog 3)
  have hbm : Below w2.heap.size w2 (w2.alloc (.map #[] 0)) := below_alloc _ _
  obtain ⟨n, hn⟩ : ∃ n, n = s.length := ⟨_, rfl⟩
  rw [← hn]
  have HN : Hid (n = s.length) := hn
  have hn64 : (n : Int) ≤ 64 := by have := hI.out.2.1; omega
  clear hn
  go_wp2_with fail
  go_loopw [7] (fun i wr => ∃ k : Nat, k ≤ len ∧ i = .int .i64 k ∧ Hid (wr.ownsMap Try.prog 3 (plainElem Try.prog 3) w2.heap.size k (mapTo (ls.take k))) ∧ Below w2.heap.size w2 wr) (fun i _ => len - (intOf i).toNat)
  case atStart => exact ⟨0, Nat.zero_le _, rfl, HMP, hbm⟩
  case round =>
    obtain ⟨k, hk, rfl, hmap, hbel⟩ := hrel
    by_cases hlt : k < len
    · obtain ⟨b, off, rfl, hbs, hcell⟩ := HL2.out.some (by omega)
      obtain ⟨e0, e1⟩ := hcell k hlt
      have hk1 : (k : Int) < (len : Int) := by omega
      have hin := (((may_iff ls).1 HM.out).2.1) (ls.getD k ch0) (mem_at (by omega))
      have HST : Hid (mapTo (ls.take (k + 1)) = (mapTo (ls.take k)).put (.int .i64 (ls.getD k ch0).1) (.lit (.int .i64 (ls.getD k ch0).2))) := by
        show _ = _
        rw [List.take_succ_eq_append_getElem (by omega), getD_get (by omega), mapTo_snoc]
      clear hcell
      generalize ls.getD k ch0 = c at *
      obtain ⟨c1, c2⟩ := c
      have HIN : Hid ((0 ≤ c1 ∧ c1 ≤ 2147483647) ∧ 0 ≤ c2 ∧ c2 ≤ 65536) := ⟨⟨hin.1, hin.2.1⟩, hin.2.2.1, hin.2.2.2⟩
      clear hin
      go_wp2_with fail
      refine map_put _ _ _ _ _ _ _ _ _ _ _ _ _ _ _ _ _ _ _ _ _ _ _ _ _ _ _ _ _ _ _ _ _ _ _ _ _ _ _ _ _ _ _ _ _ _ _ _ _ _ _ _ _ _ _ _ _ _ _ _ _ _ _ _ _ _ _ _ _ _ _ _ _ _ _ _ _ _ _ _ _ _ _ _ _ _ _ _ _ _ _ _ _ _ _ b off len cap w2.heap.size k k c1 c2 (mapTo (ls.take k)) wr _ (Nat.lt_of_lt_of_le hbs hbel.size) ((hbel.cell (p := ⟨b, off + k * 2, none⟩) hbs).trans e0) ((hbel.cell (p := ⟨b, off + k * 2 + 1, none⟩) hbs).trans e1) hmap.out (by omega) hlt (by omega) HIN.out.1 HIN.out.2 (fun u32 u33 u34 u35 u36 u37 u38 u39 u40 u41 u42 wC hownC hgC => ?_)
      have hbC : Below w2.heap.size w2 wC := hbel.grown hgC hbel.size (fun j hj => by injection hj with hj; omega)
      have HOC : Hid (wC.ownsMap Try.prog 3 (plainElem Try.prog 3) w2.heap.size (k + 1) (mapTo (ls.take (k + 1)))) := by rw [HST.out]; exact hownC
      clear hownC hgC hmap HST e0 e1
      go_wp2_with fail
      exact ⟨⟨k + 1, by omega, by go_num, HOC, hbC⟩, by simp [intOf]; omega⟩
    · have hkl : ¬ (k : Int) < (len : Int) := by omega
      have HMAP : Hid (wr.ownsMap Try.prog 3 (plainElem Try.prog 3) w2.heap.size k (mapTo ls)) := by
        have := hmap.out
        rwa [List.take_of_length_le (by omega)] at this
      have HIE : Hid (IntsAt wr ao (s.map (·.1))) := hI.out.1.below hbel
      have HB2 : Hid (∀ W, Below wr.heap.size wr W → Below w2.heap.size w2 W) := fun W hW => below2 hbel hW
      have HBW : Hid (∀ W, Below w2.heap.size w2 W → Below w.heap.size w W) := fun W hW => below2 hb2 hW
      have hbr : Below wr.heap.size wr wr := Below.refl _ _
      clear hmap hbel HL HL2 HMP hbm
      generalize hwe : wr = wE at *
      clear hwe
      go_wp2_with fail
      go_loopw [8] (fun i wr => ∃ j : Nat, (j = 0 ∨ j + 1 ≤ n) ∧ i = .int .i64 ((j : Int) + 1) ∧ Below wE.heap.size wE wr) (fun i _ => n - (intOf i).toNat)
      case atStart => exact ⟨0, .inl rfl, rfl, hbr⟩
      case round =>
        obtain ⟨j, hj, rfl, hbel⟩ := hrel
        by_cases hjn : j + 1 < n
        · have hj1 : (j : Int) + 1 < (n : Int) := by omega
          have hj0 : (0 : Int) ≤ (j : Int) + 1 := by omega
          have hjt : ((j : Int) + 1).toNat = j + 1 := by omega
          have hjw : IntKind.i64.wrap ((j : Int) + 1 - 1) = (j : Int) := by rw [IntKind.wrap_i64]; omega
          have hjv : IntKind.i64.wrap (j : Int) = (j : Int) := by rw [IntKind.wrap_i64]; omega
          have hj2 : (0 : Int) ≤ (j : Int) := by omega
          have hj3 : (j : Int) < (n : Int) := by omega
          obtain ⟨-, -, hp, hs⟩ := hI.out
          have hlt2 := pair_at hs (j := j) (by have := HN.out; omega)
          have ha := hp.mem_iff.1 (mem_at (s := s) (j := j) (by have := HN.out; omega))
          have hbm := hp.mem_iff.1 (mem_at (s := s) (j := j + 1) (by have := HN.out; omega))
          have ha2 := may_heavy HM.out _ ha
          have hb2' := may_heavy HM.out _ hbm
          have ia := ((may_iff ls).1 HM.out).2.1 _ (heavy_mem.1 ha).1
          have ib := ((may_iff ls).1 HM.out).2.1 _ (heavy_mem.1 hbm).1
          rcases HIE.out.below hbel with h0 | ⟨p, rfl, hpl, hcp⟩
          · have := HN.out
            have h1 := congrArg List.length h0
            simp only [List.length_map, List.length_nil] at h1
            omega
          have z0 := hcp j (by simp; have := HN.out; omega)
          have z1 := hcp (j + 1) (by simp; have := HN.out; omega)
          have g0 : (s.map (·.1)).getD j 0 = (s.getD j ch0).1 := by simp [show j < s.length by have := HN.out; omega]
          have g1 : (s.map (·.1)).getD (j + 1) 0 = (s.getD (j + 1) ch0).1 := by simp [show j + 1 < s.length by have := HN.out; omega]
          rw [g0] at z0
          rw [g1] at z1
          have LA : Hid (∀ W, Below wE.heap.size wE W → (Instr.lookup 41 (.map (some w2.heap.size)) (.int .i64 (s.getD j ch0).1) false).run Try.prog W = .ok (.int .i64 (s.getD j ch0).2) W) := fun W hW => looks (map_below HMAP.out hW) (may_rise HM.out) (heavy_mem.1 ha).1 ⟨ia.1, ia.2.1⟩
          have LB : Hid (∀ W, Below wE.heap.size wE W → (Instr.lookup 41 (.map (some w2.heap.size)) (.int .i64 (s.getD (j + 1) ch0).1) false).run Try.prog W = .ok (.int .i64 (s.getD (j + 1) ch0).2) W) := fun W hW => looks (map_below HMAP.out hW) (may_rise HM.out) (heavy_mem.1 hbm).1 ⟨ib.1, ib.2.1⟩
          clear g0 g1 hp hs ha hbm ia ib hcp
          generalize s.getD j ch0 = ca at *
          generalize s.getD (j + 1) ch0 = cb at *
          obtain ⟨a1, a2⟩ := ca
          obtain ⟨b1, b2⟩ := cb
          obtain ⟨p1, p2⟩ := prod_fits (costOf_bound key a1) (x := b2) ⟨by have := hb2'.1; simp only at this; omega, hb2'.2⟩
          obtain ⟨p3, p4⟩ := prod_fits (costOf_bound key b1) (x := a2) ⟨by have := ha2.1; simp only at this; omega, ha2.2⟩
          have LT : Hid (costOf key a1 * b2 < costOf key b1 * a2 ∨ (costOf key a1 * b2 = costOf key b1 * a2 ∧ a1 < b1)) := hlt2
          have hza : (a2 == 0) = false := beq_eq_false_iff_ne.2 (by have := ha2.1; simp only at this; omega)
          have hzb : (b2 == 0) = false := beq_eq_false_iff_ne.2 (by have := hb2'.1; simp only at this; omega)
          have y0 := cell_grown (a := ⟨p, j, none⟩) hpl z0
          have y1 := cell_grown (a := ⟨p, j + 1, none⟩) hpl z1
          clear hlt2 ha2 hb2' z0 z1
          go_wp2_with fail
          refine wp_region_QW mixed5 (by kernel_rfl) ?_
          repeat (refine QW_step (fun K hK => ?_); go_simp; first | (refine hK _ ?_; clear hK K) | (apply Exists.intro; refine ⟨fun _ => ?_, hK _ ?_⟩; fail; clear hK K))
          refine QW_nil ?_
          intro _ hw9
          obtain ⟨⟨nq, osq⟩, hw8⟩ := hw9
          subst hw8
          show Exit.then _ _ _ _ (Go.Sort.grow (wr.drewN nq) osq)
          have hbq : Below wE.heap.size wE (Go.Sort.grow (wr.drewN nq) osq) := below2 hbel (below_grow _ nq osq)
          clear y0 y1
          generalize Go.Sort.grow (wr.drewN nq) osq = wq at *
          have l0 : ∀ n os, (Instr.lookup 41 (.map (some w2.heap.size)) (.int .i64 a1) false).run Try.prog (Go.Sort.grow (wq.drewN n) os) = .ok (.int .i64 a2) (Go.Sort.grow (wq.drewN n) os) := fun n os => LA.out _ (below2 hbq (below_grow _ n os))
          have l1 : ∀ n os, (Instr.lookup 41 (.map (some w2.heap.size)) (.int .i64 b1) false).run Try.prog (Go.Sort.grow (wq.drewN n) os) = .ok (.int .i64 b2) (Go.Sort.grow (wq.drewN n) os) := fun n os => LB.out _ (below2 hbq (below_grow _ n os))
          go_wp2_with fail
          refine wp_region_QW mixed5 (by kernel_rfl) ?_
          repeat (refine QW_step (fun K hK => ?_); go_simp; first | (refine hK _ ?_; clear hK K) | (apply Exists.intro; refine ⟨fun _ => ?_, hK _ ?_⟩; (go_at_call 16; refine Calls.grown_of (HC.out _ _)); clear hK K))
          refine QW_nil ?_
          intro _ hw9
          obtain ⟨⟨nr, osr⟩, hw8⟩ := hw9
          subst hw8
          show Exit.then _ _ _ _ (Go.Sort.grow (wq.drewN nr) osr)
          have hbr2 : Below wE.heap.size wE (Go.Sort.grow (wq.drewN nr) osr) := below2 hbq (below_grow _ nr osr)
          clear l0 l1
          generalize Go.Sort.grow (wq.drewN nr) osr = wx at *
          have m0 := LA.out wx hbr2
          have m1 := LB.out wx hbr2
          have hlt3 := LT.out
          clear LT LA LB
          generalize costOf key a1 * b2 = px at *
          generalize costOf key b1 * a2 = py at *
          have hd1 : decide (py < px) = false := decide_eq_false (by omega)
          rcases hlt3 with hq | ⟨hq, hid⟩
          · have hd2 : (px == py) = false := beq_eq_false_iff_ne.2 (by omega)
            go_wp2_with fail
            exact ⟨⟨j + 1, .inr (by omega), by go_num, hbr2⟩, by simp [intOf]; omega⟩
          · have hd2 : (px == py) = true := by rw [hq]; simp
            have hd3 : decide (b1 ≤ a1) = false := decide_eq_false (by omega)
            go_wp2_with fail
            exact ⟨⟨j + 1, .inr (by omega), by go_num, hbr2⟩, by simp [intOf]; omega⟩
        · have hjn' : ¬ (j : Int) + 1 < (n : Int) := by omega
          have hbw := HB2.out _ hbel
          go_wp2_with (go_at_call 7; refine (HA.out _ (by assumption)).mono ?_; rintro e w5 ⟨rfl, hb5⟩)
          go_ret
          exact ⟨rfl, HBW.out _ hb5⟩
theorem drawEach_any (key : Nat) (a : Option Addr) (len cap : Nat) (ls : List Ch) (w : World) (hkey : key < 18446744073709551616) (h : ChsAt w a len cap ls) :
    Calls Try.prog 6 #[.int .u64 (key : Int), .slice a len cap] w fun e w' => TruePost w e w' := by
  by_cases hM : MayC ls
  · exact each_main key a len cap ls w hkey h hM
  · exact each_idle key a len cap ls w h (.inr hM)
end Go.Proofs.Ytbconflmjdpolaa
