/-
  The contracts of the answer's New, and of its May at bare maps; the law MapsNew.
-/
import Derived.Test.YtcncbjknfcjnmaaGreatK9
import Derived.Test.YtcncbjknfcjnmaaGreatK8
import Derived.Test.YtcncbjknfcjnmaaGreatTpD
namespace Go.Proofs.YtcncbjknfcjnmaaGreat.Tp
open Go.ChangeShapes Go.WideShapes Go.ChangeAt Go.RowKit
set_option maxHeartbeats 1000000 in
set_option maxRecDepth 60000 in
theorem refPasts_bare {m : Mp} {s : MV} (hB : BareOk m) (w : World) (h : BareAt w m s) : Calls Tryz.prog 35 #[.agg (mapCells m s).toArray] w fun e w' => e = .returned (.bool true) ∧ Below w.heap.size w w' := by
  rw [map_split]
  have HL : Hid (TrsAt w s.aR s.lR s.cR m.trs) := h.map.trs
  have hl : m.trs.length = s.lR := h.trl
  have h8 := hB.cnt.2.2.2
  have hgr : (s.lR : Int) = m.gr := by have := hB.trn; omega
  have HBR : Hid (∀ k, k < s.lR → (m.trs.getD k tr0).past = [] ∧ 0 ≤ (m.trs.getD k tr0).since ∧ (m.trs.getD k tr0).since ≤ m.ep) := fun k hk => by
    rw [show m.trs.getD k tr0 = m.trs[k] by simp [show k < m.trs.length by omega]]
    exact hB.trs _ (List.getElem_mem _)
  have q1 := h.aT
  have q2 := h.lT
  have q3 := h.cT
  clear h hB hl
  obtain ⟨ep, sz, mn, gr, nds, tms, trs⟩ := m
  obtain ⟨aN, lN, cN, aT, lT, cT, aR, lR, cR⟩ := s
  simp only at *
  subst q1 q2 q3 hgr
  have hb1 := below_alloc w (.cells #[.int .i64 ep, .int .i64 sz, .int .i64 mn, .int .i64 (lR : Int), .slice aN lN cN, .slice none 0 0, .slice aR lR cR] 26)
  have HBX : Hid (Box7 (w.alloc (.cells #[.int .i64 ep, .int .i64 sz, .int .i64 mn, .int .i64 (lR : Int), .slice aN lN cN, .slice none 0 0, .slice aR lR cR] 26)) w.heap.size (.int .i64 ep) (.int .i64 sz) (.int .i64 mn) (.int .i64 (lR : Int)) (.slice aN lN cN) (.slice none 0 0) (.slice aR lR cR)) := Box7.new w _ _ _ _ _ _ _ _
  go_enter Tryz.func35, Tryz.ntmps35
  go_wp2_with fail
  generalize w.alloc (.cells #[.int .i64 ep, .int .i64 sz, .int .i64 mn, .int .i64 (lR : Int), .slice aN lN cN, .slice none 0 0, .slice aR lR cR] 26) = w1 at *
  go_loopw [3] (fun i wr => ∃ k : Nat, k ≤ lR ∧ i = .int .i64 k ∧ Below w1.heap.size w1 wr) (fun i _ => lR - (intOf i).toNat)
  case atStart => exact ⟨0, Nat.zero_le _, rfl, Below.refl _ _⟩
  case round =>
    obtain ⟨k, hk, rfl, hbel⟩ := hrel
    have hbw := below2 hb1 hbel
    obtain ⟨⟨c0, c1, c2, c3, c4, c5, c6⟩, -⟩ := HBX.out.below hbel
    have hlt1 : w.heap.size < wr.heap.size := (HBX.out.below hbel).lt
    by_cases hlt : k < lR
    · obtain ⟨b, off, rfl, hbs, hcell⟩ := (HL.out.below hbw).some (by omega)
      obtain ⟨e0, aP, lP, cP, e1, hP⟩ := hcell k hlt
      obtain ⟨hp0, hs0, hs1⟩ := HBR.out k hlt
      have hk1 : (k : Int) < (lR : Int) := by omega
      have hk0 : (0 : Int) ≤ (k : Int) := by omega
      rw [hp0] at hP
      obtain rfl : lP = 0 := hP.1.symm
      clear hcell hP hp0
      generalize (trs.getD k tr0).since = sn at *
      have x1 : decide (sn < 0) = false := by simp; omega
      have x2 : decide (ep < sn) = false := by simp; omega
      have hb2 := below_alloc wr (.cells #[.int .i64 sn, .slice aP 0 cP] 53)
      go_wp2_with fail
      go_loopw [5] (fun i wq => i = .int .i64 0 ∧ wq = wr.alloc (.cells #[.int .i64 sn, .slice aP 0 cP] 53)) (fun _ _ => 0)
      case atStart => exact ⟨rfl, rfl⟩
      case round =>
        obtain ⟨rfl, rfl⟩ := hrel
        go_wp2_with fail
        exact ⟨⟨k + 1, by omega, by go_num, below2 hbel hb2⟩, by simp [intOf]; omega⟩
    · obtain rfl : k = lR := by omega
      go_wp2_with fail
      go_ret
      exact ⟨rfl, hbw⟩
set_option maxHeartbeats 1000000 in
set_option maxRecDepth 60000 in
theorem refMay_bare {m : Mp} {s : MV} (hB : BareOk m) (w : World) (h : BareAt w m s) : Calls Tryz.prog 13 #[.agg (mapCells m s).toArray] w fun e w' => e = .returned (.bool true) ∧ Below w.heap.size w w' := by
  have HP : Hid (∀ W, Below w.heap.size w W → Calls Tryz.prog 35 #[.agg (mapCells m s).toArray] W fun e w' => e = .returned (.bool true) ∧ Below W.heap.size W w') := fun W hb => refPasts_bare hB W (h.below hb)
  have HN : Hid (∀ W, Below w.heap.size w W → Calls Tryz.prog 33 #[.slice s.aN s.lN s.cN] W fun e w' => e = .returned (.bool true) ∧ Below W.heap.size W w') := fun W hb => refMay_yes (h.nds.below hb) hB.nds
  have k1 := hB.ep0
  have k2 := hB.ep1
  obtain ⟨⟨k3, k4⟩, ⟨k5, k6⟩, k7, k8⟩ := hB.cnt
  rw [map_split] at *
  have q1 := h.aT
  have q2 := h.lT
  have q3 := h.cT
  clear h hB
  obtain ⟨ep, sz, mn, gr, nds, tms, trs⟩ := m
  obtain ⟨aN, lN, cN, aT, lT, cT, aR, lR, cR⟩ := s
  simp only at *
  subst q1 q2 q3
  have x0 : decide (ep < 0) = false := by simp; omega
  have x1 : decide (2147483648 ≤ ep) = false := by simp; omega
  have x2 : decide (sz < 1) = false := by simp; omega
  have x3 : decide (3 < sz) = false := by simp; omega
  have x4 : decide (mn < 1) = false := by simp; omega
  have x5 : decide (sz < mn) = false := by simp; omega
  have x6 : decide (gr < 1) = false := by simp; omega
  have x7 : decide (8 < gr) = false := by simp; omega
  have hb1 := below_alloc w (.cells #[.int .i64 ep, .int .i64 sz, .int .i64 mn, .int .i64 gr, .slice aN lN cN, .slice none 0 0, .slice aR lR cR] 26)
  have HBX : Hid (Box7 (w.alloc (.cells #[.int .i64 ep, .int .i64 sz, .int .i64 mn, .int .i64 gr, .slice aN lN cN, .slice none 0 0, .slice aR lR cR] 26)) w.heap.size (.int .i64 ep) (.int .i64 sz) (.int .i64 mn) (.int .i64 gr) (.slice aN lN cN) (.slice none 0 0) (.slice aR lR cR)) := Box7.new w _ _ _ _ _ _ _ _
  go_enter Tryz.func13, Tryz.ntmps13
  go_wp2_with (go_at_call 33; refine (HN.out _ hb1).mono ?_; rintro e w2 ⟨rfl, hb2⟩; obtain ⟨⟨c0, c1, c2, c3, c4, c5, c6⟩, -⟩ := HBX.out.below hb2)
  go_loopw [3] (fun i wr => i = .int .i64 0 ∧ wr = w2) (fun _ _ => 0)
  case atStart => exact ⟨rfl, rfl⟩
  case round =>
    obtain ⟨rfl, rfl⟩ := hrel
    go_wp2_with (go_at_call 35; refine (HP.out _ (below2 hb1 hb2)).mono ?_; rintro e w3 ⟨rfl, hb3⟩)
    go_ret
    exact ⟨rfl, below2 hb1 (below2 hb2 hb3)⟩
set_option maxRecDepth 60000 in
theorem refNew_any (s l : Int) {n : Nat} (h8 : n ≤ 8) (w : World) : Calls Tryz.prog 12 #[.int .i64 s, .int .i64 l, .int .i64 (n : Int)] w fun e w' => Below w.heap.size w w' ∧ ∃ p, e = .returned (.agg (mapCells (newM s l n) ⟨none, 0, 0, none, 0, 0, some ⟨p, 0, none⟩, n, n⟩).toArray) ∧ w'.ownsRow 0 53 2 (.slice (some ⟨p, 0, none⟩) n n) n (pairCells (List.replicate n (0, .slice none 0 0))) := by
  have h8 : (n : Int) ≤ 8 := by omega
  obtain ⟨i0, hi, hz0, hz1, hz2⟩ := info_parts infoTrail
  have hb1 := below_alloc w (.cells #[.int .i64 0, .int .i64 0, .int .i64 0, .int .i64 0, .slice none 0 0, .slice none 0 0, .slice none 0 0] 26)
  obtain ⟨wM, hmk, hownM, hgM⟩ := run_make_full (P := Tryz.prog) (w.alloc (.cells #[.int .i64 0, .int .i64 0, .int .i64 0, .int .i64 0, .slice none 0 0, .slice none 0 0, .slice none 0 0] 26)) (w.alloc (.cells #[.int .i64 0, .int .i64 0, .int .i64 0, .int .i64 0, .slice none 0 0, .slice none 0 0, .slice none 0 0] 26)).heap.size 24 53 i0 (.agg #[.int .i64 0, .slice none 0 0]) 2 Tryz.underlying24 hi hz0 hz1 .i64 .i64 n (by rw [hz2]; omega) (by unfold maxLen; omega) (Nat.le_refl _)
  have hbM : Below (w.alloc (.cells #[.int .i64 0, .int .i64 0, .int .i64 0, .int .i64 0, .slice none 0 0, .slice none 0 0, .slice none 0 0] 26)).heap.size (w.alloc (.cells #[.int .i64 0, .int .i64 0, .int .i64 0, .int .i64 0, .slice none 0 0, .slice none 0 0, .slice none 0 0] 26)) wM := ⟨hgM.os, hgM.tape, hgM.output, hgM.size, fun k hk => hgM.block k hk (by simp)⟩
  rcases pairCells_one (.slice none 0 0) n 0 with hp | hp
  case inr => exact absurd rfl hp
  rw [hp] at hownM
  have HBX : Hid (Box7 wM w.heap.size (.int .i64 0) (.int .i64 0) (.int .i64 0) (.int .i64 0) (.slice none 0 0) (.slice none 0 0) (.slice none 0 0)) := (Box7.new w _ _ _ _ _ _ _ _).below hbM
  have hbw : Below w.heap.size w wM := below2 hb1 hbM
  have hlt : w.heap.size < wM.heap.size := HBX.out.lt
  have HBL : Hid (Below w.heap.size w (set7 wM w.heap.size (.int .i64 0) (.int .i64 s) (.int .i64 l) (.int .i64 (n : Int)) (.slice none 0 0) (.slice none 0 0) (.slice (some ⟨w.heap.size + 1, 0, none⟩) n n))) := set7_below hbw (Nat.le_refl _) _ _ _ _ _ _ _
  have hne : (wM.ownsRow (w.heap.size + 1) 53 2 (.slice (some ⟨w.heap.size + 1, 0, none⟩) n n) n (pairCells (List.replicate n (0, .slice none 0 0)))) := by
    have := hownM
    rwa [show (w.alloc (.cells #[.int .i64 0, .int .i64 0, .int .i64 0, .int .i64 0, .slice none 0 0, .slice none 0 0, .slice none 0 0] 26)).heap.size = w.heap.size + 1 by simp] at this
  have HTT : Hid ((set7 wM w.heap.size (.int .i64 0) (.int .i64 s) (.int .i64 l) (.int .i64 (n : Int)) (.slice none 0 0) (.slice none 0 0) (.slice (some ⟨w.heap.size + 1, 0, none⟩) n n)).ownsRow 0 53 2 (.slice (some ⟨w.heap.size + 1, 0, none⟩) n n) n (pairCells (List.replicate n (0, .slice none 0 0)))) := own_base (hne.kept (set7_grownBy _ _ _ _ _ _ _ _ _) (.inr (by simp [Value.ownBlock]))) (Nat.zero_le _)
  obtain ⟨⟨c0, c1, c2, c3, c4, c5, c6⟩, ⟨f0, f1, f2, f3, f4, f5, f6⟩⟩ := HBX.out
  clear hp hgM hownM hbM hb1 hne
  go_enter Tryz.func12, Tryz.ntmps12
  go_wp2_with fail
  refine bodyPost_ret (ret_map rfl _ _ w.heap.size _ _ _ _ _ _ _ rfl (HBX.out.set _ _ _ _ _ _ _)) rfl ?_
  exact ⟨HBL.out, w.heap.size + 1, rfl, HTT.out⟩
end Go.Proofs.YtcncbjknfcjnmaaGreat.Tp
