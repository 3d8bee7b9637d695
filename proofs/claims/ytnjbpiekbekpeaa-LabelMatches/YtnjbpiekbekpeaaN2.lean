/-
  The contract of the answer's Matches.
-/
import Derived.Test.YtnjbpiekbekpeaaN
namespace Go.Proofs.Ytnjbpiekbekpeaa
open Go.ChangeShapes Go.WideShapes Go.ChangeAt Go.RowKit
set_option maxHeartbeats 8000000 in
set_option maxRecDepth 60000 in
theorem refMatches_any (v : Value) (nm : ByteArray) (ls : List Lab) (p : Option Addr) (n c : Nat) (ms : List Mat) (w : World) (h : SerAt w v nm ls) (h2 : MatsAt w p n c ms) :
    Calls Try.prog 20 #[v, .slice p n c] w fun e w' => BoolIs (matchB ls ms) w e w' := by
  have HSER : Hid (SerAt w v nm ls) := h
  obtain ⟨a, len, cap, rfl, hL, hnm, hF⟩ := h
  have hl : ms.length = n := h2.1
  have hm : n ≤ maxLen := Nat.le_trans h2.2.1 h2.2.2.1
  unfold maxLen at hm
  have B0 : Below w.heap.size w (w.alloc (.cells #[.string nm, .slice a len cap] 24)) := below_alloc _ _
  have HM : Hid (MatsAt w p n c ms) := h2
  clear hL hF hnm h2
  go_enter Try.func20, Try.ntmps20
  go_wp2
  go_loopw [5] (fun i wr => ∃ k : Nat, k ≤ n ∧ i = .int .i64 k ∧ Hid (matchB ls (ms.take k) = true) ∧ Below w.heap.size w wr ∧ (wr.cell? ⟨w.heap.size, 0, none⟩ = some (.string nm) ∧ wr.cell? ⟨w.heap.size, 1, none⟩ = some (.slice a len cap))) (fun i _ => n - (intOf i).toNat)
  case atStart => exact ⟨0, Nat.zero_le _, rfl, by show _ = _; simp [matchB], B0, by simp, by simp⟩
  case round =>
    obtain ⟨k, hk, rfl, hT, hbel, hc0, hc1⟩ := hrel
    by_cases hlt : k < n
    · rcases (HM.out.below hbel).2.2.2 with h0 | ⟨b, off, rfl, hcell⟩
      · omega
      obtain ⟨e0, e1, e2⟩ := hcell k hlt
      have hk0 : (0 : Int) ≤ (k : Int) := by omega
      have hk1 : (k : Int) < (n : Int) := by omega
      clear hcell
      have HY := mat_take ls (ms := ms) (k := k) (by omega) hT.out
      have HN := mat_no ls (ms := ms) (k := k) (by omega)
      generalize ms.getD k mat0 = m at *
      obtain ⟨m1, m2, nt⟩ := m
      have HY' : Hid ((decide (valueL ls m1 = m2) != nt) = true → matchB ls (ms.take (k + 1)) = true) := HY
      have HN' : Hid ((decide (valueL ls m1 = m2) != nt) = false → matchB ls ms = false) := HN
      clear HY HN hT
      have hsr := hbel.size
      have hws : w.heap.size < wr.heap.size := World.block_lt_of_cell? wr ⟨w.heap.size, 0, none⟩ hc0
      have hbs : b < wr.heap.size := World.block_lt_of_cell? wr ⟨b, off + k * 3, none⟩ e0
      have HK : Hid (∀ w', Below wr.heap.size wr w' → ((w'.cell? ⟨w.heap.size, 0, none⟩ = some (.string nm) ∧ w'.cell? ⟨w.heap.size, 1, none⟩ = some (.slice a len cap)) ∧ (w'.cell? ⟨b, off + k * 3, none⟩ = some (.string m1) ∧ w'.cell? ⟨b, off + k * 3 + 1, none⟩ = some (.string m2) ∧ w'.cell? ⟨b, off + k * 3 + 2, none⟩ = some (.bool nt)) ∧ Below wr.heap.size wr w')) := fun w' hb =>
        ⟨⟨(hb.cell (p := ⟨w.heap.size, 0, none⟩) hws).trans hc0, (hb.cell (p := ⟨w.heap.size, 1, none⟩) hws).trans hc1⟩, ⟨(hb.cell (p := ⟨b, off + k * 3, none⟩) hbs).trans e0, (hb.cell (p := ⟨b, off + k * 3 + 1, none⟩) hbs).trans e1, (hb.cell (p := ⟨b, off + k * 3 + 2, none⟩) hbs).trans e2⟩, hb⟩
      have HSX : Hid (SerAt wr (.agg #[.string nm, .slice a len cap]) nm ls) := HSER.out.below hbel
      have hqe := eqB (valueL ls m1) m2
      have HV : Hid (∀ w', Below wr.heap.size wr w' → Calls Try.prog 18 #[.agg #[.string nm, .slice a len cap], .string m1] w' fun e w'' => StrPost (valueL ls m1) w' e w'') := fun w' hb => refValue_any _ nm ls m1 w' (HSX.out.below hb)
      generalize valueL ls m1 = V at *
      generalize decide (V = m2) = qe at *
      clear HSX
      go_wp2_with fail
      go_region_held3 (fun w' => (w'.cell? ⟨w.heap.size, 0, none⟩ = some (.string nm) ∧ w'.cell? ⟨w.heap.size, 1, none⟩ = some (.slice a len cap)) ∧ (w'.cell? ⟨b, off + k * 3, none⟩ = some (.string m1) ∧ w'.cell? ⟨b, off + k * 3 + 1, none⟩ = some (.string m2) ∧ w'.cell? ⟨b, off + k * 3 + 2, none⟩ = some (.bool nt)) ∧ Below wr.heap.size wr w')
        (first | exact HK.out _ (below_drew _) | (go_split_ands; exact HK.out _ (by assumption)) | (go_split_ands; exact HK.out _ (below2 (by assumption) (by assumption))))
        ((go_at_call 18; refine (HV.out _ (by go_split_ands; assumption)).mono ?_; rintro en w6 ⟨rfl, hb6⟩))
      all_goals
        have hb06 : Below w.heap.size w w6 := hbel.trans ((below2 (below_drew _) hb6).mono hsr)
        obtain ⟨⟨z0, z1⟩, _, _⟩ := HK.out w6 (below2 (below_drew _) hb6)
        have hqn : (!V.toList == m2.toList) = !qe := by rw [hqe]
        cases qe with
        | true =>
          cases nt with
          | true =>
            have HNO := HN'.out (by rfl)
            clear HY' HN' HK HV e0 e1 e2 hc0 hc1 hb6
            go_wp2
            go_ret
            exact ⟨by rw [HNO]; rfl, hb06⟩
          | false =>
            have HT : Hid (matchB ls (ms.take (k + 1)) = true) := HY'.out (by rfl)
            clear HY' HN' HK HV e0 e1 e2 hc0 hc1 hb6
            go_wp2
            exact ⟨⟨k + 1, by omega, by go_num, HT, hb06, z0, z1⟩, by simp [intOf]; omega⟩
        | false =>
          cases nt with
          | true =>
            have HT : Hid (matchB ls (ms.take (k + 1)) = true) := HY'.out (by rfl)
            clear HY' HN' HK HV e0 e1 e2 hc0 hc1 hb6
            go_wp2
            exact ⟨⟨k + 1, by omega, by go_num, HT, hb06, z0, z1⟩, by simp [intOf]; omega⟩
          | false =>
            have HNO := HN'.out (by rfl)
            clear HY' HN' HK HV e0 e1 e2 hc0 hc1 hb6
            go_wp2
            go_ret
            exact ⟨by rw [HNO]; rfl, hb06⟩
    · have HA : Hid (matchB ls ms = true) := by
        show _ = _
        have := hT.out
        rwa [List.take_of_length_le (by omega)] at this
      go_wp2
      go_ret
      exact ⟨by rw [HA.out]; rfl, hbel⟩
end Go.Proofs.Ytnjbpiekbekpeaa
