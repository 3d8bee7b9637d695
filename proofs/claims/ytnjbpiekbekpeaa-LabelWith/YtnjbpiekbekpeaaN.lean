/-
  The contracts of both Matches.
-/
import Derived.Test.YtnjbpiekbekpeaaM
namespace Go.Proofs.Ytnjbpiekbekpeaa
open Go.ChangeShapes Go.WideShapes Go.ChangeAt Go.RowKit
abbrev Mat := ByteArray × ByteArray × Bool
def mat0 : Mat := (⟨#[]⟩, ⟨#[]⟩, false)
/-- a slice of what is asked that reads as these -/
def MatsAt (w : World) (a : Option Addr) (len cap : Nat) (ms : List Mat) : Prop :=
  ms.length = len ∧ len ≤ cap ∧ cap ≤ maxLen ∧ (len = 0 ∨ ∃ b off, a = some ⟨b, off, none⟩ ∧ ∀ i, i < len → w.cell? ⟨b, off + i * 3, none⟩ = some (.string (ms.getD i mat0).1) ∧ w.cell? ⟨b, off + i * 3 + 1, none⟩ = some (.string (ms.getD i mat0).2.1) ∧ w.cell? ⟨b, off + i * 3 + 2, none⟩ = some (.bool (ms.getD i mat0).2.2))
theorem MatsAt.below {w w' : World} {a : Option Addr} {len cap : Nat} {ms : List Mat} (h : MatsAt w a len cap ms) (hb : Below w.heap.size w w') : MatsAt w' a len cap ms := by
  refine ⟨h.1, h.2.1, h.2.2.1, ?_⟩
  rcases h.2.2.2 with h0 | ⟨b, off, e, hc⟩
  · exact .inl h0
  · refine .inr ⟨b, off, e, fun i hi => ?_⟩
    obtain ⟨c0, c1, c2⟩ := hc i hi
    have hlt : b < w.heap.size := World.block_lt_of_cell? w ⟨b, off + i * 3, none⟩ c0
    exact ⟨(hb.cell (p := ⟨b, off + i * 3, none⟩) hlt).trans c0, (hb.cell (p := ⟨b, off + i * 3 + 1, none⟩) hlt).trans c1, (hb.cell (p := ⟨b, off + i * 3 + 2, none⟩) hlt).trans c2⟩
def matchB (ls : List Lab) (ms : List Mat) : Bool := ms.all fun m => decide (valueL ls m.1 = m.2.1) != m.2.2
theorem mat_take (ls : List Lab) {ms : List Mat} {k : Nat} (hk : k < ms.length) (h : matchB ls (ms.take k) = true) (hm : (decide (valueL ls (ms.getD k mat0).1 = (ms.getD k mat0).2.1) != (ms.getD k mat0).2.2) = true) : matchB ls (ms.take (k + 1)) = true := by
  have e : ms.getD k mat0 = ms[k] := by simp [hk]
  rw [e] at hm
  rw [List.take_add_one, List.getElem?_eq_getElem hk]
  unfold matchB at *
  rw [List.all_append, h]
  simpa using hm
theorem mat_no (ls : List Lab) {ms : List Mat} {k : Nat} (hk : k < ms.length) (hm : (decide (valueL ls (ms.getD k mat0).1 = (ms.getD k mat0).2.1) != (ms.getD k mat0).2.2) = false) : matchB ls ms = false := by
  have e : ms.getD k mat0 = ms[k] := by simp [hk]
  rw [e] at hm
  unfold matchB
  rw [List.all_eq_false]
  exact ⟨ms[k], List.getElem_mem hk, by simpa using hm⟩
def BoolIs (q : Bool) (w : World) (e : Ending) (w' : World) : Prop := e = .returned (.bool q) ∧ Below w.heap.size w w'
set_option maxHeartbeats 8000000 in
set_option maxRecDepth 60000 in
theorem matches_any (v : Value) (nm : ByteArray) (ls : List Lab) (p : Option Addr) (n c : Nat) (ms : List Mat) (w : World) (h : SerAt w v nm ls) (h2 : MatsAt w p n c ms) :
    Calls Try.prog 19 #[v, .slice p n c] w fun e w' => BoolIs (matchB ls ms) w e w' := by
  have HSER : Hid (SerAt w v nm ls) := h
  obtain ⟨a, len, cap, rfl, hL, hnm, hF⟩ := h
  have hl : ms.length = n := h2.1
  have hm : n ≤ maxLen := Nat.le_trans h2.2.1 h2.2.2.1
  unfold maxLen at hm
  have B0 : Below w.heap.size w (w.alloc (.cells #[.string nm, .slice a len cap] 24)) := below_alloc _ _
  have HM : Hid (MatsAt w p n c ms) := h2
  clear hL hF hnm h2
  go_enter Try.func19, Try.ntmps19
  go_wp2
  go_loopw [9] (fun i wr => ∃ k : Nat, k ≤ n ∧ i = .int .i64 k ∧ Hid (matchB ls (ms.take k) = true) ∧ Below w.heap.size w wr ∧ (wr.cell? ⟨w.heap.size, 0, none⟩ = some (.string nm) ∧ wr.cell? ⟨w.heap.size, 1, none⟩ = some (.slice a len cap))) (fun i _ => n - (intOf i).toNat)
  case atStart => exact ⟨0, Nat.zero_le _, rfl, by show _ = _; simp [matchB], B0, by simp, by simp⟩
  case round =>
    obtain ⟨k, hk, rfl, hT, hbel, hc0, hc1⟩ := hrel
    by_cases hlt : k < n
    · rcases (HM.out.below hbel).2.2.2 with h0 | ⟨b, off, rfl, hcell⟩
      · omega
      obtain ⟨e0, e1, e2⟩ := hcell k hlt
      have hk0 : (0 : Int) ≤ (k : Int) := by omega
      have hk1 : (k : Int) < (n : Int) := by omega
      clear hcell
      have HY := mat_take ls (ms := ms) (k := k) (by omega) hT.out
      have HN := mat_no ls (ms := ms) (k := k) (by omega)
      generalize ms.getD k mat0 = m at *
      obtain ⟨m1, m2, nt⟩ := m
      have HY' : Hid ((decide (valueL ls m1 = m2) != nt) = true → matchB ls (ms.take (k + 1)) = true) := HY
      have HN' : Hid ((decide (valueL ls m1 = m2) != nt) = false → matchB ls ms = false) := HN
      clear HY HN hT
      have hsr := hbel.size
      go_wp2_with fail
      have BX : Below w.heap.size w (wr.alloc (.cells #[.string m1, .string m2, .bool nt] 65)) := hbel.alloc hbel.size _
      have x0 : (wr.alloc (.cells #[.string m1, .string m2, .bool nt] 65)).cell? ⟨wr.heap.size, 0, none⟩ = some (.string m1) := by simp
      have x1 : (wr.alloc (.cells #[.string m1, .string m2, .bool nt] 65)).cell? ⟨wr.heap.size, 1, none⟩ = some (.string m2) := by simp
      have x2 : (wr.alloc (.cells #[.string m1, .string m2, .bool nt] 65)).cell? ⟨wr.heap.size, 2, none⟩ = some (.bool nt) := by simp
      have hws : w.heap.size < wr.heap.size := World.block_lt_of_cell? wr ⟨w.heap.size, 0, none⟩ hc0
      have y0 : (wr.alloc (.cells #[.string m1, .string m2, .bool nt] 65)).cell? ⟨w.heap.size, 0, none⟩ = some (.string nm) := ((below_alloc wr _).cell (p := ⟨w.heap.size, 0, none⟩) hws).trans hc0
      have y1 : (wr.alloc (.cells #[.string m1, .string m2, .bool nt] 65)).cell? ⟨w.heap.size, 1, none⟩ = some (.slice a len cap) := ((below_alloc wr _).cell (p := ⟨w.heap.size, 1, none⟩) hws).trans hc1
      have hsx : wr.heap.size < (wr.alloc (.cells #[.string m1, .string m2, .bool nt] 65)).heap.size := by simp
      generalize wr.alloc (.cells #[.string m1, .string m2, .bool nt] 65) = wx at *
      generalize wr.heap.size = bx at *
      have hwx : w.heap.size < wx.heap.size := by omega
      have HK : Hid (∀ w', Below wx.heap.size wx w' → ((w'.cell? ⟨w.heap.size, 0, none⟩ = some (.string nm) ∧ w'.cell? ⟨w.heap.size, 1, none⟩ = some (.slice a len cap)) ∧ (w'.cell? ⟨bx, 0, none⟩ = some (.string m1) ∧ w'.cell? ⟨bx, 1, none⟩ = some (.string m2) ∧ w'.cell? ⟨bx, 2, none⟩ = some (.bool nt)) ∧ Below wx.heap.size wx w')) := fun w' hb =>
        ⟨⟨(hb.cell (p := ⟨w.heap.size, 0, none⟩) hwx).trans y0, (hb.cell (p := ⟨w.heap.size, 1, none⟩) hwx).trans y1⟩, ⟨(hb.cell (p := ⟨bx, 0, none⟩) hsx).trans x0, (hb.cell (p := ⟨bx, 1, none⟩) hsx).trans x1, (hb.cell (p := ⟨bx, 2, none⟩) hsx).trans x2⟩, hb⟩
      have HSX : Hid (SerAt wx (.agg #[.string nm, .slice a len cap]) nm ls) := HSER.out.below BX
      have hqe := eqB (valueL ls m1) m2
      have HV : Hid (∀ w', Below wx.heap.size wx w' → Calls Try.prog 17 #[.agg #[.string nm, .slice a len cap], .string m1] w' fun e w'' => StrPost (valueL ls m1) w' e w'') := fun w' hb => value_any _ nm ls m1 w' (HSX.out.below hb)
      generalize valueL ls m1 = V at *
      generalize decide (V = m2) = qe at *
      have hsw := BX.size
      clear e0 e1 e2 HSX hc0 hc1
      go_region_held3 (fun w' => (w'.cell? ⟨w.heap.size, 0, none⟩ = some (.string nm) ∧ w'.cell? ⟨w.heap.size, 1, none⟩ = some (.slice a len cap)) ∧ (w'.cell? ⟨bx, 0, none⟩ = some (.string m1) ∧ w'.cell? ⟨bx, 1, none⟩ = some (.string m2) ∧ w'.cell? ⟨bx, 2, none⟩ = some (.bool nt)) ∧ Below wx.heap.size wx w')
        (first | exact HK.out _ (below_drew _) | (go_split_ands; exact HK.out _ (by assumption)) | (go_split_ands; exact HK.out _ (below2 (by assumption) (by assumption))))
        ((go_at_call 17; refine (HV.out _ (by go_split_ands; assumption)).mono ?_; rintro en w6 ⟨rfl, hb6⟩))
      all_goals
        have hb06 : Below w.heap.size w w6 := BX.trans ((below2 (below_drew _) hb6).mono hsw)
        obtain ⟨⟨z0, z1⟩, _, _⟩ := HK.out w6 (below2 (below_drew _) hb6)
        cases qe with
        | true =>
          cases nt with
          | true =>
            have HNO := HN'.out (by rfl)
            clear HY' HN' HK HV x0 x1 x2 y0 y1 hb6
            go_wp2
            go_ret
            exact ⟨by rw [HNO]; rfl, hb06⟩
          | false =>
            have HT : Hid (matchB ls (ms.take (k + 1)) = true) := HY'.out (by rfl)
            clear HY' HN' HK HV x0 x1 x2 y0 y1 hb6
            go_wp2
            exact ⟨⟨k + 1, by omega, by go_num, HT, hb06, z0, z1⟩, by simp [intOf]; omega⟩
        | false =>
          cases nt with
          | true =>
            have HT : Hid (matchB ls (ms.take (k + 1)) = true) := HY'.out (by rfl)
            clear HY' HN' HK HV x0 x1 x2 y0 y1 hb6
            go_wp2
            exact ⟨⟨k + 1, by omega, by go_num, HT, hb06, z0, z1⟩, by simp [intOf]; omega⟩
          | false =>
            have HNO := HN'.out (by rfl)
            clear HY' HN' HK HV x0 x1 x2 y0 y1 hb6
            go_wp2
            go_ret
            exact ⟨by rw [HNO]; rfl, hb06⟩
    · have HA : Hid (matchB ls ms = true) := by
        show _ = _
        have := hT.out
        rwa [List.take_of_length_le (by omega)] at this
      go_wp2
      go_ret
      exact ⟨by rw [HA.out]; rfl, hbel⟩
end Go.Proofs.Ytnjbpiekbekpeaa
