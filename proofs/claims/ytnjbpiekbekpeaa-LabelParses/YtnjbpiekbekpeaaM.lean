/-
  The contracts of light, of both Values and of both Matches.
-/
import Derived.Test.YtnjbpiekbekpeaaC
import Derived.Deep.RegionHeld3
namespace Go.Proofs.Ytnjbpiekbekpeaa
open Go.ChangeShapes Go.WideShapes Go.ChangeAt Go.RowKit
/-- the value that a series has of a name -/
def valueL : List Lab → ByteArray → ByteArray
  | [], _ => ⟨#[]⟩
  | x :: r, n => if x.1 = n then x.2 else valueL r n
theorem drop_cons (ls : List Lab) (k : Nat) (h : k < ls.length) : ls.drop k = ls.getD k lab0 :: ls.drop (k + 1) := by
  rw [List.drop_eq_getElem_cons h]
  simp [h]
theorem below_drew (w : World) : Below w.heap.size w w.drew := ⟨rfl, rfl, rfl, Nat.le_refl _, fun _ _ => rfl⟩
def StrPost (s : ByteArray) (w : World) (e : Ending) (w' : World) : Prop := e = .returned (.string s) ∧ Below w.heap.size w w'
set_option maxHeartbeats 4000000 in
theorem value_any (v : Value) (nm : ByteArray) (ls : List Lab) (n : ByteArray) (w : World) (h : SerAt w v nm ls) :
    Calls Try.prog 17 #[v, .string n] w fun e w' => StrPost (valueL ls n) w e w' := by
  obtain ⟨a, len, cap, rfl, hL, hnm, hF⟩ := h
  have hl : ls.length = len := hL.1
  have hm : len ≤ maxLen := Nat.le_trans hL.2.1 hL.2.2.1
  unfold maxLen at hm
  have B0 : Below w.heap.size w (w.alloc (.cells #[.string nm, .slice a len cap] 24)) := below_alloc _ _
  have HL : Hid (LabsAt w a len cap ls) := hL
  clear hL hF hnm
  go_enter Try.func17, Try.ntmps17
  go_wp2
  go_loopw [10] (fun i wr => ∃ k : Nat, k ≤ len ∧ i = .int .i64 k ∧ Hid (valueL (ls.drop k) n = valueL ls n) ∧ Below w.heap.size w wr) (fun i _ => len - (intOf i).toNat)
  case atStart => exact ⟨0, Nat.zero_le _, rfl, rfl, B0⟩
  case round =>
    obtain ⟨k, hk, rfl, hT, hbel⟩ := hrel
    by_cases hlt : k < len
    · obtain ⟨b, off, rfl, hcell⟩ := (HL.out.below hbel).some (by omega)
      obtain ⟨e0, e1⟩ := hcell k hlt
      have hk1 : (k : Int) < (len : Int) := by omega
      clear hcell
      have HD : Hid (ls.drop k = ls.getD k lab0 :: ls.drop (k + 1)) := drop_cons ls k (by omega)
      generalize ls.getD k lab0 = x at *
      obtain ⟨x1, x2⟩ := x
      have B4 : Below w.heap.size w (wr.alloc (.cells #[.string x1, .string x2] 46)) := hbel.alloc hbel.size _
      by_cases hx : x1 = n
      · have HV : Hid (valueL ls n = x2) := by show _ = _; rw [← hT.out, HD.out]; simp [valueL, hx]
        have hq : (x1.toList == n.toList) = true := by rw [eqB, hx]; simp
        clear HD hT hx
        go_wp2
        go_ret
        exact ⟨by rw [HV.out]; rfl, B4⟩
      · have HV : Hid (valueL (ls.drop (k + 1)) n = valueL ls n) := by show _ = _; rw [← hT.out, HD.out]; simp [valueL, hx]
        have hq : (x1.toList == n.toList) = false := by rw [eqB]; simp [hx]
        clear HD hT hx
        go_wp2
        exact ⟨⟨k + 1, by omega, by go_num, HV, B4⟩, by simp [intOf]; omega⟩
    · have HV : Hid (valueL ls n = ⟨#[]⟩) := by
        show _ = _
        rw [← hT.out, List.drop_eq_nil_of_le (by omega)]; rfl
      go_wp2
      go_ret
      exact ⟨by rw [HV.out]; rfl, hbel⟩
set_option maxHeartbeats 4000000 in
theorem refValue_any (v : Value) (nm : ByteArray) (ls : List Lab) (n : ByteArray) (w : World) (h : SerAt w v nm ls) :
    Calls Try.prog 18 #[v, .string n] w fun e w' => StrPost (valueL ls n) w e w' := by
  obtain ⟨a, len, cap, rfl, hL, hnm, hF⟩ := h
  have hl : ls.length = len := hL.1
  have hm : len ≤ maxLen := Nat.le_trans hL.2.1 hL.2.2.1
  unfold maxLen at hm
  have B0 : Below w.heap.size w (w.alloc (.cells #[.string nm, .slice a len cap] 24)) := below_alloc _ _
  have HL : Hid (LabsAt w a len cap ls) := hL
  clear hL hF hnm
  go_enter Try.func18, Try.ntmps18
  go_wp2
  go_loopw [5] (fun i wr => ∃ k : Nat, k ≤ len ∧ i = .int .i64 k ∧ Hid (valueL (ls.drop k) n = valueL ls n) ∧ Below w.heap.size w wr ∧ (wr.cell? ⟨w.heap.size, 0, none⟩ = some (.string nm) ∧ wr.cell? ⟨w.heap.size, 1, none⟩ = some (.slice a len cap))) (fun i _ => len - (intOf i).toNat)
  case atStart => exact ⟨0, Nat.zero_le _, rfl, rfl, B0, by simp, by simp⟩
  case round =>
    obtain ⟨k, hk, rfl, hT, hbel, hc0, hc1⟩ := hrel
    by_cases hlt : k < len
    · obtain ⟨b, off, rfl, hcell⟩ := (HL.out.below hbel).some (by omega)
      obtain ⟨e0, e1⟩ := hcell k hlt
      have hk1 : (k : Int) < (len : Int) := by omega
      clear hcell
      have HD : Hid (ls.drop k = ls.getD k lab0 :: ls.drop (k + 1)) := drop_cons ls k (by omega)
      generalize ls.getD k lab0 = x at *
      obtain ⟨x1, x2⟩ := x
      by_cases hx : x1 = n
      · have HV : Hid (valueL ls n = x2) := by show _ = _; rw [← hT.out, HD.out]; simp [valueL, hx]
        have hq : (x1.toList == n.toList) = true := by rw [eqB, hx]; simp
        clear HD hT hx
        go_wp2
        go_ret
        exact ⟨by rw [HV.out]; rfl, hbel⟩
      · have HV : Hid (valueL (ls.drop (k + 1)) n = valueL ls n) := by show _ = _; rw [← hT.out, HD.out]; simp [valueL, hx]
        have hq : (x1.toList == n.toList) = false := by rw [eqB]; simp [hx]
        clear HD hT hx
        go_wp2
        exact ⟨⟨k + 1, by omega, by go_num, HV, hbel, hc0, hc1⟩, by simp [intOf]; omega⟩
    · have HV : Hid (valueL ls n = ⟨#[]⟩) := by
        show _ = _
        rw [← hT.out, List.drop_eq_nil_of_le (by omega)]; rfl
      go_wp2
      go_ret
      exact ⟨by rw [HV.out]; rfl, hbel⟩
/-- light answers -/
def AnyBool (w : World) (e : Ending) (w' : World) : Prop := Below w.heap.size w w' ∧ ∃ q : Bool, e = .returned (.bool q)
set_option maxHeartbeats 4000000 in
set_option maxRecDepth 20000 in
theorem light_any (v : Value) (nm : ByteArray) (ls : List Lab) (w : World) (h : SerAt w v nm ls) :
    Calls Try.prog 8 #[v] w fun e w' => AnyBool w e w' := by
  obtain ⟨a, len, cap, rfl, hL, hnm, hF⟩ := h
  have hl : ls.length = len := hL.1
  have hm : len ≤ maxLen := Nat.le_trans hL.2.1 hL.2.2.1
  unfold maxLen at hm
  have B0 : Below w.heap.size w (w.alloc (.cells #[.string nm, .slice a len cap] 24)) := below_alloc _ _
  have HL : Hid (LabsAt w a len cap ls) := hL
  clear hL hF hnm
  go_enter Try.func8, Try.ntmps8
  go_wp2
  go_loopw [3, 4] (fun n i wr => ∃ (k : Nat) (z : Int), k ≤ len ∧ i = .int .i64 k ∧ n = .int .i64 z ∧ Below w.heap.size w wr ∧ (wr.cell? ⟨w.heap.size, 0, none⟩ = some (.string nm) ∧ wr.cell? ⟨w.heap.size, 1, none⟩ = some (.slice a len cap))) (fun _ i _ => len - (intOf i).toNat)
  case atStart => exact ⟨0, _, Nat.zero_le _, rfl, rfl, B0, by simp, by simp⟩
  case round =>
    obtain ⟨k, z, hk, rfl, rfl, hbel, hc0, hc1⟩ := hrel
    by_cases hlt : k < len
    · obtain ⟨b, off, rfl, hcell⟩ := (HL.out.below hbel).some (by omega)
      obtain ⟨e0, e1⟩ := hcell k hlt
      have hk0 : (0 : Int) ≤ (k : Int) := by omega
      have hk1 : (k : Int) < (len : Int) := by omega
      clear hcell
      generalize ls.getD k lab0 = x at *
      obtain ⟨x1, x2⟩ := x
      by_cases h30 : (k : Int) < 30
      · by_cases hz : (3000 : Int) < z
        · go_wp2
          go_ret
          exact ⟨hbel, _, rfl⟩
        by_cases hy1 : (3000 : Int) < (x1.size : Int)
        · go_wp2
          go_ret
          exact ⟨hbel, _, rfl⟩
        by_cases hy2 : (3000 : Int) < (x2.size : Int)
        · go_wp2
          go_ret
          exact ⟨hbel, _, rfl⟩
        go_wp2_with fail
        go_quiet (fail)
        have hb : Below w.heap.size w (wr.drewN nq) := hbel.trans ((below_drewN _ _).mono hbel.size)
        have g0 : (wr.drewN nq).cell? ⟨w.heap.size, 0, none⟩ = some (.string nm) := hc0
        have g1 : (wr.drewN nq).cell? ⟨w.heap.size, 1, none⟩ = some (.slice (some ⟨b, off, none⟩) len cap) := hc1
        go_wp2
        exact ⟨⟨k + 1, _, by omega, by go_num, rfl, hb, g0, g1⟩, by simp [intOf]; omega⟩
      · by_cases h6 : z ≤ 6000
        · go_wp2
          go_ret
          exact ⟨hbel, _, rfl⟩
        · go_wp2
          go_ret
          exact ⟨hbel, _, rfl⟩
    · by_cases h6 : z ≤ 6000
      · go_wp2
        go_ret
        exact ⟨hbel, _, rfl⟩
      · go_wp2
        go_ret
        exact ⟨hbel, _, rfl⟩
end Go.Proofs.Ytnjbpiekbekpeaa
