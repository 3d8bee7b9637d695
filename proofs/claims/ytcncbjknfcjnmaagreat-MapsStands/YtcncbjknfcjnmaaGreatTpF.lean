/-
  The contracts of both Finds.
-/
import Derived.Test.YtcncbjknfcjnmaaGreatTpC
import Derived.Deep.Cut
namespace Go.Proofs.YtcncbjknfcjnmaaGreat.Tp
open Go.ChangeShapes Go.WideShapes Go.ChangeAt Go.RowKit
/-- the node of that Id -/
def findN (ls : List Nd) (id : Int) : Option Nd := ls.find? fun x => x.id == id
theorem find_none {ls : List Nd} {id : Int} (h : ∀ j, j < ls.length → (ls.getD j nd0).id ≠ id) : findN ls id = none := by
  unfold findN
  rw [List.find?_eq_none]
  intro x hx
  obtain ⟨j, hj, rfl⟩ := List.getElem_of_mem hx
  have := h j hj
  rw [show ls.getD j nd0 = ls[j] by simp [hj]] at this
  simpa using this
theorem find_some {ls : List Nd} {id : Int} {k : Nat} (hk : k < ls.length) (h1 : (ls.getD k nd0).id = id) (h : ∀ j, j < k → (ls.getD j nd0).id ≠ id) : findN ls id = some (ls.getD k nd0) := by
  unfold findN
  rw [List.find?_eq_some_iff_getElem]
  rw [show ls.getD k nd0 = ls[k] by simp [hk]] at *
  refine ⟨by simpa using h1, k, hk, rfl, fun j hj => ?_⟩
  have := h j hj
  rw [show ls.getD j nd0 = ls[j] by simp [show j < ls.length by omega]] at this
  simpa using this
def FindPost (r : Option Nd) (w : World) (e : Ending) (w' : World) : Prop := Below w.heap.size w w' ∧ e = .returned (.tuple #[.agg (ndCells (r.getD nd0)).toArray, .bool r.isSome])
/-- six cells of a block written -/
def set6 (w : World) (b : Nat) (v0 v1 v2 v3 v4 v5 : Value) : World := (((((w.setCell ⟨b, 0, none⟩ v0).setCell ⟨b, 1, none⟩ v1).setCell ⟨b, 2, none⟩ v2).setCell ⟨b, 3, none⟩ v3).setCell ⟨b, 4, none⟩ v4).setCell ⟨b, 5, none⟩ v5
def Six (w : World) (b : Nat) (v0 v1 v2 v3 v4 v5 : Value) : Prop := w.cell? ⟨b, 0, none⟩ = some v0 ∧ w.cell? ⟨b, 1, none⟩ = some v1 ∧ w.cell? ⟨b, 2, none⟩ = some v2 ∧ w.cell? ⟨b, 3, none⟩ = some v3 ∧ w.cell? ⟨b, 4, none⟩ = some v4 ∧ w.cell? ⟨b, 5, none⟩ = some v5
theorem Six.set {w : World} {b : Nat} {u0 u1 u2 u3 u4 u5 : Value} (h : Six w b u0 u1 u2 u3 u4 u5) (v0 v1 v2 v3 v4 v5 : Value) : Six (set6 w b v0 v1 v2 v3 v4 v5) b v0 v1 v2 v3 v4 v5 := by
  obtain ⟨h0, h1, h2, h3, h4, h5⟩ := h
  unfold set6
  refine ⟨?_, ?_, ?_, ?_, ?_, ?_⟩
  · rw [set_else (by omega), set_else (by omega), set_else (by omega), set_else (by omega), set_else (by omega)]
    exact set_same h0 _
  · rw [set_else (by omega), set_else (by omega), set_else (by omega), set_else (by omega)]
    exact set_same ((set_else (by omega) _).trans h1) _
  · rw [set_else (by omega), set_else (by omega), set_else (by omega)]
    exact set_same ((set_else (by omega) _).trans ((set_else (by omega) _).trans h2)) _
  · rw [set_else (by omega), set_else (by omega)]
    exact set_same ((set_else (by omega) _).trans ((set_else (by omega) _).trans ((set_else (by omega) _).trans h3))) _
  · rw [set_else (by omega)]
    exact set_same ((set_else (by omega) _).trans ((set_else (by omega) _).trans ((set_else (by omega) _).trans ((set_else (by omega) _).trans h4)))) _
  · exact set_same ((set_else (by omega) _).trans ((set_else (by omega) _).trans ((set_else (by omega) _).trans ((set_else (by omega) _).trans ((set_else (by omega) _).trans h5))))) _
theorem Six.below {w w' : World} {b : Nat} {v0 v1 v2 v3 v4 v5 : Value} (h : Six w b v0 v1 v2 v3 v4 v5) (hb : Below w.heap.size w w') : Six w' b v0 v1 v2 v3 v4 v5 := by
  have hl : b < w.heap.size := World.block_lt_of_cell? w ⟨b, 0, none⟩ h.1
  obtain ⟨h0, h1, h2, h3, h4, h5⟩ := h
  exact ⟨(hb.cell (p := ⟨b, 0, none⟩) hl).trans h0, (hb.cell (p := ⟨b, 1, none⟩) hl).trans h1, (hb.cell (p := ⟨b, 2, none⟩) hl).trans h2, (hb.cell (p := ⟨b, 3, none⟩) hl).trans h3, (hb.cell (p := ⟨b, 4, none⟩) hl).trans h4, (hb.cell (p := ⟨b, 5, none⟩) hl).trans h5⟩
theorem set6_below {N : Nat} {w0 w : World} {b : Nat} (h : Below N w0 w) (hb : N ≤ b) (v0 v1 v2 v3 v4 v5 : Value) : Below N w0 (set6 w b v0 v1 v2 v3 v4 v5) :=
  (((((h.setCell (p := ⟨b, 0, none⟩) hb _).setCell (p := ⟨b, 1, none⟩) hb _).setCell (p := ⟨b, 2, none⟩) hb _).setCell (p := ⟨b, 3, none⟩) hb _).setCell (p := ⟨b, 4, none⟩) hb _).setCell (p := ⟨b, 5, none⟩) hb _
theorem ret_node {fn : Func} {p u : Tmp} (h : fn.results = #[.cell p 72, .tmp u]) (tmps : Array Value) (w : World) (b : Nat) (v0 v1 v2 v3 v4 v5 : Value) (hp : tmps.getD p undef = .pointer (some ⟨b, 0, none⟩))
    (hb : Six w b v0 v1 v2 v3 v4 v5) : (results fn tmps).run Tryz.prog w = .ok (.tuple #[.agg #[v0, v1, v2, v3, v4, v5], tmps.getD u undef]) w := by
  obtain ⟨h0, h1, h2, h3, h4, h5⟩ := hb
  rw [results_cell_tmp h, hp]
  simp [go_sem, h0, h1, h2, h3, h4, h5]
set_option maxHeartbeats 2000000 in
set_option maxRecDepth 60000 in
theorem refFind_any (a : Option Addr) (len cap : Nat) (ls : List Nd) (id : Int) (w : World) (h : NdsAt w a len cap ls) :
    Calls Tryz.prog 57 #[.slice a len cap, .int .i64 id] w fun e w' => FindPost (findN ls id) w e w' := by
  have hl : ls.length = len := h.1
  have hm : len ≤ maxLen := Nat.le_trans h.2.1 h.2.2.1
  unfold maxLen at hm
  have hbw1 : Below w.heap.size w (w.alloc (.cells #[.int .i64 0, .int .i64 0, .int .i64 0, .int .i64 0, .bool false, .bool false] 72)) := below_alloc _ _
  have hs1 : w.heap.size < (w.alloc (.cells #[.int .i64 0, .int .i64 0, .int .i64 0, .int .i64 0, .bool false, .bool false] 72)).heap.size := by simp
  have HS1 : Hid (Six (w.alloc (.cells #[.int .i64 0, .int .i64 0, .int .i64 0, .int .i64 0, .bool false, .bool false] 72)) w.heap.size (.int .i64 0) (.int .i64 0) (.int .i64 0) (.int .i64 0) (.bool false) (.bool false)) := by unfold Hid Six; simp
  have q0 : (w.alloc (.cells #[.int .i64 0, .int .i64 0, .int .i64 0, .int .i64 0, .bool false, .bool false] 72)).frozen? ⟨w.heap.size, 0, none⟩ = false := by simp
  have q1 : (w.alloc (.cells #[.int .i64 0, .int .i64 0, .int .i64 0, .int .i64 0, .bool false, .bool false] 72)).frozen? ⟨w.heap.size, 1, none⟩ = false := by simp
  have q2 : (w.alloc (.cells #[.int .i64 0, .int .i64 0, .int .i64 0, .int .i64 0, .bool false, .bool false] 72)).frozen? ⟨w.heap.size, 2, none⟩ = false := by simp
  have q3 : (w.alloc (.cells #[.int .i64 0, .int .i64 0, .int .i64 0, .int .i64 0, .bool false, .bool false] 72)).frozen? ⟨w.heap.size, 3, none⟩ = false := by simp
  have q4 : (w.alloc (.cells #[.int .i64 0, .int .i64 0, .int .i64 0, .int .i64 0, .bool false, .bool false] 72)).frozen? ⟨w.heap.size, 4, none⟩ = false := by simp
  have q5 : (w.alloc (.cells #[.int .i64 0, .int .i64 0, .int .i64 0, .int .i64 0, .bool false, .bool false] 72)).frozen? ⟨w.heap.size, 5, none⟩ = false := by simp
  have HL : Hid (NdsAt (w.alloc (.cells #[.int .i64 0, .int .i64 0, .int .i64 0, .int .i64 0, .bool false, .bool false] 72)) a len cap ls) := h.below hbw1
  clear h
  go_enter Tryz.func57, Tryz.ntmps57
  go_wp2_with fail
  generalize w.alloc (.cells #[.int .i64 0, .int .i64 0, .int .i64 0, .int .i64 0, .bool false, .bool false] 72) = w1 at *
  have HX : Hid (∀ wr, Below w1.heap.size w1 wr → Six wr w.heap.size (.int .i64 0) (.int .i64 0) (.int .i64 0) (.int .i64 0) (.bool false) (.bool false)) := fun wr hb => HS1.out.below hb
  have HFR : Hid (∀ wr, Below w1.heap.size w1 wr → wr.frozen? ⟨w.heap.size, 0, none⟩ = false ∧ wr.frozen? ⟨w.heap.size, 1, none⟩ = false ∧ wr.frozen? ⟨w.heap.size, 2, none⟩ = false ∧ wr.frozen? ⟨w.heap.size, 3, none⟩ = false ∧ wr.frozen? ⟨w.heap.size, 4, none⟩ = false ∧ wr.frozen? ⟨w.heap.size, 5, none⟩ = false) := fun wr hb => ⟨(hb.frozen (p := ⟨w.heap.size, 0, none⟩) hs1).trans q0, (hb.frozen (p := ⟨w.heap.size, 1, none⟩) hs1).trans q1, (hb.frozen (p := ⟨w.heap.size, 2, none⟩) hs1).trans q2, (hb.frozen (p := ⟨w.heap.size, 3, none⟩) hs1).trans q3, (hb.frozen (p := ⟨w.heap.size, 4, none⟩) hs1).trans q4, (hb.frozen (p := ⟨w.heap.size, 5, none⟩) hs1).trans q5⟩
  clear q0 q1 q2 q3 q4 q5 HS1
  go_loopw [6] (fun i wr => ∃ k : Nat, k ≤ len ∧ i = .int .i64 k ∧ Hid (∀ j, j < k → (ls.getD j nd0).id ≠ id) ∧ Below w1.heap.size w1 wr) (fun i _ => len - (intOf i).toNat)
  case atStart => exact ⟨0, Nat.zero_le _, rfl, (fun j hj => absurd hj (Nat.not_lt_zero _)), Below.refl _ _⟩
  case round =>
    obtain ⟨k, hk, rfl, hT, hbel⟩ := hrel
    have HSX : Hid (Six wr w.heap.size (.int .i64 0) (.int .i64 0) (.int .i64 0) (.int .i64 0) (.bool false) (.bool false)) := HX.out wr hbel
    obtain ⟨s0, s1, s2, s3, s4, s5⟩ := HX.out wr hbel
    obtain ⟨f0, f1, f2, f3, f4, f5⟩ := HFR.out wr hbel
    have hbw : Below w.heap.size w wr := below2 hbw1 hbel
    have hsz : w.heap.size < wr.heap.size := Nat.lt_of_lt_of_le hs1 hbel.size
    by_cases hlt : k < len
    · obtain ⟨b, off, rfl, hbs, hcell⟩ := (HL.out.below hbel).some (by omega)
      obtain ⟨e0, e1, e2, e3, e4, e5⟩ := hcell k hlt
      have hk1 : (k : Int) < (len : Int) := by omega
      have hk0 : (0 : Int) ≤ (k : Int) := by omega
      clear hcell
      have HNO : Hid ((ls.getD k nd0).id ≠ id → ∀ j, j < k + 1 → (ls.getD j nd0).id ≠ id) := fun h j hj => by
        rcases Nat.lt_succ_iff_lt_or_eq.1 hj with h' | rfl
        · exact hT.out j h'
        · exact h
      have HYES : Hid ((ls.getD k nd0).id = id → findN ls id = some (ls.getD k nd0)) := fun h => find_some (by omega) h hT.out
      generalize ls.getD k nd0 = x at *
      obtain ⟨c1, c2, c3, c4, c5, c6⟩ := x
      simp only at e0 e1 e2 e3 e4 e5
      clear hT
      by_cases hid : c1 = id
      · have HP : Hid (findN ls id = some ⟨c1, c2, c3, c4, c5, c6⟩) := HYES.out hid
        obtain rfl := hid.symm
        clear HNO HYES hid
        go_wp2_with fail
        refine bodyPost_ret (ret_node rfl _ _ w.heap.size _ _ _ _ _ _ rfl (HSX.out.set _ _ _ _ _ _)) rfl ?_
        exact ⟨set6_below hbw (Nat.le_refl _) _ _ _ _ _ _, by rw [HP.out]; rfl⟩
      · have HY : Hid (∀ j, j < k + 1 → (ls.getD j nd0).id ≠ id) := HNO.out hid
        have hd : (c1 == id) = false := by simpa using hid
        clear HNO HYES
        go_wp2_with fail
        exact ⟨⟨k + 1, by omega, by go_num, HY, hbel⟩, by simp [intOf]; omega⟩
    · obtain rfl : k = len := by omega
      have HP : Hid (findN ls id = none) := find_none fun j hj => hT.out j (by omega)
      clear hT
      go_wp2_with fail
      refine bodyPost_ret (ret_node rfl _ _ w.heap.size _ _ _ _ _ _ rfl (HSX.out.set _ _ _ _ _ _)) rfl ?_
      exact ⟨set6_below hbw (Nat.le_refl _) _ _ _ _ _ _, by rw [HP.out]; rfl⟩
end Go.Proofs.YtcncbjknfcjnmaaGreat.Tp
