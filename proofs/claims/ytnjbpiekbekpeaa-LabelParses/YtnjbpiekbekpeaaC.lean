/-
  Series as they lie in memory; the contracts of Check and of May: which series may be.
-/
import Derived.Test.YtnjbpiekbekpeaaB
import Derived.Sort.Walk0
import Derived.Deep.QuietTactic
import Derived.BigQuiet
import Derived.Laws.Cover1
namespace Go.Proofs.Ytnjbpiekbekpeaa
open Go.ChangeShapes Go.WideShapes Go.ChangeAt Go.RowKit
/-- the order of texts -/
def ltB (x y : ByteArray) : Bool := Op.bytesLess x.toList y.toList
theorem ltB_eq (x y : ByteArray) : ltB x y = decide (sg x < sg y) := by
  unfold ltB sg
  rw [bytesLess_eq, ByteArray.toList_eq, ByteArray.toList_eq]
theorem eqB (x y : ByteArray) : (x.toList == y.toList) = decide (x = y) := by
  rw [ByteArray.toList_eq, ByteArray.toList_eq]
  by_cases h : x = y
  · subst h; simp
  · rw [decide_eq_false h]
    have : ¬ x.data.toList = y.data.toList := fun e => h (sg_ext e)
    simpa using this
theorem ltB_irrefl (x : ByteArray) : ltB x x = false := by rw [ltB_eq]; simp
theorem ltB_trans {x y z : ByteArray} (h1 : ltB x y = true) (h2 : ltB y z = true) : ltB x z = true := by
  rw [ltB_eq] at *
  simp at *
  exact List.lt_trans h1 h2
theorem ltB_asymm {x y : ByteArray} (h : ltB x y = true) : ltB y x = false := by
  cases hb : ltB y x with
  | false => rfl
  | true =>
    have := ltB_trans h hb
    rw [ltB_irrefl] at this
    cases this
theorem ltB_total {x y : ByteArray} (h1 : ltB x y = false) (h2 : ltB y x = false) : x = y := by
  rw [ltB_eq] at *
  simp at h1 h2
  exact sg_ext (List.le_antisymm h2 h1)
theorem ltB_leq (x y : ByteArray) : (Op.bytesLess x.toList y.toList || x.toList == y.toList) = !ltB y x := by
  rw [eqB]
  show (ltB x y || _) = _
  cases h1 : ltB y x with
  | true =>
    have := ltB_asymm h1
    rw [this]
    have hne : ¬ x = y := fun e => by subst e; rw [ltB_irrefl] at h1; cases h1
    simp [hne]
  | false =>
    cases h2 : ltB x y with
    | true => rfl
    | false =>
      have := ltB_total h2 h1
      simp [this]
theorem ltB_empty {x : ByteArray} (h : 1 ≤ x.size) : ltB ⟨#[]⟩ x = true := by
  rw [ltB_eq]
  have hx : sg x ≠ [] := fun e => by have := sg_nil.1 e; omega
  cases hs : sg x with
  | nil => exact absurd hs hx
  | cons a l =>
    have : sg (⟨#[]⟩ : ByteArray) = [] := rfl
    rw [this]
    simp
abbrev Lab := ByteArray × ByteArray
def lab0 : Lab := (⟨#[]⟩, ⟨#[]⟩)
/-- a slice of labels that reads as these -/
def LabsAt (w : World) (a : Option Addr) (len cap : Nat) (ls : List Lab) : Prop :=
  ls.length = len ∧ len ≤ cap ∧ cap ≤ maxLen ∧ (len = 0 ∨ ∃ b off, a = some ⟨b, off, none⟩ ∧ ∀ i, i < len → w.cell? ⟨b, off + i * 2, none⟩ = some (.string (ls.getD i lab0).1) ∧ w.cell? ⟨b, off + i * 2 + 1, none⟩ = some (.string (ls.getD i lab0).2))
theorem LabsAt.below {w w' : World} {a : Option Addr} {len cap : Nat} {ls : List Lab} (h : LabsAt w a len cap ls) (hb : Below w.heap.size w w') : LabsAt w' a len cap ls := by
  refine ⟨h.1, h.2.1, h.2.2.1, ?_⟩
  rcases h.2.2.2 with h0 | ⟨b, off, e, hc⟩
  · exact .inl h0
  · refine .inr ⟨b, off, e, fun i hi => ?_⟩
    obtain ⟨c0, c1⟩ := hc i hi
    have hlt : b < w.heap.size := World.block_lt_of_cell? w ⟨b, off + i * 2, none⟩ c0
    exact ⟨(hb.cell (p := ⟨b, off + i * 2, none⟩) hlt).trans c0, (hb.cell (p := ⟨b, off + i * 2 + 1, none⟩) hlt).trans c1⟩
theorem LabsAt.some {w : World} {a : Option Addr} {len cap : Nat} {ls : List Lab} (h : LabsAt w a len cap ls) (h0 : 0 < len) :
    ∃ b off, a = Option.some ⟨b, off, none⟩ ∧ ∀ i, i < len → w.cell? ⟨b, off + i * 2, none⟩ = Option.some (.string (ls.getD i lab0).1) ∧ w.cell? ⟨b, off + i * 2 + 1, none⟩ = Option.some (.string (ls.getD i lab0).2) := by
  rcases h.2.2.2 with h | h
  · omega
  · exact h
def Fits (ls : List Lab) : Prop := ∀ x ∈ ls, x.1.size ≤ maxLen ∧ x.2.size ≤ maxLen
theorem Fits.at {ls : List Lab} (h : Fits ls) {i : Nat} (hi : i < ls.length) : (ls.getD i lab0).1.size ≤ maxLen ∧ (ls.getD i lab0).2.size ≤ maxLen := by
  have e : ls.getD i lab0 = ls[i] := by simp [hi]
  rw [e]
  exact h _ (List.getElem_mem hi)
/-- a series that reads so -/
def SerAt (w : World) (v : Value) (nm : ByteArray) (ls : List Lab) : Prop :=
  ∃ a len cap, v = .agg #[.string nm, .slice a len cap] ∧ LabsAt w a len cap ls ∧ nm.size ≤ maxLen ∧ Fits ls
theorem SerAt.below {w w' : World} {v : Value} {nm : ByteArray} {ls : List Lab} (h : SerAt w v nm ls) (hb : Below w.heap.size w w') : SerAt w' v nm ls := by
  obtain ⟨a, len, cap, rfl, h1, h2, h3⟩ := h
  exact ⟨a, len, cap, rfl, h1.below hb, h2, h3⟩
/-- which series may be -/
def OkAt (ls : List Lab) (i : Nat) : Prop := nameL (sg (ls.getD i lab0).1) = true ∧ valL (sg (ls.getD i lab0).2) = true ∧ (0 < i → ltB (ls.getD (i - 1) lab0).1 (ls.getD i lab0).1 = true)
def MayS (nm : ByteArray) (ls : List Lab) : Prop := nameL (sg nm) = true ∧ ls.length ≤ 4 ∧ ∀ i, i < ls.length → OkAt ls i
def BoolPost (P : Prop) (w : World) (e : Ending) (w' : World) : Prop := Below w.heap.size w w' ∧ ∃ q : Bool, e = .returned (.bool q) ∧ (q = true ↔ P)
theorem bool_yes {P : Prop} {w w' : World} (hb : Below w.heap.size w w') (h : P) : BoolPost P w (.returned (.bool true)) w' := ⟨hb, true, rfl, by simp [h]⟩
theorem bool_no {P : Prop} {w w' : World} (hb : Below w.heap.size w w') (h : ¬ P) : BoolPost P w (.returned (.bool false)) w' := ⟨hb, false, rfl, by simp [h]⟩
theorem below2 {a b c : World} (h : Below a.heap.size a b) (k : Below b.heap.size b c) : Below a.heap.size a c := h.trans (k.mono h.size)
theorem below_drewN (w : World) (n : Nat) : Below w.heap.size w (w.drewN n) := ⟨rfl, rfl, rfl, Nat.le_refl _, fun _ _ => rfl⟩
theorem below_alloc (w : World) (o : Obj) : Below w.heap.size w (w.alloc o) := (Below.refl _ _).alloc (Nat.le_refl _) _
set_option maxHeartbeats 4000000 in
set_option maxRecDepth 20000 in
theorem refMay_any (v : Value) (nm : ByteArray) (ls : List Lab) (w : World) (h : SerAt w v nm ls) :
    Calls Try.prog 12 #[v] w fun e w' => BoolPost (MayS nm ls) w e w' := by
  obtain ⟨a, len, cap, rfl, hL, hnm, hF⟩ := h
  have hl : ls.length = len := hL.1
  have hm : len ≤ maxLen := Nat.le_trans hL.2.1 hL.2.2.1
  unfold maxLen at hm
  have B0 : Below w.heap.size w (w.alloc (.cells #[.string nm, .slice a len cap] 24)) := below_alloc _ _
  have HL : Hid (LabsAt w a len cap ls) := hL
  have HF : Hid (Fits ls) := hF
  have HNM : Hid (nm.size ≤ maxLen) := hnm
  clear hL hF hnm
  go_enter Try.func12, Try.ntmps12
  go_wp2
  go_loopw [3] (fun i wr => ∃ k : Nat, k ≤ len ∧ i = .int .i64 k ∧ Hid (∀ j, j < k → OkAt ls j) ∧ Below w.heap.size w wr ∧ (wr.cell? ⟨w.heap.size, 0, none⟩ = some (.string nm) ∧ wr.cell? ⟨w.heap.size, 1, none⟩ = some (.slice a len cap))) (fun i _ => len - (intOf i).toNat)
  case atStart => exact ⟨0, Nat.zero_le _, rfl, (fun j hj => absurd hj (Nat.not_lt_zero _)), B0, by simp, by simp⟩
  case round =>
    obtain ⟨k, hk, rfl, hT, hbel, hc0, hc1⟩ := hrel
    by_cases hlt : k < len
    · obtain ⟨b, off, rfl, hcell⟩ := (HL.out.below hbel).some (by omega)
      obtain ⟨e0, e1⟩ := hcell k hlt
      have hx := HF.out.at (i := k) (by omega)
      have hk1 : (k : Int) < (len : Int) := by omega
      have HPV : Hid (0 < k → wr.cell? ⟨b, off + (k - 1) * 2, none⟩ = some (.string (ls.getD (k - 1) lab0).1)) := fun h => (hcell (k - 1) (by omega)).1
      clear hcell
      have HOK : Hid (OkAt ls k ↔ nameL (sg (ls.getD k lab0).1) = true ∧ valL (sg (ls.getD k lab0).2) = true ∧ (0 < k → ltB (ls.getD (k - 1) lab0).1 (ls.getD k lab0).1 = true)) := Iff.rfl
      have HNO : Hid (¬ OkAt ls k → ¬ MayS nm ls) := fun hn hM => hn (hM.2.2 k (by omega))
      have HYES : Hid (OkAt ls k → ∀ j, j < k + 1 → OkAt ls j) := fun h j hj => by
        rcases Nat.lt_succ_iff_lt_or_eq.1 hj with h' | rfl
        · exact hT.out j h'
        · exact h
      generalize ls.getD k lab0 = x at *
      obtain ⟨x1, x2⟩ := x
      have HX : Hid (x1.size ≤ maxLen ∧ x2.size ≤ maxLen) := hx
      clear hx
      cases hn : nameL (sg x1) with
      | false =>
        have HN : Hid (¬ MayS nm ls) := HNO.out fun h => by rw [HOK.out] at h; rw [hn] at h; cases h.1
        clear HNO HOK HYES HPV
        go_wp2_with fail
        go_quiet (first | (go_at_call 22; exact Calls.quiet_of_same (hn ▸ refName_any x1 _ HX.out.1)) | fail)
        have hb : Below w.heap.size w (wr.drewN nq) := hbel.trans ((below_drewN _ _).mono hbel.size)
        go_wp2
        go_ret
        exact bool_no hb HN.out
      | true =>
        cases hv : valL (sg x2) with
        | false =>
          have HN : Hid (¬ MayS nm ls) := HNO.out fun h => by rw [HOK.out] at h; rw [hv] at h; cases h.2.1
          clear HNO HOK HYES HPV
          go_wp2_with fail
          go_quiet (first | (go_at_call 22; exact Calls.quiet_of_same (hn ▸ refName_any x1 _ HX.out.1)) | (go_at_call 23; exact Calls.quiet_of_same (hv ▸ refVal_any x2 _ HX.out.2)))
          have hb : Below w.heap.size w (wr.drewN nq) := hbel.trans ((below_drewN _ _).mono hbel.size)
          go_wp2
          go_ret
          exact bool_no hb HN.out
        | true =>
          by_cases hk0 : k = 0
          · have HY : Hid (∀ j, j < k + 1 → OkAt ls j) := HYES.out (HOK.out.2 ⟨hn, hv, fun h => absurd h (by omega)⟩)
            have hkz : decide (0 < k) = false := by simp; omega
            clear hk0
            clear HNO HOK HYES HPV
            go_wp2_with fail
            go_quiet (first | (go_at_call 22; exact Calls.quiet_of_same (hn ▸ refName_any x1 _ HX.out.1)) | (go_at_call 23; exact Calls.quiet_of_same (hv ▸ refVal_any x2 _ HX.out.2)))
            have hb : Below w.heap.size w (wr.drewN nq) := hbel.trans ((below_drewN _ _).mono hbel.size)
            have g0 : (wr.drewN nq).cell? ⟨w.heap.size, 0, none⟩ = some (.string nm) := hc0
            have g1 : (wr.drewN nq).cell? ⟨w.heap.size, 1, none⟩ = some (.slice (some ⟨b, off, none⟩) len cap) := hc1
            go_wp2
            exact ⟨⟨k + 1, by omega, by go_num, HY, hb, g0, g1⟩, by simp [intOf]; omega⟩
          · obtain ⟨m, hmk⟩ : ∃ m, k = m + 1 := ⟨k - 1, by omega⟩
            have ep : wr.cell? ⟨b, off + m * 2, none⟩ = some (.string (ls.getD m lab0).1) := by have := HPV.out (by omega); rw [hmk] at this; exact this
            have em : IntKind.i64.wrap ((k : Int) - 1) = (m : Int) := by
              rw [show (k : Int) - 1 = (m : Int) from by omega]; simp [IntKind.wrap, IntKind.bits, IntKind.signed]; omega
            have em0 : (0 : Int) ≤ (m : Int) := by omega
            have em1 : (m : Int) < (len : Int) := by omega
            have ek0 : decide (0 < k) = true := by simp; omega
            have HOK2 : Hid (OkAt ls k ↔ ltB (ls.getD m lab0).1 x1 = true) := by
              have em2 : k - 1 = m := by omega
              have := HOK.out
              rw [em2] at this
              refine ⟨fun h => (this.1 h).2.2 (by omega), fun h => this.2 ⟨hn, hv, fun _ => h⟩⟩
            clear HOK HPV hmk hk0
            generalize (ls.getD m lab0).1 = y at *
            cases hy : ltB y x1 with
            | false =>
              have hy2 : Op.bytesLess y.toList x1.toList = false := hy
              have HN : Hid (¬ MayS nm ls) := HNO.out fun h => by rw [HOK2.out] at h; rw [hy] at h; cases h
              clear HNO HOK2 HYES hy
              go_wp2_with fail
              go_quiet (first | (go_at_call 22; exact Calls.quiet_of_same (hn ▸ refName_any x1 _ HX.out.1)) | (go_at_call 23; exact Calls.quiet_of_same (hv ▸ refVal_any x2 _ HX.out.2)))
              have hb : Below w.heap.size w (wr.drewN nq) := hbel.trans ((below_drewN _ _).mono hbel.size)
              go_wp2
              go_ret
              exact bool_no hb HN.out
            | true =>
              have hy2 : Op.bytesLess y.toList x1.toList = true := hy
              have HY : Hid (∀ j, j < k + 1 → OkAt ls j) := HYES.out (HOK2.out.2 hy)
              clear HNO HOK2 HYES hy
              go_wp2_with fail
              go_quiet (first | (go_at_call 22; exact Calls.quiet_of_same (hn ▸ refName_any x1 _ HX.out.1)) | (go_at_call 23; exact Calls.quiet_of_same (hv ▸ refVal_any x2 _ HX.out.2)))
              have hb : Below w.heap.size w (wr.drewN nq) := hbel.trans ((below_drewN _ _).mono hbel.size)
              have g0 : (wr.drewN nq).cell? ⟨w.heap.size, 0, none⟩ = some (.string nm) := hc0
              have g1 : (wr.drewN nq).cell? ⟨w.heap.size, 1, none⟩ = some (.slice (some ⟨b, off, none⟩) len cap) := hc1
              go_wp2
              exact ⟨⟨k + 1, by omega, by go_num, HY, hb, g0, g1⟩, by simp [intOf]; omega⟩
    · obtain rfl : k = len := by omega
      have HM : Hid (MayS nm ls ↔ nameL (sg nm) = true ∧ ls.length ≤ 4) := ⟨fun h => ⟨h.1, h.2.1⟩, fun h => ⟨h.1, h.2, fun i hi => hT.out i (by omega)⟩⟩
      clear hT HL HF
      go_wp2_with fail
      refine (refName_any nm _ HNM.out).mono ?_
      rintro e w2 ⟨rfl, rfl⟩
      cases hn : nameL (sg nm) with
      | false =>
        go_wp2
        go_ret
        exact bool_no hbel fun h => by have := (HM.out.1 h).1; rw [hn] at this; cases this
      | true =>
        by_cases h4 : (k : Int) ≤ (4 : Int)
        · go_wp2
          go_ret
          exact bool_yes hbel (HM.out.2 ⟨hn, by omega⟩)
        · have h4' : decide ((k : Int) ≤ (4 : Int)) = false := by simp; omega
          go_wp2
          go_ret
          exact bool_no hbel fun h => by have := (HM.out.1 h).2; omega
def ErrPost (P : Prop) (w : World) (e : Ending) (w' : World) : Prop := Below w.heap.size w w' ∧ ((e = .returned (.int .i64 0) ∧ P) ∨ (e = .returned (.int .i64 1) ∧ ¬ P))
set_option maxHeartbeats 4000000 in
set_option maxRecDepth 20000 in
theorem check_any (v : Value) (nm : ByteArray) (ls : List Lab) (w : World) (h : SerAt w v nm ls) :
    Calls Try.prog 11 #[v] w fun e w' => ErrPost (MayS nm ls) w e w' := by
  obtain ⟨a, len, cap, rfl, hL, hnm, hF⟩ := h
  have hl : ls.length = len := hL.1
  have hm : len ≤ maxLen := Nat.le_trans hL.2.1 hL.2.2.1
  unfold maxLen at hm
  have B0 : Below w.heap.size w (w.alloc (.cells #[.string nm, .slice a len cap] 24)) := below_alloc _ _
  have HL : Hid (LabsAt w a len cap ls) := hL
  have HF : Hid (Fits ls) := hF
  have HNM : Hid (nm.size ≤ maxLen) := hnm
  clear hL hF hnm
  go_enter Try.func11, Try.ntmps11
  go_wp2_with fail
  generalize hw1 : w.alloc (.cells #[.string nm, .slice a len cap] 24) = w1 at *
  have hc0 : w1.cell? ⟨w.heap.size, 0, none⟩ = some (.string nm) := by rw [← hw1]; simp
  have hc1 : w1.cell? ⟨w.heap.size, 1, none⟩ = some (.slice a len cap) := by rw [← hw1]; simp
  have hs1 : w.heap.size < w1.heap.size := by rw [← hw1]; simp
  clear hw1
  refine (isName_any nm _ HNM.out).mono ?_
  rintro e w2 ⟨rfl, hb2⟩
  have hb02 : Below w.heap.size w w2 := B0.trans (hb2.mono (by omega))
  have g0 : w2.cell? ⟨w.heap.size, 0, none⟩ = some (.string nm) := (hb2.cell (p := ⟨w.heap.size, 0, none⟩) hs1).trans hc0
  have g1 : w2.cell? ⟨w.heap.size, 1, none⟩ = some (.slice a len cap) := (hb2.cell (p := ⟨w.heap.size, 1, none⟩) hs1).trans hc1
  cases hn : nameL (sg nm) with
  | false =>
    go_wp2
    go_ret
    exact ⟨hb02, .inr ⟨rfl, fun h => by rw [h.1] at hn; cases hn⟩⟩
  | true =>
    by_cases h4 : (4 : Int) < (len : Int)
    · go_wp2
      go_ret
      exact ⟨hb02, .inr ⟨rfl, fun h => by have := h.2.1; omega⟩⟩
    · go_wp2
      go_loopw [3, 19] (fun lst i wr => ∃ (k : Nat) (y : ByteArray), k ≤ len ∧ i = .int .i64 k ∧ lst = .string y ∧ Hid ((∀ j, j < k → OkAt ls j) ∧ (k = 0 → y = ⟨#[]⟩) ∧ (0 < k → y = (ls.getD (k - 1) lab0).1)) ∧ Below w.heap.size w wr) (fun _ i _ => len - (intOf i).toNat)
      case atStart => exact ⟨0, ⟨#[]⟩, Nat.zero_le _, rfl, rfl, ⟨fun j hj => absurd hj (Nat.not_lt_zero _), fun _ => rfl, fun h => absurd h (Nat.lt_irrefl _)⟩, hb02⟩
      case round =>
        obtain ⟨k, y, hk, rfl, rfl, hT, hbel⟩ := hrel
        by_cases hlt : k < len
        · obtain ⟨b, off, rfl, hcell⟩ := (HL.out.below hbel).some (by omega)
          obtain ⟨e0, e1⟩ := hcell k hlt
          have hx := HF.out.at (i := k) (by omega)
          have hk1 : (k : Int) < (len : Int) := by omega
          clear hcell
          have HOK : Hid (OkAt ls k ↔ nameL (sg (ls.getD k lab0).1) = true ∧ valL (sg (ls.getD k lab0).2) = true ∧ (0 < k → ltB (ls.getD (k - 1) lab0).1 (ls.getD k lab0).1 = true)) := Iff.rfl
          have HNO : Hid (¬ OkAt ls k → ¬ MayS nm ls) := fun hn hM => hn (hM.2.2 k (by omega))
          have HYES : Hid (OkAt ls k → (∀ j, j < k + 1 → OkAt ls j) ∧ (k + 1 = 0 → (ls.getD k lab0).1 = ⟨#[]⟩) ∧ (0 < k + 1 → (ls.getD k lab0).1 = (ls.getD (k + 1 - 1) lab0).1)) := fun h => by
            refine ⟨fun j hj => ?_, fun h => absurd h (by omega), fun _ => rfl⟩
            rcases Nat.lt_succ_iff_lt_or_eq.1 hj with h' | rfl
            · exact hT.out.1 j h'
            · exact h
          generalize ls.getD k lab0 = x at *
          obtain ⟨x1, x2⟩ := x
          have HX : Hid (x1.size ≤ maxLen ∧ x2.size ≤ maxLen) := hx
          clear hx
          go_wp2_with fail
          generalize hw4 : wr.alloc (.cells #[.string x1, .string x2] 46) = w4 at *
          have p0 : w4.cell? ⟨wr.heap.size, 0, none⟩ = some (.string x1) := by rw [← hw4]; simp
          have p1 : w4.cell? ⟨wr.heap.size, 1, none⟩ = some (.string x2) := by rw [← hw4]; simp
          have hs4 : wr.heap.size < w4.heap.size := by rw [← hw4]; simp
          have hb4 : Below w.heap.size w w4 := hbel.trans (by rw [← hw4]; exact (below_alloc _ _).mono hbel.size)
          clear hw4
          refine (isName_any x1 _ HX.out.1).mono ?_
          rintro e w5 ⟨rfl, hb5⟩
          have q0 : w5.cell? ⟨wr.heap.size, 0, none⟩ = some (.string x1) := (hb5.cell (p := ⟨wr.heap.size, 0, none⟩) hs4).trans p0
          have q1 : w5.cell? ⟨wr.heap.size, 1, none⟩ = some (.string x2) := (hb5.cell (p := ⟨wr.heap.size, 1, none⟩) hs4).trans p1
          have hs5 : wr.heap.size < w5.heap.size := Nat.lt_of_lt_of_le hs4 hb5.size
          have hb05 : Below w.heap.size w w5 := hb4.trans (hb5.mono hb4.size)
          cases hnx : nameL (sg x1) with
          | false =>
            have HN : Hid (¬ MayS nm ls) := HNO.out fun h => by rw [HOK.out] at h; rw [hnx] at h; cases h.1
            clear HNO HOK HYES hT
            go_wp2
            go_ret
            exact ⟨hb05, .inr ⟨rfl, HN.out⟩⟩
          | true =>
            go_wp2_with fail
            refine (isValue_any x2 _ HX.out.2).mono ?_
            rintro e w6 ⟨rfl, hb6⟩
            have r0 : w6.cell? ⟨wr.heap.size, 0, none⟩ = some (.string x1) := (hb6.cell (p := ⟨wr.heap.size, 0, none⟩) hs5).trans q0
            have hb06 : Below w.heap.size w w6 := hb05.trans (hb6.mono hb05.size)
            cases hvx : valL (sg x2) with
            | false =>
              have HN : Hid (¬ MayS nm ls) := HNO.out fun h => by rw [HOK.out] at h; rw [hvx] at h; cases h.2.1
              clear HNO HOK HYES hT
              go_wp2
              go_ret
              exact ⟨hb06, .inr ⟨rfl, HN.out⟩⟩
            | true =>
              have HO : Hid (OkAt ls k ↔ ltB y x1 = true) := by
                constructor
                · intro h
                  by_cases hk0 : k = 0
                  · have e0 := hT.out.2.1 hk0
                    rw [e0]
                    refine ltB_empty ?_
                    unfold nameL at hnx
                    simp [sg_length] at hnx
                    exact hnx.1.2
                  · rw [hT.out.2.2 (by omega)]
                    exact (HOK.out.1 h).2.2 (by omega)
                · intro h
                  refine HOK.out.2 ⟨hnx, hvx, fun hk0 => ?_⟩
                  rw [← hT.out.2.2 hk0]
                  exact h
              have hle := ltB_leq x1 y
              cases hy : ltB y x1 with
              | false =>
                rw [hy] at hle
                have HN : Hid (¬ MayS nm ls) := HNO.out fun h => by rw [HO.out] at h; rw [hy] at h; cases h
                clear HNO HOK HYES hT HO hy
                go_wp2
                go_ret
                exact ⟨hb06, .inr ⟨rfl, HN.out⟩⟩
              | true =>
                rw [hy] at hle
                have HY : Hid ((∀ j, j < k + 1 → OkAt ls j) ∧ (k + 1 = 0 → x1 = ⟨#[]⟩) ∧ (0 < k + 1 → x1 = (ls.getD (k + 1 - 1) lab0).1)) := HYES.out (HO.out.2 hy)
                clear HNO HOK HYES hT HO hy
                go_wp2
                exact ⟨⟨k + 1, x1, by omega, by go_num, rfl, HY, hb06⟩, by simp [intOf]; omega⟩
        · go_wp2
          go_ret
          obtain rfl : k = len := by omega
          exact ⟨hbel, .inl ⟨rfl, hn, by omega, fun i hi => hT.out.1 i (by omega)⟩⟩
end Go.Proofs.Ytnjbpiekbekpeaa
