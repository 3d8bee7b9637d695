/-
  Nodes as they lie in memory; the contracts of within, mayBe and Check: which nodes may be.
-/
import Derived.Test.YtcncbjknfcjnmaaGreatTpA
namespace Go.Proofs.YtcncbjknfcjnmaaGreat.Tp
open Go.ChangeShapes Go.WideShapes Go.ChangeAt Go.RowKit
/-- a node -/
structure Nd where
  id : Int
  zone : Int
  rack : Int
  weight : Int
  up : Bool
  inn : Bool
def nd0 : Nd := ⟨0, 0, 0, 0, false, false⟩
def ndCells (x : Nd) : List Value := [.int .i64 x.id, .int .i64 x.zone, .int .i64 x.rack, .int .i64 x.weight, .bool x.up, .bool x.inn]
/-- a node that may be -/
def InN (x : Nd) : Prop := (1 ≤ x.id ∧ x.id ≤ 999) ∧ (1 ≤ x.zone ∧ x.zone ≤ 9) ∧ (1 ≤ x.rack ∧ x.rack ≤ 9) ∧ 0 ≤ x.weight ∧ x.weight ≤ 65536
def OkN (ls : List Nd) (i : Nat) : Prop := InN (ls.getD i nd0) ∧ (0 < i → (ls.getD (i - 1) nd0).id < (ls.getD i nd0).id)
/-- nodes that may be -/
def MayN (ls : List Nd) : Prop := ls.length ≤ 12 ∧ ∀ i, i < ls.length → OkN ls i
def NdAt (w : World) (b o : Nat) (x : Nd) : Prop := w.cell? ⟨b, o, none⟩ = some (.int .i64 x.id) ∧ w.cell? ⟨b, o + 1, none⟩ = some (.int .i64 x.zone) ∧ w.cell? ⟨b, o + 2, none⟩ = some (.int .i64 x.rack) ∧ w.cell? ⟨b, o + 3, none⟩ = some (.int .i64 x.weight) ∧ w.cell? ⟨b, o + 4, none⟩ = some (.bool x.up) ∧ w.cell? ⟨b, o + 5, none⟩ = some (.bool x.inn)
theorem NdAt.below {w w' : World} {b o : Nat} {x : Nd} (h : NdAt w b o x) (hb : Below w.heap.size w w') : NdAt w' b o x := by
  obtain ⟨h0, h1, h2, h3, h4, h5⟩ := h
  have hlt : b < w.heap.size := World.block_lt_of_cell? w ⟨b, o, none⟩ h0
  exact ⟨(hb.cell (p := ⟨b, o, none⟩) hlt).trans h0, (hb.cell (p := ⟨b, o + 1, none⟩) hlt).trans h1, (hb.cell (p := ⟨b, o + 2, none⟩) hlt).trans h2, (hb.cell (p := ⟨b, o + 3, none⟩) hlt).trans h3, (hb.cell (p := ⟨b, o + 4, none⟩) hlt).trans h4, (hb.cell (p := ⟨b, o + 5, none⟩) hlt).trans h5⟩
/-- a slice of nodes that reads as these -/
def NdsAt (w : World) (a : Option Addr) (len cap : Nat) (ls : List Nd) : Prop :=
  ls.length = len ∧ len ≤ cap ∧ cap ≤ maxLen ∧ (len = 0 ∨ ∃ b off, a = some ⟨b, off, none⟩ ∧ ∀ i, i < len → NdAt w b (off + i * 6) (ls.getD i nd0))
theorem NdsAt.below {w w' : World} {a : Option Addr} {len cap : Nat} {ls : List Nd} (h : NdsAt w a len cap ls) (hb : Below w.heap.size w w') : NdsAt w' a len cap ls := by
  refine ⟨h.1, h.2.1, h.2.2.1, ?_⟩
  rcases h.2.2.2 with h0 | ⟨b, off, e, hc⟩
  · exact .inl h0
  · exact .inr ⟨b, off, e, fun i hi => (hc i hi).below hb⟩
theorem NdsAt.some {w : World} {a : Option Addr} {len cap : Nat} {ls : List Nd} (h : NdsAt w a len cap ls) (h0 : 0 < len) :
    ∃ b off, a = Option.some ⟨b, off, none⟩ ∧ b < w.heap.size ∧ ∀ i, i < len → NdAt w b (off + i * 6) (ls.getD i nd0) := by
  rcases h.2.2.2 with h | ⟨b, off, e, h⟩
  · omega
  · exact ⟨b, off, e, World.block_lt_of_cell? w ⟨b, off + 0 * 6, none⟩ (h 0 h0).1, h⟩
def inB (x lo hi : Int) : Bool := decide (lo ≤ x) && decide (x ≤ hi)
theorem within_any (x lo hi : Int) (w : World) : Calls Tryz.prog 99 #[.int .i64 x, .int .i64 lo, .int .i64 hi] w fun e w' => e = .returned (.bool (inB x lo hi)) ∧ w' = w := by
  by_cases h1 : lo ≤ x
  · by_cases h2 : x ≤ hi
    · have hr : inB x lo hi = true := by simp [inB, h1, h2]
      rw [hr]
      go_enter Tryz.func99, Tryz.ntmps99
      go_wp2
      go_ret
      exact ⟨rfl, rfl⟩
    · have hr : inB x lo hi = false := by simp [inB, h2]
      have d : decide (x ≤ hi) = false := decide_eq_false h2
      rw [hr]
      go_enter Tryz.func99, Tryz.ntmps99
      go_wp2
      go_ret
      exact ⟨rfl, rfl⟩
  · have hr : inB x lo hi = false := by simp [inB, h1]
    have d : decide (lo ≤ x) = false := decide_eq_false h1
    rw [hr]
    go_enter Tryz.func99, Tryz.ntmps99
    go_wp2
    go_ret
    exact ⟨rfl, rfl⟩
theorem inB_iff (x lo hi : Int) : inB x lo hi = true ↔ lo ≤ x ∧ x ≤ hi := by simp [inB]
def mayNB (x : Nd) : Bool := inB x.id 1 999 && inB x.zone 1 9 && inB x.rack 1 9 && inB x.weight 0 65536
theorem mayNB_iff (x : Nd) : mayNB x = true ↔ InN x := by
  simp only [mayNB, Bool.and_eq_true, inB_iff]
  unfold InN
  exact ⟨fun ⟨⟨⟨h1, h2⟩, h3⟩, h4⟩ => ⟨h1, h2, h3, h4⟩, fun ⟨h1, h2, h3, h4⟩ => ⟨⟨⟨h1, h2⟩, h3⟩, h4⟩⟩
set_option maxRecDepth 60000 in
theorem mayBe_b (c1 c2 c3 c4 : Int) (c5 c6 : Bool) (w : World) : Calls Tryz.prog 74 #[.agg #[.int .i64 c1, .int .i64 c2, .int .i64 c3, .int .i64 c4, .bool c5, .bool c6]] w fun e w' => e = .returned (.bool (inB c1 1 999 && inB c2 1 9 && inB c3 1 9 && inB c4 0 65536)) ∧ Grown w w' := by
  have HB : Hid (Grown w (w.alloc (.cells #[.int .i64 c1, .int .i64 c2, .int .i64 c3, .int .i64 c4, .bool c5, .bool c6] 72))) := grown_alloc _ _
  have H1 : Hid (∀ w : World, Calls Tryz.prog 99 #[.int .i64 c1, .int .i64 1, .int .i64 999] w fun e w' => e = .returned (.bool (inB c1 1 999)) ∧ w' = w) := within_any c1 1 999
  have H2 : Hid (∀ w : World, Calls Tryz.prog 99 #[.int .i64 c2, .int .i64 1, .int .i64 9] w fun e w' => e = .returned (.bool (inB c2 1 9)) ∧ w' = w) := within_any c2 1 9
  have H3 : Hid (∀ w : World, Calls Tryz.prog 99 #[.int .i64 c3, .int .i64 1, .int .i64 9] w fun e w' => e = .returned (.bool (inB c3 1 9)) ∧ w' = w) := within_any c3 1 9
  have H4 : Hid (∀ w : World, Calls Tryz.prog 99 #[.int .i64 c4, .int .i64 0, .int .i64 65536] w fun e w' => e = .returned (.bool (inB c4 0 65536)) ∧ w' = w) := within_any c4 0 65536
  generalize inB c1 1 999 = b1 at *
  generalize inB c2 1 9 = b2 at *
  generalize inB c3 1 9 = b3 at *
  generalize inB c4 0 65536 = b4 at *
  cases b1 with
  | false =>
    go_enter Tryz.func74, Tryz.ntmps74
    go_wp2_with (first | (go_at_call_of 99 c1; refine (H1.out _).mono ?_; rintro e w' ⟨rfl, rfl⟩) | (go_at_call_of 99 c2; refine (H2.out _).mono ?_; rintro e w' ⟨rfl, rfl⟩) | (go_at_call_of 99 c3; refine (H3.out _).mono ?_; rintro e w' ⟨rfl, rfl⟩) | (go_at_call_of 99 c4; refine (H4.out _).mono ?_; rintro e w' ⟨rfl, rfl⟩))
    go_ret
    exact ⟨rfl, HB.out⟩
  | true =>
    cases b2 with
    | false =>
      go_enter Tryz.func74, Tryz.ntmps74
      go_wp2_with (first | (go_at_call_of 99 c1; refine (H1.out _).mono ?_; rintro e w' ⟨rfl, rfl⟩) | (go_at_call_of 99 c2; refine (H2.out _).mono ?_; rintro e w' ⟨rfl, rfl⟩) | (go_at_call_of 99 c3; refine (H3.out _).mono ?_; rintro e w' ⟨rfl, rfl⟩) | (go_at_call_of 99 c4; refine (H4.out _).mono ?_; rintro e w' ⟨rfl, rfl⟩))
      go_ret
      exact ⟨rfl, HB.out⟩
    | true =>
      cases b3 with
      | false =>
        go_enter Tryz.func74, Tryz.ntmps74
        go_wp2_with (first | (go_at_call_of 99 c1; refine (H1.out _).mono ?_; rintro e w' ⟨rfl, rfl⟩) | (go_at_call_of 99 c2; refine (H2.out _).mono ?_; rintro e w' ⟨rfl, rfl⟩) | (go_at_call_of 99 c3; refine (H3.out _).mono ?_; rintro e w' ⟨rfl, rfl⟩) | (go_at_call_of 99 c4; refine (H4.out _).mono ?_; rintro e w' ⟨rfl, rfl⟩))
        go_ret
        exact ⟨rfl, HB.out⟩
      | true =>
        cases b4 with
        | false =>
          go_enter Tryz.func74, Tryz.ntmps74
          go_wp2_with (first | (go_at_call_of 99 c1; refine (H1.out _).mono ?_; rintro e w' ⟨rfl, rfl⟩) | (go_at_call_of 99 c2; refine (H2.out _).mono ?_; rintro e w' ⟨rfl, rfl⟩) | (go_at_call_of 99 c3; refine (H3.out _).mono ?_; rintro e w' ⟨rfl, rfl⟩) | (go_at_call_of 99 c4; refine (H4.out _).mono ?_; rintro e w' ⟨rfl, rfl⟩))
          go_ret
          exact ⟨rfl, HB.out⟩
        | true =>
          go_enter Tryz.func74, Tryz.ntmps74
          go_wp2_with (first | (go_at_call_of 99 c1; refine (H1.out _).mono ?_; rintro e w' ⟨rfl, rfl⟩) | (go_at_call_of 99 c2; refine (H2.out _).mono ?_; rintro e w' ⟨rfl, rfl⟩) | (go_at_call_of 99 c3; refine (H3.out _).mono ?_; rintro e w' ⟨rfl, rfl⟩) | (go_at_call_of 99 c4; refine (H4.out _).mono ?_; rintro e w' ⟨rfl, rfl⟩))
          go_ret
          exact ⟨rfl, HB.out⟩
theorem mayBe_yes {x : Nd} (h : InN x) (w : World) : Calls Tryz.prog 74 #[.agg (ndCells x).toArray] w fun e w' => e = .returned (.bool true) ∧ Grown w w' :=
  (mayBe_b x.id x.zone x.rack x.weight x.up x.inn w).mono fun _ _ ⟨he, hb⟩ => ⟨by rw [he]; have := (mayNB_iff x).2 h; unfold mayNB at this; rw [this], hb⟩
theorem mayBe_no {x : Nd} (h : ¬ InN x) (w : World) : Calls Tryz.prog 74 #[.agg (ndCells x).toArray] w fun e w' => e = .returned (.bool false) ∧ Grown w w' :=
  (mayBe_b x.id x.zone x.rack x.weight x.up x.inn w).mono fun _ _ ⟨he, hb⟩ => ⟨by
    rw [he]
    have h2 : mayNB x = false := by
      cases hq : mayNB x with
      | false => rfl
      | true => exact absurd ((mayNB_iff x).1 hq) h
    unfold mayNB at h2
    rw [h2], hb⟩
end Go.Proofs.YtcncbjknfcjnmaaGreat.Tp
