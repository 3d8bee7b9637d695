/-
  Samples as they lie in memory; the contracts of mayBe and of Check: which samples may be.
-/
import Derived.Test.YtcdlkdbnlomghaaDoorBkA
namespace Go.Proofs.YtcdlkdbnlomghaaDoor.Bk
open Go.ChangeShapes Go.WideShapes Go.ChangeAt Go.RowKit
/-- a sample: its time, its value -/
abbrev Sm := Int × Int
def sm0 : Sm := (0, 0)
def InS (c : Sm) : Prop := 0 ≤ c.1 ∧ c.1 ≤ 1099511627776 ∧ -1099511627776 ≤ c.2 ∧ c.2 ≤ 1099511627776
def OkS (ls : List Sm) (i : Nat) : Prop := InS (ls.getD i sm0) ∧ (0 < i → (ls.getD (i - 1) sm0).1 < (ls.getD i sm0).1)
/-- which samples may be -/
def MayS (ls : List Sm) : Prop := ls.length ≤ 64 ∧ ∀ i, i < ls.length → OkS ls i
/-- a slice of samples that reads as these -/
def SmsAt (w : World) (a : Option Addr) (len cap : Nat) (ls : List Sm) : Prop :=
  ls.length = len ∧ len ≤ cap ∧ cap ≤ maxLen ∧ (len = 0 ∨ ∃ b off, a = some ⟨b, off, none⟩ ∧ ∀ i, i < len → w.cell? ⟨b, off + i * 2, none⟩ = some (.int .i64 (ls.getD i sm0).1) ∧ w.cell? ⟨b, off + i * 2 + 1, none⟩ = some (.int .i64 (ls.getD i sm0).2))
theorem SmsAt.below {w w' : World} {a : Option Addr} {len cap : Nat} {ls : List Sm} (h : SmsAt w a len cap ls) (hb : Below w.heap.size w w') : SmsAt w' a len cap ls := by
  refine ⟨h.1, h.2.1, h.2.2.1, ?_⟩
  rcases h.2.2.2 with h0 | ⟨b, off, e, hc⟩
  · exact .inl h0
  · refine .inr ⟨b, off, e, fun i hi => ?_⟩
    obtain ⟨c0, c1⟩ := hc i hi
    have hlt : b < w.heap.size := World.block_lt_of_cell? w ⟨b, off + i * 2, none⟩ c0
    exact ⟨(hb.cell (p := ⟨b, off + i * 2, none⟩) hlt).trans c0, (hb.cell (p := ⟨b, off + i * 2 + 1, none⟩) hlt).trans c1⟩
theorem SmsAt.some {w : World} {a : Option Addr} {len cap : Nat} {ls : List Sm} (h : SmsAt w a len cap ls) (h0 : 0 < len) :
    ∃ b off, a = Option.some ⟨b, off, none⟩ ∧ b < w.heap.size ∧ ∀ i, i < len → w.cell? ⟨b, off + i * 2, none⟩ = Option.some (.int .i64 (ls.getD i sm0).1) ∧ w.cell? ⟨b, off + i * 2 + 1, none⟩ = Option.some (.int .i64 (ls.getD i sm0).2) := by
  rcases h.2.2.2 with h | ⟨b, off, e, h⟩
  · omega
  · exact ⟨b, off, e, World.block_lt_of_cell? w ⟨b, off + 0 * 2, none⟩ (h 0 h0).1, h⟩
def BoolGrown (P : Prop) (w : World) (e : Ending) (w' : World) : Prop := Grown w w' ∧ ∃ q : Bool, e = .returned (.bool q) ∧ (q = true ↔ P)
theorem boolG_yes {P : Prop} {w w' : World} (hb : Grown w w') (h : P) : BoolGrown P w (.returned (.bool true)) w' := ⟨hb, true, rfl, by simp [h]⟩
theorem boolG_no {P : Prop} {w w' : World} (hb : Grown w w') (h : ¬ P) : BoolGrown P w (.returned (.bool false)) w' := ⟨hb, false, rfl, by simp [h]⟩
def BoolPost (P : Prop) (w : World) (e : Ending) (w' : World) : Prop := Below w.heap.size w w' ∧ ∃ q : Bool, e = .returned (.bool q) ∧ (q = true ↔ P)
theorem bool_yes {P : Prop} {w w' : World} (hb : Below w.heap.size w w') (h : P) : BoolPost P w (.returned (.bool true)) w' := ⟨hb, true, rfl, by simp [h]⟩
theorem bool_no {P : Prop} {w w' : World} (hb : Below w.heap.size w w') (h : ¬ P) : BoolPost P w (.returned (.bool false)) w' := ⟨hb, false, rfl, by simp [h]⟩
set_option maxRecDepth 60000 in
theorem mayBe_any (x y : Int) (w : World) : Calls Tryd.prog 66 #[.agg #[.int .i64 x, .int .i64 y]] w fun e w' => BoolGrown (InS (x, y)) w e w' := by
  have HB : Hid (Grown w (w.alloc (.cells #[.int .i64 x, .int .i64 y] 46))) := grown_alloc _ _
  by_cases h1 : 0 ≤ x
  · by_cases h2 : x ≤ 1099511627776
    · by_cases h3 : -1099511627776 ≤ y
      · by_cases h4 : y ≤ 1099511627776
        · go_enter Tryd.func66, Tryd.ntmps66
          go_wp2
          go_ret
          exact boolG_yes HB.out ⟨h1, h2, h3, h4⟩
        · have d : decide (y ≤ 1099511627776) = false := decide_eq_false h4
          go_enter Tryd.func66, Tryd.ntmps66
          go_wp2
          go_ret
          exact boolG_no HB.out fun h => by have : _ := h.2.2.2; simp only at this; omega
      · have d : decide (-1099511627776 ≤ y) = false := decide_eq_false h3
        go_enter Tryd.func66, Tryd.ntmps66
        go_wp2
        go_ret
        exact boolG_no HB.out fun h => by have : _ := h.2.2.1; simp only at this; omega
    · have d : decide (x ≤ 1099511627776) = false := decide_eq_false h2
      go_enter Tryd.func66, Tryd.ntmps66
      go_wp2
      go_ret
      exact boolG_no HB.out fun h => by have : _ := h.2.1; simp only at this; omega
  · have d : decide (0 ≤ x) = false := decide_eq_false h1
    go_enter Tryd.func66, Tryd.ntmps66
    go_wp2
    go_ret
    exact boolG_no HB.out fun h => by have : _ := h.1; simp only at this; omega
theorem mayBe_yes {x y : Int} (h : InS (x, y)) (w : World) : Calls Tryd.prog 66 #[.agg #[.int .i64 x, .int .i64 y]] w fun e w' => e = .returned (.bool true) ∧ Grown w w' :=
  (mayBe_any x y w).mono fun _ _ ⟨hb, q, he, hq⟩ => ⟨by rw [he, hq.2 h], hb⟩
theorem mayBe_no {x y : Int} (h : ¬ InS (x, y)) (w : World) : Calls Tryd.prog 66 #[.agg #[.int .i64 x, .int .i64 y]] w fun e w' => e = .returned (.bool false) ∧ Grown w w' :=
  (mayBe_any x y w).mono fun _ _ ⟨hb, q, he, hq⟩ => ⟨by rw [he]; cases q with | false => rfl | true => exact absurd (hq.1 rfl) h, hb⟩
def ErrPost (P : Prop) (w : World) (e : Ending) (w' : World) : Prop := Below w.heap.size w w' ∧ ((e = .returned (.int .i64 0) ∧ P) ∨ (e = .returned (.int .i64 1) ∧ ¬ P))
set_option maxHeartbeats 1000000 in
set_option maxRecDepth 60000 in
theorem check_any (a : Option Addr) (len cap : Nat) (ls : List Sm) (w : World) (h : SmsAt w a len cap ls) :
    Calls Tryd.prog 48 #[.slice a len cap] w fun e w' => ErrPost (MayS ls) w e w' := by
  have hl : ls.length = len := h.1
  have hm : len ≤ maxLen := Nat.le_trans h.2.1 h.2.2.1
  unfold maxLen at hm
  have HL : Hid (SmsAt w a len cap ls) := h
  clear h
  by_cases h64 : 64 < len
  · have HN : Hid (¬ MayS ls) := fun h => by have := h.1; omega
    go_enter Tryd.func48, Tryd.ntmps48
    go_wp2_with fail
    go_ret
    exact ⟨Below.refl _ _, .inr ⟨rfl, HN.out⟩⟩
  go_enter Tryd.func48, Tryd.ntmps48
  go_wp2_with fail
  go_loopw [10] (fun i wr => ∃ k : Nat, k ≤ len ∧ i = .int .i64 k ∧ Hid (∀ j, j < k → OkS ls j) ∧ Below w.heap.size w wr) (fun i _ => len - (intOf i).toNat)
  case atStart => exact ⟨0, Nat.zero_le _, rfl, (fun j hj => absurd hj (Nat.not_lt_zero _)), Below.refl _ _⟩
  case round =>
    obtain ⟨k, hk, rfl, hT, hbel⟩ := hrel
    by_cases hlt : k < len
    · obtain ⟨b, off, rfl, hbs, hcell⟩ := (HL.out.below hbel).some (by omega)
      obtain ⟨e0, e1⟩ := hcell k hlt
      have hk1 : (k : Int) < (len : Int) := by omega
      have HPV : Hid (0 < k → wr.cell? ⟨b, off + (k - 1) * 2, none⟩ = some (.int .i64 (ls.getD (k - 1) sm0).1)) := fun h => (hcell (k - 1) (by omega)).1
      clear hcell
      have HOK : Hid (OkS ls k ↔ InS (ls.getD k sm0) ∧ (0 < k → (ls.getD (k - 1) sm0).1 < (ls.getD k sm0).1)) := Iff.rfl
      have HNO : Hid (¬ OkS ls k → ¬ MayS ls) := fun hn hM => hn (hM.2 k (by omega))
      have HYES : Hid (OkS ls k → ∀ j, j < k + 1 → OkS ls j) := fun h j hj => by
        rcases Nat.lt_succ_iff_lt_or_eq.1 hj with h' | rfl
        · exact hT.out j h'
        · exact h
      generalize ls.getD k sm0 = x at *
      obtain ⟨c1, c2⟩ := x
      have HB1 : Hid (∀ n os, Below w.heap.size w (Go.Sort.grow ((wr.alloc (.cells #[.int .i64 c1, .int .i64 c2] 46)).drewN n) os)) := fun n os => below2 (below2 hbel (below_alloc _ _)) (below_grow _ _ _)
      have x0 := cell_grown (w := wr.alloc (.cells #[.int .i64 c1, .int .i64 c2] 46)) (a := ⟨wr.heap.size, 0, none⟩) (v := .int .i64 c1) (by simp) (by simp)
      have x1 := cell_grown (w := wr.alloc (.cells #[.int .i64 c1, .int .i64 c2] 46)) (a := ⟨wr.heap.size, 1, none⟩) (v := .int .i64 c2) (by simp) (by simp)
      by_cases hin : InS (c1, c2)
      · have HC : Hid (∀ W, Calls Tryd.prog 66 #[.agg #[.int .i64 c1, .int .i64 c2]] W fun e w' => e = .returned (.bool true) ∧ Grown W w') := fun W => mayBe_yes hin W
        by_cases hk0 : k = 0
        · have HY : Hid (∀ j, j < k + 1 → OkS ls j) := HYES.out (HOK.out.2 ⟨hin, fun h => absurd h (by omega)⟩)
          have hkz : decide (0 < k) = false := by simp; omega
          clear hk0 HNO HOK HYES HPV hin hT
          go_wp2_with fail
          generalize hw1 : wr.alloc (.cells #[.int .i64 c1, .int .i64 c2] 46) = w1 at *
          clear hw1
          refine wp_region_QW mixed5 (by kernel_rfl) ?_
          repeat (refine QW_step (fun K hK => ?_); go_simp; first | (refine hK _ ?_; clear hK K) | (apply Exists.intro; refine ⟨fun _ => ?_, hK _ ?_⟩; (go_at_call 66; refine Calls.grown_of (HC.out _)); clear hK K))
          refine QW_nil ?_
          intro _ hw9
          obtain ⟨⟨nq, osq⟩, hw8⟩ := hw9
          subst hw8
          have hb := HB1.out nq osq
          go_wp2_with fail
          exact ⟨⟨k + 1, by omega, by go_num, HY, hb⟩, by simp [intOf]; omega⟩
        · obtain ⟨m, hmk⟩ : ∃ m, k = m + 1 := ⟨k - 1, by omega⟩
          have ep : wr.cell? ⟨b, off + m * 2, none⟩ = some (.int .i64 (ls.getD m sm0).1) := by have := HPV.out (by omega); rw [hmk] at this; exact this
          have em : IntKind.i64.wrap ((k : Int) - 1) = (m : Int) := by
            rw [show (k : Int) - 1 = (m : Int) from by omega]; simp [IntKind.wrap, IntKind.bits, IntKind.signed]; omega
          have em0 : (0 : Int) ≤ (m : Int) := by omega
          have em1 : (m : Int) < (len : Int) := by omega
          have ek0 : decide (0 < k) = true := by simp; omega
          have HOK2 : Hid (OkS ls k ↔ (ls.getD m sm0).1 < c1) := by
            have em2 : k - 1 = m := by omega
            have := HOK.out
            rw [em2] at this
            exact ⟨fun h => (this.1 h).2 (by omega), fun h => this.2 ⟨hin, fun _ => h⟩⟩
          have x2 := cell_grown (w := wr.alloc (.cells #[.int .i64 c1, .int .i64 c2] 46)) (a := ⟨b, off + m * 2, none⟩) (by simp; omega) (((below_alloc wr _).cell (p := ⟨b, off + m * 2, none⟩) hbs).trans ep)
          clear HOK HPV hmk hk0 hin hT ep
          generalize (ls.getD m sm0).1 = y at *
          by_cases hy : y < c1
          · have HY : Hid (∀ j, j < k + 1 → OkS ls j) := HYES.out (HOK2.out.2 hy)
            have hd : decide (c1 ≤ y) = false := by simp; omega
            clear HNO HOK2 HYES
            go_wp2_with fail
            generalize hw1 : wr.alloc (.cells #[.int .i64 c1, .int .i64 c2] 46) = w1 at *
            clear hw1
            refine wp_region_QW mixed5 (by kernel_rfl) ?_
            repeat (refine QW_step (fun K hK => ?_); go_simp; first | (refine hK _ ?_; clear hK K) | (apply Exists.intro; refine ⟨fun _ => ?_, hK _ ?_⟩; (go_at_call 66; refine Calls.grown_of (HC.out _)); clear hK K))
            refine QW_nil ?_
            intro _ hw9
            obtain ⟨⟨nq, osq⟩, hw8⟩ := hw9
            subst hw8
            have hb := HB1.out nq osq
            go_wp2_with fail
            exact ⟨⟨k + 1, by omega, by go_num, HY, hb⟩, by simp [intOf]; omega⟩
          · have HN : Hid (¬ MayS ls) := HNO.out fun h => hy (HOK2.out.1 h)
            have hd : decide (c1 ≤ y) = true := by simp; omega
            clear HNO HOK2 HYES
            go_wp2_with fail
            generalize hw1 : wr.alloc (.cells #[.int .i64 c1, .int .i64 c2] 46) = w1 at *
            clear hw1
            refine wp_region_QW mixed5 (by kernel_rfl) ?_
            repeat (refine QW_step (fun K hK => ?_); go_simp; first | (refine hK _ ?_; clear hK K) | (apply Exists.intro; refine ⟨fun _ => ?_, hK _ ?_⟩; (go_at_call 66; refine Calls.grown_of (HC.out _)); clear hK K))
            refine QW_nil ?_
            intro _ hw9
            obtain ⟨⟨nq, osq⟩, hw8⟩ := hw9
            subst hw8
            have hb := HB1.out nq osq
            go_wp2_with fail
            go_ret
            exact ⟨hb, .inr ⟨rfl, HN.out⟩⟩
      · have HN : Hid (¬ MayS ls) := HNO.out fun h => hin (HOK.out.1 h).1
        have HC : Hid (∀ W, Calls Tryd.prog 66 #[.agg #[.int .i64 c1, .int .i64 c2]] W fun e w' => e = .returned (.bool false) ∧ Grown W w') := fun W => mayBe_no hin W
        clear HNO HOK HYES HPV hin hT
        go_wp2_with fail
        generalize hw1 : wr.alloc (.cells #[.int .i64 c1, .int .i64 c2] 46) = w1 at *
        clear hw1
        refine wp_region_QW mixed5 (by kernel_rfl) ?_
        repeat (refine QW_step (fun K hK => ?_); go_simp; first | (refine hK _ ?_; clear hK K) | (apply Exists.intro; refine ⟨fun _ => ?_, hK _ ?_⟩; (go_at_call 66; refine Calls.grown_of (HC.out _)); clear hK K))
        refine QW_nil ?_
        intro _ hw9
        obtain ⟨⟨nq, osq⟩, hw8⟩ := hw9
        subst hw8
        have hb := HB1.out nq osq
        go_wp2_with fail
        go_ret
        exact ⟨hb, .inr ⟨rfl, HN.out⟩⟩
    · obtain rfl : k = len := by omega
      have HM : Hid (MayS ls) := ⟨by omega, fun i hi => hT.out i (by omega)⟩
      clear hT HL
      go_wp2_with fail
      go_ret
      exact ⟨hbel, .inl ⟨rfl, HM.out⟩⟩
end Go.Proofs.YtcdlkdbnlomghaaDoor.Bk
