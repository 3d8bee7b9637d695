/-
  The contracts of place's small functions: within, Common, bare, mayChoose, follows, behind, Check of the common rule.
-/
import Derived.Test.YtcncbjknfcjnmaaGreatTpK
namespace Go.Proofs.YtcncbjknfcjnmaaGreat.Tp
open Go.ChangeShapes Go.WideShapes Go.ChangeAt Go.RowKit
theorem pwithin_any (x lo hi : Int) (w : World) : Calls Tryz.prog 121 #[.int .i64 x, .int .i64 lo, .int .i64 hi] w fun e w' => e = .returned (.bool (inB x lo hi)) ∧ w' = w := by
  by_cases h1 : lo ≤ x
  · by_cases h2 : x ≤ hi
    · have hr : inB x lo hi = true := by simp [inB, h1, h2]
      rw [hr]
      go_enter Tryz.func121, Tryz.ntmps121
      go_wp2
      go_ret
      exact ⟨rfl, rfl⟩
    · have hr : inB x lo hi = false := by simp [inB, h2]
      have d : decide (x ≤ hi) = false := decide_eq_false h2
      rw [hr]
      go_enter Tryz.func121, Tryz.ntmps121
      go_wp2
      go_ret
      exact ⟨rfl, rfl⟩
  · have hr : inB x lo hi = false := by simp [inB, h1]
    have d : decide (lo ≤ x) = false := decide_eq_false h1
    rw [hr]
    go_enter Tryz.func121, Tryz.ntmps121
    go_wp2
    go_ret
    exact ⟨rfl, rfl⟩
theorem pwithin_yes {x lo hi : Int} (h1 : lo ≤ x) (h2 : x ≤ hi) (w : World) : Calls Tryz.prog 121 #[.int .i64 x, .int .i64 lo, .int .i64 hi] w fun e w' => e = .returned (.bool true) ∧ w' = w :=
  (pwithin_any x lo hi w).mono fun _ _ ⟨he, hw⟩ => ⟨by rw [he, (inB_iff x lo hi).2 ⟨h1, h2⟩], hw⟩
theorem pwithin_no {x lo hi : Int} (h : ¬ (lo ≤ x ∧ x ≤ hi)) (w : World) : Calls Tryz.prog 121 #[.int .i64 x, .int .i64 lo, .int .i64 hi] w fun e w' => e = .returned (.bool false) ∧ w' = w :=
  (pwithin_any x lo hi w).mono fun _ _ ⟨he, hw⟩ => ⟨by
    rw [he]
    cases hq : inB x lo hi with
    | false => rfl
    | true => exact absurd ((inB_iff x lo hi).1 hq) h, hw⟩
/-- the cells of the common rule -/
def comCells (size : Int) : List Value := [.int .i64 1, .int .i64 0, .int .i64 0, .int .i64 2, .int .i64 1, .int .i64 size, .int .i64 2, .int .i64 2, .int .i64 1, .int .i64 2, .int .i64 3, .int .i64 1, .int .i64 3, .int .i64 0, .int .i64 0]
theorem common_yes {size : Int} (h1 : 1 ≤ size) (h2 : size ≤ 3) (w : World) : Calls Tryz.prog 104 #[.int .i64 size] w fun e w' => e = .returned (.slice (some ⟨w.heap.size, 0, none⟩) 5 5) ∧ w' = w.alloc (.cells (comCells size).toArray 121) := by
  have H : Hid (∀ w : World, Calls Tryz.prog 121 #[.int .i64 size, .int .i64 1, .int .i64 3] w fun e w' => e = .returned (.bool true) ∧ w' = w) := pwithin_yes h1 h2
  clear h1 h2
  go_enter Tryz.func104, Tryz.ntmps104
  go_wp2_with (go_at_call 121; refine (H.out _).mono ?_; rintro e w' ⟨rfl, rfl⟩)
  go_ret
  exact ⟨rfl, rfl⟩
theorem common_no {size : Int} (h : ¬ (1 ≤ size ∧ size ≤ 3)) (w : World) : Calls Tryz.prog 104 #[.int .i64 size] w fun e w' => e = .returned (.slice none 0 0) ∧ w' = w := by
  have H : Hid (∀ w : World, Calls Tryz.prog 121 #[.int .i64 size, .int .i64 1, .int .i64 3] w fun e w' => e = .returned (.bool false) ∧ w' = w) := pwithin_no h
  clear h
  go_enter Tryz.func104, Tryz.ntmps104
  go_wp2_with (go_at_call 121; refine (H.out _).mono ?_; rintro e w' ⟨rfl, rfl⟩)
  go_ret
  exact ⟨rfl, rfl⟩
theorem bare_yes (k : Int) (w : World) : Calls Tryz.prog 160 #[.agg #[.int .i64 k, .int .i64 0, .int .i64 0]] w fun e w' => e = .returned (.bool true) ∧ Grown w w' := by
  have HB : Hid (Grown w (w.alloc (.cells #[.int .i64 k, .int .i64 0, .int .i64 0] 121))) := grown_alloc _ _
  go_enter Tryz.func160, Tryz.ntmps160
  go_wp2
  go_ret
  exact ⟨rfl, HB.out⟩
set_option maxRecDepth 60000 in
theorem mayChoose_yes {lev l n : Int} (h1 : 1 ≤ n) (h2 : n ≤ 12) (h : (l = 1 ∧ lev = 0) ∨ (l = 2 ∧ lev = 1) ∨ (l = 3 ∧ lev = 2)) (w : World) : Calls Tryz.prog 161 #[.int .i64 lev, .agg #[.int .i64 2, .int .i64 l, .int .i64 n]] w fun e w' => e = .returned (.bool true) ∧ Grown w w' := by
  have HB : Hid (Grown w (w.alloc (.cells #[.int .i64 2, .int .i64 l, .int .i64 n] 121))) := grown_alloc _ _
  have H : Hid (∀ w : World, Calls Tryz.prog 121 #[.int .i64 n, .int .i64 1, .int .i64 12] w fun e w' => e = .returned (.bool true) ∧ w' = w) := pwithin_yes h1 h2
  have H' : Hid (∀ w : World, Calls Tryz.prog 121 #[.int .i64 l, .int .i64 1, .int .i64 3] w fun e w' => e = .returned (.bool true) ∧ w' = w) := pwithin_yes (by omega) (by omega)
  clear h1 h2
  rcases h with ⟨rfl, rfl⟩ | ⟨rfl, rfl⟩ | ⟨rfl, rfl⟩
  all_goals
    go_enter Tryz.func161, Tryz.ntmps161
    go_wp2_with (first | (go_at_call_of 121 n; refine (H.out _).mono ?_; rintro e w' ⟨rfl, rfl⟩) | (go_at_call 121; refine (H'.out _).mono ?_; rintro e w' ⟨rfl, rfl⟩))
    go_ret
    exact ⟨rfl, HB.out⟩
theorem follows_take (lev : Int) (w : World) : Calls Tryz.prog 145 #[.int .i64 lev, .agg #[.int .i64 1, .int .i64 0, .int .i64 0]] w fun e w' => e = .returned (.bool true) ∧ Grown w w' := by
  have HB : Hid (Grown w (w.alloc (.cells #[.int .i64 1, .int .i64 0, .int .i64 0] 121))) := grown_alloc _ _
  have H : Hid (∀ w : World, Calls Tryz.prog 160 #[.agg #[.int .i64 1, .int .i64 0, .int .i64 0]] w fun e w' => e = .returned (.bool true) ∧ Grown w w') := bare_yes 1
  go_enter Tryz.func145, Tryz.ntmps145
  go_wp2_with (go_at_call 160; refine (H.out _).mono ?_; rintro e w2 ⟨rfl, hg⟩)
  go_ret
  exact ⟨rfl, grown2 HB.out hg⟩
theorem follows_emit (w : World) : Calls Tryz.prog 145 #[.int .i64 3, .agg #[.int .i64 3, .int .i64 0, .int .i64 0]] w fun e w' => e = .returned (.bool true) ∧ Grown w w' := by
  have HB : Hid (Grown w (w.alloc (.cells #[.int .i64 3, .int .i64 0, .int .i64 0] 121))) := grown_alloc _ _
  have H : Hid (∀ w : World, Calls Tryz.prog 160 #[.agg #[.int .i64 3, .int .i64 0, .int .i64 0]] w fun e w' => e = .returned (.bool true) ∧ Grown w w') := bare_yes 3
  go_enter Tryz.func145, Tryz.ntmps145
  go_wp2_with (go_at_call 160; refine (H.out _).mono ?_; rintro e w2 ⟨rfl, hg⟩)
  go_ret
  exact ⟨rfl, grown2 HB.out hg⟩
theorem follows_choose {lev l n : Int} (h1 : 1 ≤ n) (h2 : n ≤ 12) (h : (l = 1 ∧ lev = 0) ∨ (l = 2 ∧ lev = 1) ∨ (l = 3 ∧ lev = 2)) (w : World) : Calls Tryz.prog 145 #[.int .i64 lev, .agg #[.int .i64 2, .int .i64 l, .int .i64 n]] w fun e w' => e = .returned (.bool true) ∧ Grown w w' := by
  have HB : Hid (Grown w (w.alloc (.cells #[.int .i64 2, .int .i64 l, .int .i64 n] 121))) := grown_alloc _ _
  have H : Hid (∀ w : World, Calls Tryz.prog 161 #[.int .i64 lev, .agg #[.int .i64 2, .int .i64 l, .int .i64 n]] w fun e w' => e = .returned (.bool true) ∧ Grown w w') := mayChoose_yes h1 h2 h
  clear h1 h2 h
  go_enter Tryz.func145, Tryz.ntmps145
  go_wp2_with (go_at_call 161; refine (H.out _).mono ?_; rintro e w2 ⟨rfl, hg⟩)
  go_ret
  exact ⟨rfl, grown2 HB.out hg⟩
theorem behind_take (w : World) : Calls Tryz.prog 146 #[.agg #[.int .i64 1, .int .i64 0, .int .i64 0]] w fun e w' => e = .returned (.int .i64 0) ∧ Grown w w' := by
  have HB : Hid (Grown w (w.alloc (.cells #[.int .i64 1, .int .i64 0, .int .i64 0] 121))) := grown_alloc _ _
  go_enter Tryz.func146, Tryz.ntmps146
  go_wp2
  go_ret
  exact ⟨rfl, HB.out⟩
theorem behind_choose (l n : Int) (w : World) : Calls Tryz.prog 146 #[.agg #[.int .i64 2, .int .i64 l, .int .i64 n]] w fun e w' => e = .returned (.int .i64 l) ∧ Grown w w' := by
  have HB : Hid (Grown w (w.alloc (.cells #[.int .i64 2, .int .i64 l, .int .i64 n] 121))) := grown_alloc _ _
  go_enter Tryz.func146, Tryz.ntmps146
  go_wp2
  go_ret
  exact ⟨rfl, HB.out⟩
theorem behind_emit (w : World) : Calls Tryz.prog 146 #[.agg #[.int .i64 3, .int .i64 0, .int .i64 0]] w fun e w' => e = .returned (.int .i64 4) ∧ Grown w w' := by
  have HB : Hid (Grown w (w.alloc (.cells #[.int .i64 3, .int .i64 0, .int .i64 0] 121))) := grown_alloc _ _
  go_enter Tryz.func146, Tryz.ntmps146
  go_wp2
  go_ret
  exact ⟨rfl, HB.out⟩
/-- the common rule as it lies -/
def ComAt (w : World) (b : Nat) (size : Int) : Prop := b < w.heap.size ∧ ∀ j v, (comCells size)[j]? = some v → w.cell? ⟨b, j, none⟩ = some v
theorem ComAt.below {w w' : World} {b : Nat} {size : Int} (h : ComAt w b size) (hb : Below w.heap.size w w') : ComAt w' b size :=
  ⟨Nat.lt_of_lt_of_le h.1 hb.size, fun j v hv => (hb.cell (p := ⟨b, j, none⟩) h.1).trans (h.2 j v hv)⟩
theorem com_new (w : World) (size : Int) : ComAt (w.alloc (.cells (comCells size).toArray 121)) w.heap.size size :=
  ⟨by simp, fun j v hv => by have := cells_lit w (comCells size) 121 j v hv; rw [addr_add, Nat.zero_add] at this; exact this⟩
/-- step k of the common rule, and where the steps ahead of it stand -/
def stepK (size : Int) : Nat → Int × Int × Int
  | 0 => (1, 0, 0)
  | 1 => (2, 1, size)
  | 2 => (2, 2, 1)
  | 3 => (2, 3, 1)
  | _ => (3, 0, 0)
def levK : Nat → Int
  | 0 => 4
  | 1 => 0
  | 2 => 1
  | 3 => 2
  | 4 => 3
  | _ => 4
theorem ComAt.step {w : World} {b : Nat} {size : Int} (h : ComAt w b size) {k : Nat} (hk : k < 5) : w.cell? ⟨b, k * 3, none⟩ = some (.int .i64 (stepK size k).1) ∧ w.cell? ⟨b, k * 3 + 1, none⟩ = some (.int .i64 (stepK size k).2.1) ∧ w.cell? ⟨b, k * 3 + 2, none⟩ = some (.int .i64 (stepK size k).2.2) := by
  have : k = 0 ∨ k = 1 ∨ k = 2 ∨ k = 3 ∨ k = 4 := by omega
  rcases this with rfl | rfl | rfl | rfl | rfl
  · exact ⟨h.2 0 _ rfl, h.2 1 _ rfl, h.2 2 _ rfl⟩
  · exact ⟨h.2 3 _ rfl, h.2 4 _ rfl, h.2 5 _ rfl⟩
  · exact ⟨h.2 6 _ rfl, h.2 7 _ rfl, h.2 8 _ rfl⟩
  · exact ⟨h.2 9 _ rfl, h.2 10 _ rfl, h.2 11 _ rfl⟩
  · exact ⟨h.2 12 _ rfl, h.2 13 _ rfl, h.2 14 _ rfl⟩
theorem follows_step {size : Int} (h1 : 1 ≤ size) (h2 : size ≤ 3) {k : Nat} (hk : k < 5) (w : World) : Calls Tryz.prog 145 #[.int .i64 (levK k), .agg #[.int .i64 (stepK size k).1, .int .i64 (stepK size k).2.1, .int .i64 (stepK size k).2.2]] w fun e w' => e = .returned (.bool true) ∧ Grown w w' := by
  have : k = 0 ∨ k = 1 ∨ k = 2 ∨ k = 3 ∨ k = 4 := by omega
  rcases this with rfl | rfl | rfl | rfl | rfl
  · exact follows_take 4 w
  · exact follows_choose h1 (by omega) (.inl ⟨rfl, rfl⟩) w
  · exact follows_choose (lev := 1) (l := 2) (n := 1) (by decide) (by decide) (.inr (.inl ⟨rfl, rfl⟩)) w
  · exact follows_choose (lev := 2) (l := 3) (n := 1) (by decide) (by decide) (.inr (.inr ⟨rfl, rfl⟩)) w
  · exact follows_emit w
theorem behind_step (size : Int) {k : Nat} (hk : k < 5) (w : World) : Calls Tryz.prog 146 #[.agg #[.int .i64 (stepK size k).1, .int .i64 (stepK size k).2.1, .int .i64 (stepK size k).2.2]] w fun e w' => e = .returned (.int .i64 (levK (k + 1))) ∧ Grown w w' := by
  have : k = 0 ∨ k = 1 ∨ k = 2 ∨ k = 3 ∨ k = 4 := by omega
  rcases this with rfl | rfl | rfl | rfl | rfl
  · exact behind_take w
  · exact behind_choose 1 size w
  · exact behind_choose 2 1 w
  · exact behind_choose 3 1 w
  · exact behind_emit w
theorem pcheck_nil (w : World) : Calls Tryz.prog 120 #[.slice none 0 0] w fun e w' => e = .returned (.int .i64 1) ∧ Below w.heap.size w w' := by
  go_enter Tryz.func120, Tryz.ntmps120
  go_wp2
  go_ret
  exact ⟨rfl, Below.refl _ _⟩
set_option maxHeartbeats 1000000 in
set_option maxRecDepth 60000 in
theorem pcheck_com {size : Int} (h1 : 1 ≤ size) (h2 : size ≤ 3) (b : Nat) (w : World) (h : ComAt w b size) : Calls Tryz.prog 120 #[.slice (some ⟨b, 0, none⟩) 5 5] w fun e w' => e = .returned (.int .i64 0) ∧ Below w.heap.size w w' := by
  have HC : Hid (ComAt w b size) := h
  have HF : Hid (∀ k, k < 5 → ∀ w : World, Calls Tryz.prog 145 #[.int .i64 (levK k), .agg #[.int .i64 (stepK size k).1, .int .i64 (stepK size k).2.1, .int .i64 (stepK size k).2.2]] w fun e w' => e = .returned (.bool true) ∧ Grown w w') := fun k hk w => follows_step h1 h2 hk w
  have HBH : Hid (∀ k, k < 5 → ∀ w : World, Calls Tryz.prog 146 #[.agg #[.int .i64 (stepK size k).1, .int .i64 (stepK size k).2.1, .int .i64 (stepK size k).2.2]] w fun e w' => e = .returned (.int .i64 (levK (k + 1))) ∧ Grown w w') := fun k hk w => behind_step size hk w
  clear h h1 h2
  have hl0 : (4 : Int) = levK 0 := rfl
  go_enter Tryz.func120, Tryz.ntmps120
  go_wp2_with fail
  go_loopw [3, 16] (fun l i wr => ∃ k : Nat, k ≤ 5 ∧ i = .int .i64 k ∧ l = .int .i64 (levK k) ∧ Below w.heap.size w wr) (fun _ i _ => 5 - (intOf i).toNat)
  case atStart => exact ⟨0, Nat.zero_le _, rfl, rfl, Below.refl _ _⟩
  case round =>
    obtain ⟨k, hk, rfl, rfl, hbel⟩ := hrel
    by_cases hlt : k < 5
    · have hk1 : (k : Int) < 5 := by omega
      have hk0 : (0 : Int) ≤ (k : Int) := by omega
      obtain ⟨e0, e1, e2⟩ := (HC.out.below hbel).step hlt
      have hbs := (HC.out.below hbel).1
      have H1 : Hid _ := HF.out k hlt
      have H2 : Hid _ := HBH.out k hlt
      have HN : Hid (levK (k + 1) = levK (k + 1)) := rfl
      generalize hnx : levK (k + 1) = nx at *
      have HNX : Hid (levK (k + 1) = nx) := hnx
      clear hnx HN
      generalize levK k = lv at *
      generalize stepK size k = s at *
      obtain ⟨s0, s1, s2⟩ := s
      simp only at e0 e1 e2
      have hba := below2 hbel (below_alloc wr (.cells #[.int .i64 s0, .int .i64 s1, .int .i64 s2] 121))
      clear hl0
      go_wp2_with (first
        | (go_at_call 145; refine (H1.out _).mono ?_; rintro e w2 ⟨rfl, hg2⟩; have hb2 := grown_below hg2; have c20 := (hb2.cell (p := ⟨wr.heap.size, 0, none⟩) (by simp)).trans (show _ = some (.int .i64 s0) by simp); have c21 := (hb2.cell (p := ⟨wr.heap.size, 1, none⟩) (by simp)).trans (show _ = some (.int .i64 s1) by simp); have c22 := (hb2.cell (p := ⟨wr.heap.size, 2, none⟩) (by simp)).trans (show _ = some (.int .i64 s2) by simp))
        | (go_at_call 146; refine (H2.out _).mono ?_; rintro e w3 ⟨rfl, hg3⟩))
      exact ⟨⟨k + 1, by omega, by go_num, by rw [HNX.out], below2 (below2 hba hb2) (grown_below hg3)⟩, by simp [intOf]; omega⟩
    · obtain rfl : k = 5 := by omega
      go_wp2_with fail
      go_ret
      exact ⟨rfl, hbel⟩
end Go.Proofs.YtcncbjknfcjnmaaGreat.Tp
