/-
  Nobody's drum.
-/
import Derived.Test.YtjmlklikmcaalaaDmJ
namespace Go.Proofs.Ytjmlklikmcaalaa.Dm
open Go.ChangeShapes Go.WideShapes Go.ChangeAt Go.RowKit
/-- a drum that New did not give, in block a: no sectors, nothing pending -/
def Empty (a : Nat) (w : World) : Prop := ∃ p c p' c' ar lf, w.heap[a]? = some (.cells #[.slice p 0 c, .slice p' 0 c', .slice none 0 0, .bool ar, .int .i64 lf, .bool false] 43 (0, 0))
set_option maxHeartbeats 1000000 in
theorem sync_nil (w : World) : Calls Try.prog 13 #[.pointer none] w fun e w' => e = .returned (.tuple #[]) ∧ w' = w := by
  go_enter Try.func13, Try.ntmps13
  go_wp2
  first | go_end0 | refine bodyPost_ret (results_none rfl _ _ _) rfl ?_
  exact ⟨rfl, rfl⟩
set_option maxHeartbeats 1000000 in
theorem arm_nil (x : Int) (w : World) : Calls Try.prog 14 #[.pointer none, .int .i64 x] w fun e w' => e = .returned (.tuple #[]) ∧ w' = w := by
  go_enter Try.func14, Try.ntmps14
  go_wp2
  first | go_end0 | refine bodyPost_ret (results_none rfl _ _ _) rfl ?_
  exact ⟨rfl, rfl⟩
set_option maxHeartbeats 1000000 in
theorem crash_nil (v : Value) (w : World) : Calls Try.prog 15 #[.pointer none, v] w fun e w' => e = .returned (.tuple #[]) ∧ w' = w := by
  go_enter Try.func15, Try.ntmps15
  go_wp2
  first | go_end0 | refine bodyPost_ret (results_none rfl _ _ _) rfl ?_
  exact ⟨rfl, rfl⟩
set_option maxHeartbeats 1000000 in
theorem wipe_nil (w : World) : Calls Try.prog 17 #[.pointer none] w fun e w' => e = .returned (.tuple #[]) ∧ w' = w := by
  go_enter Try.func17, Try.ntmps17
  go_wp2
  first | go_end0 | refine bodyPost_ret (results_none rfl _ _ _) rfl ?_
  exact ⟨rfl, rfl⟩
set_option maxHeartbeats 1000000 in
theorem sectors_nil (w : World) : Calls Try.prog 8 #[.pointer none] w fun e w' => e = .returned (.int .i64 0) ∧ w' = w := by
  go_enter Try.func8, Try.ntmps8
  go_wp2
  go_ret
  exact ⟨rfl, rfl⟩
set_option maxHeartbeats 1000000 in
theorem pending_nil (w : World) : Calls Try.prog 9 #[.pointer none] w fun e w' => e = .returned (.int .i64 0) ∧ w' = w := by
  go_enter Try.func9, Try.ntmps9
  go_wp2
  go_ret
  exact ⟨rfl, rfl⟩
set_option maxHeartbeats 1000000 in
theorem gone_nil (w : World) : Calls Try.prog 10 #[.pointer none] w fun e w' => e = .returned (.bool false) ∧ w' = w := by
  go_enter Try.func10, Try.ntmps10
  go_wp2
  go_ret
  exact ⟨rfl, rfl⟩
/-- has no sector: of a drum whose Sectors tells none -/
theorem has_none (d : Value) (w : World) (h : Calls Try.prog 8 #[d] w fun e w' => e = .returned (.int .i64 0) ∧ w' = w) :
    Calls Try.prog 19 #[d, .int .i64 0, .int .i64 1] w fun e w' => e = .returned (.bool false) ∧ w' = w := by
  go_enter Try.func19, Try.ntmps19
  go_wp2_with (go_at_call 8; refine h.mono ?_; rintro e w1 ⟨rfl, rfl⟩)
  go_ret
  exact ⟨rfl, rfl⟩
set_option maxHeartbeats 1000000 in
theorem read_none (d : Value) (w : World) (h : Calls Try.prog 8 #[d] w fun e w' => e = .returned (.int .i64 0) ∧ w' = w) :
    Calls Try.prog 16 #[d, .int .i64 0, .int .i64 1] w fun e w' => e = .returned (.tuple #[.slice none 0 0, .int .i64 5]) ∧ w' = w := by
  have HH := has_none d w h
  go_enter Try.func16, Try.ntmps16
  go_wp2_with (go_at_call 19; refine HH.mono ?_; rintro e w1 ⟨rfl, rfl⟩)
  go_ret2
  exact ⟨rfl, rfl⟩
set_option maxHeartbeats 1000000 in
theorem write_none (d : Value) (p : Option Addr) (c : Nat) (w : World) (h : Calls Try.prog 8 #[d] w fun e w' => e = .returned (.int .i64 0) ∧ w' = w) :
    Calls Try.prog 11 #[d, .int .i64 0, .slice p 64 c] w fun e w' => e = .returned (.int .i64 5) ∧ w' = w := by
  have HH := has_none d w h
  go_enter Try.func11, Try.ntmps11
  go_wp2_with (go_at_call 19; refine HH.mono ?_; rintro e w1 ⟨rfl, rfl⟩)
  go_ret
  exact ⟨rfl, rfl⟩
theorem Empty.cells {a : Nat} {w : World} (h : Empty a w) : ∃ p c p' c' ar lf, (w.cell? ⟨a, 0, none⟩ = some (.slice p 0 c) ∧ w.cell? ⟨a, 1, none⟩ = some (.slice p' 0 c') ∧ w.cell? ⟨a, 2, none⟩ = some (.slice none 0 0) ∧ w.cell? ⟨a, 3, none⟩ = some (.bool ar) ∧ w.cell? ⟨a, 4, none⟩ = some (.int .i64 lf) ∧ w.cell? ⟨a, 5, none⟩ = some (.bool false)) ∧ (∀ j, w.frozen? ⟨a, j, none⟩ = false) ∧ w.heap[a]? = some (.cells #[.slice p 0 c, .slice p' 0 c', .slice none 0 0, .bool ar, .int .i64 lf, .bool false] 43 (0, 0)) := by
  obtain ⟨p, c, p', c', ar, lf, hb⟩ := h
  refine ⟨p, c, p', c', ar, lf, ⟨?_, ?_, ?_, ?_, ?_, ?_⟩, fun j => frozen_of_heap hb j, hb⟩ <;> (rw [cell_of_heap hb]; rfl)
set_option maxHeartbeats 1000000 in
theorem sectors_empty {a : Nat} (w : World) (h : Empty a w) : Calls Try.prog 8 #[.pointer (some ⟨a, 0, none⟩)] w fun e w' => e = .returned (.int .i64 0) ∧ w' = w := by
  obtain ⟨p, c, p', c', ar, lf, ⟨c0, -⟩, -⟩ := h.cells
  go_enter Try.func8, Try.ntmps8
  go_wp2
  go_ret
  exact ⟨rfl, rfl⟩
set_option maxHeartbeats 1000000 in
theorem pending_empty {a : Nat} (w : World) (h : Empty a w) : Calls Try.prog 9 #[.pointer (some ⟨a, 0, none⟩)] w fun e w' => e = .returned (.int .i64 0) ∧ w' = w := by
  obtain ⟨p, c, p', c', ar, lf, ⟨-, -, c2, -⟩, -⟩ := h.cells
  go_enter Try.func9, Try.ntmps9
  go_wp2
  go_ret
  exact ⟨rfl, rfl⟩
set_option maxHeartbeats 1000000 in
theorem gone_empty {a : Nat} (w : World) (h : Empty a w) : Calls Try.prog 10 #[.pointer (some ⟨a, 0, none⟩)] w fun e w' => e = .returned (.bool false) ∧ w' = w := by
  obtain ⟨p, c, p', c', ar, lf, ⟨-, -, -, -, -, c5⟩, -⟩ := h.cells
  go_enter Try.func10, Try.ntmps10
  go_wp2
  go_ret
  exact ⟨rfl, rfl⟩
/-- behind a method of nobody's drum: it is nobody's still, and nothing but it is written -/
def EPost (B a : Nat) (w w' : World) : Prop := Empty a w' ∧ Below B w w'
set_option maxHeartbeats 1000000 in
theorem keep_empty {a : Nat} (w : World) (h : Empty a w) (v : Value) : Calls Try.prog 22 #[.pointer (some ⟨a, 0, none⟩), v] w fun e w' => e = .returned (.tuple #[]) ∧ EPost a a w w' := by
  obtain ⟨p, c, p', c', ar, lf, ⟨-, -, c2, -⟩, f2, hh⟩ := h.cells
  have f2 := f2 2
  have HP : Hid (EPost a a w (w.setCell ⟨a, 2, none⟩ (.slice none 0 0))) := ⟨⟨p, c, p', c', ar, lf, by rw [heap_setCell_same hh]; rfl⟩, below_setCell _ _ _ (Nat.le_refl _)⟩
  clear hh h
  go_enter Try.func22, Try.ntmps22
  go_wp2
  go_loopw [11] (fun i wr => i = .int .i64 0 ∧ wr = w) (fun _ _ => 0)
  case atStart => exact ⟨rfl, rfl⟩
  case round =>
    obtain ⟨rfl, rfl⟩ := hrel
    go_wp2
    first | go_end0 | refine bodyPost_ret (results_none rfl _ _ _) rfl ?_
    exact ⟨rfl, HP.out⟩
end Go.Proofs.Ytjmlklikmcaalaa.Dm
