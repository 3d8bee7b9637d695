/-
  The contract of Apart at awake's nodes.
-/
import Derived.Test.YtdjfhfpgfobkgaaC
import Derived.WalkMore
namespace Go.Proofs.Ytdjfhfpgfobkgaa
open Go.ChangeShapes Go.WideShapes Go.ChangeAt Go.RowKit
def three : List Nd := [⟨1, 2, 1, 40000, false, true⟩, ⟨5, 2, 3, 40000, false, true⟩, ⟨7, 3, 3, 5, false, false⟩]
theorem three_may : MayN three := by
  refine ⟨by decide, fun i hi => ?_⟩
  have h : i = 0 ∨ i = 1 ∨ i = 2 := by simp [three] at hi; omega
  rcases h with rfl | rfl | rfl <;> (unfold OkN InN; simp [three])
theorem three_at {w : World} {b : Nat} (h : ∀ i u, [.int .i64 1, .int .i64 2, .int .i64 1, .int .i64 40000, .bool false, .bool true, .int .i64 5, .int .i64 2, .int .i64 3, .int .i64 40000, .bool false, .bool true, .int .i64 7, .int .i64 3, .int .i64 3, .int .i64 5, .bool false, .bool false ][i]? = some u → w.cell? ⟨b, i, none⟩ = some u) : NdsAt w (some ⟨b, 0, none⟩) 3 3 three := by
  refine ⟨rfl, Nat.le_refl _, by unfold maxLen; omega, .inr ⟨b, 0, rfl, fun i hi => ?_⟩⟩
  have h3 : i = 0 ∨ i = 1 ∨ i = 2 := by omega
  rcases h3 with rfl | rfl | rfl
  · exact ⟨h 0 _ rfl, h 1 _ rfl, h 2 _ rfl, h 3 _ rfl, h 4 _ rfl, h 5 _ rfl⟩
  · exact ⟨h 6 _ rfl, h 7 _ rfl, h 8 _ rfl, h 9 _ rfl, h 10 _ rfl, h 11 _ rfl⟩
  · exact ⟨h 12 _ rfl, h 13 _ rfl, h 14 _ rfl, h 15 _ rfl, h 16 _ rfl, h 17 _ rfl⟩
set_option maxHeartbeats 4000000 in
set_option maxRecDepth 60000 in
theorem apart_three (b d : Nat) (w : World) (h : ∀ i u, [.int .i64 1, .int .i64 2, .int .i64 1, .int .i64 40000, .bool false, .bool true, .int .i64 5, .int .i64 2, .int .i64 3, .int .i64 40000, .bool false, .bool true, .int .i64 7, .int .i64 3, .int .i64 3, .int .i64 5, .bool false, .bool false][i]? = some u → w.cell? ⟨b, i, none⟩ = some u) (d0 : w.cell? ⟨d, 0, none⟩ = some (.int .i64 5)) (d1 : w.cell? ⟨d, 1, none⟩ = some (.int .i64 7)) :
    Calls Try.prog 13 #[.slice (some ⟨b, 0, none⟩) 3 3, .slice (some ⟨d, 0, none⟩) 2 2] w fun e w' => e = .returned (.bool true) ∧ Below w.heap.size w w' := by
  have HC : Hid (Calls Try.prog 7 #[.slice (some ⟨b, 0, none⟩) 3 3] w fun e w' => e = .returned (.int .i64 0) ∧ Below w.heap.size w w') := check_yes (three_at h) three_may
  have hbl : b < w.heap.size := World.block_lt_of_cell? w ⟨b, 0, none⟩ (h 0 _ rfl)
  have hdl : d < w.heap.size := World.block_lt_of_cell? w ⟨d, 0, none⟩ d0
  have HH : Hid (∀ i u, [.int .i64 1, .int .i64 2, .int .i64 1, .int .i64 40000, .bool false, .bool true, .int .i64 5, .int .i64 2, .int .i64 3, .int .i64 40000, .bool false, .bool true, .int .i64 7, .int .i64 3, .int .i64 3, .int .i64 5, .bool false, .bool false][i]? = some u → w.cell? ⟨b, i, none⟩ = some u) := h
  clear h
  go_enter Try.func13, Try.ntmps13
  go_wp2_with fail
  go_step3
  go_wp2_with fail
  refine HC.out.mono ?_
  rintro e w2 ⟨rfl, hb2⟩
  have hbl2 : b < w2.heap.size := Nat.lt_of_lt_of_le hbl hb2.size
  have hdl2 : d < w2.heap.size := Nat.lt_of_lt_of_le hdl hb2.size
  have a0 : w2.cell? ⟨b, 0, none⟩ = some (.int .i64 1) := (hb2.cell (p := ⟨b, 0, none⟩) hbl).trans (HH.out 0 _ rfl)
  have a1 : w2.cell? ⟨b, 1, none⟩ = some (.int .i64 2) := (hb2.cell (p := ⟨b, 1, none⟩) hbl).trans (HH.out 1 _ rfl)
  have a2 : w2.cell? ⟨b, 2, none⟩ = some (.int .i64 1) := (hb2.cell (p := ⟨b, 2, none⟩) hbl).trans (HH.out 2 _ rfl)
  have a3 : w2.cell? ⟨b, 3, none⟩ = some (.int .i64 40000) := (hb2.cell (p := ⟨b, 3, none⟩) hbl).trans (HH.out 3 _ rfl)
  have a4 : w2.cell? ⟨b, 4, none⟩ = some (.bool false) := (hb2.cell (p := ⟨b, 4, none⟩) hbl).trans (HH.out 4 _ rfl)
  have a5 : w2.cell? ⟨b, 5, none⟩ = some (.bool true) := (hb2.cell (p := ⟨b, 5, none⟩) hbl).trans (HH.out 5 _ rfl)
  have a6 : w2.cell? ⟨b, 6, none⟩ = some (.int .i64 5) := (hb2.cell (p := ⟨b, 6, none⟩) hbl).trans (HH.out 6 _ rfl)
  have a7 : w2.cell? ⟨b, 7, none⟩ = some (.int .i64 2) := (hb2.cell (p := ⟨b, 7, none⟩) hbl).trans (HH.out 7 _ rfl)
  have a8 : w2.cell? ⟨b, 8, none⟩ = some (.int .i64 3) := (hb2.cell (p := ⟨b, 8, none⟩) hbl).trans (HH.out 8 _ rfl)
  have a9 : w2.cell? ⟨b, 9, none⟩ = some (.int .i64 40000) := (hb2.cell (p := ⟨b, 9, none⟩) hbl).trans (HH.out 9 _ rfl)
  have a10 : w2.cell? ⟨b, 10, none⟩ = some (.bool false) := (hb2.cell (p := ⟨b, 10, none⟩) hbl).trans (HH.out 10 _ rfl)
  have a11 : w2.cell? ⟨b, 11, none⟩ = some (.bool true) := (hb2.cell (p := ⟨b, 11, none⟩) hbl).trans (HH.out 11 _ rfl)
  have a12 : w2.cell? ⟨b, 12, none⟩ = some (.int .i64 7) := (hb2.cell (p := ⟨b, 12, none⟩) hbl).trans (HH.out 12 _ rfl)
  have a13 : w2.cell? ⟨b, 13, none⟩ = some (.int .i64 3) := (hb2.cell (p := ⟨b, 13, none⟩) hbl).trans (HH.out 13 _ rfl)
  have a14 : w2.cell? ⟨b, 14, none⟩ = some (.int .i64 3) := (hb2.cell (p := ⟨b, 14, none⟩) hbl).trans (HH.out 14 _ rfl)
  have a15 : w2.cell? ⟨b, 15, none⟩ = some (.int .i64 5) := (hb2.cell (p := ⟨b, 15, none⟩) hbl).trans (HH.out 15 _ rfl)
  have a16 : w2.cell? ⟨b, 16, none⟩ = some (.bool false) := (hb2.cell (p := ⟨b, 16, none⟩) hbl).trans (HH.out 16 _ rfl)
  have a17 : w2.cell? ⟨b, 17, none⟩ = some (.bool false) := (hb2.cell (p := ⟨b, 17, none⟩) hbl).trans (HH.out 17 _ rfl)
  have k0 := (hb2.cell (p := ⟨d, 0, none⟩) hdl).trans d0
  have k1 := (hb2.cell (p := ⟨d, 1, none⟩) hdl).trans d1
  clear HH HC d0 d1
  go_wp2_with fail
  go_step3
  go_wp2_with fail
  refine wp_loop_rounds 3 ?_
  rw [rounds_succ]
  go_wp2_with fail
  refine wp_loop_rounds 2 ?_
  rw [rounds_succ]
  go_wp2_with fail
  rw [rounds_succ]
  go_wp2_with fail
  have hb3 : Below w2.heap.size w2 (((w2.alloc (.cells #[.bool false, .bool false, .bool true, .bool false, .bool false, .bool false, .bool false, .bool false, .bool false, .bool false] 45)).alloc (.cells #[.int .i64 1, .int .i64 2, .int .i64 1, .int .i64 40000, .bool false, .bool true] 25)).alloc (.cells #[.int .i64 5, .int .i64 2, .int .i64 3, .int .i64 40000, .bool false, .bool true] 25)) := below2 (below2 (below_alloc _ _) (below_alloc _ _)) (below_alloc _ _)
  have hbA : Below (w2.alloc (.cells #[.bool false, .bool false, .bool true, .bool false, .bool false, .bool false, .bool false, .bool false, .bool false, .bool false] 45)).heap.size (w2.alloc (.cells #[.bool false, .bool false, .bool true, .bool false, .bool false, .bool false, .bool false, .bool false, .bool false, .bool false] 45)) (((w2.alloc (.cells #[.bool false, .bool false, .bool true, .bool false, .bool false, .bool false, .bool false, .bool false, .bool false, .bool false] 45)).alloc (.cells #[.int .i64 1, .int .i64 2, .int .i64 1, .int .i64 40000, .bool false, .bool true] 25)).alloc (.cells #[.int .i64 5, .int .i64 2, .int .i64 3, .int .i64 40000, .bool false, .bool true] 25)) := below2 (below_alloc _ _) (below_alloc _ _)
  have hsA : w2.heap.size < (w2.alloc (.cells #[.bool false, .bool false, .bool true, .bool false, .bool false, .bool false, .bool false, .bool false, .bool false, .bool false] 45)).heap.size := by simp
  have t3 : (((w2.alloc (.cells #[.bool false, .bool false, .bool true, .bool false, .bool false, .bool false, .bool false, .bool false, .bool false, .bool false] 45)).alloc (.cells #[.int .i64 1, .int .i64 2, .int .i64 1, .int .i64 40000, .bool false, .bool true] 25)).alloc (.cells #[.int .i64 5, .int .i64 2, .int .i64 3, .int .i64 40000, .bool false, .bool true] 25)).cell? ⟨w2.heap.size, 3, none⟩ = some (.bool false) := (hbA.cell (p := ⟨w2.heap.size, 3, none⟩) hsA).trans (by simp)
  have t4 : (((w2.alloc (.cells #[.bool false, .bool false, .bool true, .bool false, .bool false, .bool false, .bool false, .bool false, .bool false, .bool false] 45)).alloc (.cells #[.int .i64 1, .int .i64 2, .int .i64 1, .int .i64 40000, .bool false, .bool true] 25)).alloc (.cells #[.int .i64 5, .int .i64 2, .int .i64 3, .int .i64 40000, .bool false, .bool true] 25)).frozen? ⟨w2.heap.size, 3, none⟩ = false := (hbA.frozen (p := ⟨w2.heap.size, 3, none⟩) hsA).trans (by simp)
  clear hbA hsA
  have ts : w2.heap.size < (((w2.alloc (.cells #[.bool false, .bool false, .bool true, .bool false, .bool false, .bool false, .bool false, .bool false, .bool false, .bool false] 45)).alloc (.cells #[.int .i64 1, .int .i64 2, .int .i64 1, .int .i64 40000, .bool false, .bool true] 25)).alloc (.cells #[.int .i64 5, .int .i64 2, .int .i64 3, .int .i64 40000, .bool false, .bool true] 25)).heap.size := by simp; omega
  generalize (((w2.alloc (.cells #[.bool false, .bool false, .bool true, .bool false, .bool false, .bool false, .bool false, .bool false, .bool false, .bool false] 45)).alloc (.cells #[.int .i64 1, .int .i64 2, .int .i64 1, .int .i64 40000, .bool false, .bool true] 25)).alloc (.cells #[.int .i64 5, .int .i64 2, .int .i64 3, .int .i64 40000, .bool false, .bool true] 25)) = w3 at *
  have j1 := (hb3.cell (p := ⟨d, 1, none⟩) hdl2).trans k1
  have hbl3 : b < w3.heap.size := Nat.lt_of_lt_of_le hbl2 hb3.size
  have hdl3 : d < w3.heap.size := Nat.lt_of_lt_of_le hdl2 hb3.size
  have ts1 : w2.heap.size < w3.heap.size + 1 := by omega
  have ts2 : w2.heap.size < w3.heap.size + 1 + 1 := by omega
  have hd1 : d < w3.heap.size + 1 + 1 := by omega
  have hb1 : b < w3.heap.size + 1 + 1 := by omega
  have b0 := (hb3.cell (p := ⟨b, 0, none⟩) hbl2).trans a0
  have b1 := (hb3.cell (p := ⟨b, 1, none⟩) hbl2).trans a1
  have b2 := (hb3.cell (p := ⟨b, 2, none⟩) hbl2).trans a2
  have b3 := (hb3.cell (p := ⟨b, 3, none⟩) hbl2).trans a3
  have b4 := (hb3.cell (p := ⟨b, 4, none⟩) hbl2).trans a4
  have b5 := (hb3.cell (p := ⟨b, 5, none⟩) hbl2).trans a5
  have b6 := (hb3.cell (p := ⟨b, 6, none⟩) hbl2).trans a6
  have b7 := (hb3.cell (p := ⟨b, 7, none⟩) hbl2).trans a7
  have b8 := (hb3.cell (p := ⟨b, 8, none⟩) hbl2).trans a8
  have b9 := (hb3.cell (p := ⟨b, 9, none⟩) hbl2).trans a9
  have b10 := (hb3.cell (p := ⟨b, 10, none⟩) hbl2).trans a10
  have b11 := (hb3.cell (p := ⟨b, 11, none⟩) hbl2).trans a11
  have b12 := (hb3.cell (p := ⟨b, 12, none⟩) hbl2).trans a12
  have b13 := (hb3.cell (p := ⟨b, 13, none⟩) hbl2).trans a13
  have b14 := (hb3.cell (p := ⟨b, 14, none⟩) hbl2).trans a14
  have b15 := (hb3.cell (p := ⟨b, 15, none⟩) hbl2).trans a15
  have b16 := (hb3.cell (p := ⟨b, 16, none⟩) hbl2).trans a16
  have b17 := (hb3.cell (p := ⟨b, 17, none⟩) hbl2).trans a17
  clear a0 a1 a2 a3 a4 a5 a6 a7 a8 a9 a10 a11 a12 a13 a14 a15 a16 a17
  clear k0 k1
  rw [rounds_succ]
  go_wp2_with fail
  refine wp_loop_rounds 3 ?_
  rw [rounds_succ]
  go_wp2_with fail
  rw [rounds_succ]
  go_wp2_with fail
  rw [rounds_succ]
  go_wp2_with fail
  rw [rounds_succ]
  go_wp2_with fail
  try rw [Exit.noGoto_ret]
  go_ret
  exact ⟨rfl, below2 ((below2 hb2 hb3).setCell (p := ⟨w2.heap.size, 3, none⟩) hb2.size _) (below2 (below2 (below_alloc _ _) (below_alloc _ _)) (below_alloc _ _))⟩
end Go.Proofs.Ytdjfhfpgfobkgaa
