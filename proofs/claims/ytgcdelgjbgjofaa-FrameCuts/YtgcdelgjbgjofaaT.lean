/-
  The contracts of putSum and four: a sum's four bytes, the highest first.
-/
import Derived.Test.YtgcdelgjbgjofaaE
namespace Go.Proofs.Ytgcdelgjbgjofaa
open Go.ChangeShapes Go.WideShapes Go.ChangeAt Go.RowKit
/-- four bytes, the highest first -/
def fourL (n : Nat) : List UInt8 := [UInt8.ofNat (n / 16777216), UInt8.ofNat (n / 65536), UInt8.ofNat (n / 256), UInt8.ofNat n]
theorem fourL_length (n : Nat) : (fourL n).length = 4 := rfl
theorem fourL_cells (n : Nat) (hn : n < 4294967296) : cellsB (fourL n) = [.int .u8 ((n : Int) / 16777216), .int .u8 ((n : Int) / 65536 % 256), .int .u8 ((n : Int) / 256 % 256), .int .u8 ((n : Int) % 256)] := by
  have e1 : (UInt8.ofNat (n / 16777216)).toNat = n / 16777216 := by simp; omega
  have e2 : (UInt8.ofNat (n / 65536)).toNat = n / 65536 % 256 := by simp
  have e3 : (UInt8.ofNat (n / 256)).toNat = n / 256 % 256 := by simp
  have e4 : (UInt8.ofNat n).toNat = n % 256 := by simp
  simp only [cellsB, fourL, List.map_cons, List.map_nil, e1, e2, e3, e4]
  simp
theorem cells_four (w : World) (cs : Array Value) (t : TypeId) : ∀ j u, cs.toList[j]? = some u → (w.alloc (.cells cs t)).cell? ((⟨w.heap.size, 0, none⟩ : Addr).add j) = some u := by
  intro j u hj
  rw [addr_add, Nat.zero_add]
  unfold World.cell?
  rw [heap_alloc_new]
  simpa using hj
set_option maxHeartbeats 2000000 in
theorem four_any (n : Nat) (w : World) (hn : n < 4294967296) :
    Calls Try.prog 46 #[.int .u32 (n : Int)] w fun e w' => ∃ v', e = .returned v' ∧ w'.ownsRow w.heap.size 5 1 v' 4 (cellsB (fourL n)) ∧ Below w.heap.size w w' := by
  go_enter Try.func46, Try.ntmps46
  go_wp2
  go_returns
  refine ⟨_, rfl, ?_, (Below.refl _ _).alloc (Nat.le_refl _) _⟩
  rw [fourL_cells n hn]
  exact World.ownsRow_lit (base := w.heap.size) (e := 5) (size := 1) w #[.int .u8 ((n : Int) / 16777216), .int .u8 ((n : Int) / 65536 % 256), .int .u8 ((n : Int) / 256 % 256), .int .u8 ((n : Int) % 256)] 4 (Nat.le_refl _) (by unfold maxLen; omega) rfl
set_option maxHeartbeats 2000000 in
theorem putSum_any (v : Value) (n0 : Nat) (xs : List Value) (n B : Nat) (w : World) (hn : n < 4294967296) (hB : B ≤ w.heap.size) (hown : w.ownsRow B 5 1 v n0 xs) (hn0 : Hid (n0 ≤ 10000)) :
    Calls Try.prog 45 #[v, .int .u32 (n : Int)] w fun e w' => ∃ v', e = .returned v' ∧ w'.ownsRow B 5 1 v' (n0 + 4) (xs ++ cellsB (fourL n)) ∧ Below B w w' := by
  obtain ⟨i0, hi, hz0, hz1, hz2⟩ := info_parts info5
  go_enter Try.func45, Try.ntmps45
  have hm : n0 + 4 ≤ maxLen ∧ (n0 + 4) * 1 ≤ 140737488355328 := by have := hn0.out; unfold maxLen; omega
  have HM : Hid (n0 + 4 ≤ maxLen ∧ (n0 + 4) * 1 ≤ 140737488355328) := hm
  clear hm hn0
  go_wp2_with (at_builtin; refine wpList_append_own _ rfl (.tmp 5) (.tmp 17) 22 rfl B 5 i0 (.int .u8 0) 1 1 Try.underlying22 hi hz0 hz1 hz2 rfl (by decide) _ _ _ rfl (hown.alloc _) ⟨w.heap.size, 0, none⟩ 4 4 [.int .u8 ((n : Int) / 16777216), .int .u8 ((n : Int) / 65536 % 256), .int .u8 ((n : Int) / 256 % 256), .int .u8 ((n : Int) % 256)] rfl rfl (cells_four _ #[.int .u8 ((n : Int) / 16777216), .int .u8 ((n : Int) / 65536 % 256), .int .u8 ((n : Int) / 256 % 256), .int .u8 ((n : Int) % 256)] _) (by intro u hu; simp at hu; rcases hu with rfl | rfl | rfl | rfl <;> rfl) HM.out.1 HM.out.2 (by simp; omega) ?_)
  intro v1 w1 hown1 hgrow _
  go_wp2
  go_returns
  refine ⟨_, rfl, ?_, ((Below.refl _ _).alloc hB _).grown hgrow (by simp; omega) (fun k hk => (hown.lt k hk).1)⟩
  rw [fourL_cells n hn]
  exact hown1
end Go.Proofs.Ytgcdelgjbgjofaa
