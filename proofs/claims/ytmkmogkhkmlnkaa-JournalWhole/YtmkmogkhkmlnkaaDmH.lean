/-
  Read.
-/
import Derived.Test.YtmkmogkhkmlnkaaDmG
namespace Go.Proofs.Ytmkmogkhkmlnkaa.Dm
open Go.ChangeShapes Go.WideShapes Go.ChangeAt Go.RowKit
theorem ret_pair {x y : Value} {b c : Value} (h : x = b) (g : y = c) : Ending.returned (.tuple #[x, y]) = .returned (.tuple #[b, c]) := by rw [h, g]
/-- behind Read: bytes of one's own -/
def RdPost (l : List UInt8) (w w' : World) (e : Ending) : Prop := ∃ g, e = .returned (.tuple #[.slice (some ⟨g, 0, none⟩) l.length l.length, .int .i64 0]) ∧ w.heap.size ≤ g ∧ w'.heap[g]? = some (.cells (cellsB l).toArray 5 (0, 0)) ∧ Below w.heap.size w w'
theorem splice_zero (l : List UInt8) (n : Nat) (h : l.length = n) : splice (List.replicate n 0) 0 l = l := splice_all _ _ (by simp [h])
set_option maxHeartbeats 2000000 in
theorem read_any {B a s k n : Nat} {D : Dm} {pv : Value} (w : World) (h : DmAt B a s k n D pv w) (p m : Nat) (hp : p + m ≤ n) (hm : 0 < m) (l : List UInt8) (hl : (D.seen.drop (64 * p)).take (64 * m) = l) :
    Calls Try.prog 37 #[.pointer (some ⟨a, 0, none⟩), .int .i64 (p : Int), .int .i64 (m : Int)] w fun e w' => RdPost l w w' e := by
  have hn := h.ok.n1
  have c0 := h.c0
  have HHas := has_any w h p m (by omega) (by omega) (by omega) (by omega)
  rw [decide_eq_true (by omega)] at HHas
  have HH : Hid (DmAt B a s k n D pv w) := h
  have HLL : Hid ((D.seen.drop (64 * p)).take (64 * m) = l) := hl
  have hm2 : ¬ (m : Int) = 0 := by omega
  have hla := h.lt (.inl rfl)
  clear h hl
  go_enter Try.func37, Try.ntmps37
  go_upto_region 8 with (first | (go_at_call 45; refine HHas.mono ?_; rintro e w1 ⟨rfl, rfl⟩) | (refine wpList_make rfl (.tmp 19) (.tmp 19) rfl (64 * m) ((m : Int) * 64) rfl rfl (by omega) (by omega) ?_; intro w2 hw2))
  have hb2 : Below w1.heap.size w1 w2 := by rw [hw2.out]; exact below_alloc _ _
  have hg2 : w2.heap[w1.heap.size]? = some (.cells (cellsB (List.replicate (64 * m) 0)).toArray 5 (0, 0)) := by rw [hw2.out]; exact heap_alloc_new _ _
  have hD2 := HH.out.below hb2
  have c0' := hD2.c0
  have HSRC : Hid (∀ j v, (cellsB ((D.seen.drop (64 * p)).take (64 * m)))[j]? = some v → w2.cell? ((⟨s, p * 64, none⟩ : Addr).add j) = some v) := fun j v hj => by
    rw [addr_add, cell_of_heap hD2.hseen]
    rw [← cellsB_take, ← cellsB_drop, List.getElem?_take] at hj
    split at hj
    · rw [List.getElem?_drop] at hj
      rw [Nat.mul_comm p 64]
      simpa using hj
    · cases hj
  have HLEN : Hid (((D.seen.drop (64 * p)).take (64 * m)).length = 64 * m) := by
    show _ = _
    rw [List.length_take, List.length_drop, HH.out.ok.seen]
    omega
  have HB2 : Hid (Below w1.heap.size w1 w2) := hb2
  have hG2 : Hid (w2.heap[w1.heap.size]? = some (.cells (cellsB (List.replicate (64 * m) 0)).toArray 5 (0, 0))) := hg2
  clear hw2 hb2 hD2 hg2 c0 HH
  rw [HLL.out] at HSRC HLEN
  go_wp2_with (refine wpList_copy_chg rfl (.tmp 21) (.tmp 28) 39 39 rfl 5 Try.underlying39 info5 w1.heap.size 0 (64 * m) (64 * m) ⟨s, p * 64, none⟩ (64 * n - p * 64) (64 * n - p * 64) rfl rfl (cellsB (List.replicate (64 * m) 0)) 5 hG2.out (cellsB l) (by rw [cellsB_length, HLEN.out]; exact (Nat.min_eq_right (by omega)).symm) HSRC.out (by rw [cellsB_length, cellsB_length, HLEN.out, List.length_replicate]; omega) (cellsB_one _) ?_; intro w3 hw3)
  refine bodyPost_ret (results_tmp2 rfl _ _ _) rfl ?_
  refine ⟨w1.heap.size, ?_, Nat.le_refl _, ?_, HB2.out.trans (hw3.out.below (Nat.le_refl _))⟩
  · show _ = Ending.returned (.tuple #[.slice _ l.length l.length, _])
    rw [HLEN.out]
    rfl
  · have := hw3.out.at_
    rw [cellsB_splice, splice_zero _ _ HLEN.out] at this
    exact this
end Go.Proofs.Ytmkmogkhkmlnkaa.Dm
