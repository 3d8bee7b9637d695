/-
  Page, awake.
-/
import Derived.Test.YtmkmogkhkmlnkaaDmI
namespace Go.Proofs.Ytmkmogkhkmlnkaa.Dm
open Go.ChangeShapes Go.WideShapes Go.ChangeAt Go.RowKit
/-- behind Page: bytes of one's own -/
def PgPost (l : List UInt8) (w w' : World) (e : Ending) : Prop := ∃ g, e = .returned (.slice (some ⟨g, 0, none⟩) l.length l.length) ∧ w.heap.size ≤ g ∧ w'.heap[g]? = some (.cells (cellsB l).toArray 5 (0, 0)) ∧ Below w.heap.size w w'
theorem page_set (x : UInt8) (n k : Nat) (hk : k < n) : (cellsB (List.replicate k x ++ List.replicate (n - k) 0)).toArray.setIfInBounds k (.int .u8 (x.toNat : Int)) = (cellsB (List.replicate (k + 1) x ++ List.replicate (n - (k + 1)) 0)).toArray := by
  obtain ⟨m, hm⟩ : ∃ m, n - k = m + 1 := ⟨n - k - 1, by omega⟩
  rw [hm, show n - (k + 1) = m by omega, show List.replicate (k + 1) x = List.replicate k x ++ [x] from List.replicate_succ', show List.replicate (m + 1) (0 : UInt8) = 0 :: List.replicate m 0 from rfl, cellsB_append, List.setIfInBounds_toArray]
  congr 1
  rw [List.set_append_right _ _ (by simp [cellsB])]
  simp [cellsB]
theorem page_src {B a s k n : Nat} {D : Dm} {pv : Value} {w w' : World} {g : Nat} {l : List UInt8} (h : DmAt B a s k n D pv w) (hg : w.heap.size ≤ g) (hl : w'.heap[g]? = some (.cells (cellsB l).toArray 5 (0, 0))) : Src a s k g 0 l w' := by
  have h1 := h.lt (.inl rfl)
  have h2 := h.lt (.inr (.inl rfl))
  have h3 := h.lt (.inr (.inr (.inl rfl)))
  refine ⟨by omega, by omega, by omega, ⟨_, _, _, hl, by decide⟩, fun j v hj => ?_⟩
  rw [addr_add, Nat.zero_add, cell_of_heap hl]
  simpa using hj
theorem awake_plain : ((crashD (writesN (syncD (writesN (zeroD 8) 0 (List.replicate 64 1) 1)) 0 (List.replicate 64 2) 1) (patF [false])).seen.drop (64 * 0)).take (64 * 1) = List.replicate 64 1 := by kernel_rfl
/-- behind awake -/
def TruePost (w w' : World) (e : Ending) : Prop := e = .returned (.bool true) ∧ Below w.heap.size w w'
theorem below_up {w0 w w' : World} (h : Below w0.heap.size w0 w) (k : Below w.heap.size w w') : Below w0.heap.size w0 w' := h.trans (below_low k h.size)
end Go.Proofs.Ytmkmogkhkmlnkaa.Dm
