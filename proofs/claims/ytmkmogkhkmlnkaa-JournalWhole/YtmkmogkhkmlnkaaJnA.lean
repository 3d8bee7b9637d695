/-
  The journal's small parts: an age's four bytes, bytes filled to a sector's end.
-/
import Derived.Test.YtmkmogkhkmlnkaaDmI
import Derived.Test.YtmkmogkhkmlnkaaFrU2
import Derived.Test.YtmkmogkhkmlnkaaFrV
import Derived.Laws.IdiomCopy
namespace Go.Proofs.Ytmkmogkhkmlnkaa.Dm
open Go.ChangeShapes Go.WideShapes Go.ChangeAt Go.RowKit
/-- an age as a text -/
def txtA (g : Nat) : ByteArray := Fr.txt (Fr.fourL g)
set_option maxHeartbeats 2000000 in
theorem ageText_any (g : Nat) (hg : (g : Int) ≤ 2147483647) (w : World) :
    Calls Try.prog 43 #[.int .i64 (g : Int)] w fun e w' => e = .returned (.string (txtA g)) ∧ Below w.heap.size w w' := by
  have hb := below_alloc w (.cells #[.int .u8 ((g : Int) / 16777216), .int .u8 ((g : Int) / 65536 % 256), .int .u8 ((g : Int) / 256 % 256), .int .u8 ((g : Int) % 256)] 5)
  have hr : Fr.RowAt (w.alloc (.cells #[.int .u8 ((g : Int) / 16777216), .int .u8 ((g : Int) / 65536 % 256), .int .u8 ((g : Int) / 256 % 256), .int .u8 ((g : Int) % 256)] 5)) (some ⟨w.heap.size, 0, none⟩) 4 4 (Fr.cellsB (Fr.fourL g)) := by
    rw [Fr.fourL_cells g (by omega)]
    refine ⟨rfl, Nat.le_refl _, by decide, .inr ⟨_, _, rfl, fun i hi => ?_⟩⟩
    rw [Nat.zero_add, cell_of_heap (heap_alloc_new w _)]
    simp
  have ht := Fr.text_of hr
  have e0 : (g : Int) / 16777216 % 256 = (g : Int) / 16777216 := by omega
  go_enter Try.func43, Try.ntmps43
  go_wp2
  go_ret
  exact ⟨rfl, hb⟩
/-- bytes with noughts behind them, to the end of a sector -/
def secs (n : Nat) : Nat := (n + 63) / 64
def fillL (l : List UInt8) : List UInt8 := l ++ List.replicate (64 * secs l.length - l.length) 0
theorem fillL_length (l : List UInt8) : (fillL l).length = 64 * secs l.length := by
  unfold fillL secs
  simp
  omega
theorem fillL_splice (l : List UInt8) : splice (List.replicate (64 * secs l.length) 0) 0 l = fillL l := by
  unfold splice fillL
  simp
theorem wpList_copy_none {P : Program} {w : World} {ops : Array Oper} {rest : List Oper} {o : Oper} {a : Act} {Q : Exit → Act → World → Prop} (hgd : o.guard = none) (d s : Operand) (dT sT : TypeId)
    (ho : o.op = .call { callee := .builtin .copy, args := #[d, s], argTypes := #[dT, sT] }) (elem : TypeId) (hu : P.underlying dT = some (.slice elem)) (hsz : (P.info? elem).map (·.size) = some 1)
    (ad sa : Option Addr) (dLen dCap sCap : Nat) (hd : a.eval d = .slice ad dLen dCap) (hs : a.eval s = .slice sa 0 sCap)
    (h : wpList P ops Q rest (a.put o.dst (goInt 0)) w) : wpList P ops Q (o :: rest) a w := by
  refine wpList_plain hgd fun K hK => ?_
  have hrun := run_copy_none (P := P) w dT sT o.type elem ad sa dLen dCap 0 sCap hu hsz (Nat.zero_min _)
  unfold Oper.wp
  simp [execOp, ho, resolve, invoke, builtin, hd, hs, hrun]
  exact hK _ _ h
/-- behind filled: bytes of one's own -/
def FlPost (l : List UInt8) (w w' : World) (e : Ending) : Prop := ∃ g, e = .returned (.slice (some ⟨g, 0, none⟩) (64 * secs l.length) (64 * secs l.length)) ∧ w.heap.size ≤ g ∧ w'.heap[g]? = some (.cells (cellsB (fillL l)).toArray 5 (0, 0)) ∧ Below w.heap.size w w'
set_option maxHeartbeats 2000000 in
theorem filled_any (a : Option Addr) (len cap : Nat) (l : List UInt8) (w : World) (h : Fr.RowAt w a len cap (Fr.cellsB l)) (hl : (len : Int) ≤ 1000000) :
    Calls Try.prog 44 #[.slice a len cap] w fun e w' => FlPost l w w' e := by
  have hlen : l.length = len := by have := h.1; rwa [Fr.cellsB_length] at this
  obtain ⟨m, hm⟩ : ∃ m, m = secs len := ⟨_, rfl⟩
  have hm2 : ((len : Int) + 64 - 1).tdiv 64 = (m : Int) := by
    rw [Int.tdiv_eq_ediv_of_nonneg (by omega), hm]
    unfold secs
    omega
  have hm3 : (m : Int) ≤ 20000 := by rw [hm]; unfold secs; omega
  have hml : len ≤ 64 * m := by rw [hm]; unfold secs; omega
  have HM : Hid (m = secs l.length) := by show _ = _; rw [hlen]; exact hm
  have HR : Hid (Fr.RowAt w a len cap (Fr.cellsB l)) := h
  clear h hm
  by_cases h0 : len = 0
  · subst h0
    obtain rfl : l = [] := List.length_eq_zero_iff.1 hlen
    obtain rfl : m = 0 := HM.out
    clear hlen hl hml HR hm2 hm3
    go_enter Try.func44, Try.ntmps44
    go_wp2_with (first | (refine wpList_make rfl (.tmp 11) (.tmp 11) rfl 0 0 rfl rfl rfl (by decide) ?_; intro w2 hw2) | (refine wpList_copy_none rfl (.tmp 13) (.tmp 14) 39 39 rfl 5 Try.underlying39 info5 _ _ _ _ _ rfl rfl ?_))
    go_ret
    refine ⟨w.heap.size, rfl, Nat.le_refl _, ?_, by rw [hw2.out]; exact below_alloc _ _⟩
    rw [hw2.out]
    exact heap_alloc_new _ _
  · obtain ⟨b, off, rfl, hc⟩ := HR.out.some (by omega)
    have HC : Hid (∀ i, i < len → w.cell? ⟨b, off + i, none⟩ = (Fr.cellsB l)[i]?) := hc
    clear hc
    have hbl : b < w.heap.size := by
      have := HC.out 0 (by omega)
      rw [List.getElem?_eq_getElem (by rw [Fr.cellsB_length]; omega)] at this
      exact World.block_lt_of_cell? w ⟨b, off + 0, none⟩ this
    go_enter Try.func44, Try.ntmps44
    go_upto_region 3 with (refine wpList_make rfl (.tmp 11) (.tmp 11) rfl (64 * m) ((m : Int) * 64) rfl rfl (by omega) (by omega) ?_; intro w2 hw2)
    have hb2 : Below w.heap.size w w2 := by rw [hw2.out]; exact below_alloc _ _
    have hG2 : Hid (w2.heap[w.heap.size]? = some (.cells (cellsB (List.replicate (64 * m) 0)).toArray 5 (0, 0))) := by show _ = _; rw [hw2.out]; exact heap_alloc_new _ _
    have HSRC : Hid (∀ j v, (cellsB l)[j]? = some v → w2.cell? ((⟨b, off, none⟩ : Addr).add j) = some v) := fun j v hj => by
      have hjl : j < len := by
        have := (List.getElem?_eq_some_iff.1 hj).1
        rw [cellsB_length] at this
        omega
      rw [addr_add, hb2.cell (p := ⟨b, off + j, none⟩) hbl, HC.out j hjl]
      exact hj
    have HB2 : Hid (Below w.heap.size w w2) := hb2
    clear hw2 hb2 HC HR
    go_wp2_with (refine wpList_copy_chg rfl (.tmp 13) (.tmp 14) 39 39 rfl 5 Try.underlying39 info5 w.heap.size 0 (64 * m) (64 * m) ⟨b, off, none⟩ len cap rfl rfl (cellsB (List.replicate (64 * m) 0)) 5 hG2.out (cellsB l) (by rw [cellsB_length, hlen]; exact (Nat.min_eq_left hml).symm) HSRC.out (by rw [cellsB_length, cellsB_length, hlen, List.length_replicate]; omega) (cellsB_one _) ?_; intro w3 hw3)
    go_ret
    refine ⟨w.heap.size, by rw [← HM.out]; rfl, Nat.le_refl _, ?_, HB2.out.trans (hw3.out.below (Nat.le_refl _))⟩
    have := hw3.out.at_
    rw [cellsB_splice, HM.out, fillL_splice] at this
    exact this
end Go.Proofs.Ytmkmogkhkmlnkaa.Dm
