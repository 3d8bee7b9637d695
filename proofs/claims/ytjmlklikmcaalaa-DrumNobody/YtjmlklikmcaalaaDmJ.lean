/-
  Page, awake.
-/
import Derived.Test.YtjmlklikmcaalaaDmI
namespace Go.Proofs.Ytjmlklikmcaalaa.Dm
open Go.ChangeShapes Go.WideShapes Go.ChangeAt Go.RowKit
/-- behind Page: bytes of one's own -/
def PgPost (l : List UInt8) (w w' : World) (e : Ending) : Prop := ∃ g, e = .returned (.slice (some ⟨g, 0, none⟩) l.length l.length) ∧ w.heap.size ≤ g ∧ w'.heap[g]? = some (.cells (cellsB l).toArray 5 (0, 0)) ∧ Below w.heap.size w w'
theorem page_set (x : UInt8) (n k : Nat) (hk : k < n) : (cellsB (List.replicate k x ++ List.replicate (n - k) 0)).toArray.setIfInBounds k (.int .u8 (x.toNat : Int)) = (cellsB (List.replicate (k + 1) x ++ List.replicate (n - (k + 1)) 0)).toArray := by
  obtain ⟨m, hm⟩ : ∃ m, n - k = m + 1 := ⟨n - k - 1, by omega⟩
  rw [hm, show n - (k + 1) = m by omega, show List.replicate (k + 1) x = List.replicate k x ++ [x] from List.replicate_succ', show List.replicate (m + 1) (0 : UInt8) = 0 :: List.replicate m 0 from rfl, cellsB_append, List.setIfInBounds_toArray]
  congr 1
  rw [List.set_append_right _ _ (by simp [cellsB])]
  simp [cellsB]
set_option maxHeartbeats 2000000 in
theorem page_one (x : UInt8) (g n : Nat) (hn : (n : Int) ≤ 1000) (w : World) (hg : w.heap[g]? = some (.cells #[.int .u8 (x.toNat : Int)] 5 (0, 0))) :
    Calls Try.prog 12 #[.slice (some ⟨g, 0, none⟩) 1 1, .int .i64 (n : Int)] w fun e w' => PgPost (List.replicate n x) w w' e := by
  have hgl : g < w.heap.size := (Array.getElem?_eq_some_iff.1 hg).1
  have c0 : w.cell? ⟨g, 0, none⟩ = some (.int .u8 (x.toNat : Int)) := by rw [cell_of_heap hg]; rfl
  have hxl := x.toNat_lt
  clear hg
  go_enter Try.func12, Try.ntmps12
  go_wp2_with (refine wpList_make rfl (.tmp 7) (.tmp 7) rfl n (n : Int) rfl rfl rfl (by omega) ?_; intro w2 hw2)
  have HI : Hid (w2.heap[w.heap.size]? = some (.cells (cellsB (List.replicate 0 x ++ List.replicate (n - 0) 0)).toArray 5 (0, 0)) ∧ Below w.heap.size w w2) := by
    rw [hw2.out]
    exact ⟨heap_alloc_new _ _, below_alloc _ _⟩
  clear hw2
  go_loopw [6] (fun i wr => ∃ k : Nat, k ≤ n ∧ i = .int .i64 k ∧ Hid (wr.heap[w.heap.size]? = some (.cells (cellsB (List.replicate k x ++ List.replicate (n - k) 0)).toArray 5 (0, 0)) ∧ Below w.heap.size w wr)) (fun i _ => n - (intOf i).toNat)
  case atStart => exact ⟨0, Nat.zero_le _, rfl, HI⟩
  case round =>
    obtain ⟨k, hk, rfl, HJ⟩ := hrel
    by_cases hlt : k < n
    · have c0' : wr.cell? ⟨g, 0, none⟩ = some (.int .u8 (x.toNat : Int)) := (HJ.out.2.cell (p := ⟨g, 0, none⟩) hgl).trans c0
      have f1 : wr.frozen? ⟨w.heap.size, k, none⟩ = false := frozen_of_heap HJ.out.1 k
      have c1 : wr.cell? ⟨w.heap.size, k, none⟩ = some (.int .u8 0) := by
        rw [cell_of_heap HJ.out.1, cellsB_append]
        obtain ⟨m, hm⟩ : ∃ m, n - k = m + 1 := ⟨n - k - 1, by omega⟩
        rw [hm]
        simp [cellsB, List.replicate_succ]
      have HN : Hid ((wr.setCell ⟨w.heap.size, k, none⟩ (.int .u8 (x.toNat : Int))).heap[w.heap.size]? = some (.cells (cellsB (List.replicate (k + 1) x ++ List.replicate (n - (k + 1)) 0)).toArray 5 (0, 0)) ∧ Below w.heap.size w (wr.setCell ⟨w.heap.size, k, none⟩ (.int .u8 (x.toNat : Int)))) := by
        refine ⟨?_, HJ.out.2.trans (below_setCell _ _ _ (Nat.le_refl _))⟩
        rw [heap_setCell_same HJ.out.1, page_set x n k hlt]
      go_wp2
      go_roundw
      case rel => exact ⟨k + 1, by omega, by go_num, HN⟩
      case measure => simp [intOf]; omega
    · obtain rfl : k = n := by omega
      go_wp2
      go_ret
      refine ⟨w.heap.size, by rw [List.length_replicate]; rfl, Nat.le_refl _, ?_, HJ.out.2⟩
      have := HJ.out.1
      rw [Nat.sub_self, List.replicate_zero, List.append_nil] at this
      exact this
theorem page_src {B a s k n : Nat} {D : Dm} {pv : Value} {w w' : World} {g : Nat} {l : List UInt8} (h : DmAt B a s k n D pv w) (hg : w.heap.size ≤ g) (hl : w'.heap[g]? = some (.cells (cellsB l).toArray 5 (0, 0))) : Src a s k g 0 l w' := by
  have h1 := h.lt (.inl rfl)
  have h2 := h.lt (.inr (.inl rfl))
  have h3 := h.lt (.inr (.inr (.inl rfl)))
  refine ⟨by omega, by omega, by omega, ⟨_, _, _, hl, by decide⟩, fun j v hj => ?_⟩
  rw [addr_add, Nat.zero_add, cell_of_heap hl]
  simpa using hj
theorem awake_plain : ((crashD (writesN (syncD (writesN (zeroD 8) 0 (List.replicate 64 1) 1)) 0 (List.replicate 64 2) 1) (patF [false])).seen.drop (64 * 0)).take (64 * 1) = List.replicate 64 1 := by kernel_rfl
/-- behind awake -/
def TruePost (w w' : World) (e : Ending) : Prop := e = .returned (.bool true) ∧ Below w.heap.size w w'
theorem below_up {w0 w w' : World} (h : Below w0.heap.size w0 w) (k : Below w.heap.size w w') : Below w0.heap.size w0 w' := h.trans (below_low k h.size)
set_option maxHeartbeats 4000000 in
theorem awake_any (w : World) : Calls Try.prog 7 #[] w fun e w' => TruePost w w' e := by
  go_enter Try.func7, Try.ntmps7
  go_wp2_with fail
  refine (new_any 8 (by decide) (by decide) (by decide) _).mono ?_
  rintro e w1 ⟨a, s, k, rfl, hD1, hb1⟩
  have HS1 : Hid ((∃ pv, DmAt w.heap.size a s k 8 (zeroD 8) pv w1) ∧ Below w.heap.size w w1) := ⟨⟨_, hD1⟩, hb1⟩
  clear hD1 hb1
  go_wp2_with fail
  refine (page_one 1 w1.heap.size 64 (by decide) _ (heap_alloc_new w1 _)).mono ?_
  rintro e v1 ⟨g1, rfl, hg1, hl1, hv1⟩
  obtain ⟨⟨pv, hD⟩, hb⟩ := HS1.out
  have hq1 : Below w1.heap.size w1 v1 := below_up (below_alloc w1 _) hv1
  have hD' := hD.below hq1
  have hb' : Below w.heap.size w v1 := below_up hb hq1
  have hsrc := page_src (hD.below (below_alloc w1 (.cells #[.int .u8 1] 5))) hg1 hl1
  have HW := write_any v1 hD' 0 1 g1 0 64 (List.replicate 64 1) (by decide) (by decide) (by decide) (by decide) (by decide) hsrc (by decide)
  clear hD hb hD' hsrc hg1 hl1 hv1 hq1
  have HB : Hid (Below w.heap.size w v1) := hb'
  clear hb'
  go_wp2_with fail
  refine HW.mono ?_
  rintro e w2 ⟨rfl, hP⟩
  have HS2 : Hid ((∃ pv, DmAt w.heap.size a s k 8 (writesN (zeroD 8) 0 (List.replicate 64 1) 1) pv w2) ∧ Below w.heap.size w w2) := ⟨hP.1, HB.out.trans hP.2.1⟩
  clear hP HB HW HS1
  go_wp2_with fail
  obtain ⟨⟨pv, hD⟩, hb⟩ := HS2.out
  refine (sync_any _ hD).mono ?_
  rintro e w3 ⟨rfl, hP⟩
  have HS3 : Hid ((∃ pv, DmAt w.heap.size a s k 8 (syncD (writesN (zeroD 8) 0 (List.replicate 64 1) 1)) pv w3) ∧ Below w.heap.size w w3) := ⟨hP.1, hb.trans hP.2.1⟩
  clear hP hD hb HS2
  go_wp2_with fail
  refine (page_one 2 w3.heap.size 64 (by decide) _ (heap_alloc_new w3 _)).mono ?_
  rintro e v3 ⟨g3, rfl, hg3, hl3, hv3⟩
  obtain ⟨⟨pv, hD⟩, hb⟩ := HS3.out
  have hq3 : Below w3.heap.size w3 v3 := below_up (below_alloc w3 _) hv3
  have hD' := hD.below hq3
  have hb' : Below w.heap.size w v3 := below_up hb hq3
  have hsrc := page_src (hD.below (below_alloc w3 (.cells #[.int .u8 2] 5))) hg3 hl3
  have HW := write_any v3 hD' 0 1 g3 0 64 (List.replicate 64 2) (by decide) (by decide) (by decide) (by decide) (by decide) hsrc (by decide)
  clear hD hb hD' hsrc hg3 hl3 hv3 hq3
  have HB : Hid (Below w.heap.size w v3) := hb'
  clear hb'
  go_wp2_with fail
  refine HW.mono ?_
  rintro e w4 ⟨rfl, hP⟩
  have HS4 : Hid ((∃ pv, DmAt w.heap.size a s k 8 (writesN (syncD (writesN (zeroD 8) 0 (List.replicate 64 1) 1)) 0 (List.replicate 64 2) 1) pv w4) ∧ Below w.heap.size w w4) := ⟨hP.1, HB.out.trans hP.2.1⟩
  clear hP HB HW HS3
  go_wp2_with fail
  obtain ⟨⟨pv, hD⟩, hb⟩ := HS4.out
  have hq := below_alloc w4 (.cells #[.bool false] 4)
  have hpat : Pat w.heap.size a s k (some ⟨w4.heap.size, 0, none⟩) [false] (w4.alloc (.cells #[.bool false] 4)) := by
    have h1 := hD.lt (.inl rfl)
    have h2 := hD.lt (.inr (.inl rfl))
    have h3 := hD.lt (.inr (.inr (.inl rfl)))
    refine ⟨.inr ⟨w4.heap.size, 0, rfl, by omega, by omega, by omega, .inr ⟨_, _, _, heap_alloc_new w4 _, by decide⟩, fun i hi => ?_⟩⟩
    obtain rfl : i = 0 := by simpa using hi
    rw [cell_of_heap (heap_alloc_new w4 _)]
    rfl
  refine (crash_any _ (hD.below hq) (some ⟨w4.heap.size, 0, none⟩) 1 [false] 1 rfl hpat (by decide)).mono ?_
  rintro e w5 ⟨rfl, hP⟩
  have HS5 : Hid ((∃ pv, DmAt w.heap.size a s k 8 (crashD (writesN (syncD (writesN (zeroD 8) 0 (List.replicate 64 1) 1)) 0 (List.replicate 64 2) 1) (patF [false])) pv w5) ∧ Below w.heap.size w w5) := ⟨hP.1, (below_up hb hq).trans hP.2.1⟩
  clear hP hD hb HS4 hq hpat
  go_wp2_with fail
  obtain ⟨⟨pv, hD⟩, hb⟩ := HS5.out
  refine (read_any _ hD 0 1 (by decide) (by decide) (List.replicate 64 1) awake_plain).mono ?_
  rintro e w6 ⟨g6, rfl, hg6, hl6, hv6⟩
  have HB : Hid (Below w.heap.size w w6) := below_up hb hv6
  have c63 : w6.cell? ⟨g6, 63, none⟩ = some (.int .u8 1) := by
    rw [cell_of_heap hl6]
    rfl
  clear hD hb HS5 hg6 hl6 hv6
  go_wp2
  go_ret
  exact ⟨rfl, HB.out⟩
end Go.Proofs.Ytjmlklikmcaalaa.Dm
