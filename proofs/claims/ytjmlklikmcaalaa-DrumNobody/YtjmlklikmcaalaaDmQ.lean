/-
  Nobody's drum: Sync, Arm, Crash, Wipe; the law DrumNobody.
-/
import Derived.Test.YtjmlklikmcaalaaDmN
namespace Go.Proofs.Ytjmlklikmcaalaa.Dm
open Go.ChangeShapes Go.WideShapes Go.ChangeAt Go.RowKit
theorem Empty.below {a : Nat} {w w' : World} (h : Empty a w) (hb : Below w.heap.size w w') : Empty a w' := by
  obtain ⟨p, c, p', c', ar, lf, hh⟩ := h
  exact ⟨p, c, p', c', ar, lf, (hb.block a (Array.getElem?_eq_some_iff.1 hh).1).trans hh⟩
theorem Empty.lt {a : Nat} {w : World} (h : Empty a w) : a < w.heap.size := by
  obtain ⟨p, c, p', c', ar, lf, hh⟩ := h
  exact (Array.getElem?_eq_some_iff.1 hh).1
set_option maxHeartbeats 1000000 in
theorem sync_empty {a : Nat} (w : World) (h : Empty a w) : Calls Try.prog 13 #[.pointer (some ⟨a, 0, none⟩)] w fun e w' => e = .returned (.tuple #[]) ∧ EPost a a w w' := by
  obtain ⟨p, c, p', c', ar, lf, ⟨-, -, -, -, -, c5⟩, -⟩ := h.cells
  have hb := below_alloc w (.cells #[.bool true] 4)
  have HK := keep_empty (w.alloc (.cells #[.bool true] 4)) (h.below hb) (.slice (some ⟨w.heap.size, 0, none⟩) 1 1)
  have HB : Hid (Below a w (w.alloc (.cells #[.bool true] 4))) := below_low hb (Nat.le_of_lt h.lt)
  clear h hb
  go_enter Try.func13, Try.ntmps13
  go_wp2_with (go_at_call 22; refine HK.mono ?_; rintro e w1 ⟨rfl, hP⟩)
  first | go_end0 | refine bodyPost_ret (results_none rfl _ _ _) rfl ?_
  exact ⟨rfl, hP.1, HB.out.trans hP.2⟩
set_option maxHeartbeats 1000000 in
theorem arm_empty {a : Nat} (w : World) (h : Empty a w) (x : Int) : Calls Try.prog 14 #[.pointer (some ⟨a, 0, none⟩), .int .i64 x] w fun e w' => e = .returned (.tuple #[]) ∧ EPost a a w w' := by
  obtain ⟨p, c, p', c', ar, lf, ⟨-, -, -, c3, c4, c5⟩, f, hh⟩ := h.cells
  have f3 := f 3
  have f4 := f 4
  have HP : ∀ (b : Bool) (y : Int), Hid (EPost a a w ((w.setCell ⟨a, 3, none⟩ (.bool b)).setCell ⟨a, 4, none⟩ (.int .i64 y))) := fun b y => ⟨⟨p, c, p', c', b, y, by rw [heap_setCell_same (heap_setCell_same hh 3 _)]; rfl⟩, (below_setCell _ _ _ (Nat.le_refl _)).trans (below_setCell _ _ _ (Nat.le_refl _))⟩
  clear hh h f
  by_cases hx : 0 ≤ x
  · go_enter Try.func14, Try.ntmps14
    go_wp2
    first | go_end0 | refine bodyPost_ret (results_none rfl _ _ _) rfl ?_
    exact ⟨rfl, (HP true x).out⟩
  · go_enter Try.func14, Try.ntmps14
    go_wp2
    first | go_end0 | refine bodyPost_ret (results_none rfl _ _ _) rfl ?_
    exact ⟨rfl, (HP false 0).out⟩
set_option maxHeartbeats 4000000 in
set_option maxRecDepth 60000 in
theorem crash_put0 (t1 t2 t3 t4 t5 t6 t7 t8 t9 t10 t11 t12 t13 t14 t15 t16 t17 t18 t19 t20 : Value) (a : Nat) (p : Option Addr) (c : Nat) (p' : Option Addr) (c' : Nat) (w1 : World) (Q : Exit → Act → World → Prop)
    (h0 : w1.cell? ⟨a, 0, none⟩ = some (.slice p 0 c)) (h1 : w1.cell? ⟨a, 1, none⟩ = some (.slice p' 0 c'))
    (hQ : Hid (∀ (u9 u10 u11 u12 u13 u14 u15 u16 u17 : Value), Q .normal ⟨#[.pointer (some ⟨a, 0, none⟩), t1, t2, t3, t4, t5, t6, t7, t8, u9, u10, u11, u12, u13, u14, u15, u16, u17, t18, t19, t20], []⟩ w1.drew)) :
    Code.wp Try.prog ((Try.f15.body.bind (regionOf 2)).getD .skip) Q ⟨#[.pointer (some ⟨a, 0, none⟩), t1, t2, t3, t4, t5, t6, t7, t8, t9, t10, t11, t12, t13, t14, t15, t16, t17, t18, t19, t20], []⟩ w1 := by
  have c0 : w1.drew.cell? ⟨a, 0, none⟩ = some (.slice p 0 c) := h0
  have c1 : w1.drew.cell? ⟨a, 1, none⟩ = some (.slice p' 0 c') := h1
  clear h0 h1
  conv => arg 2; whnf
  refine wp_region_but (S := fun w' => w' = w1.drew) (n := 8) mixed9 ?_
  refine but_take (i := 0) (v := .pointer (some ⟨a, 0, none⟩)) rfl (by kernel_rfl) (fun _ _ _ h => h) (.inl ⟨rfl, fun w hS => ?_⟩) rfl ?_
  · obtain rfl := hS
    go_simp
  simp only [Act.put, List.setIfInBounds_toArray, List.set_cons_zero, List.set_cons_succ]
  refine but_take (i := 1) (v := .pointer (some ⟨a, 0, none⟩)) rfl (by kernel_rfl) (fun _ _ _ h => h) (.inl ⟨rfl, fun w hS => ?_⟩) rfl ?_
  · obtain rfl := hS
    go_simp
  simp only [Act.put, List.setIfInBounds_toArray, List.set_cons_zero, List.set_cons_succ]
  refine but_take (i := 2) (v := .pointer (some ⟨a, 0, none⟩)) rfl (by kernel_rfl) (fun _ _ _ h => h) (.inl ⟨rfl, fun w hS => ?_⟩) rfl ?_
  · obtain rfl := hS
    go_simp
  simp only [Act.put, List.setIfInBounds_toArray, List.set_cons_zero, List.set_cons_succ]
  refine but_take (i := 3) (v := .slice p 0 c) rfl (by kernel_rfl) (fun _ _ _ h => h) (.inl ⟨rfl, fun w hS => ?_⟩) rfl ?_
  · obtain rfl := hS
    go_simp
  simp only [Act.put, List.setIfInBounds_toArray, List.set_cons_zero, List.set_cons_succ]
  refine but_take (i := 4) (v := .pointer (some ⟨a, 0, none⟩)) rfl (by kernel_rfl) (fun _ _ _ h => h) (.inl ⟨rfl, fun w hS => ?_⟩) rfl ?_
  · obtain rfl := hS
    go_simp
  simp only [Act.put, List.setIfInBounds_toArray, List.set_cons_zero, List.set_cons_succ]
  refine but_take (i := 5) (v := .pointer (some ⟨a, 0, none⟩)) rfl (by kernel_rfl) (fun _ _ _ h => h) (.inl ⟨rfl, fun w hS => ?_⟩) rfl ?_
  · obtain rfl := hS
    go_simp
  simp only [Act.put, List.setIfInBounds_toArray, List.set_cons_zero, List.set_cons_succ]
  refine but_take (i := 6) (v := .pointer (some ⟨a, 1, none⟩)) rfl (by kernel_rfl) (fun _ _ _ h => h) (.inl ⟨rfl, fun w hS => ?_⟩) rfl ?_
  · obtain rfl := hS
    go_simp
  simp only [Act.put, List.setIfInBounds_toArray, List.set_cons_zero, List.set_cons_succ]
  refine but_take (i := 7) (v := .slice p' 0 c') rfl (by kernel_rfl) (fun _ _ _ h => h) (.inl ⟨rfl, fun w hS => ?_⟩) rfl ?_
  · obtain rfl := hS
    go_simp
  simp only [Act.put, List.setIfInBounds_toArray, List.set_cons_zero, List.set_cons_succ]
  refine but_one (i := 8) (by kernel_rfl) rfl rfl ?_
  intro K hK
  have e := run_copy_none (P := Try.prog) w1.drew 32 32 3 5 p p' 0 c 0 c' Try.underlying32 info5 rfl
  refine wp_of_run (v := goInt 0) (w' := w1.drew) ?_ ?_
  · simp [execOp, Act.eval, resolve, invoke, builtin]
    rw [e]
    simp
  refine hK.out _ _ (fun h => absurd rfl h) ?_
  simp only [Act.put, List.setIfInBounds_toArray, List.set_cons_zero, List.set_cons_succ]
  refine AnyBut.done (by kernel_rfl) ?_ _
  refine NoPanic.normal ?_
  exact hQ.out _ _ _ _ _ _ _ _ _
set_option maxHeartbeats 2000000 in
theorem crash_empty {a : Nat} (w : World) (h : Empty a w) (v : Value) : Calls Try.prog 15 #[.pointer (some ⟨a, 0, none⟩), v] w fun e w' => e = .returned (.tuple #[]) ∧ EPost a a w w' := by
  have HK := keep_empty w h v
  clear h
  go_enter Try.func15, Try.ntmps15
  go_upto_region 2 with (go_at_call 22; refine HK.mono ?_; rintro e w1 ⟨rfl, hP⟩)
  obtain ⟨p, c, p', c', ar, lf, ⟨c0, c1, -, -, -, c5⟩, f, hh⟩ := hP.1.cells
  refine crash_put0 _ _ _ _ _ _ _ _ _ _ _ _ _ _ _ _ _ _ _ _ a p c p' c' w1 _ c0 c1 (fun u9 u10 u11 u12 u13 u14 u15 u16 u17 => ?_)
  have c5' : w1.drew.cell? ⟨a, 5, none⟩ = some (.bool false) := c5
  have f5 : w1.drew.frozen? ⟨a, 5, none⟩ = false := f 5
  have HP : Hid (EPost a a w (w1.drew.setCell ⟨a, 5, none⟩ (.bool false))) := ⟨⟨p, c, p', c', ar, lf, by rw [heap_setCell_same (w := w1.drew) hh]; rfl⟩, (hP.2.trans (show Below a w1 w1.drew from ⟨rfl, rfl, rfl, Nat.le_refl _, fun _ _ => rfl⟩)).trans (below_setCell _ _ _ (Nat.le_refl _))⟩
  clear hP hh c0 c1 c5 f HK
  generalize w1.drew = w2 at *
  go_wp2
  first | go_end0 | refine bodyPost_ret (results_none rfl _ _ _) rfl ?_
  exact ⟨rfl, HP.out⟩
set_option maxHeartbeats 2000000 in
theorem wipe_empty {a : Nat} (w : World) (h : Empty a w) : Calls Try.prog 17 #[.pointer (some ⟨a, 0, none⟩)] w fun e w' => e = .returned (.tuple #[]) ∧ EPost a a w w' := by
  have HS := sectors_empty w h
  have HB := blank_any 0 (by decide) w
  obtain ⟨p, c, p', c', ar, lf, hh⟩ := h
  have hal : a < w.heap.size := (Array.getElem?_eq_some_iff.1 hh).1
  have HH : Hid (w.heap[a]? = some (.cells #[.slice p 0 c, .slice p' 0 c', .slice none 0 0, .bool ar, .int .i64 lf, .bool false] 43 (0, 0))) := hh
  clear hh
  go_enter Try.func17, Try.ntmps17
  go_wp2_with (first | (go_at_call 8; refine HS.mono ?_; rintro e w0 ⟨rfl, rfl⟩) | (go_at_call 18; refine HB.mono ?_; rintro e w1 ⟨s, k, rfl, h1, h2, h3, h4, h5, h6⟩; have HF : Hid (w1.heap[a]? = some (.cells #[.slice p 0 c, .slice p' 0 c', .slice none 0 0, .bool ar, .int .i64 lf, .bool false] 43 (0, 0)) ∧ Below a w0 w1) := ⟨(h6.block a hal).trans HH.out, below_low h6 (Nat.le_of_lt hal)⟩; clear h1 h2 h3 h4 h5 h6 HB) | (refine wpList_storeD rfl (.tmp 8) (.tmp 7) rfl a rfl (boxD s k (64 * 0) (.slice none 0 0) (zeroD 0)) #[.slice p 0 c, .slice p' 0 c', .slice none 0 0, .bool ar, .int .i64 lf, .bool false] rfl HF.out.1 rfl rfl (box_one s k (64 * 0) (zeroD 0)) ?_; intro w3 hw3))
  first | go_end0 | refine bodyPost_ret (results_none rfl _ _ _) rfl ?_
  exact ⟨rfl, ⟨_, _, _, _, _, _, hw3.out.at_⟩, HF.out.2.trans (hw3.out.below (Nat.le_refl _))⟩
set_option maxHeartbeats 2000000 in
theorem page_nil (w : World) : Calls Try.prog 12 #[.slice none 0 0, .int .i64 64] w fun e w' => ∃ g, e = .returned (.slice (some ⟨g, 0, none⟩) 64 64) ∧ Below w.heap.size w w' := by
  go_enter Try.func12, Try.ntmps12
  go_wp2_with (refine wpList_make rfl (.tmp 7) (.tmp 7) rfl 64 64 rfl rfl rfl (by decide) ?_; intro w2 hw2)
  have hb : Below w.heap.size w w2 := by rw [hw2.out]; exact below_alloc _ _
  clear hw2
  go_loopw [6] (fun i wr => i = .int .i64 0 ∧ wr = w2) (fun _ _ => 0)
  case atStart => exact ⟨rfl, rfl⟩
  case round =>
    obtain ⟨rfl, rfl⟩ := hrel
    go_wp2
    go_ret
    exact ⟨_, rfl, hb⟩
set_option maxHeartbeats 4000000 in
theorem drumNobody_any (b0 b1 x : Int) (v0 : Value) (p : Option Addr) (l c : Nat) (w : World) : Calls Try.prog 5 #[.agg #[.int .i64 b0, .int .i64 b1, .int .i64 x, v0, .slice p l c]] w fun e w' => TruePost w w' e := by
  obtain ⟨W0, hW0⟩ : ∃ W0, W0 = w.alloc (.cells #[.int .i64 b0, .int .i64 b1, .int .i64 x, v0, .slice p l c] 40) := ⟨_, rfl⟩
  have hbW : Below w.heap.size w W0 := by rw [hW0]; exact below_alloc _ _
  have hsW : W0.heap.size = w.heap.size + 1 := by rw [hW0]; exact size_alloc _ _
  have hgW : W0.heap[w.heap.size]? = some (.cells #[.int .i64 b0, .int .i64 b1, .int .i64 x, v0, .slice p l c] 40 (0, 0)) := by rw [hW0]; exact heap_alloc_new _ _
  have HGW : Hid (W0.heap[w.heap.size]? = some (.cells #[.int .i64 b0, .int .i64 b1, .int .i64 x, v0, .slice p l c] 40 (0, 0))) := hgW
  have HbW : Hid (Below w.heap.size w W0) := hbW
  clear hbW hgW
  go_enter Try.func5, Try.ntmps5
  go_wp2_with fail
  rw [← hW0]
  clear hW0
  go_loopw [3] (fun i wr => ∃ j : Nat, j ≤ 2 ∧ i = .int .i64 j ∧ Hid (Below W0.heap.size W0 wr)) (fun i _ => 2 - (intOf i).toNat)
  case atStart => exact ⟨0, by omega, rfl, Below.refl _ _⟩
  case round =>
    obtain ⟨j, hj, rfl, HJ⟩ := hrel
    have b2 : wr.cell? ⟨w.heap.size, 2, none⟩ = some (.int .i64 x) := (HJ.out.cell (p := ⟨w.heap.size, 2, none⟩) (by show w.heap.size < W0.heap.size; omega)).trans (by rw [cell_of_heap HGW.out]; rfl)
    have b4 : wr.cell? ⟨w.heap.size, 4, none⟩ = some (.slice p l c) := (HJ.out.cell (p := ⟨w.heap.size, 4, none⟩) (by show w.heap.size < W0.heap.size; omega)).trans (by rw [cell_of_heap HGW.out]; rfl)
    have hj3 : j = 0 ∨ j = 1 ∨ j = 2 := by omega
    rcases hj3 with rfl | rfl | rfl
    · go_wp2_with (first | (go_at_call 13; refine (sync_nil _).mono ?_; rintro e w1 ⟨rfl, rfl⟩) | (go_at_call 14; refine (arm_nil _ _).mono ?_; rintro e w2 ⟨rfl, rfl⟩) | (go_at_call 15; refine (crash_nil _ _).mono ?_; rintro e w3 ⟨rfl, rfl⟩) | (go_at_call 17; refine (wipe_nil _).mono ?_; rintro e w4 ⟨rfl, rfl⟩) | (go_at_call 16; refine (read_none _ _ (sectors_nil _)).mono ?_; rintro e w5 ⟨rfl, rfl⟩) | (go_at_call 8; refine (sectors_nil _).mono ?_; rintro e w6 ⟨rfl, rfl⟩) | (go_at_call 12; refine (page_nil _).mono ?_; rintro e w7 ⟨g, rfl, hb7⟩) | (go_at_call 11; refine (write_none _ _ _ _ (sectors_nil _)).mono ?_; rintro e w8 ⟨rfl, rfl⟩) | (go_at_call 9; refine (pending_nil _).mono ?_; rintro e w9 ⟨rfl, rfl⟩) | (go_at_call 10; refine (gone_nil _).mono ?_; rintro e w10 ⟨rfl, rfl⟩))
      go_roundw
      case rel => exact ⟨1, by omega, by go_num, HJ.out.trans (below_low hb7 HJ.out.size)⟩
      case measure => simp [intOf]
    · have hlw : w.heap.size < wr.heap.size := by have := HJ.out.size; omega
      have hba := below_alloc wr (.cells #[.slice none 0 0, .slice none 0 0, .slice none 0 0, .bool false, .int .i64 0, .bool false] 43)
      have HE0 : Hid (Empty wr.heap.size (wr.alloc (.cells #[.slice none 0 0, .slice none 0 0, .slice none 0 0, .bool false, .int .i64 0, .bool false] 43)) ∧ Below wr.heap.size wr (wr.alloc (.cells #[.slice none 0 0, .slice none 0 0, .slice none 0 0, .bool false, .int .i64 0, .bool false] 43))) := ⟨⟨_, _, _, _, _, _, heap_alloc_new wr _⟩, hba⟩
      have c2 : (wr.alloc (.cells #[.slice none 0 0, .slice none 0 0, .slice none 0 0, .bool false, .int .i64 0, .bool false] 43)).cell? ⟨w.heap.size, 2, none⟩ = some (.int .i64 x) := (hba.cell (p := ⟨w.heap.size, 2, none⟩) hlw).trans b2
      have c4 : (wr.alloc (.cells #[.slice none 0 0, .slice none 0 0, .slice none 0 0, .bool false, .int .i64 0, .bool false] 43)).cell? ⟨w.heap.size, 4, none⟩ = some (.slice p l c) := (hba.cell (p := ⟨w.heap.size, 4, none⟩) hlw).trans b4
      clear hba
      go_wp2_with fail
      refine (sync_empty _ HE0.out.1).mono ?_
      rintro e w1 ⟨rfl, hP⟩
      have HE1 : Hid (Empty wr.heap.size w1 ∧ Below wr.heap.size wr w1) := ⟨hP.1, HE0.out.2.trans hP.2⟩
      have d2 : w1.cell? ⟨w.heap.size, 2, none⟩ = some (.int .i64 x) := (HE1.out.2.cell (p := ⟨w.heap.size, 2, none⟩) hlw).trans b2
      have d4 : w1.cell? ⟨w.heap.size, 4, none⟩ = some (.slice p l c) := (HE1.out.2.cell (p := ⟨w.heap.size, 4, none⟩) hlw).trans b4
      clear hP HE0 c2 c4
      have e2 := d2
      have e4 := d4
      clear d2 d4
      go_wp2_with fail
      refine (arm_empty _ HE1.out.1 _).mono ?_
      rintro e w2 ⟨rfl, hP⟩
      have HE2 : Hid (Empty wr.heap.size w2 ∧ Below wr.heap.size wr w2) := ⟨hP.1, HE1.out.2.trans hP.2⟩
      have d2 : w2.cell? ⟨w.heap.size, 2, none⟩ = some (.int .i64 x) := (HE2.out.2.cell (p := ⟨w.heap.size, 2, none⟩) hlw).trans b2
      have d4 : w2.cell? ⟨w.heap.size, 4, none⟩ = some (.slice p l c) := (HE2.out.2.cell (p := ⟨w.heap.size, 4, none⟩) hlw).trans b4
      clear hP HE1 e2 e4
      have e2 := d2
      have e4 := d4
      clear d2 d4
      go_wp2_with fail
      refine (crash_empty _ HE2.out.1 _).mono ?_
      rintro e w3 ⟨rfl, hP⟩
      have HE3 : Hid (Empty wr.heap.size w3 ∧ Below wr.heap.size wr w3) := ⟨hP.1, HE2.out.2.trans hP.2⟩
      have d2 : w3.cell? ⟨w.heap.size, 2, none⟩ = some (.int .i64 x) := (HE3.out.2.cell (p := ⟨w.heap.size, 2, none⟩) hlw).trans b2
      have d4 : w3.cell? ⟨w.heap.size, 4, none⟩ = some (.slice p l c) := (HE3.out.2.cell (p := ⟨w.heap.size, 4, none⟩) hlw).trans b4
      clear hP HE2 e2 e4
      have e2 := d2
      have e4 := d4
      clear d2 d4
      go_wp2_with fail
      refine (wipe_empty _ HE3.out.1).mono ?_
      rintro e w4 ⟨rfl, hP⟩
      have HE4 : Hid (Empty wr.heap.size w4 ∧ Below wr.heap.size wr w4) := ⟨hP.1, HE3.out.2.trans hP.2⟩
      have d2 : w4.cell? ⟨w.heap.size, 2, none⟩ = some (.int .i64 x) := (HE4.out.2.cell (p := ⟨w.heap.size, 2, none⟩) hlw).trans b2
      have d4 : w4.cell? ⟨w.heap.size, 4, none⟩ = some (.slice p l c) := (HE4.out.2.cell (p := ⟨w.heap.size, 4, none⟩) hlw).trans b4
      clear hP HE3 e2 e4
      have e2 := d2
      have e4 := d4
      clear d2 d4
      go_wp2_with (first | (go_at_call 16; refine (read_none _ _ (sectors_empty _ HE4.out.1)).mono ?_; rintro e w5 ⟨rfl, rfl⟩) | (go_at_call 8; refine (sectors_empty _ HE4.out.1).mono ?_; rintro e w6 ⟨rfl, rfl⟩) | (go_at_call 12; refine (page_nil _).mono ?_; rintro e w7 ⟨g, rfl, hb7⟩; have HE7 : Hid (Empty wr.heap.size w7 ∧ Below wr.heap.size wr w7) := ⟨HE4.out.1.below hb7, below_up HE4.out.2 hb7⟩) | (go_at_call 11; refine (write_none _ _ _ _ (sectors_empty _ HE7.out.1)).mono ?_; rintro e w8 ⟨rfl, rfl⟩) | (go_at_call 9; refine (pending_empty _ HE7.out.1).mono ?_; rintro e w9 ⟨rfl, rfl⟩) | (go_at_call 10; refine (gone_empty _ HE7.out.1).mono ?_; rintro e w10 ⟨rfl, rfl⟩))
      go_roundw
      case rel => exact ⟨2, by omega, by go_num, below_up HJ.out HE7.out.2⟩
      case measure => simp [intOf]
    · go_wp2_with (go_at_call 7; refine (awake_any _).mono ?_; rintro e w5 ⟨rfl, hb5⟩)
      go_ret
      exact ⟨rfl, below_up (below_up HbW.out HJ.out) hb5⟩
end Go.Proofs.Ytjmlklikmcaalaa.Dm
