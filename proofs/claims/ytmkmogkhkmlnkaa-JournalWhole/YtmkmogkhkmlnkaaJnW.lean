/-
  Nobody's journal; the law JournalNobody.
-/
import Derived.Test.YtmkmogkhkmlnkaaJnV
namespace Go.Proofs.Ytmkmogkhkmlnkaa.Dm
open Go.ChangeShapes Go.WideShapes Go.ChangeAt Go.RowKit
/-- a journal that Open did not give -/
def NoJ (w : World) (p : Option Addr) : Prop := p = none ∨ ∃ b, p = some ⟨b, 0, none⟩ ∧ w.cell? ⟨b, 0, none⟩ = some (.pointer none)
theorem NoJ.below {w w' : World} {p : Option Addr} (h : NoJ w p) (hb : Below w.heap.size w w') : NoJ w' p := by
  rcases h with h | ⟨b, h, hc⟩
  · exact .inl h
  · exact .inr ⟨b, h, (hb.cell (p := ⟨b, 0, none⟩) (World.block_lt_of_cell? w ⟨b, 0, none⟩ hc)).trans hc⟩
set_option maxHeartbeats 1000000 in
theorem given_no (w : World) (p : Option Addr) (h : NoJ w p) : Calls Try.prog 23 #[.pointer p] w fun e w' => e = .returned (.bool false) ∧ w' = w := by
  rcases h with rfl | ⟨b, rfl, hc⟩
  · go_enter Try.func23, Try.ntmps23
    go_wp2
    go_ret
    exact ⟨rfl, rfl⟩
  · go_enter Try.func23, Try.ntmps23
    go_wp2
    go_ret
    exact ⟨rfl, rfl⟩
set_option maxHeartbeats 1000000 in
theorem sync_no (w : World) (p : Option Addr) (h : NoJ w p) : Calls Try.prog 11 #[.pointer p] w fun e w' => e = .returned (.tuple #[]) ∧ w' = w := by
  have HG := given_no w p h
  clear h
  go_enter Try.func11, Try.ntmps11
  go_wp2_with (go_at_call 23; refine HG.mono ?_; rintro e w1 ⟨rfl, rfl⟩)
  first | go_end0 | refine bodyPost_ret (results_none rfl _ _ _) rfl ?_
  exact ⟨rfl, rfl⟩
set_option maxHeartbeats 1000000 in
theorem records_no (w : World) (p : Option Addr) (h : NoJ w p) : Calls Try.prog 12 #[.pointer p] w fun e w' => e = .returned (.slice none 0 0) ∧ w' = w := by
  have HG := given_no w p h
  clear h
  go_enter Try.func12, Try.ntmps12
  go_wp2_with (go_at_call 23; refine HG.mono ?_; rintro e w1 ⟨rfl, rfl⟩)
  go_ret
  exact ⟨rfl, rfl⟩
set_option maxHeartbeats 1000000 in
theorem append_no (w : World) (p : Option Addr) (h : NoJ w p) (a1 : Option Addr) (n1 c1 : Nat) (a2 : Option Addr) (n2 c2 : Nat) : Calls Try.prog 10 #[.pointer p, .agg #[.slice a1 n1 c1, .slice a2 n2 c2]] w fun e w' => e = .returned (.int .i64 1) ∧ Below w.heap.size w w' := by
  have hb := below_alloc w (.cells #[.slice a1 n1 c1, .slice a2 n2 c2] 38)
  have HG := given_no _ p (h.below hb)
  have HB : Hid (Below w.heap.size w (w.alloc (.cells #[.slice a1 n1 c1, .slice a2 n2 c2] 38))) := hb
  clear h hb
  go_enter Try.func10, Try.ntmps10
  go_wp2_with (go_at_call 23; refine HG.mono ?_; rintro e w1 ⟨rfl, rfl⟩)
  go_ret
  exact ⟨rfl, HB.out⟩
set_option maxHeartbeats 1000000 in
theorem anew_no (w : World) (p : Option Addr) (h : NoJ w p) (a1 : Option Addr) (n1 c1 : Nat) : Calls Try.prog 13 #[.pointer p, .slice a1 n1 c1] w fun e w' => e = .returned (.int .i64 1) ∧ w' = w := by
  have HG := given_no w p h
  clear h
  go_enter Try.func13, Try.ntmps13
  go_wp2_with (go_at_call 23; refine HG.mono ?_; rintro e w1 ⟨rfl, rfl⟩)
  go_ret
  exact ⟨rfl, rfl⟩
set_option maxHeartbeats 1000000 in
theorem left_no (w : World) (p : Option Addr) (h : NoJ w p) : Calls Try.prog 17 #[.pointer p] w fun e w' => e = .returned (.int .i64 0) ∧ w' = w := by
  have HG := given_no w p h
  clear h
  go_enter Try.func17, Try.ntmps17
  go_wp2_with (go_at_call 23; refine HG.mono ?_; rintro e w1 ⟨rfl, rfl⟩)
  go_ret
  exact ⟨rfl, rfl⟩
set_option maxHeartbeats 1000000 in
theorem jgone_no (w : World) (p : Option Addr) (h : NoJ w p) : Calls Try.prog 18 #[.pointer p] w fun e w' => e = .returned (.bool false) ∧ w' = w := by
  have HG := given_no w p h
  clear h
  go_enter Try.func18, Try.ntmps18
  go_wp2_with (go_at_call 23; refine HG.mono ?_; rintro e w1 ⟨rfl, rfl⟩)
  go_ret
  exact ⟨rfl, rfl⟩
set_option maxHeartbeats 1000000 in
theorem sectors_no (w : World) : Calls Try.prog 20 #[.pointer none] w fun e w' => e = .returned (.int .i64 0) ∧ w' = w := by
  go_enter Try.func20, Try.ntmps20
  go_wp2
  go_ret
  exact ⟨rfl, rfl⟩
set_option maxHeartbeats 1000000 in
theorem open_no (w : World) : Calls Try.prog 6 #[.pointer none] w fun e w' => e = .returned (.tuple #[.pointer none, .int .i64 1]) ∧ w' = w := by
  go_enter Try.func6, Try.ntmps6
  go_wp2_with (go_at_call 20; refine (sectors_no _).mono ?_; rintro e w1 ⟨rfl, rfl⟩)
  go_returns
  exact ⟨rfl, rfl⟩
set_option maxHeartbeats 8000000 in
set_option maxRecDepth 60000 in
theorem journalNobody_any (d : Int) (a1 : Option Addr) (n1 c1 : Nat) (a2 : Option Addr) (n2 c2 : Nat) (a3 : Option Addr) (n3 c3 : Nat) (e1 e2 e3 : Int) (x y : Value) (w : World) :
    Calls Try.prog 4 #[.agg #[.int .i64 d, .slice a1 n1 c1, .slice a2 n2 c2, .slice a3 n3 c3, .int .i64 e1, .int .i64 e2, .int .i64 e3, x, y]] w fun e w' => TruePost w w' e := by
  obtain ⟨W0, hW0⟩ : ∃ W0, W0 = w.alloc (.cells #[.int .i64 d, .slice a1 n1 c1, .slice a2 n2 c2, .slice a3 n3 c3, .int .i64 e1, .int .i64 e2, .int .i64 e3, x, y] 44) := ⟨_, rfl⟩
  have hb0 : Below w.heap.size w W0 := by rw [hW0]; exact below_alloc _ _
  have hx0 : W0.heap[w.heap.size]? = some (.cells #[.int .i64 d, .slice a1 n1 c1, .slice a2 n2 c2, .slice a3 n3 c3, .int .i64 e1, .int .i64 e2, .int .i64 e3, x, y] 44 (0, 0)) := by rw [hW0]; exact heap_alloc_new _ _
  have hx0l : w.heap.size < W0.heap.size := (Array.getElem?_eq_some_iff.1 hx0).1
  have HC : Hid (∀ w', Below W0.heap.size W0 w' → (w'.cell? ⟨w.heap.size, 1, none⟩ = some (.slice a1 n1 c1) ∧ w'.cell? ⟨w.heap.size, 2, none⟩ = some (.slice a2 n2 c2)) ∧ w'.cell? ⟨w.heap.size, 3, none⟩ = some (.slice a3 n3 c3)) := fun w' hb => ⟨⟨(hb.cell (p := ⟨w.heap.size, 1, none⟩) hx0l).trans (by rw [cell_of_heap hx0]; rfl), (hb.cell (p := ⟨w.heap.size, 2, none⟩) hx0l).trans (by rw [cell_of_heap hx0]; rfl)⟩, (hb.cell (p := ⟨w.heap.size, 3, none⟩) hx0l).trans (by rw [cell_of_heap hx0]; rfl)⟩
  have HB0 : Hid (Below w.heap.size w W0) := hb0
  have HW : Hid (W0 = w.alloc (.cells #[.int .i64 d, .slice a1 n1 c1, .slice a2 n2 c2, .slice a3 n3 c3, .int .i64 e1, .int .i64 e2, .int .i64 e3, x, y] 44)) := hW0
  clear hb0 hx0 hW0
  go_enter Try.func4, Try.ntmps4
  go_wp2_with fail
  rw [← HW.out]
  obtain ⟨⟨z1, z2⟩, z3⟩ := HC.out W0 (Below.refl _ _)
  refine wp_loop_rounds 3 ?_
  rw [rounds_succ]
  go_wp2_with (first
    | (go_at_call 11; refine (sync_no _ _ (.inl rfl)).mono ?_; rintro e v1 ⟨rfl, rfl⟩)
    | (go_at_call 12; refine (records_no _ _ (.inl rfl)).mono ?_; rintro e v2 ⟨rfl, rfl⟩)
    | (go_at_call 10; refine (append_no _ _ (.inl rfl) _ _ _ _ _ _).mono ?_; rintro e v3 ⟨rfl, hb3⟩; obtain ⟨⟨y1, y2⟩, y3⟩ := HC.out v3 hb3)
    | (go_at_call 13; refine (anew_no _ _ (.inl rfl) _ _ _).mono ?_; rintro e v4 ⟨rfl, rfl⟩)
    | (go_at_call 17; refine (left_no _ _ (.inl rfl)).mono ?_; rintro e v5 ⟨rfl, rfl⟩)
    | (go_at_call 18; refine (jgone_no _ _ (.inl rfl)).mono ?_; rintro e v6 ⟨rfl, rfl⟩))
  have hbA := below_alloc v6 (.cells #[.pointer none, .bool false, .int .i64 0, .slice none 0 0] 53)
  have hNo : NoJ (v6.alloc (.cells #[.pointer none, .bool false, .int .i64 0, .slice none 0 0] 53)) (some ⟨v6.heap.size, 0, none⟩) := .inr ⟨_, rfl, by rw [cell_of_heap (heap_alloc_new v6 _)]; rfl⟩
  obtain ⟨⟨x1, x2⟩, x3⟩ := HC.out _ (below2 hb3 hbA)
  have HNo : Hid (NoJ (v6.alloc (.cells #[.pointer none, .bool false, .int .i64 0, .slice none 0 0] 53)) (some ⟨v6.heap.size, 0, none⟩)) := hNo
  have HBA : Hid (Below v2.heap.size v2 (v6.alloc (.cells #[.pointer none, .bool false, .int .i64 0, .slice none 0 0] 53))) := below2 hb3 hbA
  obtain ⟨VA, hVA⟩ : ∃ VA, VA = v6.alloc (.cells #[.pointer none, .bool false, .int .i64 0, .slice none 0 0] 53) := ⟨_, rfl⟩
  have HVA : Hid (VA = v6.alloc (.cells #[.pointer none, .bool false, .int .i64 0, .slice none 0 0] 53)) := hVA
  rw [← hVA] at x1 x2 x3 HNo HBA
  clear hVA hNo hbA hb3 y1 y2 y3 z1 z2 z3
  have HS := sync_no _ _ HNo.out
  have HR := records_no _ _ HNo.out
  have HA := append_no _ _ HNo.out a1 n1 c1 a2 n2 c2
  rw [rounds_succ]
  go_wp2_with (first
    | (go_at_call 11; rw [← HVA.out]; refine HS.mono ?_; rintro e u1 ⟨rfl, rfl⟩)
    | (go_at_call 12; refine HR.mono ?_; rintro e u2 ⟨rfl, rfl⟩)
    | (go_at_call 10; refine HA.mono ?_; rintro e u3 ⟨rfl, hb9⟩; obtain ⟨⟨y1, y2⟩, y3⟩ := HC.out u3 (below2 HBA.out hb9))
    | (go_at_call 13; refine (anew_no _ _ (HNo.out.below hb9) _ _ _).mono ?_; rintro e u4 ⟨rfl, rfl⟩)
    | (go_at_call 17; refine (left_no _ _ (HNo.out.below hb9)).mono ?_; rintro e u5 ⟨rfl, rfl⟩)
    | (go_at_call 18; refine (jgone_no _ _ (HNo.out.below hb9)).mono ?_; rintro e u6 ⟨rfl, rfl⟩))
  have HB9 : Hid (Below w.heap.size w u6) := below2 HB0.out (below2 HBA.out hb9)
  clear HS HR HA hb9 y1 y2 y3 x1 x2 x3
  rw [rounds_succ]
  go_wp2_with (first | (go_at_call 6; refine (open_no _).mono ?_; rintro e q1 ⟨rfl, rfl⟩) | (go_at_call 8; refine (awakeJ_any _).mono ?_; rintro e q2 ⟨rfl, hb2⟩))
  go_ret
  exact ⟨rfl, below2 HB9.out hb2⟩
end Go.Proofs.Ytmkmogkhkmlnkaa.Dm
