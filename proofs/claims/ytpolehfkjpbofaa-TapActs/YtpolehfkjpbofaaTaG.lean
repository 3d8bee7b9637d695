/-
  The contract of New.
-/
import Derived.Test.YtpolehfkjpbofaaTaF
import Derived.BigRegion
namespace Go.Proofs.Ytpolehfkjpbofaa.Ta
open Go.ChangeShapes Go.WideShapes Go.ChangeAt Go.RowKit
open Go.Conc (G solo rcase scase)
def newP (k R : Int) : Bool := decide (1 ≤ k) && decide (k ≤ 8) && decide (1 ≤ R) && decide (R ≤ 64)
theorem new_bad (k R : Int) (w : World) (h : newP k R = false) : Calls Try.prog 7 #[.int .i64 k, .int .i64 R] w fun e w' => e = .returned (.tuple #[.pointer none, .int .i64 1]) ∧ w' = w := by
  have hx : k < 1 ∨ (1 ≤ k ∧ 8 < k) ∨ (1 ≤ k ∧ k ≤ 8 ∧ R < 1) ∨ (1 ≤ k ∧ k ≤ 8 ∧ 1 ≤ R ∧ 64 < R) := by
    simp only [newP, Bool.and_eq_false_iff, decide_eq_false_iff_not] at h
    omega
  clear h
  rcases hx with h1 | ⟨h1, h2⟩ | ⟨h1, h2, h3⟩ | ⟨h1, h2, h3, h4⟩
  all_goals
    go_enter Try.func7, Try.ntmps7
    go_wp2
    go_ret2
    exact ⟨rfl, rfl⟩
theorem bytes3 : ∃ i, Try.prog.info? 3 = some i ∧ i.bytes = 8 := by
  have h : (Try.prog.info? 3).map (·.bytes) = some 8 := by kernel_rfl
  obtain ⟨i, hi, hb⟩ := Option.map_eq_some_iff.1 h
  exact ⟨i, hi, hb⟩
theorem mkc (R : Nat) (h : R ≤ 64) (w : World) : (Instr.makeChan 55 (.int .i64 (R : Int))).run Try.prog w = .ok (.chan (some w.heap.size)) (w.alloc (.chan R #[] false 0 0 false)) := by
  obtain ⟨i, hi, hb⟩ := bytes3
  exact Go.Conc.run_makeChan (P := Try.prog) (w := w) Try.underlying55 hi .i64 R (by omega) (by rw [hb]; omega)
/-- a tap that is filled with pipes -/
structure Part (B : Nat) (w : World) (p g k R n : Nat) (cs : List Nat) : Prop where
  bp : B ≤ p
  bg : B ≤ g
  bc : ∀ c ∈ cs, B ≤ c
  nd : ∀ (i j c : Nat), cs[i]? = some c → cs[j]? = some c → i = j
  len : cs.length = n
  box : Bx2 w p 53 (.slice (some ⟨g, 0, none⟩) k k) (.int .i64 0)
  row : Rw w g 55 ((cs.map fun c => Value.chan (some c)) ++ List.replicate (k - n) (.chan none))
  chs : ∀ (i c : Nat), cs[i]? = some c → Ch w c R []
theorem Part.done {B : Nat} {w : World} {p g k R : Nat} {cs : List Nat} (h : Part B w p g k R k cs) : TapAt B w p (List.replicate k []) R 0 := by
  refine ⟨g, cs, h.bp, h.bg, h.bc, h.nd, by simp [h.len], by simpa using h.box, by simpa using h.row, fun i c hc => ?_⟩
  have := h.chs i c hc
  have hi : i < k := by rw [← h.len]; exact (List.getElem?_eq_some_iff.1 hc).1
  simpa [hi] using this
theorem Part.more {B : Nat} {w : World} {p g k R n : Nat} {cs : List Nat} (h : Part B w p g k R n cs) (hn : n < k) : Part B ((w.alloc (.chan R #[] false 0 0 false)).setCell ⟨g, n, none⟩ (.chan (some w.heap.size))) p g k R (n + 1) (cs ++ [w.heap.size]) := by
  have hg := h.row.lt
  have hp := h.box.lt
  have hne : p ≠ g := fun e => by subst e; have h2 := h.box; have h3 := h.row; unfold Bx2 at h2; unfold Rw at h3; rw [h2] at h3; simp at h3
  have old : ∀ k, k < w.heap.size → (w.alloc (.chan R #[] false 0 0 false)).heap[k]? = w.heap[k]? := fun k hk => heap_alloc_old w _ hk
  have hlt : ∀ i c, cs[i]? = some c → c < w.heap.size := fun i c hc => by obtain ⟨s, r, hh⟩ := h.chs i c hc; exact (Array.getElem?_eq_some_iff.1 hh).1
  refine ⟨h.bp, h.bg, ?_, ?_, by simp [h.len], ?_, ?_, ?_⟩
  · intro c hc
    simp at hc
    rcases hc with hc | rfl
    · exact h.bc c hc
    · exact Nat.le_trans h.bp (Nat.le_of_lt hp)
  · intro i j c hi hj
    rw [List.getElem?_append] at hi hj
    split at hi <;> split at hj
    · exact h.nd i j c hi hj
    · have := hlt i c hi
      simp [List.getElem?_singleton] at hj
      omega
    · have := hlt j c hj
      simp [List.getElem?_singleton] at hi
      omega
    · simp [List.getElem?_singleton] at hi hj
      omega
  · exact h.box.kept ((heap_setCell_other _ ⟨g, n, none⟩ p _ hne).trans (old p hp))
  · have h1 : Rw (w.alloc (.chan R #[] false 0 0 false)) g 55 _ := (old g hg).trans h.row
    have h2 := heap_setCell_same _ g n _ _ (.chan (some w.heap.size)) h1
    unfold Rw
    rw [h2]
    congr 2
    apply Array.toList_inj.1
    simp only [Array.toList_setIfInBounds]
    apply List.ext_getElem?
    intro j
    rw [List.getElem?_set]
    have hln := h.len
    by_cases e : n = j
    · subst e
      simp [hln]
      omega
    · rw [if_neg e]
      simp only [List.map_append, List.map_cons, List.map_nil, List.getElem?_append, List.length_append, List.length_map, List.length_cons, List.length_nil, hln, List.getElem?_replicate]
      grind
  · intro i c hc
    rw [List.getElem?_append] at hc
    split at hc
    · obtain ⟨s, r, hh⟩ := h.chs i c hc
      have hl := hlt i c hc
      have hcg : c ≠ g := fun e => by subst e; have h3 := h.row; unfold Rw at h3; rw [hh] at h3; simp at h3
      exact ⟨s, r, ((heap_setCell_other _ ⟨g, n, none⟩ c _ hcg).trans (old c hl)).trans hh⟩
    · simp [List.getElem?_singleton] at hc
      obtain ⟨_, rfl⟩ := hc
      exact ⟨0, 0, (heap_setCell_other _ ⟨g, n, none⟩ w.heap.size _ (by show w.heap.size ≠ g; omega)).trans (heap_alloc_new w _)⟩
theorem Part.same {B : Nat} {w w' : World} {p g k R n : Nat} {cs : List Nat} (h : Part B w p g k R n cs) (e : w'.heap = w.heap) : Part B w' p g k R n cs :=
  ⟨h.bp, h.bg, h.bc, h.nd, h.len, by unfold Bx2; rw [e]; exact h.box, by unfold Rw; rw [e]; exact h.row, fun i c hc => by obtain ⟨s, r, hh⟩ := h.chs i c hc; exact ⟨s, r, by rw [e]; exact hh⟩⟩
theorem Part.next {B : Nat} {w : World} {p g k R n : Nat} {cs : List Nat} (h : Part B w p g k R n cs) (hn : n < k) : ((cs.map fun c => Value.chan (some c)) ++ List.replicate (k - n) (.chan none))[n]? = some (.chan none) := by
  have hl := h.len
  rw [List.getElem?_append_right (by simp [hl])]
  simp only [List.length_map, hl, Nat.sub_self, List.getElem?_replicate]
  rw [if_pos (by omega)]
theorem sw_heap (w : World) (a : Addr) (v : Value) (o : Obj) (h : a.block < w.heap.size) : ((w.setCell a v).alloc o).heap = ((w.alloc o).setCell a v).heap := by
  apply Array.ext_getElem?
  intro i
  simp only [World.setCell, World.alloc, Array.getElem?_push, Array.getElem?_modify, Array.size_modify]
  by_cases e : i = w.heap.size
  · subst e; rw [if_pos rfl, if_neg (by omega), if_pos rfl]
  · rw [if_neg e, if_neg e]
/-- a new tap, told -/
def NewPost (k R : Nat) (w : World) (e : Ending) (w' : World) : Prop := ∃ p, e = .returned (.tuple #[.pointer (some ⟨p, 0, none⟩), .int .i64 0]) ∧ TapAt w.heap.size w' p (List.replicate k []) R 0 ∧ Below w.heap.size w w'
set_option maxRecDepth 60000 in
set_option maxHeartbeats 1000000 in
theorem new_any (k R : Nat) (w : World) (hk : 1 ≤ k ∧ k ≤ 8) (hR : 1 ≤ R ∧ R ≤ 64) : Calls Try.prog 7 #[.int .i64 k, .int .i64 R] w fun e w' => NewPost k R w e w' := by
  have k1 : (1 : Int) ≤ (k : Int) := by omega
  have k2 : (k : Int) ≤ 8 := by omega
  have r1 : (1 : Int) ≤ (R : Int) := by omega
  have r2 : (R : Int) ≤ 64 := by omega
  have hmk := makeC k (by omega) w
  have hmc := mkc R hR.2
  have HA : Hid (Part w.heap.size ((w.alloc (.cells (Array.replicate k (Value.chan none)) 55)).alloc (.cells #[.slice (some ⟨w.heap.size, 0, none⟩) k k, .int .i64 0] 53)) (w.heap.size + 1) w.heap.size k R 0 []) := ⟨by
    refine ⟨by omega, Nat.le_refl _, by simp, by simp, rfl, ?_, ?_, by simp⟩
    · have := heap_alloc_new (w.alloc (.cells (Array.replicate k (Value.chan none)) 55)) (.cells #[.slice (some ⟨w.heap.size, 0, none⟩) k k, .int .i64 0] 53)
      unfold Bx2
      rw [← this]
      simp
    · unfold Rw
      rw [heap_alloc_old _ _ (by simp)]
      have := heap_alloc_new w (.cells (Array.replicate k (Value.chan none)) 55)
      simpa using this⟩
  have HB : Hid (Below w.heap.size w ((w.alloc (.cells (Array.replicate k (Value.chan none)) 55)).alloc (.cells #[.slice (some ⟨w.heap.size, 0, none⟩) k k, .int .i64 0] 53))) := ⟨((Below.refl _ _).alloc (Nat.le_refl _) _).alloc (by simp) _⟩
  have HP : Hid (∀ e w', NewPost k R w e w' ↔ NewPost k R w e w') := ⟨fun _ _ => Iff.rfl⟩
  clear hk hR
  go_enter Try.func7, Try.ntmps7
  go_upto_region 4 with fail
  generalize World.alloc _ _ = W9 at HA HB ⊢
  clear hmk
  generalize hq : w.heap.size = q at HA HB ⊢
  generalize q + 1 = p at HA ⊢
  have h0 := HA.out.box.c0
  go_wp2_with fail
  go_loopw [31] (fun i wr => ∃ (n : Nat) (cs : List Nat), n ≤ k ∧ i = .int .i64 n ∧ Hid (Part q wr p q k R n cs) ∧ Hid (Below q w wr)) (fun i _ => k - (intOf i).toNat)
  case atStart => exact ⟨0, [], Nat.zero_le _, rfl, HA, HB⟩
  case round =>
    obtain ⟨n, cs, hn, rfl, hA, hB⟩ := hrel
    clear h0
    by_cases hlt : n < k
    · have hn1 : (n : Int) < (k : Int) := by omega
      have h1 := hA.out.box.c0
      have h2 := hA.out.row.fz n
      have h3 := hA.out.row.cell (i := n) (v := .chan none) (hA.out.next hlt)
      have h4 : p < wr.heap.size := hA.out.box.lt
      have h5 : q < wr.heap.size := hA.out.row.lt
      have h6 : (wr.alloc (.chan R #[] false 0 0 false)).cell? ⟨p, 0, none⟩ = some (.slice (some ⟨q, 0, none⟩) k k) := (hA.out.box.kept (heap_alloc_old wr _ h4)).c0
      have h7 : (wr.alloc (.chan R #[] false 0 0 false)).frozen? ⟨q, n, none⟩ = false := Rw.fz (T := 55) ((heap_alloc_old wr _ h5).trans hA.out.row) n
      have h8 : (wr.alloc (.chan R #[] false 0 0 false)).cell? ⟨q, n, none⟩ = some (.chan none) := Rw.cell (T := 55) ((heap_alloc_old wr _ h5).trans hA.out.row) (hA.out.next hlt)
      have HN : Hid (Part q ((wr.setCell ⟨q, n, none⟩ (.chan (some wr.heap.size))).alloc (.chan R #[] false 0 0 false)) p q k R (n + 1) (cs ++ [wr.heap.size])) := ⟨(hA.out.more hlt).same (sw_heap wr ⟨q, n, none⟩ _ _ h5)⟩
      have HBN : Hid (Below q w ((wr.setCell ⟨q, n, none⟩ (.chan (some wr.heap.size))).alloc (.chan R #[] false 0 0 false))) := ⟨(hB.out.setCell (p := ⟨q, n, none⟩) (Nat.le_refl _) _).alloc (by unfold World.setCell; simp; omega) _⟩
      clear hA hB
      go_wp2_with fail
      go_region
      all_goals
        go_wp2_with fail
        exact ⟨⟨n + 1, _, by omega, by go_num, ⟨HN.out.same rfl⟩, ⟨HBN.out.trans ⟨rfl, rfl, rfl, Nat.le_refl _, fun _ _ => rfl⟩⟩⟩, by simp [intOf]; omega⟩
    · obtain rfl : n = k := by omega
      have HE : Hid (NewPost n R w (.returned (.tuple #[.pointer (some ⟨p, 0, none⟩), .int .i64 0])) wr) := ⟨⟨p, rfl, by rw [hq]; exact hA.out.done, by rw [hq]; exact hB.out⟩⟩
      clear hA hB
      go_wp2_with fail
      go_ret2
      exact HE.out
end Go.Proofs.Ytpolehfkjpbofaa.Ta
