/-
  blank, New.
-/
import Derived.Test.YtmkmogkhkmlnkaaDmH
import Derived.Laws.ResultCell
namespace Go.Proofs.Ytmkmogkhkmlnkaa.Dm
open Go.ChangeShapes Go.WideShapes Go.ChangeAt Go.RowKit
theorem but_two {P : Program} {ops : Array Oper} {Q : Exit → Act → World → Prop} {md : Region.Mode} {S : World → Prop} {n : Nat} {i j : Nat} {oi oj : Oper} {fuel : Nat} {listed : Array Bool} {a : Act} {w : World} (hr : Region.ready md ops listed = [i, j]) (hi : ops.toList[i]? = some oi) (hj : ops.toList[j]? = some oj) (gi : oi.guard = none) (gj : oj.guard = none)
    (h1 : ∀ K : Act → World → Prop, Hid (∀ a' w', (i ≠ n → S w') → AnyBut P md ops Q S n fuel (listed.setIfInBounds i true) a' w' → K a' w') → oi.wp P a w K Q)
    (h2 : ∀ K : Act → World → Prop, Hid (∀ a' w', (j ≠ n → S w') → AnyBut P md ops Q S n fuel (listed.setIfInBounds j true) a' w' → K a' w') → oj.wp P a w K Q) : AnyBut P md ops Q S n (fuel + 1) listed a w :=
  AnyBut.two hr (by simpa using hi) (by simpa using hj) gi gj h1 h2
def zeroD (n : Nat) : Dm := ⟨List.replicate (64 * n) 0, List.replicate (64 * n) 0, [], false, 0, false⟩
/-- behind the region: two rows of noughts, and the box -/
def BlankPost (n r : Nat) (w wC : World) : Prop := ∃ s k, w.heap.size ≤ s ∧ w.heap.size ≤ k ∧ s ≠ k ∧ wC.heap[s]? = some (.cells (cellsB (List.replicate (64 * n) 0)).toArray 5 (0, 0)) ∧ wC.heap[k]? = some (.cells (cellsB (List.replicate (64 * n) 0)).toArray 5 (0, 0)) ∧ wC.heap[r]? = some (.cells (boxD s k (64 * n) (.slice none 0 0) (zeroD n)) 58 (0, 0)) ∧ (wC.os = w.os ∧ wC.tape = w.tape ∧ wC.output = w.output ∧ w.heap.size ≤ wC.heap.size ∧ ∀ j, j < w.heap.size → j ≠ r → wC.heap[j]? = w.heap[j]?)
set_option maxHeartbeats 4000000 in
set_option maxRecDepth 60000 in
theorem blank_put (t1 t3 t4 t5 t6 t7 t8 t9 : Value) (n r : Nat) (w1 : World) (Q : Exit → Act → World → Prop) (hn : (n : Int) ≤ 8192) (hr : w1.heap[r]? = some (.cells #[.slice none 0 0, .slice none 0 0, .slice none 0 0, .bool false, .int .i64 0, .bool false] 58 (0, 0)))
    (hQ : Hid (∀ (u3 u4 u5 u6 u7 u8 u9 : Value) (wC : World), BlankPost n r w1 wC → Q .normal ⟨#[.int .i64 (n : Int), t1, .pointer (some ⟨r, 0, none⟩), u3, u4, u5, u6, u7, u8, u9], []⟩ wC)) :
    Code.wp Try.prog ((Try.f19.body.bind (regionOf 1)).getD .skip) Q ⟨#[.int .i64 (n : Int), t1, .pointer (some ⟨r, 0, none⟩), t3, t4, t5, t6, t7, t8, t9], []⟩ w1 := by
  have hrl : r < w1.heap.size := (Array.getElem?_eq_some_iff.1 hr).1
  have hs1 : (w1.drew.alloc (.cells (cellsB (List.replicate (64 * n) 0)).toArray 5)).heap.size = w1.heap.size + 1 := size_alloc _ _
  have HO : Hid (∀ j, j < w1.heap.size → ((w1.drew.alloc (.cells (cellsB (List.replicate (64 * n) 0)).toArray 5)).alloc (.cells (cellsB (List.replicate (64 * n) 0)).toArray 5)).heap[j]? = w1.heap[j]?) := fun j hj => by
    rw [(below_alloc (w1.drew.alloc (.cells (cellsB (List.replicate (64 * n) 0)).toArray 5)) _).block j (by omega)]
    exact (below_alloc w1.drew _).block j hj
  have HR : Hid (((w1.drew.alloc (.cells (cellsB (List.replicate (64 * n) 0)).toArray 5)).alloc (.cells (cellsB (List.replicate (64 * n) 0)).toArray 5)).heap[r]? = some (.cells #[.slice none 0 0, .slice none 0 0, .slice none 0 0, .bool false, .int .i64 0, .bool false] 58 (0, 0))) := (HO.out r hrl).trans hr
  have HN0 : Hid (((w1.drew.alloc (.cells (cellsB (List.replicate (64 * n) 0)).toArray 5)).alloc (.cells (cellsB (List.replicate (64 * n) 0)).toArray 5)).heap[w1.heap.size]? = some (.cells (cellsB (List.replicate (64 * n) 0)).toArray 5 (0, 0))) := by
    show _ = _
    rw [(below_alloc (w1.drew.alloc (.cells (cellsB (List.replicate (64 * n) 0)).toArray 5)) _).block w1.heap.size (by omega)]
    exact heap_alloc_new w1.drew _
  have HN1 : Hid (((w1.drew.alloc (.cells (cellsB (List.replicate (64 * n) 0)).toArray 5)).alloc (.cells (cellsB (List.replicate (64 * n) 0)).toArray 5)).heap[w1.heap.size + 1]? = some (.cells (cellsB (List.replicate (64 * n) 0)).toArray 5 (0, 0))) := by
    show _ = _
    have := heap_alloc_new (w1.drew.alloc (.cells (cellsB (List.replicate (64 * n) 0)).toArray 5)) (.cells (cellsB (List.replicate (64 * n) 0)).toArray 5)
    rwa [hs1] at this
  clear hr
  conv => arg 2; whnf
  refine wp_region_but (S := fun _ => True) (n := 7) mixed9 ?_
  refine but_take (i := 0) (v := .int .i64 (n : Int)) rfl (by kernel_rfl) (fun _ _ _ h => h) (.inl ⟨rfl, fun w hS => ?_⟩) trivial ?_
  · go_simp
  simp only [Act.put, List.setIfInBounds_toArray, List.set_cons_zero, List.set_cons_succ]
  refine but_take (i := 1) (v := .int .i64 ((n : Int) * 64)) rfl (by kernel_rfl) (fun _ _ _ h => h) (.inl ⟨rfl, fun w hS => ?_⟩) trivial ?_
  · go_simp
    rw [IntKind.wrap_i64]
    omega
  simp only [Act.put, List.setIfInBounds_toArray, List.set_cons_zero, List.set_cons_succ]
  refine but_take (i := 3) (v := .int .i64 (n : Int)) rfl (by kernel_rfl) (fun _ _ _ h => h) (.inl ⟨rfl, fun w hS => ?_⟩) trivial ?_
  · go_simp
  simp only [Act.put, List.setIfInBounds_toArray, List.set_cons_zero, List.set_cons_succ]
  refine but_take (i := 4) (v := .int .i64 ((n : Int) * 64)) rfl (by kernel_rfl) (fun _ _ _ h => h) (.inl ⟨rfl, fun w hS => ?_⟩) trivial ?_
  · go_simp
    rw [IntKind.wrap_i64]
    omega
  simp only [Act.put, List.setIfInBounds_toArray, List.set_cons_zero, List.set_cons_succ]
  refine but_two (i := 2) (j := 5) (by kernel_rfl) rfl rfl rfl rfl ?_ ?_
  · intro K hK
    refine wp_of_run (v := .slice (some ⟨w1.heap.size, 0, none⟩) (64 * n) (64 * n)) (w' := w1.drew.alloc (.cells (cellsB (List.replicate (64 * n) 0)).toArray 5)) ?_ ?_
    · have e := makeB (64 * n) (by omega) w1.drew
      rw [show ((64 * n : Nat) : Int) = (n : Int) * 64 by omega] at e
      simp [execOp, Act.eval]
      rw [e]
      simp
    refine hK.out _ _ (fun _ => trivial) ?_
    clear hK
    simp only [Act.put, List.setIfInBounds_toArray, List.set_cons_zero, List.set_cons_succ]
    refine but_one (i := 5) (by kernel_rfl) rfl rfl ?_
    intro K hK
    refine wp_of_run (v := .slice (some ⟨(w1.heap.size + 1), 0, none⟩) (64 * n) (64 * n)) (w' := (w1.drew.alloc (.cells (cellsB (List.replicate (64 * n) 0)).toArray 5)).alloc (.cells (cellsB (List.replicate (64 * n) 0)).toArray 5)) ?_ ?_
    · have e := makeB (64 * n) (by omega) (w1.drew.alloc (.cells (cellsB (List.replicate (64 * n) 0)).toArray 5))
      rw [show ((64 * n : Nat) : Int) = (n : Int) * 64 by omega] at e
      simp [execOp, Act.eval]
      rw [e]
      simp
    refine hK.out _ _ (fun _ => trivial) ?_
    clear hK
    simp only [Act.put, List.setIfInBounds_toArray, List.set_cons_zero, List.set_cons_succ]
    refine but_take (i := 6) (v := .agg #[.slice (some ⟨w1.heap.size, 0, none⟩) (64 * n) (64 * n), .slice (some ⟨(w1.heap.size + 1), 0, none⟩) (64 * n) (64 * n), .slice none 0 0, .bool false, .int .i64 0, .bool false]) rfl (by kernel_rfl) (fun _ _ _ h => h) (.inl ⟨rfl, fun w hS => ?_⟩) trivial ?_
    · go_simp
    simp only [Act.put, List.setIfInBounds_toArray, List.set_cons_zero, List.set_cons_succ]
    refine but_one (i := 7) (by kernel_rfl) rfl rfl ?_
    intro K hK
    refine wp_of_skip (w' := ((w1.drew.alloc (.cells (cellsB (List.replicate (64 * n) 0)).toArray 5)).alloc (.cells (cellsB (List.replicate (64 * n) 0)).toArray 5)).setRow r #[.slice (some ⟨w1.heap.size, 0, none⟩) (64 * n) (64 * n), .slice (some ⟨(w1.heap.size + 1), 0, none⟩) (64 * n) (64 * n), .slice none 0 0, .bool false, .int .i64 0, .bool false]) ?_ ?_
    · have e := run_storeVar_row (P := Try.prog) ((w1.drew.alloc (.cells (cellsB (List.replicate (64 * n) 0)).toArray 5)).alloc (.cells (cellsB (List.replicate (64 * n) 0)).toArray 5)) r 58 58 _ #[.slice (some ⟨w1.heap.size, 0, none⟩) (64 * n) (64 * n), .slice (some ⟨(w1.heap.size + 1), 0, none⟩) (64 * n) (64 * n), .slice none 0 0, .bool false, .int .i64 0, .bool false] HR.out (by kernel_rfl) rfl (by simp [Value.oneCell'])
      simp [execOp, Act.eval, Instr.storeAt, Instr.sureAddr]
      rw [e]
      simp
    refine hK.out _ _ (fun h => absurd rfl h) ?_
    clear hK
    simp only [Act.put]
    refine AnyBut.done (by kernel_rfl) ?_ _
    refine NoPanic.normal ?_
    refine hQ.out _ _ _ _ _ _ _ _ ?_
    refine ⟨w1.heap.size, (w1.heap.size + 1), by omega, by omega, by omega, ?_, ?_, ?_, ?_⟩
    · rw [setRow_other _ _ _ _ (by omega)]
      exact HN0.out
    · rw [setRow_other _ _ _ _ (by omega)]
      exact HN1.out
    · exact setRow_heap _ _ _ _ _ _ HR.out
    · exact ⟨rfl, rfl, rfl, by simp [World.setRow]; omega, fun j hj hjr => by rw [setRow_other _ _ _ _ hjr]; exact HO.out j hj⟩
  · intro K hK
    refine wp_of_run (v := .slice (some ⟨w1.heap.size, 0, none⟩) (64 * n) (64 * n)) (w' := w1.drew.alloc (.cells (cellsB (List.replicate (64 * n) 0)).toArray 5)) ?_ ?_
    · have e := makeB (64 * n) (by omega) w1.drew
      rw [show ((64 * n : Nat) : Int) = (n : Int) * 64 by omega] at e
      simp [execOp, Act.eval]
      rw [e]
      simp
    refine hK.out _ _ (fun _ => trivial) ?_
    clear hK
    simp only [Act.put, List.setIfInBounds_toArray, List.set_cons_zero, List.set_cons_succ]
    refine but_one (i := 2) (by kernel_rfl) rfl rfl ?_
    intro K hK
    refine wp_of_run (v := .slice (some ⟨(w1.heap.size + 1), 0, none⟩) (64 * n) (64 * n)) (w' := (w1.drew.alloc (.cells (cellsB (List.replicate (64 * n) 0)).toArray 5)).alloc (.cells (cellsB (List.replicate (64 * n) 0)).toArray 5)) ?_ ?_
    · have e := makeB (64 * n) (by omega) (w1.drew.alloc (.cells (cellsB (List.replicate (64 * n) 0)).toArray 5))
      rw [show ((64 * n : Nat) : Int) = (n : Int) * 64 by omega] at e
      simp [execOp, Act.eval]
      rw [e]
      simp
    refine hK.out _ _ (fun _ => trivial) ?_
    clear hK
    simp only [Act.put, List.setIfInBounds_toArray, List.set_cons_zero, List.set_cons_succ]
    refine but_take (i := 6) (v := .agg #[.slice (some ⟨(w1.heap.size + 1), 0, none⟩) (64 * n) (64 * n), .slice (some ⟨w1.heap.size, 0, none⟩) (64 * n) (64 * n), .slice none 0 0, .bool false, .int .i64 0, .bool false]) rfl (by kernel_rfl) (fun _ _ _ h => h) (.inl ⟨rfl, fun w hS => ?_⟩) trivial ?_
    · go_simp
    simp only [Act.put, List.setIfInBounds_toArray, List.set_cons_zero, List.set_cons_succ]
    refine but_one (i := 7) (by kernel_rfl) rfl rfl ?_
    intro K hK
    refine wp_of_skip (w' := ((w1.drew.alloc (.cells (cellsB (List.replicate (64 * n) 0)).toArray 5)).alloc (.cells (cellsB (List.replicate (64 * n) 0)).toArray 5)).setRow r #[.slice (some ⟨(w1.heap.size + 1), 0, none⟩) (64 * n) (64 * n), .slice (some ⟨w1.heap.size, 0, none⟩) (64 * n) (64 * n), .slice none 0 0, .bool false, .int .i64 0, .bool false]) ?_ ?_
    · have e := run_storeVar_row (P := Try.prog) ((w1.drew.alloc (.cells (cellsB (List.replicate (64 * n) 0)).toArray 5)).alloc (.cells (cellsB (List.replicate (64 * n) 0)).toArray 5)) r 58 58 _ #[.slice (some ⟨(w1.heap.size + 1), 0, none⟩) (64 * n) (64 * n), .slice (some ⟨w1.heap.size, 0, none⟩) (64 * n) (64 * n), .slice none 0 0, .bool false, .int .i64 0, .bool false] HR.out (by kernel_rfl) rfl (by simp [Value.oneCell'])
      simp [execOp, Act.eval, Instr.storeAt, Instr.sureAddr]
      rw [e]
      simp
    refine hK.out _ _ (fun h => absurd rfl h) ?_
    clear hK
    simp only [Act.put]
    refine AnyBut.done (by kernel_rfl) ?_ _
    refine NoPanic.normal ?_
    refine hQ.out _ _ _ _ _ _ _ _ ?_
    refine ⟨(w1.heap.size + 1), w1.heap.size, by omega, by omega, by omega, ?_, ?_, ?_, ?_⟩
    · rw [setRow_other _ _ _ _ (by omega)]
      exact HN1.out
    · rw [setRow_other _ _ _ _ (by omega)]
      exact HN0.out
    · exact setRow_heap _ _ _ _ _ _ HR.out
    · exact ⟨rfl, rfl, rfl, by simp [World.setRow]; omega, fun j hj hjr => by rw [setRow_other _ _ _ _ hjr]; exact HO.out j hj⟩
/-- behind blank -/
def BlPost (n : Nat) (w w' : World) (e : Ending) : Prop := ∃ s k, e = .returned (.agg (boxD s k (64 * n) (.slice none 0 0) (zeroD n))) ∧ w.heap.size ≤ s ∧ w.heap.size ≤ k ∧ s ≠ k ∧ w'.heap[s]? = some (.cells (cellsB (List.replicate (64 * n) 0)).toArray 5 (0, 0)) ∧ w'.heap[k]? = some (.cells (cellsB (List.replicate (64 * n) 0)).toArray 5 (0, 0)) ∧ Below w.heap.size w w'
set_option maxHeartbeats 2000000 in
theorem blank_any (n : Nat) (hn : (n : Int) ≤ 8192) (w : World) : Calls Try.prog 19 #[.int .i64 (n : Int)] w fun e w' => BlPost n w w' e := by
  go_enter Try.func19, Try.ntmps19
  go_upto_region 1 with fail
  have hr := heap_alloc_new w (.cells #[.slice none 0 0, .slice none 0 0, .slice none 0 0, .bool false, .int .i64 0, .bool false] 58)
  have hb := below_alloc w (.cells #[.slice none 0 0, .slice none 0 0, .slice none 0 0, .bool false, .int .i64 0, .bool false] 58)
  have hs := size_alloc w (.cells #[.slice none 0 0, .slice none 0 0, .slice none 0 0, .bool false, .int .i64 0, .bool false] 58)
  generalize w.alloc (.cells #[.slice none 0 0, .slice none 0 0, .slice none 0 0, .bool false, .int .i64 0, .bool false] 58) = w1 at *
  refine blank_put _ _ _ _ _ _ _ _ n w.heap.size w1 _ hn hr (fun u3 u4 u5 u6 u7 u8 u9 wC hC => ?_)
  obtain ⟨s, k, h1, h2, h3, h4, h5, h6, h7, h8, h9, h10, h11⟩ := hC
  have HP : Hid (BlPost n w wC (.returned (.agg (boxD s k (64 * n) (.slice none 0 0) (zeroD n))))) := ⟨s, k, rfl, by omega, by omega, h3, h4, h5, hb.trans ⟨h7, h8, h9, h10, fun j hj => h11 j (by omega) (by omega)⟩⟩
  have HG : Hid (wC.heap[w.heap.size]? = some (.cells (boxD s k (64 * n) (.slice none 0 0) (zeroD n)) 58 (0, 0))) := h6
  clear h1 h2 h3 h4 h5 h6 h7 h8 h9 h10 h11 hr hb hs
  first | go_wp2 | skip
  refine bodyPost_ret (results_cell_row rfl _ _ w.heap.size 58 _ (0, 0) _ rfl HG.out Try.underlying58 rfl (by kernel_rfl)) rfl ?_
  exact HP.out
theorem infoD : (Try.prog.info? 58).map (·.size) = some 6 := by kernel_rfl
theorem wpList_storeD {w : World} {ops : Array Oper} {rest : List Oper} {o : Oper} {a : Act} {Q : Exit → Act → World → Prop} (hgd : o.guard = none) (p x : Operand) (ho : o.op = .store 58 p x)
    (g : Nat) (hp : a.eval p = .pointer (some ⟨g, 0, none⟩)) (cs old : Array Value) (hx : a.eval x = .agg cs) (hg : w.heap[g]? = some (.cells old 58 (0, 0))) (hi : cs.size = 6) (ho' : old.size = 6) (h1 : (cs.all fun x => x.oneCell') = true)
    (h : ∀ w', Hid (Chg g cs 58 w w') → wpList Try.prog ops Q rest (a.put o.dst undef) w') : wpList Try.prog ops Q (o :: rest) a w :=
  wpList_store_agg hgd p x 58 58 ho g hp cs old hx hg (by rw [hi]; exact infoD) (by omega) h1 (h _ (chg_setRow hg cs))
theorem box_one (s k L : Nat) (D : Dm) : ((boxD s k L (.slice none 0 0) D).all fun x => x.oneCell') = true := by simp [boxD, Value.oneCell']
/-- behind New -/
def NewPost (n : Nat) (w w' : World) (e : Ending) : Prop := ∃ a s k, e = .returned (.tuple #[.pointer (some ⟨a, 0, none⟩), .int .i64 0]) ∧ DmAt w.heap.size a s k n (zeroD n) (.slice none 0 0) w' ∧ Below w.heap.size w w'
set_option maxHeartbeats 2000000 in
theorem new_any (n : Nat) (h8 : 8 ≤ (n : Int)) (hn : (n : Int) ≤ 8192) (he : (n : Int).tmod 2 = 0) (w : World) : Calls Try.prog 5 #[.int .i64 (n : Int)] w fun e w' => NewPost n w w' e := by
  have HB := blank_any n hn w
  have h81 : ¬ (n : Int) < 8 := by omega
  have h82 : ¬ 8192 < (n : Int) := by omega
  go_enter Try.func5, Try.ntmps5
  go_wp2_with (first | (go_at_call 19; refine HB.mono ?_; rintro e w1 ⟨s, k, rfl, h1, h2, h3, h4, h5, h6⟩; have HF : Hid (w.heap.size ≤ s ∧ w.heap.size ≤ k ∧ s ≠ k ∧ w1.heap[s]? = some (.cells (cellsB (List.replicate (64 * n) 0)).toArray 5 (0, 0)) ∧ w1.heap[k]? = some (.cells (cellsB (List.replicate (64 * n) 0)).toArray 5 (0, 0)) ∧ Below w.heap.size w w1) := ⟨h1, h2, h3, h4, h5, h6⟩; clear h1 h2 h3 h4 h5 h6 HB) | (refine wpList_storeD rfl (.tmp 4) (.tmp 17) rfl w1.heap.size rfl (boxD s k (64 * n) (.slice none 0 0) (zeroD n)) #[.slice none 0 0, .slice none 0 0, .slice none 0 0, .bool false, .int .i64 0, .bool false] rfl (heap_alloc_new w1 _) rfl rfl (box_one s k (64 * n) (zeroD n)) ?_; intro w3 hw3))
  go_ret2
  obtain ⟨h1, h2, h3, h4, h5, h6⟩ := HF.out
  have hls := (Array.getElem?_eq_some_iff.1 h4).1
  have hlk := (Array.getElem?_eq_some_iff.1 h5).1
  have hb2 := below_alloc w1 (.cells #[.slice none 0 0, .slice none 0 0, .slice none 0 0, .bool false, .int .i64 0, .bool false] 58)
  have hz := h6.size
  refine ⟨w1.heap.size, s, k, rfl, ⟨⟨by omega, by simp [zeroD], by simp [zeroD], by simp [zeroD], by simp [zeroD], by simp [zeroD]⟩, hz, h1, h2, h3, hw3.out.at_, ?_, ?_, World.ownsRow_nil _ _ _ _⟩, ?_⟩
  · exact (hw3.out.ne s (by omega)).trans ((hb2.block s hls).trans h4)
  · exact (hw3.out.ne k (by omega)).trans ((hb2.block k hlk).trans h5)
  · exact (h6.trans (below_low hb2 hz)).trans (hw3.out.below hz)
set_option maxHeartbeats 2000000 in
theorem new_bad (x : Int) (h : x < 8 ∨ 8192 < x ∨ x % 2 ≠ 0) (w : World) : Calls Try.prog 5 #[.int .i64 x] w fun e w' => e = .returned (.tuple #[.pointer none, .int .i64 1]) ∧ w' = w := by
  by_cases h1 : x < 8
  · go_enter Try.func5, Try.ntmps5
    go_wp2
    go_ret2
    exact ⟨rfl, rfl⟩
  · by_cases h2 : 8192 < x
    · go_enter Try.func5, Try.ntmps5
      go_wp2
      go_ret2
      exact ⟨rfl, rfl⟩
    · have h3 : (x % 2 != 0) = true := by
        have : x % 2 ≠ 0 := by omega
        simpa using this
      go_enter Try.func5, Try.ntmps5
      go_wp2
      go_ret2
      exact ⟨rfl, rfl⟩
end Go.Proofs.Ytmkmogkhkmlnkaa.Dm
