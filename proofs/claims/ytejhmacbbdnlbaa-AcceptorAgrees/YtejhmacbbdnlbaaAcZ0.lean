/-
  Moves, as they lie in memory.
-/
import Derived.Test.YtejhmacbbdnlbaaAcY4
import Derived.Deep.WholeRow
namespace Go.Proofs.Ytejhmacbbdnlbaa.Ac
open Go.Maps
open Go.ChangeShapes Go.WideShapes Go.ChangeAt Go.RowKit
/-- moves: what is done, by whom, at whom, in which slot -/
def MvAt (w : World) (a : Option Addr) (len cap : Nat) (ls : List (Int × Int × Int × Int)) : Prop :=
  ls.length = len ∧ len ≤ cap ∧ cap ≤ maxLen ∧ (len = 0 ∨ ∃ b off, a = some ⟨b, off, none⟩ ∧ ∀ i, i < len → w.cell? ⟨b, off + i * 4, none⟩ = some (.int .i64 (ls.getD i (0, 0, 0, 0)).1) ∧ w.cell? ⟨b, off + i * 4 + 1, none⟩ = some (.int .i64 (ls.getD i (0, 0, 0, 0)).2.1) ∧ w.cell? ⟨b, off + i * 4 + 2, none⟩ = some (.int .i64 (ls.getD i (0, 0, 0, 0)).2.2.1) ∧ w.cell? ⟨b, off + i * 4 + 3, none⟩ = some (.int .i64 (ls.getD i (0, 0, 0, 0)).2.2.2))
theorem move_read {w w' : World} {a : Option Addr} {len cap : Nat} {ls : List (Int × Int × Int × Int)} (h : MvAt w a len cap ls) (hb : Below w.heap.size w w') {i : Nat} (hi : i < len) : ∃ b off, a = some ⟨b, off, none⟩ ∧ ∃ d who to sl : Int, w'.cell? ⟨b, off + i * 4, none⟩ = some (.int .i64 d) ∧ w'.cell? ⟨b, off + i * 4 + 1, none⟩ = some (.int .i64 who) ∧ w'.cell? ⟨b, off + i * 4 + 2, none⟩ = some (.int .i64 to) ∧ w'.cell? ⟨b, off + i * 4 + 3, none⟩ = some (.int .i64 sl) := by
  rcases h.2.2.2 with h0 | ⟨b, off, e, hc⟩
  · omega
  · obtain ⟨h1, h2, h3, h4⟩ := hc i hi
    have k : ∀ j v, w.cell? ⟨b, j, none⟩ = some v → w'.cell? ⟨b, j, none⟩ = some v := fun j v hv => (hb.cell (p := ⟨b, j, none⟩) (World.block_lt_of_cell? w ⟨b, j, none⟩ hv)).trans hv
    exact ⟨b, off, e, _, _, _, _, k _ _ h1, k _ _ h2, k _ _ h3, k _ _ h4⟩
theorem infoAc : (Try.prog.info? 24).map (fun i => (i.zero, i.size, i.bytes)) = some (some (.agg #[.int .i64 0, .slice none 0 0]), 2, 32) := by kernel_rfl
def zG (i : Nat) : Value := if i % 2 = 0 then .int .i64 0 else .slice none 0 0
theorem makeG (k : Nat) (hk : (k : Int) ≤ 5) (w : World) : (Instr.makeSlice 43 (.int .i64 (k : Int)) (.int .i64 (k : Int))).run Try.prog w = .ok (.slice (some ⟨w.heap.size, 0, none⟩) k k) (w.alloc (.cells (madeCells #[.int .i64 0, .slice none 0 0] (k * 2)) 24)) := by
  obtain ⟨i0, hi, hz0, hz1, hz2⟩ := info_parts infoAc
  have e := run_make (P := Try.prog) w 43 24 i0 (.agg #[.int .i64 0, .slice none 0 0]) Try.underlying43 hi hz0 .i64 .i64 k k (by omega) (by omega) (by rw [hz2]; omega) (by omega)
  rw [e, hz1]
  rfl
def a96 : Array Value := (List.replicate 12 cel0.vs).flatten.toArray
def a32 : Array Value := (List.replicate 4 cel0.vs).flatten.toArray
theorem size96 : a96.size = 96 := by decide
theorem size32 : a32.size = 32 := by decide
theorem info51 : (Try.prog.info? 51).map (fun i => (i.zero, i.size, i.bytes)) = some (some (.agg a96), 96, 960) := by kernel_rfl
theorem info50 : (Try.prog.info? 50).map (fun i => (i.zero, i.size, i.bytes)) = some (some (.agg a32), 32, 320) := by kernel_rfl
theorem zero_of {T : Nat} {z : Value} {s b : Nat} (h : (Try.prog.info? T).map (fun i => (i.zero, i.size, i.bytes)) = some (some z, s, b)) (w : World) : (zeroValue T).run Try.prog w = .ok z w := by
  obtain ⟨i, hi, hz, _⟩ := info_parts h
  simp [zeroValue, typeInfo, hi, hz]
theorem rowG (k : Nat) (w : World) : RowF (w.alloc (.cells (madeCells #[.int .i64 0, .slice none 0 0] (k * 2)) 24)) 24 w.heap.size (k * 2) zG := by
  refine ⟨_, heap_alloc_new w _, size_madeCells _ _, fun i hi => ?_⟩
  unfold madeCells zG
  simp only [Array.getElem?_map, Array.getElem?_range, hi]
  rcases Nat.mod_two_eq_zero_or_one i with h | h
  · simp [h]
  · simp [h]
theorem RowF.new (w : World) (E : Nat) (cur : Array Value) : RowF (w.alloc (.cells cur E)) E w.heap.size cur.size (fun i => cur.getD i undef) := ⟨cur, heap_alloc_new w _, rfl, fun i hi => by simp [Array.getD, hi]⟩
theorem store51 (W : World) : (storeCells ⟨W.heap.size, 0, none⟩ a96.toList).run Try.prog (W.alloc (.cells a96 51)) = .ok () (W.alloc (.cells a96 51)) := run_storeCells_new W 51 a96 a96 (by obtain ⟨i, hi, _, hs, _⟩ := info_parts info51; rw [hi]; simp [hs, size96]) rfl (by kernel_rfl)
theorem store50 (W : World) : (storeCells ⟨W.heap.size, 0, none⟩ a32.toList).run Try.prog (W.alloc (.cells a32 50)) = .ok () (W.alloc (.cells a32 50)) := run_storeCells_new W 50 a32 a32 (by obtain ⟨i, hi, _, hs, _⟩ := info_parts info50; rw [hi]; simp [hs, size32]) rfl (by kernel_rfl)
def s15 : Array Value := #[.slice none 0 0, .slice none 0 0, .slice none 0 0, .slice none 0 0, .slice none 0 0, .slice none 0 0, .slice none 0 0, .slice none 0 0, .slice none 0 0, .slice none 0 0, .slice none 0 0, .slice none 0 0, .slice none 0 0, .slice none 0 0, .slice none 0 0]
def f15 : Array Value := #[.bool false, .bool false, .bool false, .bool false, .bool false, .bool false, .bool false, .bool false, .bool false, .bool false, .bool false, .bool false, .bool false, .bool false, .bool false]
theorem one_zero {w : World} {N o : Nat} {f : Nat → Value} (h : ∀ i, i < 8 → f (o + i) = cel0.vs.getD i undef) : OneAt w N f o acd0 := ⟨cel0, rfl, h, own_nothing w N 3 1⟩
theorem a96_at {o i : Nat} (ho : o < 12) (hi : i < 8) : a96.getD (o * 8 + i) undef = cel0.vs.getD i undef := by
  have h1 : o = 0 ∨ o = 1 ∨ o = 2 ∨ o = 3 ∨ o = 4 ∨ o = 5 ∨ o = 6 ∨ o = 7 ∨ o = 8 ∨ o = 9 ∨ o = 10 ∨ o = 11 := by omega
  have h2 : i = 0 ∨ i = 1 ∨ i = 2 ∨ i = 3 ∨ i = 4 ∨ i = 5 ∨ i = 6 ∨ i = 7 := by omega
  rcases h1 with rfl | rfl | rfl | rfl | rfl | rfl | rfl | rfl | rfl | rfl | rfl | rfl <;> rcases h2 with rfl | rfl | rfl | rfl | rfl | rfl | rfl | rfl <;> rfl
theorem a32_at {o i : Nat} (ho : o < 4) (hi : i < 8) : a32.getD (o * 8 + i) undef = cel0.vs.getD i undef := by
  have h1 : o = 0 ∨ o = 1 ∨ o = 2 ∨ o = 3 := by omega
  have h2 : i = 0 ∨ i = 1 ∨ i = 2 ∨ i = 3 ∨ i = 4 ∨ i = 5 ∨ i = 6 ∨ i = 7 := by omega
  rcases h1 with rfl | rfl | rfl | rfl <;> rcases h2 with rfl | rfl | rfl | rfl | rfl | rfl | rfl | rfl <;> rfl
theorem s15_at {i : Nat} (hi : i < 15) : s15.getD i undef = .slice none 0 0 := by
  have h1 : i = 0 ∨ i = 1 ∨ i = 2 ∨ i = 3 ∨ i = 4 ∨ i = 5 ∨ i = 6 ∨ i = 7 ∨ i = 8 ∨ i = 9 ∨ i = 10 ∨ i = 11 ∨ i = 12 ∨ i = 13 ∨ i = 14 := by omega
  rcases h1 with rfl | rfl | rfl | rfl | rfl | rfl | rfl | rfl | rfl | rfl | rfl | rfl | rfl | rfl | rfl <;> rfl
theorem f15_at {i : Nat} (hi : i < 15) : f15.getD i undef = .bool false := by
  have h1 : i = 0 ∨ i = 1 ∨ i = 2 ∨ i = 3 ∨ i = 4 ∨ i = 5 ∨ i = 6 ∨ i = 7 ∨ i = 8 ∨ i = 9 ∨ i = 10 ∨ i = 11 ∨ i = 12 ∨ i = 13 ∨ i = 14 := by omega
  rcases h1 with rfl | rfl | rfl | rfl | rfl | rfl | rfl | rfl | rfl | rfl | rfl | rfl | rfl | rfl | rfl <;> rfl
/-- where all begins -/
def sy0 : Sy := ⟨fun _ => 0, fun _ => [], fun p => (p : Int) + 1, fun _ _ => [], fun _ _ => false, fun _ _ => acd0, fun _ _ => 0, fun _ => acd0⟩
theorem cnt_none : ∀ k, cnt k (fun _ => false) = 0
  | 0 => rfl
  | k + 1 => by
    unfold cnt
    rw [cnt_none k]
    rfl
theorem inv0 (k : Nat) : Inv k sy0 (fun _ _ _ => false) (fun _ _ => none) where
  ok _ _ := (by decide : okA 0 [] = true)
  bal p _ := ⟨0, by show (p : Int) + 1 = _; omega⟩
  vote1 _ _ _ _ h := by cases h
  vote2 _ _ _ h := absurd rfl h
  prom _ _ _ _ h := by cases h
  val _ _ _ h := by cases h
  safe _ _ _ h := by cases h
  av _ _ _ _ h := by cases h
  mine _ _ _ _ := ⟨fun _ => rfl, fun h => absurd rfl h⟩
  votes _ _ := (cnt_none k).symm
  chosen _ _ h := absurd rfl h
theorem grp0 (k : Nat) (w : World) (N : Nat) : GrpAt (w.alloc (.cells (madeCells #[.int .i64 0, .slice none 0 0] (k * 2)) 24)) N k w.heap.size (fun _ => 0) (fun _ => []) := by
  refine ⟨zG, rowG k w, fun q _ => ⟨?_, ?_⟩⟩
  · unfold zG
    rw [if_pos (by omega)]
  · unfold zG
    rw [if_neg (by omega)]
    exact OwnA.nil _ _
theorem bal0 (w : World) : BalAt (w.alloc (.cells #[.int .i64 1, .int .i64 2, .int .i64 3] 25)) w.heap.size (fun p => (p : Int) + 1) := by
  refine ⟨_, RowF.new w 25 _, fun p hp => ?_⟩
  have h1 : p = 0 ∨ p = 1 ∨ p = 2 := by omega
  rcases h1 with rfl | rfl | rfl <;> rfl
theorem tol0 (w : World) (N : Nat) : TolAt (w.alloc (.cells s15 45)) N w.heap.size (fun _ _ => []) := by
  refine ⟨_, RowF.new w 45 s15, fun p hp q hq => ?_⟩
  show OwnA _ _ (s15.getD (p * 5 + q) undef) []
  rw [s15_at (by omega)]
  exact OwnA.nil _ _
theorem yes0 (w : World) : YesAt (w.alloc (.cells f15 47)) w.heap.size (fun _ _ => false) := ⟨_, RowF.new w 47 f15, fun p hp q hq => f15_at (by omega)⟩
theorem mine0 (w : World) (N : Nat) : MinAt (w.alloc (.cells a96 51)) N w.heap.size (fun _ _ => acd0) := by
  have h := RowF.new w 51 a96
  rw [size96] at h
  refine ⟨_, h, fun p hp s hs => one_zero fun i hi => ?_⟩
  have := a96_at (o := p * 4 + s) (by omega) hi
  rw [show (p * 4 + s) * 8 = p * 32 + s * 8 by omega] at this
  exact this
theorem cho0 (w : World) (N : Nat) : ChoAt (w.alloc (.cells a32 50)) N w.heap.size (fun _ => acd0) := by
  have h := RowF.new w 50 a32
  rw [size32] at h
  exact ⟨_, h, fun s hs => one_zero fun i hi => a32_at hs hi⟩
theorem vot0 (w : World) : VotAt (w.alloc (.map #[] 0)) w.heap.size 0 (fun _ _ => 0) := ⟨0, .map [], Nat.le_refl _, World.ownsMap_made w _ _ _, fun _ _ _ _ => rfl⟩
end Go.Proofs.Ytejhmacbbdnlbaa.Ac
