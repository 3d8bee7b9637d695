/-
  Laws for blocks of many cells; the drum, plainly and in memory; its small methods.
-/
import Derived.Test.YtjmlklikmcaalaaRows
import Derived.WalkKit
import Derived.WalkSpells
import Derived.ProofKit
import Derived.OpenShut
import Derived.Below
import Derived.Laws.CopyOwn
import Derived.Laws.AppendOwn
import Derived.Laws.OwnMore
import Derived.Laws.Rows
import Derived.Laws.Tables
import Derived.OwnWalk
import Derived.Deep.RegionLaw
import Derived.StillTail
import Derived.Lib.AppendStr
namespace Go.Proofs.Ytjmlklikmcaalaa.Dm
open Go.ChangeShapes Go.WideShapes Go.ChangeAt Go.RowKit
theorem ret_int {k : IntKind} {a b : Int} (h : a = b) : Ending.returned (.int k a) = .returned (.int k b) := by rw [h]
theorem ret_bool {a b : Bool} (h : a = b) : Ending.returned (.bool a) = .returned (.bool b) := by rw [h]
theorem addr_add (b off i : Nat) : (⟨b, off, none⟩ : Addr).add i = ⟨b, off + i, none⟩ := by
  by_cases h : i = 0
  · subst h; simp [Addr.add]
  · simp [Addr.add, h]
/-- a value of many cells is loaded -/
theorem wpList_load_agg {P : Program} {w : World} {ops : Array Oper} {rest : List Oper} {o : Oper} {a : Act} {Q : Exit → Act → World → Prop} (hgd : o.guard = none) (p : Operand) (ty : TypeId) (ho : o.op = .load ty p)
    (b off : Nat) (hp : a.eval p = .pointer (some ⟨b, off, none⟩)) (hA : ∀ w, (isAgg ty).run P w = .ok true w) (cs : List Value) (hz : ∀ w, (sizeOf ty).run P w = .ok cs.length w)
    (hc : ∀ j v, cs[j]? = some v → w.cell? ((⟨b, off, none⟩ : Addr).add j) = some v) (h : wpList P ops Q rest (a.put o.dst (.agg cs.toArray)) w) : wpList P ops Q (o :: rest) a w := by
  refine wpList_plain hgd fun K hK => ?_
  have hl := run_loadCells_list (P := P) w _ cs hc
  unfold Oper.wp
  simp [execOp, ho, hp, Instr.loadAt, Instr.sureAddr, loadVar, hA, hz, hl, Result.andThen]
  exact hK _ _ h
/-- a value of many cells is stored into a block of its own -/
theorem wpList_store_agg {P : Program} {w : World} {ops : Array Oper} {rest : List Oper} {o : Oper} {a : Act} {Q : Exit → Act → World → Prop} (hgd : o.guard = none) (p x : Operand) (ty t : TypeId) (ho : o.op = .store ty p x)
    (g : Nat) (hp : a.eval p = .pointer (some ⟨g, 0, none⟩)) (cs old : Array Value) (hx : a.eval x = .agg cs) (hg : w.heap[g]? = some (.cells old t)) (hi : (P.info? ty).map (·.size) = some cs.size) (ho' : old.size = cs.size) (h1 : (cs.all fun x => x.oneCell') = true)
    (h : wpList P ops Q rest (a.put o.dst undef) (w.setRow g cs)) : wpList P ops Q (o :: rest) a w := by
  refine wpList_plain hgd fun K hK => ?_
  have hl := run_storeVar_row (P := P) w g t ty old cs hg hi ho' h1
  unfold Oper.wp
  simp [execOp, ho, hp, hx, Instr.storeAt, Instr.sureAddr, hl, Result.andThen]
  exact hK _ _ h
theorem cell_of_heap {w : World} {b : Nat} {cs : Array Value} {T : TypeId} {fr : Nat × Nat} (hb : w.heap[b]? = some (.cells cs T fr)) (j : Nat) : w.cell? ⟨b, j, none⟩ = cs[j]? := by simp [World.cell?, hb]
theorem frozen_of_heap {w : World} {b : Nat} {cs : Array Value} {T : TypeId} (hb : w.heap[b]? = some (.cells cs T (0, 0))) (j : Nat) : w.frozen? ⟨b, j, none⟩ = false := by simp [World.frozen?, hb]
/-- bytes as cells -/
def cellsB (l : List UInt8) : List Value := l.map fun b : UInt8 => Value.int .u8 (b.toNat : Int)
theorem cellsB_length (l : List UInt8) : (cellsB l).length = l.length := by simp [cellsB]
theorem cellsB_append (l m : List UInt8) : cellsB (l ++ m) = cellsB l ++ cellsB m := by simp [cellsB]
theorem cellsB_get (l : List UInt8) (i : Nat) (h : i < l.length) : (cellsB l)[i]? = some (.int .u8 ((l.getD i 0).toNat : Int)) := by simp [cellsB, h]
theorem cellsB_drop (l : List UInt8) (k : Nat) : (cellsB l).drop k = cellsB (l.drop k) := by simp [cellsB, List.map_drop]
theorem cellsB_take (l : List UInt8) (k : Nat) : (cellsB l).take k = cellsB (l.take k) := by simp [cellsB, List.map_take]
theorem cellsB_splice (L : List UInt8) (o : Nat) (c : List UInt8) : splice (cellsB L) o (cellsB c) = cellsB (splice L o c) := by simp [splice, cellsB, List.map_take, List.map_drop]
theorem cellsB_one (l : List UInt8) : ∀ v ∈ cellsB l, v.oneCell' = true := by
  intro v hv
  obtain ⟨b, -, rfl⟩ := List.mem_map.1 hv
  rfl
/-- a slice whose cells, up to its length, are these bytes -/
def BytesAt (w : World) (b off : Nat) (l : List UInt8) : Prop := ∀ j v, (cellsB l)[j]? = some v → w.cell? ((⟨b, off, none⟩ : Addr).add j) = some v
/-- the drum, plainly -/
structure Dm where
  seen : List UInt8
  kept : List UInt8
  pend : List (Nat × List UInt8)
  armed : Bool
  left : Int
  gone : Bool
def cellsW (l : List (Nat × List UInt8)) : List Value := l.flatMap fun x => .int .i64 (x.1 : Int) :: cellsB x.2
theorem cellsW_snoc (l : List (Nat × List UInt8)) (x : Nat × List UInt8) : cellsW (l ++ [x]) = cellsW l ++ (.int .i64 (x.1 : Int) :: cellsB x.2) := by simp [cellsW]
/-- a drum of so many sectors that stands -/
structure Ok (n : Nat) (D : Dm) : Prop where
  n1 : n ≤ 8192
  seen : D.seen.length = 64 * n
  kept : D.kept.length = 64 * n
  pend : ∀ x ∈ D.pend, x.1 < n ∧ x.2.length = 64
  left0 : 0 ≤ D.left
  left1 : D.left ≤ 9223372036854775807
def boxD (s k L : Nat) (pv : Value) (D : Dm) : Array Value := #[.slice (some ⟨s, 0, none⟩) L L, .slice (some ⟨k, 0, none⟩) L L, pv, .bool D.armed, .int .i64 D.left, .bool D.gone]
/-- the drum in block a, what is seen in s, what is kept in k -/
structure DmAt (B a s k n : Nat) (D : Dm) (pv : Value) (w : World) : Prop where
  ok : Ok n D
  ba : B ≤ a
  bs : B ≤ s
  bk : B ≤ k
  sk : s ≠ k
  box : w.heap[a]? = some (.cells (boxD s k (64 * n) pv D) 43 (0, 0))
  hseen : w.heap[s]? = some (.cells (cellsB D.seen).toArray 5 (0, 0))
  hkept : w.heap[k]? = some (.cells (cellsB D.kept).toArray 5 (0, 0))
  own : w.ownsRow B 50 65 pv D.pend.length (cellsW D.pend)
theorem DmAt.sa {B a s k n : Nat} {D : Dm} {pv : Value} {w : World} (h : DmAt B a s k n D pv w) : s ≠ a := fun e => by
  have h1 := h.box
  have h2 := h.hseen
  rw [e, h1] at h2
  injection h2 with h2
  injection h2 with _ h2
  exact absurd h2 (by decide)
theorem DmAt.ka {B a s k n : Nat} {D : Dm} {pv : Value} {w : World} (h : DmAt B a s k n D pv w) : k ≠ a := fun e => by
  have h1 := h.box
  have h2 := h.hkept
  rw [e, h1] at h2
  injection h2 with h2
  injection h2 with _ h2
  exact absurd h2 (by decide)
/-- all blocks but the drum's stand -/
def Kd (a s k : Nat) (w w' : World) : Prop := ∀ j o, w.heap[j]? = some o → j ≠ a → j ≠ s → j ≠ k → (∀ c fz, o ≠ .cells c 50 fz) → w'.heap[j]? = some o
theorem Kd.refl (a s k : Nat) (w : World) : Kd a s k w w := fun _ _ h _ _ _ _ => h
theorem Kd.trans {a s k : Nat} {w1 w2 w3 : World} (h : Kd a s k w1 w2) (g : Kd a s k w2 w3) : Kd a s k w1 w3 := fun j o hj h1 h2 h3 h4 => g j o (h j o hj h1 h2 h3 h4) h1 h2 h3 h4
/-- the drum's cells -/
theorem DmAt.c0 {B a s k n : Nat} {D : Dm} {pv : Value} {w : World} (h : DmAt B a s k n D pv w) : w.cell? ⟨a, 0, none⟩ = some (.slice (some ⟨s, 0, none⟩) (64 * n) (64 * n)) := by rw [cell_of_heap h.box]; rfl
theorem DmAt.c1 {B a s k n : Nat} {D : Dm} {pv : Value} {w : World} (h : DmAt B a s k n D pv w) : w.cell? ⟨a, 1, none⟩ = some (.slice (some ⟨k, 0, none⟩) (64 * n) (64 * n)) := by rw [cell_of_heap h.box]; rfl
theorem DmAt.c2 {B a s k n : Nat} {D : Dm} {pv : Value} {w : World} (h : DmAt B a s k n D pv w) : w.cell? ⟨a, 2, none⟩ = some pv := by rw [cell_of_heap h.box]; rfl
theorem DmAt.c3 {B a s k n : Nat} {D : Dm} {pv : Value} {w : World} (h : DmAt B a s k n D pv w) : w.cell? ⟨a, 3, none⟩ = some (.bool D.armed) := by rw [cell_of_heap h.box]; rfl
theorem DmAt.c4 {B a s k n : Nat} {D : Dm} {pv : Value} {w : World} (h : DmAt B a s k n D pv w) : w.cell? ⟨a, 4, none⟩ = some (.int .i64 D.left) := by rw [cell_of_heap h.box]; rfl
theorem DmAt.c5 {B a s k n : Nat} {D : Dm} {pv : Value} {w : World} (h : DmAt B a s k n D pv w) : w.cell? ⟨a, 5, none⟩ = some (.bool D.gone) := by rw [cell_of_heap h.box]; rfl
theorem DmAt.fz {B a s k n : Nat} {D : Dm} {pv : Value} {w : World} (h : DmAt B a s k n D pv w) (j : Nat) : w.frozen? ⟨a, j, none⟩ = false := frozen_of_heap h.box j
/-- how the pending writes' slice looks -/
theorem own_len {w : World} {B e size : Nat} {v : Value} {n : Nat} {xs : List Value} (h : w.ownsRow B e size v n xs) : ∃ p c, v = .slice p n c ∧ n ≤ maxLen := by
  obtain ⟨-, ⟨rfl, rfl⟩ | ⟨g, cap, cur, rfl, -, -, h1, h2, -⟩⟩ := h
  · exact ⟨none, 0, rfl, Nat.zero_le _⟩
  · exact ⟨_, _, rfl, Nat.le_trans h1 h2⟩
set_option maxHeartbeats 1000000 in
theorem sectors_any {B a s k n : Nat} {D : Dm} {pv : Value} (w : World) (h : DmAt B a s k n D pv w) :
    Calls Try.prog 8 #[.pointer (some ⟨a, 0, none⟩)] w fun e w' => e = .returned (.int .i64 (n : Int)) ∧ w' = w := by
  have c0 := h.c0
  have hn := h.ok.n1
  clear h
  go_enter Try.func8, Try.ntmps8
  go_wp2
  go_ret
  exact ⟨ret_int (by omega), rfl⟩
set_option maxHeartbeats 1000000 in
theorem pending_any {B a s k n : Nat} {D : Dm} {pv : Value} (w : World) (h : DmAt B a s k n D pv w) :
    Calls Try.prog 9 #[.pointer (some ⟨a, 0, none⟩)] w fun e w' => e = .returned (.int .i64 (D.pend.length : Int)) ∧ w' = w := by
  have c2 := h.c2
  obtain ⟨p, c, rfl, -⟩ := own_len h.own
  clear h
  go_enter Try.func9, Try.ntmps9
  go_wp2
  go_ret
  exact ⟨rfl, rfl⟩
set_option maxHeartbeats 1000000 in
theorem gone_any {B a s k n : Nat} {D : Dm} {pv : Value} (w : World) (h : DmAt B a s k n D pv w) :
    Calls Try.prog 10 #[.pointer (some ⟨a, 0, none⟩)] w fun e w' => e = .returned (.bool D.gone) ∧ w' = w := by
  have c5 := h.c5
  clear h
  go_enter Try.func10, Try.ntmps10
  go_wp2
  go_ret
  exact ⟨rfl, rfl⟩
set_option maxHeartbeats 1000000 in
theorem has_any {B a s k n : Nat} {D : Dm} {pv : Value} (w : World) (h : DmAt B a s k n D pv w) (at_ m : Int) (hm0 : 0 ≤ m) (hm : m ≤ 9223372036854775807) (ha1 : at_ ≤ 9223372036854775807) (ha0 : -9223372036854775808 ≤ at_) :
    Calls Try.prog 19 #[.pointer (some ⟨a, 0, none⟩), .int .i64 at_, .int .i64 m] w fun e w' => e = .returned (.bool (decide (m = 0 ∨ 0 ≤ at_ ∧ at_ + m ≤ n))) ∧ w' = w := by
  have hn := h.ok.n1
  have HC := sectors_any w h
  clear h
  by_cases h0 : m = 0
  · subst h0
    go_enter Try.func19, Try.ntmps19
    go_wp2
    go_ret
    exact ⟨ret_bool (by simp), rfl⟩
  · by_cases h1 : 0 ≤ at_
    · go_enter Try.func19, Try.ntmps19
      go_wp2_with (go_at_call 8; refine HC.mono ?_; rintro e w1 ⟨rfl, rfl⟩)
      go_ret
      refine ⟨ret_bool ?_, rfl⟩
      rw [Bool.eq_iff_iff]
      simp
      omega
    · go_enter Try.func19, Try.ntmps19
      go_wp2
      go_ret
      refine ⟨ret_bool ?_, rfl⟩
      rw [Bool.eq_iff_iff]
      simp
      omega
end Go.Proofs.Ytjmlklikmcaalaa.Dm
