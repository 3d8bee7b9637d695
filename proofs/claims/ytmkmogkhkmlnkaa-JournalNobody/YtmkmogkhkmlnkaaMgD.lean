/-
  Laws for blocks of many cells; the drum, plainly and in memory; its small methods.
  What a change leaves of a drum; sector, spend, Arm.
  A region that draws its order, whose last operation waits for all others: loads may be taken first though that last one writes their cell.
  A region that draws, by hand; the region of writeOne in which one more write is pending.
  Laws at an operation; writeOne: one sector is written.
-/
import Derived.Test.YtmkmogkhkmlnkaaRows
import Derived.WalkKit
import Derived.WalkSpells
import Derived.ProofKit
import Derived.OpenShut
import Derived.Below
import Derived.Laws.CopyOwn
import Derived.Laws.AppendOwn
import Derived.Laws.OwnMore
import Derived.Laws.Rows
import Derived.Laws.Tables
import Derived.OwnWalk
import Derived.Deep.RegionLaw
import Derived.StillTail
import Derived.Lib.AppendStr
import Derived.Deep.RegionHeld3
import Derived.Deep.Cut
namespace Go.Proofs.Ytmkmogkhkmlnkaa.Dm
open Go.ChangeShapes Go.WideShapes Go.ChangeAt Go.RowKit
theorem ret_int {k : IntKind} {a b : Int} (h : a = b) : Ending.returned (.int k a) = .returned (.int k b) := by rw [h]
theorem ret_bool {a b : Bool} (h : a = b) : Ending.returned (.bool a) = .returned (.bool b) := by rw [h]
theorem addr_add (b off i : Nat) : (⟨b, off, none⟩ : Addr).add i = ⟨b, off + i, none⟩ := by
  by_cases h : i = 0
  · subst h; simp [Addr.add]
  · simp [Addr.add, h]
/-- a value of many cells is loaded -/
theorem wpList_load_agg {P : Program} {w : World} {ops : Array Oper} {rest : List Oper} {o : Oper} {a : Act} {Q : Exit → Act → World → Prop} (hgd : o.guard = none) (p : Operand) (ty : TypeId) (ho : o.op = .load ty p)
    (b off : Nat) (hp : a.eval p = .pointer (some ⟨b, off, none⟩)) (hA : ∀ w, (isAgg ty).run P w = .ok true w) (cs : List Value) (hz : ∀ w, (sizeOf ty).run P w = .ok cs.length w)
    (hc : ∀ j v, cs[j]? = some v → w.cell? ((⟨b, off, none⟩ : Addr).add j) = some v) (h : wpList P ops Q rest (a.put o.dst (.agg cs.toArray)) w) : wpList P ops Q (o :: rest) a w := by
  refine wpList_plain hgd fun K hK => ?_
  have hl := run_loadCells_list (P := P) w _ cs hc
  unfold Oper.wp
  simp [execOp, ho, hp, Instr.loadAt, Instr.sureAddr, loadVar, hA, hz, hl, Result.andThen]
  exact hK _ _ h
/-- a value of many cells is stored into a block of its own -/
theorem wpList_store_agg {P : Program} {w : World} {ops : Array Oper} {rest : List Oper} {o : Oper} {a : Act} {Q : Exit → Act → World → Prop} (hgd : o.guard = none) (p x : Operand) (ty t : TypeId) (ho : o.op = .store ty p x)
    (g : Nat) (hp : a.eval p = .pointer (some ⟨g, 0, none⟩)) (cs old : Array Value) (hx : a.eval x = .agg cs) (hg : w.heap[g]? = some (.cells old t)) (hi : (P.info? ty).map (·.size) = some cs.size) (ho' : old.size = cs.size) (h1 : (cs.all fun x => x.oneCell') = true)
    (h : wpList P ops Q rest (a.put o.dst undef) (w.setRow g cs)) : wpList P ops Q (o :: rest) a w := by
  refine wpList_plain hgd fun K hK => ?_
  have hl := run_storeVar_row (P := P) w g t ty old cs hg hi ho' h1
  unfold Oper.wp
  simp [execOp, ho, hp, hx, Instr.storeAt, Instr.sureAddr, hl, Result.andThen]
  exact hK _ _ h
theorem cell_of_heap {w : World} {b : Nat} {cs : Array Value} {T : TypeId} {fr : Nat × Nat} (hb : w.heap[b]? = some (.cells cs T fr)) (j : Nat) : w.cell? ⟨b, j, none⟩ = cs[j]? := by simp [World.cell?, hb]
theorem frozen_of_heap {w : World} {b : Nat} {cs : Array Value} {T : TypeId} (hb : w.heap[b]? = some (.cells cs T (0, 0))) (j : Nat) : w.frozen? ⟨b, j, none⟩ = false := by simp [World.frozen?, hb]
/-- bytes as cells -/
def cellsB (l : List UInt8) : List Value := l.map fun b : UInt8 => Value.int .u8 (b.toNat : Int)
theorem cellsB_length (l : List UInt8) : (cellsB l).length = l.length := by simp [cellsB]
theorem cellsB_append (l m : List UInt8) : cellsB (l ++ m) = cellsB l ++ cellsB m := by simp [cellsB]
theorem cellsB_get (l : List UInt8) (i : Nat) (h : i < l.length) : (cellsB l)[i]? = some (.int .u8 ((l.getD i 0).toNat : Int)) := by simp [cellsB, h]
theorem cellsB_drop (l : List UInt8) (k : Nat) : (cellsB l).drop k = cellsB (l.drop k) := by simp [cellsB, List.map_drop]
theorem cellsB_take (l : List UInt8) (k : Nat) : (cellsB l).take k = cellsB (l.take k) := by simp [cellsB, List.map_take]
theorem cellsB_splice (L : List UInt8) (o : Nat) (c : List UInt8) : splice (cellsB L) o (cellsB c) = cellsB (splice L o c) := by simp [splice, cellsB, List.map_take, List.map_drop]
theorem cellsB_one (l : List UInt8) : ∀ v ∈ cellsB l, v.oneCell' = true := by
  intro v hv
  obtain ⟨b, -, rfl⟩ := List.mem_map.1 hv
  rfl
/-- a slice whose cells, up to its length, are these bytes -/
def BytesAt (w : World) (b off : Nat) (l : List UInt8) : Prop := ∀ j v, (cellsB l)[j]? = some v → w.cell? ((⟨b, off, none⟩ : Addr).add j) = some v
/-- the drum, plainly -/
structure Dm where
  seen : List UInt8
  kept : List UInt8
  pend : List (Nat × List UInt8)
  armed : Bool
  left : Int
  gone : Bool
def cellsW (l : List (Nat × List UInt8)) : List Value := l.flatMap fun x => .int .i64 (x.1 : Int) :: cellsB x.2
theorem cellsW_snoc (l : List (Nat × List UInt8)) (x : Nat × List UInt8) : cellsW (l ++ [x]) = cellsW l ++ (.int .i64 (x.1 : Int) :: cellsB x.2) := by simp [cellsW]
/-- a drum of so many sectors that stands -/
structure Ok (n : Nat) (D : Dm) : Prop where
  n1 : n ≤ 8192
  seen : D.seen.length = 64 * n
  kept : D.kept.length = 64 * n
  pend : ∀ x ∈ D.pend, x.1 < n ∧ x.2.length = 64
  left0 : 0 ≤ D.left
  left1 : D.left ≤ 9223372036854775807
def boxD (s k L : Nat) (pv : Value) (D : Dm) : Array Value := #[.slice (some ⟨s, 0, none⟩) L L, .slice (some ⟨k, 0, none⟩) L L, pv, .bool D.armed, .int .i64 D.left, .bool D.gone]
/-- the drum in block a, what is seen in s, what is kept in k -/
structure DmAt (B a s k n : Nat) (D : Dm) (pv : Value) (w : World) : Prop where
  ok : Ok n D
  ba : B ≤ a
  bs : B ≤ s
  bk : B ≤ k
  sk : s ≠ k
  box : w.heap[a]? = some (.cells (boxD s k (64 * n) pv D) 58 (0, 0))
  hseen : w.heap[s]? = some (.cells (cellsB D.seen).toArray 5 (0, 0))
  hkept : w.heap[k]? = some (.cells (cellsB D.kept).toArray 5 (0, 0))
  own : w.ownsRow B 90 65 pv D.pend.length (cellsW D.pend)
theorem DmAt.sa {B a s k n : Nat} {D : Dm} {pv : Value} {w : World} (h : DmAt B a s k n D pv w) : s ≠ a := fun e => by
  have h1 := h.box
  have h2 := h.hseen
  rw [e, h1] at h2
  injection h2 with h2
  injection h2 with _ h2
  exact absurd h2 (by decide)
theorem DmAt.ka {B a s k n : Nat} {D : Dm} {pv : Value} {w : World} (h : DmAt B a s k n D pv w) : k ≠ a := fun e => by
  have h1 := h.box
  have h2 := h.hkept
  rw [e, h1] at h2
  injection h2 with h2
  injection h2 with _ h2
  exact absurd h2 (by decide)
/-- all blocks but the drum's stand -/
def Kd (a s k : Nat) (w w' : World) : Prop := ∀ j o, w.heap[j]? = some o → j ≠ a → j ≠ s → j ≠ k → (∀ c fz, o ≠ .cells c 90 fz) → w'.heap[j]? = some o
theorem Kd.refl (a s k : Nat) (w : World) : Kd a s k w w := fun _ _ h _ _ _ _ => h
theorem Kd.trans {a s k : Nat} {w1 w2 w3 : World} (h : Kd a s k w1 w2) (g : Kd a s k w2 w3) : Kd a s k w1 w3 := fun j o hj h1 h2 h3 h4 => g j o (h j o hj h1 h2 h3 h4) h1 h2 h3 h4
/-- the drum's cells -/
theorem DmAt.c0 {B a s k n : Nat} {D : Dm} {pv : Value} {w : World} (h : DmAt B a s k n D pv w) : w.cell? ⟨a, 0, none⟩ = some (.slice (some ⟨s, 0, none⟩) (64 * n) (64 * n)) := by rw [cell_of_heap h.box]; rfl
theorem DmAt.c1 {B a s k n : Nat} {D : Dm} {pv : Value} {w : World} (h : DmAt B a s k n D pv w) : w.cell? ⟨a, 1, none⟩ = some (.slice (some ⟨k, 0, none⟩) (64 * n) (64 * n)) := by rw [cell_of_heap h.box]; rfl
theorem DmAt.c2 {B a s k n : Nat} {D : Dm} {pv : Value} {w : World} (h : DmAt B a s k n D pv w) : w.cell? ⟨a, 2, none⟩ = some pv := by rw [cell_of_heap h.box]; rfl
theorem DmAt.c3 {B a s k n : Nat} {D : Dm} {pv : Value} {w : World} (h : DmAt B a s k n D pv w) : w.cell? ⟨a, 3, none⟩ = some (.bool D.armed) := by rw [cell_of_heap h.box]; rfl
theorem DmAt.c4 {B a s k n : Nat} {D : Dm} {pv : Value} {w : World} (h : DmAt B a s k n D pv w) : w.cell? ⟨a, 4, none⟩ = some (.int .i64 D.left) := by rw [cell_of_heap h.box]; rfl
theorem DmAt.c5 {B a s k n : Nat} {D : Dm} {pv : Value} {w : World} (h : DmAt B a s k n D pv w) : w.cell? ⟨a, 5, none⟩ = some (.bool D.gone) := by rw [cell_of_heap h.box]; rfl
theorem DmAt.fz {B a s k n : Nat} {D : Dm} {pv : Value} {w : World} (h : DmAt B a s k n D pv w) (j : Nat) : w.frozen? ⟨a, j, none⟩ = false := frozen_of_heap h.box j
/-- how the pending writes' slice looks -/
theorem own_len {w : World} {B e size : Nat} {v : Value} {n : Nat} {xs : List Value} (h : w.ownsRow B e size v n xs) : ∃ p c, v = .slice p n c ∧ n ≤ maxLen := by
  obtain ⟨-, ⟨rfl, rfl⟩ | ⟨g, cap, cur, rfl, -, -, h1, h2, -⟩⟩ := h
  · exact ⟨none, 0, rfl, Nat.zero_le _⟩
  · exact ⟨_, _, rfl, Nat.le_trans h1 h2⟩
set_option maxHeartbeats 1000000 in
theorem sectors_any {B a s k n : Nat} {D : Dm} {pv : Value} (w : World) (h : DmAt B a s k n D pv w) :
    Calls Try.prog 20 #[.pointer (some ⟨a, 0, none⟩)] w fun e w' => e = .returned (.int .i64 (n : Int)) ∧ w' = w := by
  have c0 := h.c0
  have hn := h.ok.n1
  clear h
  go_enter Try.func20, Try.ntmps20
  go_wp2
  go_ret
  exact ⟨ret_int (by omega), rfl⟩
set_option maxHeartbeats 1000000 in
theorem gone_any {B a s k n : Nat} {D : Dm} {pv : Value} (w : World) (h : DmAt B a s k n D pv w) :
    Calls Try.prog 9 #[.pointer (some ⟨a, 0, none⟩)] w fun e w' => e = .returned (.bool D.gone) ∧ w' = w := by
  have c5 := h.c5
  clear h
  go_enter Try.func9, Try.ntmps9
  go_wp2
  go_ret
  exact ⟨rfl, rfl⟩
set_option maxHeartbeats 1000000 in
theorem has_any {B a s k n : Nat} {D : Dm} {pv : Value} (w : World) (h : DmAt B a s k n D pv w) (at_ m : Int) (hm0 : 0 ≤ m) (hm : m ≤ 9223372036854775807) (ha1 : at_ ≤ 9223372036854775807) (ha0 : -9223372036854775808 ≤ at_) :
    Calls Try.prog 45 #[.pointer (some ⟨a, 0, none⟩), .int .i64 at_, .int .i64 m] w fun e w' => e = .returned (.bool (decide (m = 0 ∨ 0 ≤ at_ ∧ at_ + m ≤ n))) ∧ w' = w := by
  have hn := h.ok.n1
  have HC := sectors_any w h
  clear h
  by_cases h0 : m = 0
  · subst h0
    go_enter Try.func45, Try.ntmps45
    go_wp2
    go_ret
    exact ⟨ret_bool (by simp), rfl⟩
  · by_cases h1 : 0 ≤ at_
    · go_enter Try.func45, Try.ntmps45
      go_wp2_with (go_at_call 20; refine HC.mono ?_; rintro e w1 ⟨rfl, rfl⟩)
      go_ret
      refine ⟨ret_bool ?_, rfl⟩
      rw [Bool.eq_iff_iff]
      simp
      omega
    · go_enter Try.func45, Try.ntmps45
      go_wp2
      go_ret
      refine ⟨ret_bool ?_, rfl⟩
      rw [Bool.eq_iff_iff]
      simp
      omega
end Go.Proofs.Ytmkmogkhkmlnkaa.Dm
namespace Go.Proofs.Ytmkmogkhkmlnkaa.Dm
open Go.ChangeShapes Go.WideShapes Go.ChangeAt Go.RowKit
theorem own_of {w w' : World} {B e size : Nat} {v : Value} {n : Nat} {xs : List Value} (h : w.ownsRow B e size v n xs) (hh : ∀ g, v.ownBlock = some g → w'.heap[g]? = w.heap[g]?) : w'.ownsRow B e size v n xs := by
  obtain ⟨hl, hn | ⟨g, cap, cur, rfl, hg, hb, rest⟩⟩ := h
  · exact ⟨hl, .inl hn⟩
  · exact ⟨hl, .inr ⟨g, cap, cur, rfl, hg, (hh g rfl).trans hb, rest⟩⟩
theorem own_T {w : World} {B e size : Nat} {v : Value} {n : Nat} {xs : List Value} (h : w.ownsRow B e size v n xs) {g : Nat} (hv : v.ownBlock = some g) : ∃ cur, w.heap[g]? = some (.cells cur e (0, 0)) := by
  obtain ⟨hl, ⟨rfl, -⟩ | ⟨g', cap, cur, rfl, hg, hb, rest⟩⟩ := h
  · cases hv
  · obtain rfl : g' = g := Option.some.inj hv
    exact ⟨cur, hb⟩
theorem heap_setCell_same {w : World} {b : Nat} {cs : Array Value} {T : TypeId} (hb : w.heap[b]? = some (.cells cs T (0, 0))) (j : Nat) (v : Value) : (w.setCell ⟨b, j, none⟩ v).heap[b]? = some (.cells (cs.setIfInBounds j v) T (0, 0)) := by
  rw [setCell_eq_setRow w b j cs T (0, 0) v hb]
  exact setRow_heap w b _ _ T _ hb
theorem heap_setCell_ne (w : World) (b j : Nat) (v : Value) {i : Nat} (h : i ≠ b) : (w.setCell ⟨b, j, none⟩ v).heap[i]? = w.heap[i]? := Below.heap_setCell _ _ _ _ (by simpa using h)
theorem DmAt.ps {B a s k n : Nat} {D : Dm} {pv : Value} {w : World} (h : DmAt B a s k n D pv w) {g : Nat} (hg : pv.ownBlock = some g) : g ≠ a ∧ g ≠ s ∧ g ≠ k := by
  obtain ⟨cur, hc⟩ := own_T h.own hg
  refine ⟨fun e => ?_, fun e => ?_, fun e => ?_⟩
  · rw [e, h.box] at hc
    injection hc with hc
    injection hc with _ hc
    exact absurd hc (by decide)
  · rw [e, h.hseen] at hc
    injection hc with hc
    injection hc with _ hc
    exact absurd hc (by decide)
  · rw [e, h.hkept] at hc
    injection hc with hc
    injection hc with _ hc
    exact absurd hc (by decide)
theorem DmAt.keep {B a s k n : Nat} {D : Dm} {pv : Value} {w w' : World} (h : DmAt B a s k n D pv w) (hh : ∀ j, (j = a ∨ j = s ∨ j = k ∨ pv.ownBlock = some j) → w'.heap[j]? = w.heap[j]?) : DmAt B a s k n D pv w' :=
  ⟨h.ok, h.ba, h.bs, h.bk, h.sk, (hh a (.inl rfl)).trans h.box, (hh s (.inr (.inl rfl))).trans h.hseen, (hh k (.inr (.inr (.inl rfl)))).trans h.hkept, own_of h.own fun g hg => hh g (.inr (.inr (.inr hg)))⟩
theorem DmAt.lt {B a s k n : Nat} {D : Dm} {pv : Value} {w : World} (h : DmAt B a s k n D pv w) {j : Nat} (hj : j = a ∨ j = s ∨ j = k ∨ pv.ownBlock = some j) : j < w.heap.size := by
  rcases hj with rfl | rfl | rfl | hj
  · exact (Array.getElem?_eq_some_iff.1 h.box).1
  · exact (Array.getElem?_eq_some_iff.1 h.hseen).1
  · exact (Array.getElem?_eq_some_iff.1 h.hkept).1
  · exact (h.own.lt j hj).2
/-- nothing that was there is written -/
theorem DmAt.below {B a s k n : Nat} {D : Dm} {pv : Value} {w w' : World} (h : DmAt B a s k n D pv w) (hb : Below w.heap.size w w') : DmAt B a s k n D pv w' := h.keep fun _ hj => hb.block _ (h.lt hj)
theorem Kd.below {a s k : Nat} {w w' : World} (hb : Below w.heap.size w w') : Kd a s k w w' := fun j _ hj _ _ _ _ => (hb.block j (Array.getElem?_eq_some_iff.1 hj).1).trans hj
/-- what is seen changes -/
theorem DmAt.setSeen {B a s k n : Nat} {D : Dm} {pv : Value} {w w' : World} (h : DmAt B a s k n D pv w) (S : List UInt8) (hS : S.length = 64 * n) (hs : w'.heap[s]? = some (.cells (cellsB S).toArray 5 (0, 0))) (hh : ∀ j, j ≠ s → w'.heap[j]? = w.heap[j]?) : DmAt B a s k n { D with seen := S } pv w' :=
  ⟨⟨h.ok.n1, hS, h.ok.kept, h.ok.pend, h.ok.left0, h.ok.left1⟩, h.ba, h.bs, h.bk, h.sk, (hh a (Ne.symm h.sa)).trans h.box, hs, (hh k (Ne.symm h.sk)).trans h.hkept, own_of h.own fun g hg => hh g (h.ps hg).2.1⟩
/-- what is kept changes -/
theorem DmAt.setKept {B a s k n : Nat} {D : Dm} {pv : Value} {w w' : World} (h : DmAt B a s k n D pv w) (S : List UInt8) (hS : S.length = 64 * n) (hs : w'.heap[k]? = some (.cells (cellsB S).toArray 5 (0, 0))) (hh : ∀ j, j ≠ k → w'.heap[j]? = w.heap[j]?) : DmAt B a s k n { D with kept := S } pv w' :=
  ⟨⟨h.ok.n1, h.ok.seen, hS, h.ok.pend, h.ok.left0, h.ok.left1⟩, h.ba, h.bs, h.bk, h.sk, (hh a (Ne.symm h.ka)).trans h.box, (hh s h.sk).trans h.hseen, hs, own_of h.own fun g hg => hh g (h.ps hg).2.2⟩
/-- a flag, or how many are left, is stored -/
theorem DmAt.set3 {B a s k n : Nat} {D : Dm} {pv : Value} {w : World} (h : DmAt B a s k n D pv w) (x : Bool) : DmAt B a s k n { D with armed := x } pv (w.setCell ⟨a, 3, none⟩ (.bool x)) :=
  ⟨⟨h.ok.n1, h.ok.seen, h.ok.kept, h.ok.pend, h.ok.left0, h.ok.left1⟩, h.ba, h.bs, h.bk, h.sk, heap_setCell_same h.box 3 _, (heap_setCell_ne _ _ _ _ h.sa).trans h.hseen, (heap_setCell_ne _ _ _ _ h.ka).trans h.hkept, own_of h.own fun _ hg => heap_setCell_ne _ _ _ _ (h.ps hg).1⟩
theorem DmAt.set5 {B a s k n : Nat} {D : Dm} {pv : Value} {w : World} (h : DmAt B a s k n D pv w) (x : Bool) : DmAt B a s k n { D with gone := x } pv (w.setCell ⟨a, 5, none⟩ (.bool x)) :=
  ⟨⟨h.ok.n1, h.ok.seen, h.ok.kept, h.ok.pend, h.ok.left0, h.ok.left1⟩, h.ba, h.bs, h.bk, h.sk, heap_setCell_same h.box 5 _, (heap_setCell_ne _ _ _ _ h.sa).trans h.hseen, (heap_setCell_ne _ _ _ _ h.ka).trans h.hkept, own_of h.own fun _ hg => heap_setCell_ne _ _ _ _ (h.ps hg).1⟩
theorem DmAt.set4 {B a s k n : Nat} {D : Dm} {pv : Value} {w : World} (h : DmAt B a s k n D pv w) (x : Int) (h0 : 0 ≤ x) (h1 : x ≤ 9223372036854775807) : DmAt B a s k n { D with left := x } pv (w.setCell ⟨a, 4, none⟩ (.int .i64 x)) :=
  ⟨⟨h.ok.n1, h.ok.seen, h.ok.kept, h.ok.pend, h0, h1⟩, h.ba, h.bs, h.bk, h.sk, heap_setCell_same h.box 4 _, (heap_setCell_ne _ _ _ _ h.sa).trans h.hseen, (heap_setCell_ne _ _ _ _ h.ka).trans h.hkept, own_of h.own fun _ hg => heap_setCell_ne _ _ _ _ (h.ps hg).1⟩
/-- the pending writes are others -/
theorem DmAt.set2 {B a s k n : Nat} {D : Dm} {pv : Value} {w : World} (h : DmAt B a s k n D pv w) (pv' : Value) (l : List (Nat × List UInt8)) (hl : ∀ x ∈ l, x.1 < n ∧ x.2.length = 64) (ho : w.ownsRow B 90 65 pv' l.length (cellsW l)) : DmAt B a s k n { D with pend := l } pv' (w.setCell ⟨a, 2, none⟩ pv') := by
  refine ⟨⟨h.ok.n1, h.ok.seen, h.ok.kept, hl, h.ok.left0, h.ok.left1⟩, h.ba, h.bs, h.bk, h.sk, heap_setCell_same h.box 2 _, (heap_setCell_ne _ _ _ _ h.sa).trans h.hseen, (heap_setCell_ne _ _ _ _ h.ka).trans h.hkept, own_of ho fun g hg => heap_setCell_ne _ _ _ _ ?_⟩
  intro e
  obtain ⟨cur, hc⟩ := own_T ho hg
  rw [e, h.box] at hc
  injection hc with hc
  injection hc with _ hc
  exact absurd hc (by decide)
theorem Kd.setCell {a s k : Nat} (w : World) (j : Nat) (v : Value) : Kd a s k w (w.setCell ⟨a, j, none⟩ v) := fun _ _ hj h1 _ _ _ => (heap_setCell_ne _ _ _ _ h1).trans hj
theorem below_setCell {B b : Nat} (w : World) (j : Nat) (v : Value) (hb : B ≤ b) : Below B w (w.setCell ⟨b, j, none⟩ v) := (Below.refl B w).setCell (p := ⟨b, j, none⟩) hb v
/-- behind a method of the drum -/
def DPost (B a s k n : Nat) (D : Dm) (w w' : World) : Prop := (∃ pv, DmAt B a s k n D pv w') ∧ Below B w w' ∧ Kd a s k w w'
theorem DPost.trans {B a s k n : Nat} {D D' : Dm} {w w1 w2 : World} (h : DPost B a s k n D w w1) (g : DPost B a s k n D' w1 w2) : DPost B a s k n D' w w2 := ⟨g.1, h.2.1.trans g.2.1, h.2.2.trans g.2.2⟩
set_option maxHeartbeats 1000000 in
theorem sector_any (b off len cap i : Nat) (h1 : 64 * i + 64 ≤ len) (h2 : len ≤ cap) (h3 : (cap : Int) ≤ 9223372036854775807) (w : World) :
    Calls Try.prog 47 #[.slice (some ⟨b, off, none⟩) len cap, .int .i64 (i : Int)] w fun e w' => e = .returned (.slice (some ⟨b, off + 64 * i, none⟩) 64 (cap - 64 * i)) ∧ w' = w := by
  go_enter Try.func47, Try.ntmps47
  go_wp2
  go_ret
  refine ⟨?_, rfl⟩
  show Ending.returned (Value.slice (some ⟨b, off + i * 64, none⟩) ((i + 1) * 64 - i * 64) (cap - i * 64)) = _
  rw [Nat.mul_comm i 64, show (i + 1) * 64 - 64 * i = 64 by omega]
def spendD (D : Dm) : Dm := if D.armed then (if D.left = 0 then { D with armed := false, gone := true } else { D with left := D.left - 1 }) else D
set_option maxHeartbeats 1000000 in
theorem spend_any {B a s k n : Nat} {D : Dm} {pv : Value} (w : World) (h : DmAt B a s k n D pv w) :
    Calls Try.prog 57 #[.pointer (some ⟨a, 0, none⟩)] w fun e w' => e = .returned (.tuple #[]) ∧ DmAt B a s k n (spendD D) pv w' ∧ Below B w w' ∧ Kd a s k w w' := by
  have c3 := h.c3
  have c4 := h.c4
  have c5 := h.c5
  have f3 := h.fz 3
  have f4 := h.fz 4
  have f5 := h.fz 5
  have l0 := h.ok.left0
  have l1 := h.ok.left1
  have HH : Hid (DmAt B a s k n D pv w) := h
  have hba := h.ba
  clear h
  cases hA : D.armed
  · rw [hA] at c3
    have HD : Hid (spendD D = D) := by show _ = _; simp [spendD, hA]
    clear hA
    go_enter Try.func57, Try.ntmps57
    go_wp2
    first | go_end0 | refine bodyPost_ret (results_none rfl _ _ _) rfl ?_
    rw [HD.out]
    exact ⟨rfl, HH.out, Below.refl _ _, Kd.refl _ _ _ _⟩
  · rw [hA] at c3
    by_cases hl : D.left = 0
    · have HD : Hid (spendD D = { D with armed := false, gone := true }) := by show _ = _; simp [spendD, hA, hl]
      rw [hl] at c4
      clear hA hl l0 l1
      go_enter Try.func57, Try.ntmps57
      go_wp2
      first | go_end0 | refine bodyPost_ret (results_none rfl _ _ _) rfl ?_
      rw [HD.out]
      exact ⟨rfl, (HH.out.set3 false).set5 true, (below_setCell _ _ _ hba).trans (below_setCell _ _ _ hba), (Kd.setCell _ _ _).trans (Kd.setCell _ _ _)⟩
    · have HD : Hid (spendD D = { D with left := D.left - 1 }) := by show _ = _; simp [spendD, hA, hl]
      clear hA
      go_enter Try.func57, Try.ntmps57
      go_wp2
      first | go_end0 | refine bodyPost_ret (results_none rfl _ _ _) rfl ?_
      rw [HD.out]
      exact ⟨rfl, HH.out.set4 _ (by omega) (by omega), below_setCell _ _ _ hba, Kd.setCell _ _ _⟩
def armD (D : Dm) (x : Int) : Dm := if D.gone then D else { D with armed := decide (0 ≤ x), left := max x 0 }
set_option maxHeartbeats 1000000 in
theorem arm_any {B a s k n : Nat} {D : Dm} {pv : Value} (w : World) (h : DmAt B a s k n D pv w) (x : Int) (hx : x ≤ 9223372036854775807) :
    Calls Try.prog 14 #[.pointer (some ⟨a, 0, none⟩), .int .i64 x] w fun e w' => e = .returned (.tuple #[]) ∧ DmAt B a s k n (armD D x) pv w' ∧ Below B w w' ∧ Kd a s k w w' := by
  have c3 := h.c3
  have c4 := h.c4
  have c5 := h.c5
  have f3 := h.fz 3
  have f4 := h.fz 4
  have f5 := h.fz 5
  have HH : Hid (DmAt B a s k n D pv w) := h
  have hba := h.ba
  clear h
  cases hA : D.gone
  · rw [hA] at c5
    by_cases hx0 : 0 ≤ x
    · have HD : Hid (armD D x = { D with armed := true, left := x }) := by
        show _ = _
        have e1 : max x 0 = x := by omega
        simp [armD, hA, hx0, e1]
      clear hA
      go_enter Try.func14, Try.ntmps14
      go_wp2
      first | go_end0 | refine bodyPost_ret (results_none rfl _ _ _) rfl ?_
      rw [HD.out]
      exact ⟨rfl, (HH.out.set3 true).set4 x hx0 hx, (below_setCell _ _ _ hba).trans (below_setCell _ _ _ hba), (Kd.setCell _ _ _).trans (Kd.setCell _ _ _)⟩
    · have HD : Hid (armD D x = { D with armed := false, left := 0 }) := by
        show _ = _
        have e1 : max x 0 = 0 := by omega
        simp [armD, hA, hx0, e1]
      clear hA
      go_enter Try.func14, Try.ntmps14
      go_wp2
      first | go_end0 | refine bodyPost_ret (results_none rfl _ _ _) rfl ?_
      rw [HD.out]
      exact ⟨rfl, (HH.out.set3 false).set4 0 (by decide) (by decide), (below_setCell _ _ _ hba).trans (below_setCell _ _ _ hba), (Kd.setCell _ _ _).trans (Kd.setCell _ _ _)⟩
  · rw [hA] at c5
    have HD : Hid (armD D x = D) := by show _ = _; simp [armD, hA]
    clear hA
    go_enter Try.func14, Try.ntmps14
    go_wp2
    first | go_end0 | refine bodyPost_ret (results_none rfl _ _ _) rfl ?_
    rw [HD.out]
    exact ⟨rfl, HH.out, Below.refl _ _, Kd.refl _ _ _ _⟩
end Go.Proofs.Ytmkmogkhkmlnkaa.Dm
namespace Go.Proofs.Ytmkmogkhkmlnkaa.Dm
open Go.ChangeShapes Go.WideShapes Go.ChangeAt Go.RowKit
/-- in whatever order, and S holds behind every operation but number n -/
def AnyBut (P : Program) (md : Region.Mode) (ops : Array Oper) (Q : Exit → Act → World → Prop) (S : World → Prop) (n : Nat) : Nat → Array Bool → Act → World → Prop
  | 0, listed, a, w => Region.ready md ops listed = [] ∧ Q .normal a w
  | fuel + 1, listed, a, w => (Region.ready md ops listed = [] → Q .normal a w) ∧
      ∀ i ∈ Region.ready md ops listed, wpOp P ops Q i (fun a' w' => (i ≠ n → S w') ∧ AnyBut P md ops Q S n fuel (listed.setIfInBounds i true) a' w') a w
theorem AnyBut.any {P : Program} {ops : Array Oper} {Q : Exit → Act → World → Prop} {md : Region.Mode} {S : World → Prop} {n : Nat} : ∀ (fuel : Nat) (listed : Array Bool) (a : Act) (w : World), AnyBut P md ops Q S n fuel listed a w → wpAny P md ops Q fuel listed a w := by
  intro fuel
  induction fuel with
  | zero => intro listed a w h; exact h
  | succ fuel ih => intro listed a w h; exact ⟨h.1, fun i hi => wpOp_mono (fun a' w' h' => ih _ a' w' h'.2) (h.2 i hi)⟩
theorem AnyBut.first {P : Program} {ops : Array Oper} {Q : Exit → Act → World → Prop} {md : Region.Mode} {S : World → Prop} {n : Nat} {i : Nat} {oi : Oper} {v : Value} (hi : ops[i]? = some oi) (hsel : ∀ (j : Nat) (o : Oper) cs b, ops[j]? = some o → o.op ≠ .select cs b)
    (hQ : ∀ c a w, Q (.panic c) (a.put oi.dst v) w → Q (.panic c) a w) (hs : Region.sinkB md ops n = true) (hc : Region.chainB md ops n = true) (hn : n < ops.size) (hin : i < n) :
    ∀ (fuel : Nat) (listed : Array Bool) (a : Act) (w : World), HeadInv md ops n listed →
      (∀ j oj, ops[j]? = some oj → j ≠ i → listed.getD j true = false → (∀ e ∈ oj.after, Region.binds md e = true → e.on ≠ i) → oi.apart ops oj = true) →
      i ∈ Region.ready md ops listed → YieldsIf P ops S oi v a → S w →
      AnyBut P md ops Q S n fuel (listed.setIfInBounds i true) (a.put oi.dst v) w → AnyBut P md ops Q S n (fuel + 1) listed a w := by
  intro fuel
  induction fuel with
  | zero =>
    intro listed a w _ _ hr hy hS H
    refine ⟨fun h => (by rw [h] at hr; cases hr), fun j hj => ?_⟩
    by_cases hji : j = i
    · subst hji
      exact hy.wpOp hi hS ⟨fun _ => hS, H⟩
    · have := ready_mono hj hji
      rw [H.1] at this
      cases this
  | succ fuel ih =>
    intro listed a w inv hfree hr hy hS H
    refine ⟨fun h => (by rw [h] at hr; cases hr), fun j hj => ?_⟩
    by_cases hji : j = i
    · subst hji
      exact hy.wpOp hi hS ⟨fun _ => hS, H⟩
    · have hun : listed.getD i true = false := (mem_ready.1 hr).1
      have hjn : j < n := by
        rcases Nat.lt_or_ge j n with h | h
        · exact h
        · exact absurd hj (tail_waits hs hc hn inv _ i rfl hin hun j h)
      have h1 := H.2 j (ready_mono hj hji)
      obtain ⟨hjun, oj, hoj, hall⟩ := mem_ready.1 hj
      have hnot : ∀ e ∈ oj.after, Region.binds md e = true → e.on ≠ i := fun e he hb heq => by
        have h2 := hall e he hb
        rw [heq, getD_both hun] at h2
        cases h2
      have h2 := wpOp_putIf hoj (hfree j oj hoj hji hjun hnot) (fun cs b => hsel i oi cs b hi) (fun cs b => hsel j oj cs b hoj) hQ hy h1
      refine wpOp_mono (fun a' w' h3 => ?_) h2
      have hS' : S w' := h3.2.1 (by omega)
      refine ⟨fun _ => hS', ih (listed.setIfInBounds j true) a' w' (inv.set hj hjn) (fun k ok hk hki hku hno => ?_) (ready_mono hr (Ne.symm hji)) h3.1 hS' ?_⟩
      · refine hfree k ok hk hki ?_ hno
        by_cases hjk : j = k
        · subst hjk; exact hjun
        · rw [getD_set_ne true hjk] at hku; exact hku
      · rw [Array.setIfInBounds_comm _ _ hji]
        exact h3.2.2
/-- the operations listed so far, as a Bool -/
def invB (md : Region.Mode) (ops : Array Oper) (n : Nat) (listed : Array Bool) : Bool :=
  decide (listed.size = ops.size) && (List.range ops.size).all (fun j => !listed.getD j false || ((ops[j]?).map (·.after.all fun e => !Region.binds md e || listed.getD e.on false)).getD true) && (List.range ops.size).all (fun t => decide (t < n) || !listed.getD t true)
theorem invB_spec {md : Region.Mode} {ops : Array Oper} {n : Nat} {listed : Array Bool} (h : invB md ops n listed = true) : HeadInv md ops n listed := by
  simp only [invB, Bool.and_eq_true, decide_eq_true_eq] at h
  obtain ⟨⟨h1, h2⟩, h3⟩ := h
  refine ⟨h1, fun j oj hj hl e he hb => ?_, fun t ht htl => ?_⟩
  · have hlt : j < ops.size := (Array.getElem?_eq_some_iff.1 hj).1
    have := List.all_eq_true.1 h2 j (List.mem_range.2 hlt)
    rw [hl, hj] at this
    simp only [Bool.not_true, Bool.false_or, Option.map_some, Option.getD_some] at this
    have h4 := Array.all_eq_true_iff_forall_mem.1 this e he
    rw [hb] at h4
    simpa using h4
  · have := List.all_eq_true.1 h3 t (List.mem_range.2 htl)
    simp only [Bool.or_eq_true, decide_eq_true_eq, Bool.not_eq_true'] at this
    rcases this with h | h
    · omega
    · exact h
theorem AnyBut.take {P : Program} {ops : Array Oper} {Q : Exit → Act → World → Prop} {md : Region.Mode} {S : World → Prop} {n : Nat} {i : Nat} {oi : Oper} {v : Value} {fuel : Nat} {listed : Array Bool} {a : Act} {w : World} (hi : ops[i]? = some oi)
    (hB : (Region.noSelect ops && Region.free md ops listed i && (Region.ready md ops listed).contains i && Region.sinkB md ops n && Region.chainB md ops n && decide (n < ops.size) && decide (i < n) && invB md ops n listed) = true)
    (hQ : ∀ c a w, Q (.panic c) (a.put oi.dst v) w → Q (.panic c) a w) (hy : YieldsIf P ops S oi v a) (hS : S w)
    (h : AnyBut P md ops Q S n fuel (listed.setIfInBounds i true) (a.put oi.dst v) w) : AnyBut P md ops Q S n (fuel + 1) listed a w := by
  simp only [Bool.and_eq_true, decide_eq_true_eq] at hB
  obtain ⟨⟨⟨⟨⟨⟨⟨b1, b2⟩, b3⟩, b4⟩, b5⟩, b6⟩, b7⟩, b8⟩ := hB
  exact AnyBut.first hi (Region.noSelect_spec b1) hQ b4 b5 b6 b7 fuel listed a w (invB_spec b8) (Region.free_spec hi b2) (by simpa using b3) hy hS h
theorem AnyBut.one {P : Program} {ops : Array Oper} {Q : Exit → Act → World → Prop} {md : Region.Mode} {S : World → Prop} {n : Nat} {i : Nat} {o : Oper} {fuel : Nat} {listed : Array Bool} {a : Act} {w : World} (hr : Region.ready md ops listed = [i]) (ho : ops[i]? = some o) (hg : o.guard = none)
    (h : ∀ K : Act → World → Prop, Hid (∀ a' w', (i ≠ n → S w') → AnyBut P md ops Q S n fuel (listed.setIfInBounds i true) a' w' → K a' w') → o.wp P a w K Q) : AnyBut P md ops Q S n (fuel + 1) listed a w := by
  refine ⟨fun h0 => (by rw [hr] at h0; cases h0), fun j hj => ?_⟩
  rw [hr] at hj
  obtain rfl : j = i := by simpa using hj
  unfold wpOp
  simp only [ho]
  rw [if_pos (by simp [Region.wanted, hg])]
  exact .inl (h _ (fun _ _ h1 h2 => ⟨h1, h2⟩))
theorem AnyBut.two {P : Program} {ops : Array Oper} {Q : Exit → Act → World → Prop} {md : Region.Mode} {S : World → Prop} {n : Nat} {i j : Nat} {oi oj : Oper} {fuel : Nat} {listed : Array Bool} {a : Act} {w : World} (hr : Region.ready md ops listed = [i, j]) (hi : ops[i]? = some oi) (hj : ops[j]? = some oj) (gi : oi.guard = none) (gj : oj.guard = none)
    (h1 : ∀ K : Act → World → Prop, Hid (∀ a' w', (i ≠ n → S w') → AnyBut P md ops Q S n fuel (listed.setIfInBounds i true) a' w' → K a' w') → oi.wp P a w K Q)
    (h2 : ∀ K : Act → World → Prop, Hid (∀ a' w', (j ≠ n → S w') → AnyBut P md ops Q S n fuel (listed.setIfInBounds j true) a' w' → K a' w') → oj.wp P a w K Q) : AnyBut P md ops Q S n (fuel + 1) listed a w := by
  refine ⟨fun h0 => (by rw [hr] at h0; cases h0), fun k hk => ?_⟩
  rw [hr] at hk
  unfold wpOp
  rcases (by simpa using hk : k = i ∨ k = j) with rfl | rfl
  · simp only [hi]
    rw [if_pos (by simp [Region.wanted, gi])]
    exact .inl (h1 _ (fun _ _ h1 h2 => ⟨h1, h2⟩))
  · simp only [hj]
    rw [if_pos (by simp [Region.wanted, gj])]
    exact .inl (h2 _ (fun _ _ h1 h2 => ⟨h1, h2⟩))
theorem AnyBut.done {P : Program} {ops : Array Oper} {Q : Exit → Act → World → Prop} {md : Region.Mode} {S : World → Prop} {n : Nat} {listed : Array Bool} {a : Act} {w : World} (hr : Region.ready md ops listed = []) (h : Q .normal a w) (fuel : Nat) : AnyBut P md ops Q S n fuel listed a w := by
  cases fuel with
  | zero => exact ⟨hr, h⟩
  | succ fuel => exact ⟨fun _ => h, by rw [hr]; simp⟩
theorem wp_region_but {P : Program} {ops : Array Oper} {Q : Exit → Act → World → Prop} {S : World → Prop} {n : Nat} {id : Nat} {a : Act} {w : World} (hm : P.follows .mixedOrders = true) (h : AnyBut P .any ops (NoPanic Q) S n ops.size (Array.replicate ops.size false) a w.drew) : (Code.region id ops true).wp P Q a w :=
  wp_region_noPanic (wp_region_any hm (AnyBut.any _ _ _ _ h))
theorem but_take {P : Program} {ops : Array Oper} {Q : Exit → Act → World → Prop} {md : Region.Mode} {S : World → Prop} {n : Nat} {i : Nat} {oi : Oper} {v : Value} {fuel : Nat} {listed : Array Bool} {a : Act} {w : World} (hi : ops.toList[i]? = some oi)
    (hB : (Region.noSelect ops && Region.free md ops listed i && (Region.ready md ops listed).contains i && Region.sinkB md ops n && Region.chainB md ops n && decide (n < ops.size) && decide (i < n) && invB md ops n listed) = true)
    (hQ : ∀ c a w, Q (.panic c) (a.put oi.dst v) w → Q (.panic c) a w) (hy : YieldsIf P ops S oi v a) (hS : S w)
    (h : AnyBut P md ops Q S n fuel (listed.setIfInBounds i true) (a.put oi.dst v) w) : AnyBut P md ops Q S n (fuel + 1) listed a w :=
  AnyBut.take (by simpa using hi) hB hQ hy hS h
theorem but_one {P : Program} {ops : Array Oper} {Q : Exit → Act → World → Prop} {md : Region.Mode} {S : World → Prop} {n : Nat} {i : Nat} {o : Oper} {fuel : Nat} {listed : Array Bool} {a : Act} {w : World} (hr : Region.ready md ops listed = [i]) (ho : ops.toList[i]? = some o) (hg : o.guard = none)
    (h : ∀ K : Act → World → Prop, Hid (∀ a' w', (i ≠ n → S w') → AnyBut P md ops Q S n fuel (listed.setIfInBounds i true) a' w' → K a' w') → o.wp P a w K Q) : AnyBut P md ops Q S n (fuel + 1) listed a w :=
  AnyBut.one hr (by simpa using ho) hg h
end Go.Proofs.Ytmkmogkhkmlnkaa.Dm
namespace Go.Proofs.Ytmkmogkhkmlnkaa.Dm
open Go.ChangeShapes Go.WideShapes Go.ChangeAt Go.RowKit
theorem mixed9 : Try.prog.follows .mixedOrders = true := by kernel_rfl
theorem held_one {P : Program} {ops : Array Oper} {Q : Exit → Act → World → Prop} {md : Region.Mode} {S : World → Prop} {i : Nat} {o : Oper} {fuel : Nat} {listed : Array Bool} {a : Act} {w : World} (hr : Region.ready md ops listed = [i]) (ho' : ops.toList[i]? = some o) (hg : Region.wanted o (yielded ops a.tmps) = true)
    (h : ∀ K : Act → World → Prop, Hid (∀ a' w', S w' → wpAnyH P md ops Q S fuel (listed.setIfInBounds i true) a' w' → K a' w') → o.wp P a w K Q) : wpAnyH P md ops Q S (fuel + 1) listed a w := by
  have ho : ops[i]? = some o := by simpa using ho'
  refine wpAnyH_all hr (by simp) (fun j hj => ?_)
  obtain rfl : j = i := by simpa using hj
  unfold wpOp
  simp only [ho]
  rw [if_pos hg]
  exact .inl (h _ (fun _ _ h1 h2 => ⟨h1, h2⟩))
theorem held_take {P : Program} {ops : Array Oper} {Q : Exit → Act → World → Prop} {md : Region.Mode} {S : World → Prop} {i : Nat} {oi : Oper} {v : Value} {fuel : Nat} {listed : Array Bool} {a : Act} {w : World} (hi : ops.toList[i]? = some oi)
    (hB : (Region.noSelect ops && Region.free md ops listed i && (Region.ready md ops listed).contains i) = true)
    (hQ : ∀ c a w, Q (.panic c) (a.put oi.dst v) w → Q (.panic c) a w) (hy : YieldsIf P ops S oi v a) (hS : S w)
    (h : wpAnyH P md ops Q S fuel (listed.setIfInBounds i true) (a.put oi.dst v) w) : wpAnyH P md ops Q S (fuel + 1) listed a w := by
  simp only [Bool.and_eq_true] at hB
  exact wpAnyH_take (by simpa using hi) hB.1.1 hB.1.2 hB.2 hQ hy hS h
theorem held_start {P : Program} {ops : Array Oper} {Q : Exit → Act → World → Prop} {S : World → Prop} {id : Nat} {a : Act} {w : World} (hm : P.follows .mixedOrders = true) (h : wpAnyH P .any ops (NoPanic Q) S ops.size (Array.replicate ops.size false) a w.drew) : (Code.region id ops true).wp P Q a w :=
  wp_region_noPanic (wp_region_held hm h)
/-- a region of a body, by its number -/
def regionOf (n : Nat) : Code → Option Code
  | .region id ops d => if id = n then some (.region id ops d) else none
  | .loop c => regionOf n c
  | .seq a b => match regionOf n a with
    | some c => some c
    | none => regionOf n b
  | .block _ c => regionOf n c
  | .scope c => regionOf n c
  | .cond _ a b => match regionOf n a with
    | some c => some c
    | none => regionOf n b
  | _ => none
theorem below_drew (w : World) : Below w.heap.size w w.drew := ⟨rfl, rfl, rfl, Nat.le_refl _, fun _ _ => rfl⟩
theorem below2 {a b c : World} (h : Below a.heap.size a b) (k : Below b.heap.size b c) : Below a.heap.size a c := h.trans ⟨k.os, k.tape, k.output, k.size, fun j hj => k.block j (Nat.lt_of_lt_of_le hj h.size)⟩
theorem cells_lit (w : World) (cs : List Value) (t : TypeId) : ∀ j u, cs[j]? = some u → (w.alloc (.cells cs.toArray t)).cell? ((⟨w.heap.size, 0, none⟩ : Addr).add j) = some u := by
  intro j u hj
  rw [addr_add, Nat.zero_add]
  unfold World.cell?
  rw [heap_alloc_new]
  simpa using hj
/-- noughts, and a sector's number ahead of them -/
def zerosB : List Value := List.replicate 64 (.int .u8 0)
theorem zeroW (w : World) : (zeroValue 90).run Try.prog w = .ok (.agg (.int .i64 0 :: zerosB).toArray) w := by kernel_rfl
theorem buildW (p : Int) (w : World) : (Instr.build 90 #[(0, .int .i64 p)]).run Try.prog w = .ok (.agg (.int .i64 p :: zerosB).toArray) w := by kernel_rfl
theorem fill_seg : ∀ (l : List Value) (m : Nat) (cur : Array Value), m + l.length ≤ cur.size → (l.zipIdx m).foldl (fun cs x => cs.setIfInBounds (0 + x.2) x.1) cur = (cur.toList.take m ++ l ++ cur.toList.drop (m + l.length)).toArray
  | [], m, cur, _ => by simp
  | v :: l, m, cur, h => by
    have h' : m + (l.length + 1) ≤ cur.size := by simpa using h
    rw [List.zipIdx_cons, List.foldl_cons, fill_seg l (m + 1) _ (by simp; omega)]
    have e := list_seg_step cur.toList m v l (by simpa using h')
    simp only [Nat.zero_add, Array.toList_setIfInBounds, List.length_cons]
    rw [e]
theorem fill_all (l : List Value) (cur : Array Value) (h : cur.size = l.length) : l.zipIdx.foldl (fun cs x => cs.setIfInBounds x.2 x.1) cur = l.toArray := by
  have e := fill_seg l 0 cur (by omega)
  simp only [Nat.zero_add] at e
  rw [e]
  simp [h]
theorem zerosB_length : zerosB.length = 64 := rfl
theorem sliceW (l : List Value) (h : l.length = 65) (w : World) : (Instr.buildSlice 56 1 #[(0, .agg l.toArray)]).run Try.prog w = .ok (.slice (some ⟨w.heap.size, 0, none⟩) 1 1) (w.alloc (.cells l.toArray 90)) := by
  have e := fun cur hc => fill_all l cur hc
  first
    | (simp [Instr.buildSlice, run_underlying Try.underlying56, Try.sizeOf90, Instr.fill, Value.cells, h, newRow]
       rw [e _ (by simp [h])])
    | (simp [Instr.buildSlice, run_underlying Try.underlying56, Try.sizeOf90, zeroW, Instr.fill, Value.cells, h, newRow, zerosB_length]
       rw [e _ (by simp [h])])
theorem wp_of_run {P : Program} {o : Oper} {a : Act} {w w' : World} {K : Act → World → Prop} {Q : Exit → Act → World → Prop} {v : Value} (h : (execOp a.eval o).run P w = .ok (.value v) w') (hK : K (a.put o.dst v) w') : o.wp P a w K Q := by
  unfold Oper.wp
  simp [h]
  exact hK
theorem wp_of_skip {P : Program} {o : Oper} {a : Act} {w w' : World} {K : Act → World → Prop} {Q : Exit → Act → World → Prop} (h : (execOp a.eval o).run P w = .ok .skip w') (hK : K (a.put o.dst undef) w') : o.wp P a w K Q := by
  unfold Oper.wp
  simp [h]
  exact hK
theorem DmAt.append {B a s k n : Nat} {D : Dm} {pv pv' : Value} {w w' : World} (h : DmAt B a s k n D pv w) (hh : ∀ j, (j = a ∨ j = s ∨ j = k) → w'.heap[j]? = w.heap[j]?) (l : List (Nat × List UInt8)) (hl : ∀ x ∈ l, x.1 < n ∧ x.2.length = 64) (ho : w'.ownsRow B 90 65 pv' l.length (cellsW l)) : DmAt B a s k n { D with pend := l } pv' (w'.setCell ⟨a, 2, none⟩ pv') := by
  have hbox := (hh a (.inl rfl)).trans h.box
  refine ⟨⟨h.ok.n1, h.ok.seen, h.ok.kept, hl, h.ok.left0, h.ok.left1⟩, h.ba, h.bs, h.bk, h.sk, heap_setCell_same hbox 2 _, (heap_setCell_ne _ _ _ _ h.sa).trans ((hh s (.inr (.inl rfl))).trans h.hseen), (heap_setCell_ne _ _ _ _ h.ka).trans ((hh k (.inr (.inr rfl))).trans h.hkept), own_of ho fun g hg => heap_setCell_ne _ _ _ _ ?_⟩
  intro e
  obtain ⟨cur, hc⟩ := own_T ho hg
  rw [e, hbox] at hc
  injection hc with hc
  injection hc with _ hc
  exact absurd hc (by decide)
theorem Kd.grown {B a s k n : Nat} {D : Dm} {pv : Value} {w w' : World} (h : DmAt B a s k n D pv w) (hg : w.grownBy w' pv.ownBlock) : Kd a s k w w' := by
  intro j o hj _ _ _ h50
  have hlt : j < w.heap.size := (Array.getElem?_eq_some_iff.1 hj).1
  refine (hg.block j hlt fun e => ?_).trans hj
  obtain ⟨cur, hc⟩ := own_T h.own e.symm
  rw [hj] at hc
  exact h50 _ _ (Option.some.inj hc)
theorem below_grown {B : Nat} {w w' : World} {row : Option Nat} (hg : w.grownBy w' row) (hr : ∀ g, row = some g → B ≤ g) (hB : B ≤ w.heap.size) : Below B w w' := ⟨hg.os, hg.tape, hg.output, hg.size, fun j hj => hg.block j (by omega) fun e => by have := hr j e.symm; omega⟩
theorem infoW : (Try.prog.info? 90).map (fun i => (i.zero, i.size, i.bytes)) = some (some (.agg (.int .i64 0 :: zerosB).toArray), 65, 72) := by kernel_rfl
set_option maxHeartbeats 4000000 in
set_option maxRecDepth 60000 in
theorem write_put (t1 t2 t3 t4 t5 t7 t8 t9 t10 t11 t12 t13 t14 t15 t16 t17 t18 t19 t20 t21 t22 t23 t24 t25 t26 t27 t28 t29 t30 t31 t32 t33 t34 t35 t36 : Value) (B a s k n x p : Nat) (c : List UInt8) (D : Dm) (pv : Value) (w1 : World) (Q : Exit → Act → World → Prop)
    (h : DmAt B a s k n D pv w1) (hx : w1.heap[x]? = some (.cells (.int .i64 (p : Int) :: cellsB c).toArray 90 (0, 0))) (hc : c.length = 64) (hxo : pv.ownBlock ≠ some x) (hp : p < n) (hlen : (D.pend.length : Int) ≤ 100000) (hB : B ≤ w1.heap.size)
    (hQ : Hid (∀ (u27 u28 u29 u30 u31 u32 u33 u34 u35 u36 : Value) (wC : World), DPost B a s k n { D with pend := D.pend ++ [(p, c)] } w1 wC → Q .normal ⟨#[.pointer (some ⟨a, 0, none⟩), t1, t2, t3, t4, t5, .pointer (some ⟨x, 0, none⟩), t7, t8, t9, t10, t11, t12, t13, t14, t15, t16, t17, t18, t19, t20, t21, t22, t23, t24, t25, t26, u27, u28, u29, u30, u31, u32, u33, u34, u35, u36], []⟩ wC)) :
    Code.wp Try.prog ((Try.f46.body.bind (regionOf 5)).getD .skip) Q ⟨#[.pointer (some ⟨a, 0, none⟩), t1, t2, t3, t4, t5, .pointer (some ⟨x, 0, none⟩), t7, t8, t9, t10, t11, t12, t13, t14, t15, t16, t17, t18, t19, t20, t21, t22, t23, t24, t25, t26, t27, t28, t29, t30, t31, t32, t33, t34, t35, t36], []⟩ w1 := by
  obtain ⟨i0, hi, hz0, hz1, hz2⟩ := info_parts infoW
  have hxl : x < w1.heap.size := (Array.getElem?_eq_some_iff.1 hx).1
  have hal : a < w1.heap.size := h.lt (.inl rfl)
  have HS : Hid (∀ w', Below w1.heap.size w1 w' → (fun w' => w'.cell? ⟨a, 2, none⟩ = some pv ∧ w'.frozen? ⟨a, 2, none⟩ = false ∧ ∀ j v, (Value.int .i64 (p : Int) :: cellsB c)[j]? = some v → w'.cell? ((⟨x, 0, none⟩ : Addr).add j) = some v) w') := fun w' hw => by
    refine ⟨(hw.cell (p := ⟨a, 2, none⟩) hal).trans h.c2, (hw.frozen (p := ⟨a, 2, none⟩) hal).trans (h.fz 2), fun j v hj => ?_⟩
    rw [addr_add, Nat.zero_add, hw.cell (p := ⟨x, j, none⟩) hxl, cell_of_heap hx]
    simpa using hj
  have HH : Hid (DmAt B a s k n D pv w1) := h
  have HL : Hid ((D.pend.length : Int) ≤ 100000) := hlen
  have HC : Hid (c.length = 64) := hc
  clear h hx hlen hc
  have hS := HS.out w1.drew (below_drew w1)
  conv => arg 2; whnf
  refine wp_region_but (S := (fun w' => w'.cell? ⟨a, 2, none⟩ = some pv ∧ w'.frozen? ⟨a, 2, none⟩ = false ∧ ∀ j v, (Value.int .i64 (p : Int) :: cellsB c)[j]? = some v → w'.cell? ((⟨x, 0, none⟩ : Addr).add j) = some v)) (n := 10) mixed9 ?_
  refine but_take (i := 0) (v := .pointer (some ⟨a, 0, none⟩)) rfl (by kernel_rfl) (fun _ _ _ h => h) (.inl ⟨rfl, fun w hS => ?_⟩) hS ?_
  · obtain ⟨s1, s2, s3⟩ := hS
    go_simp
  simp only [Act.put, List.setIfInBounds_toArray, List.set_cons_zero, List.set_cons_succ]
  refine but_take (i := 1) (v := .pointer (some ⟨a, 0, none⟩)) rfl (by kernel_rfl) (fun _ _ _ h => h) (.inl ⟨rfl, fun w hS => ?_⟩) hS ?_
  · obtain ⟨s1, s2, s3⟩ := hS
    go_simp
  simp only [Act.put, List.setIfInBounds_toArray, List.set_cons_zero, List.set_cons_succ]
  refine but_take (i := 2) (v := .pointer (some ⟨a, 0, none⟩)) rfl (by kernel_rfl) (fun _ _ _ h => h) (.inl ⟨rfl, fun w hS => ?_⟩) hS ?_
  · obtain ⟨s1, s2, s3⟩ := hS
    go_simp
  simp only [Act.put, List.setIfInBounds_toArray, List.set_cons_zero, List.set_cons_succ]
  refine but_take (i := 3) (v := .pointer (some ⟨a, 2, none⟩)) rfl (by kernel_rfl) (fun _ _ _ h => h) (.inl ⟨rfl, fun w hS => ?_⟩) hS ?_
  · obtain ⟨s1, s2, s3⟩ := hS
    go_simp
  simp only [Act.put, List.setIfInBounds_toArray, List.set_cons_zero, List.set_cons_succ]
  refine but_take (i := 4) (v := pv) rfl (by kernel_rfl) (fun _ _ _ h => h) (.inl ⟨rfl, fun w hS => ?_⟩) hS ?_
  · obtain ⟨s1, s2, s3⟩ := hS
    go_simp
  simp only [Act.put, List.setIfInBounds_toArray, List.set_cons_zero, List.set_cons_succ]
  refine but_take (i := 5) (v := .agg (Value.int .i64 (p : Int) :: cellsB c).toArray) rfl (by kernel_rfl) (fun _ _ _ h => h) (.inl ⟨rfl, fun w hS => ?_⟩) hS ?_
  · obtain ⟨s1, s2, s3⟩ := hS
    have hl := run_loadCells_list (P := Try.prog) w ⟨x, 0, none⟩ _ s3
    rw [show (Value.int .i64 (p : Int) :: cellsB c).length = 65 by simp [cellsB, HC.out]] at hl
    simp [execOp, Act.eval, Instr.loadAt, Instr.sureAddr, loadVar, Try.isAgg90, Try.sizeOf90, hl]
  simp only [Act.put, List.setIfInBounds_toArray, List.set_cons_zero, List.set_cons_succ]
  refine but_one (i := 6) (by kernel_rfl) rfl rfl ?_
  intro K hK
  refine wp_of_run (v := .slice (some ⟨w1.heap.size, 0, none⟩) 1 1) (w' := w1.drew.alloc (.cells (Value.int .i64 (p : Int) :: cellsB c).toArray 90)) ?_ ?_
  · have e := sliceW (Value.int .i64 (p : Int) :: cellsB c) (by simp [cellsB, HC.out]) w1.drew
    simp [execOp, Act.eval] at e ⊢
    rw [e]
    simp
  have hb4 : Below w1.heap.size w1 (w1.drew.alloc (.cells (Value.int .i64 (p : Int) :: cellsB c).toArray 90)) := (below_drew w1).alloc (Nat.le_refl _) _
  have hnews := cells_lit w1.drew (Value.int .i64 (p : Int) :: cellsB c) 90
  refine hK.out _ _ (fun _ => HS.out _ hb4) ?_
  clear hK hS
  have hS := HS.out _ hb4
  simp only [Act.put, List.setIfInBounds_toArray, List.set_cons_zero, List.set_cons_succ]
  have hs4 := hb4.size
  generalize w1.drew.alloc (.cells (Value.int .i64 (p : Int) :: cellsB c).toArray 90) = w4 at *
  refine but_one (i := 7) (by kernel_rfl) rfl rfl ?_
  intro K hK
  refine wp_append_own w4 (.tmp 31) (.tmp 33) 56 rfl B 90 i0 (.agg (.int .i64 0 :: zerosB).toArray) 65 72 Try.underlying56 hi hz0 hz1 hz2 rfl (by decide) pv D.pend.length (cellsW D.pend) rfl (HH.out.below hb4).own ⟨w1.heap.size, 0, none⟩ 1 1 (Value.int .i64 (p : Int) :: cellsB c) rfl (by simp [cellsB, HC.out]) hnews (by intro u hu; rcases List.mem_cons.1 hu with rfl | hu; exact rfl; exact cellsB_one _ _ hu) (by unfold maxLen; have := HL.out; omega) (by have := HL.out; omega) (Nat.le_trans hB hs4) ?_
  intro v5 w5 hown5 hg5 _
  have hD4 := HH.out.below hb4
  have hna : some a ≠ pv.ownBlock := fun e => (hD4.ps e.symm).1 rfl
  have hns : some s ≠ pv.ownBlock := fun e => (hD4.ps e.symm).2.1 rfl
  have hnk : some k ≠ pv.ownBlock := fun e => (hD4.ps e.symm).2.2 rfl
  have hnx : some x ≠ pv.ownBlock := fun e => hxo e.symm
  have hsl : s < w4.heap.size := hD4.lt (.inr (.inl rfl))
  have hkl : k < w4.heap.size := hD4.lt (.inr (.inr (.inl rfl)))
  have hal4 : a < w4.heap.size := hD4.lt (.inl rfl)
  have hS5 : (fun w' => w'.cell? ⟨a, 2, none⟩ = some pv ∧ w'.frozen? ⟨a, 2, none⟩ = false ∧ ∀ j v, (Value.int .i64 (p : Int) :: cellsB c)[j]? = some v → w'.cell? ((⟨x, 0, none⟩ : Addr).add j) = some v) w5 := by
    refine ⟨(World.cell?_of_block (a := ⟨a, 2, none⟩) (hg5.block a hal4 hna)).trans hS.1, (World.frozen?_of_block (a := ⟨a, 2, none⟩) (hg5.block a hal4 hna)).trans hS.2.1, fun j v hj => ?_⟩
    have := hS.2.2 j v hj
    rw [addr_add] at this ⊢
    exact (World.cell?_of_block (a := ⟨x, 0 + j, none⟩) (hg5.block x (Nat.lt_of_lt_of_le hxl hs4) hnx)).trans this
  refine hK.out _ _ (fun _ => hS5) ?_
  have hP : DPost B a s k n { D with pend := D.pend ++ [(p, c)] } w1 (w5.setCell ⟨a, 2, none⟩ v5) := by
    refine ⟨⟨v5, hD4.append (fun j hj => ?_) _ ?_ ?_⟩, ?_, ?_⟩
    · rcases hj with rfl | rfl | rfl
      · exact hg5.block _ hal4 hna
      · exact hg5.block _ hsl hns
      · exact hg5.block _ hkl hnk
    · intro y hy
      rcases List.mem_append.1 hy with hy | hy
      · exact hD4.ok.pend y hy
      · obtain rfl := List.mem_singleton.1 hy
        exact ⟨hp, HC.out⟩
    · rw [cellsW_snoc, List.length_append]
      exact hown5
    · exact ((Below.trans ⟨hb4.os, hb4.tape, hb4.output, hb4.size, fun j hj => hb4.block j (by omega)⟩ (below_grown hg5 (fun g hg => (hD4.own.lt g hg).1) (by omega))).setCell (p := ⟨a, 2, none⟩) hD4.ba _)
    · exact ((Kd.below hb4).trans (Kd.grown hD4 hg5)).trans (Kd.setCell _ _ _)
  obtain ⟨p7, c7, rfl, -⟩ := own_len hown5
  have hS := hS5
  have HP : Hid (DPost B a s k n { D with pend := D.pend ++ [(p, c)] } w1 (w5.setCell ⟨a, 2, none⟩ (.slice p7 (D.pend.length + 1) c7))) := hP
  clear hK hD4 hP hown5 hg5 hS5 hnews hna hns hnk hnx hsl hkl hb4
  simp only [Act.put, List.setIfInBounds_toArray, List.set_cons_zero, List.set_cons_succ]
  refine but_take (i := 8) (v := .pointer (some ⟨a, 0, none⟩)) rfl (by kernel_rfl) (fun _ _ _ h => h) (.inl ⟨rfl, fun w hS => ?_⟩) hS ?_
  · obtain ⟨s1, s2, s3⟩ := hS
    go_simp
  simp only [Act.put, List.setIfInBounds_toArray, List.set_cons_zero, List.set_cons_succ]
  refine but_take (i := 9) (v := .pointer (some ⟨a, 2, none⟩)) rfl (by kernel_rfl) (fun _ _ _ h => h) (.inl ⟨rfl, fun w hS => ?_⟩) hS ?_
  · obtain ⟨s1, s2, s3⟩ := hS
    go_simp
  simp only [Act.put, List.setIfInBounds_toArray, List.set_cons_zero, List.set_cons_succ]
  obtain ⟨k5, kf, -⟩ := hS
  refine but_one (i := 10) (by kernel_rfl) rfl rfl ?_
  intro K hK
  refine wp_of_skip (w' := w5.setCell ⟨a, 2, none⟩ (.slice p7 (D.pend.length + 1) c7)) ?_ ?_
  · clear hK HP HS HH HL HC hQ
    go_simp
  refine hK.out _ _ (fun h => absurd rfl h) ?_
  simp only [Act.put]
  refine AnyBut.done (by kernel_rfl) ?_ _
  refine NoPanic.normal ?_
  exact hQ.out _ _ _ _ _ _ _ _ _ _ _ HP.out

end Go.Proofs.Ytmkmogkhkmlnkaa.Dm
namespace Go.Proofs.Ytmkmogkhkmlnkaa.Dm
open Go.ChangeShapes Go.WideShapes Go.ChangeAt Go.RowKit
/-- one block has other cells, all else stands -/
structure Chg (g : Nat) (X : Array Value) (t : TypeId) (w w' : World) : Prop where
  os : w'.os = w.os
  tape : w'.tape = w.tape
  output : w'.output = w.output
  size : w'.heap.size = w.heap.size
  at_ : w'.heap[g]? = some (.cells X t (0, 0))
  ne : ∀ j, j ≠ g → w'.heap[j]? = w.heap[j]?
theorem chg_setRow {w : World} {g : Nat} {cur : Array Value} {t : TypeId} (hg : w.heap[g]? = some (.cells cur t (0, 0))) (X : Array Value) : Chg g X t w (w.setRow g X) := ⟨rfl, rfl, rfl, by simp [World.setRow], setRow_heap w g _ _ t _ hg, fun j hj => setRow_other w g j X hj⟩
theorem Chg.below {g : Nat} {X : Array Value} {t : TypeId} {w w' : World} (h : Chg g X t w w') {B : Nat} (hB : B ≤ g) : Below B w w' := ⟨h.os, h.tape, h.output, by rw [h.size]; exact Nat.le_refl _, fun j hj => h.ne j (by omega)⟩
theorem wp_copy_chg {P : Program} {w : World} {o : Oper} {a : Act} {K : Act → World → Prop} {Q : Exit → Act → World → Prop} (d s : Operand) (dT sT : TypeId)
    (ho : o.op = .call { callee := .builtin .copy, args := #[d, s], argTypes := #[dT, sT] }) (elem : TypeId) (hu : P.underlying dT = some (.slice elem)) (hsz : (P.info? elem).map (·.size) = some 1)
    (g off dLen dCap : Nat) (ad : Addr) (sLen sCap : Nat) (hd : a.eval d = .slice (some ⟨g, off, none⟩) dLen dCap) (hs : a.eval s = .slice (some ad) sLen sCap)
    (cur : List Value) (t : TypeId) (hg : w.heap[g]? = some (.cells cur.toArray t (0, 0))) (cs : List Value) (hn : cs.length = Nat.min sLen dLen)
    (hsrc : ∀ j v, cs[j]? = some v → w.cell? (ad.add j) = some v) (hfit : off + cs.length ≤ cur.length) (h1 : ∀ v ∈ cs, v.oneCell' = true)
    (h : ∀ w', Hid (Chg g (splice cur off cs).toArray t w w') → K (a.put o.dst (goInt cs.length)) w') : o.wp P a w K Q := by
  have hrun := run_copy_row (P := P) w dT sT o.type elem g off dLen dCap ad sLen sCap cur.toArray t cs hu hsz hg hn hsrc (by simpa using hfit) h1
  unfold Oper.wp
  simp [execOp, ho, resolve, invoke, builtin, hd, hs, hrun]
  refine h _ (show Chg _ _ _ _ _ from ?_)
  have := chg_setRow hg (splice cur off cs).toArray
  simpa [splice] using this
theorem wpList_copy_chg {P : Program} {w : World} {ops : Array Oper} {rest : List Oper} {o : Oper} {a : Act} {Q : Exit → Act → World → Prop} (hgd : o.guard = none) (d s : Operand) (dT sT : TypeId)
    (ho : o.op = .call { callee := .builtin .copy, args := #[d, s], argTypes := #[dT, sT] }) (elem : TypeId) (hu : P.underlying dT = some (.slice elem)) (hsz : (P.info? elem).map (·.size) = some 1)
    (g off dLen dCap : Nat) (ad : Addr) (sLen sCap : Nat) (hd : a.eval d = .slice (some ⟨g, off, none⟩) dLen dCap) (hs : a.eval s = .slice (some ad) sLen sCap)
    (cur : List Value) (t : TypeId) (hg : w.heap[g]? = some (.cells cur.toArray t (0, 0))) (cs : List Value) (hn : cs.length = Nat.min sLen dLen)
    (hsrc : ∀ j v, cs[j]? = some v → w.cell? (ad.add j) = some v) (hfit : off + cs.length ≤ cur.length) (h1 : ∀ v ∈ cs, v.oneCell' = true)
    (h : ∀ w', Hid (Chg g (splice cur off cs).toArray t w w') → wpList P ops Q rest (a.put o.dst (goInt cs.length)) w') : wpList P ops Q (o :: rest) a w :=
  wpList_plain hgd fun _ hK => wp_copy_chg d s dT sT ho elem hu hsz g off dLen dCap ad sLen sCap hd hs cur t hg cs hn hsrc hfit h1 fun w' hw => hK _ _ (h w' hw)
theorem below_alloc (w : World) (o : Obj) : Below w.heap.size w (w.alloc o) := (Below.refl _ w).alloc (Nat.le_refl _) o
theorem size_alloc (w : World) (o : Obj) : (w.alloc o).heap.size = w.heap.size + 1 := by
  show (w.heap.push o).size = _
  exact Array.size_push ..
def zeroAt (p : Int) : Array Value := (Value.int .i64 p :: zerosB).toArray
theorem zeroAt_size (p : Int) : (zeroAt p).size = 65 := rfl
theorem wpList_build {w : World} {ops : Array Oper} {rest : List Oper} {o : Oper} {a : Act} {Q : Exit → Act → World → Prop} (hgd : o.guard = none) (x : Operand) (ho : o.op = .build 90 #[(0, x)]) (p : Int) (hx : a.eval x = .int .i64 p)
    (h : wpList Try.prog ops Q rest (a.put o.dst (.agg (zeroAt p))) w) : wpList Try.prog ops Q (o :: rest) a w := by
  refine wpList_plain hgd fun K hK => wp_of_run (v := .agg (zeroAt p)) (w' := w) ?_ (hK _ _ h)
  have e := buildW p w
  simp [execOp, ho, hx]
  rw [e]
  rfl
theorem wpList_alloc {w : World} {ops : Array Oper} {rest : List Oper} {o : Oper} {a : Act} {Q : Exit → Act → World → Prop} (hgd : o.guard = none) (ho : o.op = .alloc 90)
    (h : ∀ w', Hid (w'.heap[w.heap.size]? = some (.cells (zeroAt 0) 90 (0, 0)) ∧ w'.heap.size = w.heap.size + 1) → Hid (Below w.heap.size w w') → wpList Try.prog ops Q rest (a.put o.dst (.pointer (some ⟨w.heap.size, 0, none⟩))) w') : wpList Try.prog ops Q (o :: rest) a w := by
  refine wpList_plain hgd fun K hK => wp_of_run (v := .pointer (some ⟨w.heap.size, 0, none⟩)) (w' := w.alloc (.cells (zeroAt 0) 90)) ?_ (hK _ _ (h _ ⟨heap_alloc_new w _, size_alloc w _⟩ (below_alloc w _)))
  first
    | (simp [execOp, ho, Instr.alloc, newVar, newRow, Value.cells]; rfl)
    | (simp [execOp, ho, Instr.alloc, zeroW, newVar, newRow, Value.cells]; rfl)
theorem infoWs : (Try.prog.info? 90).map (·.size) = some 65 := by kernel_rfl
theorem info5 : (Try.prog.info? 5).map (·.size) = some 1 := by kernel_rfl
theorem wpList_store {w : World} {ops : Array Oper} {rest : List Oper} {o : Oper} {a : Act} {Q : Exit → Act → World → Prop} (hgd : o.guard = none) (p x : Operand) (ho : o.op = .store 90 p x)
    (g : Nat) (hp : a.eval p = .pointer (some ⟨g, 0, none⟩)) (cs old : Array Value) (hx : a.eval x = .agg cs) (hg : w.heap[g]? = some (.cells old 90 (0, 0))) (hi : cs.size = 65) (ho' : old.size = 65) (h1 : (cs.all fun x => x.oneCell') = true)
    (h : ∀ w', Hid (Chg g cs 90 w w') → wpList Try.prog ops Q rest (a.put o.dst undef) w') : wpList Try.prog ops Q (o :: rest) a w :=
  wpList_store_agg hgd p x 90 90 ho g hp cs old hx hg (by rw [hi]; exact infoWs) (by omega) h1 (h _ (chg_setRow hg cs))
theorem zeroAt_one (p : Int) : ((zeroAt p).all fun x => x.oneCell') = true := by
  simp [zeroAt, zerosB, Value.oneCell']
theorem zeroAt_splice (p : Int) (c : List UInt8) (h : c.length = 64) : (splice (zeroAt p).toList 1 (cellsB c)).toArray = (Value.int .i64 p :: cellsB c).toArray := by
  simp [splice, zeroAt, zerosB, cellsB_length, h]
/-- bytes that lie elsewhere -/
structure Src (a s k g off : Nat) (c : List UInt8) (w : World) : Prop where
  ga : g ≠ a
  gs : g ≠ s
  gk : g ≠ k
  ob : ∃ cs T fz, w.heap[g]? = some (.cells cs T fz) ∧ T ≠ 90
  bs : BytesAt w g off c
theorem BytesAt.same {w w' : World} {g off : Nat} {c : List UInt8} (h : BytesAt w g off c) (e : w'.heap[g]? = w.heap[g]?) : BytesAt w' g off c := fun j v hj => by
  have := h j v hj
  rw [addr_add] at this ⊢
  exact (World.cell?_of_block (a := ⟨g, off + j, none⟩) e).trans this
theorem Src.kd {a s k g off : Nat} {c : List UInt8} {w w' : World} (h : Src a s k g off c w) (hk : Kd a s k w w') : Src a s k g off c w' := by
  obtain ⟨cs, T, fz, hg, hT⟩ := h.ob
  have e := hk g _ hg h.ga h.gs h.gk (by intro c' fz' e; injection e with _ e; exact hT e)
  exact ⟨h.ga, h.gs, h.gk, ⟨cs, T, fz, e, hT⟩, h.bs.same (e.trans hg.symm)⟩
theorem Kd.chg {a s k : Nat} {X : Array Value} {t : TypeId} {w w' : World} (h : Chg s X t w w') : Kd a s k w w' := fun j _ hj _ h2 _ _ => (h.ne j h2).trans hj
def wOneD (D : Dm) (p : Nat) (c : List UInt8) : Dm := if (spendD { D with seen := splice D.seen (64 * p) c }).gone then spendD { D with seen := splice D.seen (64 * p) c } else { spendD { D with seen := splice D.seen (64 * p) c } with pend := (spendD { D with seen := splice D.seen (64 * p) c }).pend ++ [(p, c)] }
theorem spendD_pend (D : Dm) : (spendD D).pend = D.pend := by unfold spendD; split <;> (try split) <;> rfl
theorem hold {p : Prop} (h : Hid p) : p := h.out
set_option maxHeartbeats 4000000 in
set_option maxRecDepth 60000 in
theorem writeOne_any {B a s k n : Nat} {D : Dm} {pv : Value} (w : World) (h : DmAt B a s k n D pv w) (p g off cap : Nat) (c : List UInt8) (hp : p < n) (hc : c.length = 64) (hsrc : Src a s k g off c w) (hlen : (D.pend.length : Int) ≤ 100000) :
    Calls Try.prog 46 #[.pointer (some ⟨a, 0, none⟩), .int .i64 (p : Int), .slice (some ⟨g, off, none⟩) 64 cap] w fun e w' => e = .returned (.tuple #[]) ∧ DPost B a s k n (wOneD D p c) w w' := by
  have c0 := h.c0
  have hn := h.ok.n1
  have HH : Hid (DmAt B a s k n D pv w) := h
  have HSr : Hid (Src a s k g off c w) := hsrc
  have HC : Hid (c.length = 64) := hc
  have HL : Hid ((D.pend.length : Int) ≤ 100000) := hlen
  clear h hsrc hc hlen
  go_enter Try.func46, Try.ntmps46
  go_wp2_with (first | (go_at_call 47; refine (sector_any s 0 (64 * n) (64 * n) p (by omega) (Nat.le_refl _) (by omega) _).mono ?_; rintro e w0 ⟨rfl, rfl⟩) | (refine wpList_copy_chg rfl (.tmp 12) (.tmp 13) 39 39 rfl 5 Try.underlying39 info5 s (64 * p) 64 (64 * n - 64 * p) ⟨g, off, none⟩ 64 cap rfl rfl (cellsB D.seen) 5 HH.out.hseen (cellsB c) (by rw [cellsB_length, HC.out]; rfl) HSr.out.bs (by rw [cellsB_length, cellsB_length, HC.out, HH.out.ok.seen]; omega) (cellsB_one _) ?_; intro w1 hw1))
  have hD1 : DmAt B a s k n { D with seen := splice D.seen (64 * p) c } pv w1 := HH.out.setSeen _ (by rw [length_splice _ _ _ (by rw [HC.out, HH.out.ok.seen]; omega)]; exact HH.out.ok.seen) (by rw [← cellsB_splice]; exact hw1.out.at_) hw1.out.ne
  have hk1 : Kd a s k w0 w1 := Kd.chg hw1.out
  have hb1 : Below B w0 w1 := hw1.out.below HH.out.bs
  refine (spend_any _ hD1).mono ?_
  rintro e w2 ⟨rfl, hD2, hb2, hk2⟩
  have HB : Hid (Below B w0 w2) := hb1.trans hb2
  have HK : Hid (Kd a s k w0 w2) := hk1.trans hk2
  have HW : Hid (wOneD D p c = if (spendD { D with seen := splice D.seen (64 * p) c }).gone then spendD { D with seen := splice D.seen (64 * p) c } else { spendD { D with seen := splice D.seen (64 * p) c } with pend := (spendD { D with seen := splice D.seen (64 * p) c }).pend ++ [(p, c)] }) := rfl
  have HL2 : Hid (((spendD { D with seen := splice D.seen (64 * p) c }).pend.length : Int) ≤ 100000) := by
    show _ ≤ _
    rw [spendD_pend]
    exact HL.out
  clear hw1 hD1 hk1 hb1 hb2 hk2 c0 HL
  generalize spendD { D with seen := splice D.seen (64 * p) c } = D2 at *
  have c5 := hD2.c5
  have HH2 : Hid (DmAt B a s k n D2 pv w2) := hD2
  clear hD2
  cases hG : D2.gone
  · rw [hG] at c5
    have HE : Hid (wOneD D p c = { D2 with pend := D2.pend ++ [(p, c)] }) := by
      have := HW.out
      rw [hG] at this
      exact this
    clear HW hG
    have HS2 : Hid (Src a s k g off c w2) := HSr.out.kd HK.out
    go_upto_region 4 with (first | (refine wpList_build rfl (.tmp 21) rfl (p : Int) rfl ?_) | (refine wpList_alloc rfl rfl ?_; intro w3 hx3 hb3) | (refine wpList_store rfl (.tmp 6) (.tmp 22) rfl w2.heap.size rfl (zeroAt (p : Int)) (zeroAt 0) rfl hx3.out.1 rfl rfl (zeroAt_one _) ?_; intro w4 hw4))
    have hgl : g < w2.heap.size := by
      obtain ⟨_, _, _, hh, _⟩ := HS2.out.ob
      exact (Array.getElem?_eq_some_iff.1 hh).1
    have hb4 : Below w2.heap.size w2 w4 := hb3.out.trans (hw4.out.below (Nat.le_refl _))
    have hx4 : Hid (w4.heap[w2.heap.size]? = some (.cells (zeroAt (p : Int)).toList.toArray 90 (0, 0))) := hw4.out.at_
    have HF : Hid (1 + (cellsB c).length ≤ (zeroAt (p : Int)).toList.length) := by
      show _ ≤ _
      rw [cellsB_length, HC.out]
      exact Nat.le_refl 65
    have hBS : BytesAt w4 g off c := (HS2.out.kd (Kd.below hb4)).bs
    have HB4 : Hid (Below w2.heap.size w2 w4) := hb4
    clear hx3 hb3 hw4 hb4 HS2 HSr
    go_upto_region 5 with (refine wpList_copy_chg rfl (.tmp 24) (.tmp 25) 39 39 rfl 5 Try.underlying39 info5 w2.heap.size 1 64 64 ⟨g, off, none⟩ 64 cap rfl rfl (zeroAt (p : Int)).toList 90 hx4.out (cellsB c) (by rw [cellsB_length, HC.out]; rfl) hBS HF.out (cellsB_one _) ?_; intro w5 hw5)
    have hx5 : w5.heap[w2.heap.size]? = some (.cells (Value.int .i64 (p : Int) :: cellsB c).toArray 90 (0, 0)) := by
      have := hw5.out.at_
      rw [zeroAt_splice _ _ HC.out] at this
      exact this
    have hb5 : Below w2.heap.size w2 w5 := HB4.out.trans (hw5.out.below (Nat.le_refl _))
    have hD5 := HH2.out.below hb5
    refine write_put _ _ _ _ _ _ _ _ _ _ _ _ _ _ _ _ _ _ _ _ _ _ _ _ _ _ _ _ _ _ _ _ _ _ _ B a s k n w2.heap.size p c D2 pv w5 _ hD5 hx5 HC.out (fun e => by have := (HH2.out.own.lt _ e).2; omega) hp HL2.out (by have := hD5.lt (.inl rfl); have := hD5.ba; omega) (fun u27 u28 u29 u30 u31 u32 u33 u34 u35 u36 wC hP => ?_)
    have HP : Hid (DPost B a s k n (wOneD D p c) w0 wC) := by
      show DPost _ _ _ _ _ _ _ _
      rw [HE.out]
      exact ⟨hP.1, (HB.out.trans ⟨hb5.os, hb5.tape, hb5.output, hb5.size, fun j hj => hb5.block j (by have := hD5.ba; have := HH2.out.lt (.inl rfl); omega)⟩).trans hP.2.1, (HK.out.trans (Kd.below hb5)).trans hP.2.2⟩
    clear hP hD5 hb5 hx5 hw5
    first | go_wp2 | skip
    first | go_end0 | refine bodyPost_ret (results_none rfl _ _ _) rfl ?_
    exact ⟨rfl, HP.out⟩
  · rw [hG] at c5
    have HE : Hid (wOneD D p c = D2) := by
      have := HW.out
      rw [hG] at this
      exact this
    clear HW hG
    go_wp2
    first | go_end0 | refine bodyPost_ret (results_none rfl _ _ _) rfl ?_
    rw [HE.out]
    exact ⟨rfl, ⟨_, HH2.out⟩, HB.out, HK.out⟩
end Go.Proofs.Ytmkmogkhkmlnkaa.Dm
