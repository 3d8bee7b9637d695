/-
  What a change leaves of a drum; sector, spend, Arm.
-/
import Derived.Test.YtjmlklikmcaalaaDmA
namespace Go.Proofs.Ytjmlklikmcaalaa.Dm
open Go.ChangeShapes Go.WideShapes Go.ChangeAt Go.RowKit
theorem own_of {w w' : World} {B e size : Nat} {v : Value} {n : Nat} {xs : List Value} (h : w.ownsRow B e size v n xs) (hh : ∀ g, v.ownBlock = some g → w'.heap[g]? = w.heap[g]?) : w'.ownsRow B e size v n xs := by
  obtain ⟨hl, hn | ⟨g, cap, cur, rfl, hg, hb, rest⟩⟩ := h
  · exact ⟨hl, .inl hn⟩
  · exact ⟨hl, .inr ⟨g, cap, cur, rfl, hg, (hh g rfl).trans hb, rest⟩⟩
theorem own_T {w : World} {B e size : Nat} {v : Value} {n : Nat} {xs : List Value} (h : w.ownsRow B e size v n xs) {g : Nat} (hv : v.ownBlock = some g) : ∃ cur, w.heap[g]? = some (.cells cur e (0, 0)) := by
  obtain ⟨hl, ⟨rfl, -⟩ | ⟨g', cap, cur, rfl, hg, hb, rest⟩⟩ := h
  · cases hv
  · obtain rfl : g' = g := Option.some.inj hv
    exact ⟨cur, hb⟩
theorem heap_setCell_same {w : World} {b : Nat} {cs : Array Value} {T : TypeId} (hb : w.heap[b]? = some (.cells cs T (0, 0))) (j : Nat) (v : Value) : (w.setCell ⟨b, j, none⟩ v).heap[b]? = some (.cells (cs.setIfInBounds j v) T (0, 0)) := by
  rw [setCell_eq_setRow w b j cs T (0, 0) v hb]
  exact setRow_heap w b _ _ T _ hb
theorem heap_setCell_ne (w : World) (b j : Nat) (v : Value) {i : Nat} (h : i ≠ b) : (w.setCell ⟨b, j, none⟩ v).heap[i]? = w.heap[i]? := Below.heap_setCell _ _ _ _ (by simpa using h)
theorem DmAt.ps {B a s k n : Nat} {D : Dm} {pv : Value} {w : World} (h : DmAt B a s k n D pv w) {g : Nat} (hg : pv.ownBlock = some g) : g ≠ a ∧ g ≠ s ∧ g ≠ k := by
  obtain ⟨cur, hc⟩ := own_T h.own hg
  refine ⟨fun e => ?_, fun e => ?_, fun e => ?_⟩
  · rw [e, h.box] at hc
    injection hc with hc
    injection hc with _ hc
    exact absurd hc (by decide)
  · rw [e, h.hseen] at hc
    injection hc with hc
    injection hc with _ hc
    exact absurd hc (by decide)
  · rw [e, h.hkept] at hc
    injection hc with hc
    injection hc with _ hc
    exact absurd hc (by decide)
theorem DmAt.keep {B a s k n : Nat} {D : Dm} {pv : Value} {w w' : World} (h : DmAt B a s k n D pv w) (hh : ∀ j, (j = a ∨ j = s ∨ j = k ∨ pv.ownBlock = some j) → w'.heap[j]? = w.heap[j]?) : DmAt B a s k n D pv w' :=
  ⟨h.ok, h.ba, h.bs, h.bk, h.sk, (hh a (.inl rfl)).trans h.box, (hh s (.inr (.inl rfl))).trans h.hseen, (hh k (.inr (.inr (.inl rfl)))).trans h.hkept, own_of h.own fun g hg => hh g (.inr (.inr (.inr hg)))⟩
theorem DmAt.lt {B a s k n : Nat} {D : Dm} {pv : Value} {w : World} (h : DmAt B a s k n D pv w) {j : Nat} (hj : j = a ∨ j = s ∨ j = k ∨ pv.ownBlock = some j) : j < w.heap.size := by
  rcases hj with rfl | rfl | rfl | hj
  · exact (Array.getElem?_eq_some_iff.1 h.box).1
  · exact (Array.getElem?_eq_some_iff.1 h.hseen).1
  · exact (Array.getElem?_eq_some_iff.1 h.hkept).1
  · exact (h.own.lt j hj).2
/-- nothing that was there is written -/
theorem DmAt.below {B a s k n : Nat} {D : Dm} {pv : Value} {w w' : World} (h : DmAt B a s k n D pv w) (hb : Below w.heap.size w w') : DmAt B a s k n D pv w' := h.keep fun _ hj => hb.block _ (h.lt hj)
theorem Kd.below {a s k : Nat} {w w' : World} (hb : Below w.heap.size w w') : Kd a s k w w' := fun j _ hj _ _ _ _ => (hb.block j (Array.getElem?_eq_some_iff.1 hj).1).trans hj
/-- what is seen changes -/
theorem DmAt.setSeen {B a s k n : Nat} {D : Dm} {pv : Value} {w w' : World} (h : DmAt B a s k n D pv w) (S : List UInt8) (hS : S.length = 64 * n) (hs : w'.heap[s]? = some (.cells (cellsB S).toArray 5 (0, 0))) (hh : ∀ j, j ≠ s → w'.heap[j]? = w.heap[j]?) : DmAt B a s k n { D with seen := S } pv w' :=
  ⟨⟨h.ok.n1, hS, h.ok.kept, h.ok.pend, h.ok.left0, h.ok.left1⟩, h.ba, h.bs, h.bk, h.sk, (hh a (Ne.symm h.sa)).trans h.box, hs, (hh k (Ne.symm h.sk)).trans h.hkept, own_of h.own fun g hg => hh g (h.ps hg).2.1⟩
/-- what is kept changes -/
theorem DmAt.setKept {B a s k n : Nat} {D : Dm} {pv : Value} {w w' : World} (h : DmAt B a s k n D pv w) (S : List UInt8) (hS : S.length = 64 * n) (hs : w'.heap[k]? = some (.cells (cellsB S).toArray 5 (0, 0))) (hh : ∀ j, j ≠ k → w'.heap[j]? = w.heap[j]?) : DmAt B a s k n { D with kept := S } pv w' :=
  ⟨⟨h.ok.n1, h.ok.seen, hS, h.ok.pend, h.ok.left0, h.ok.left1⟩, h.ba, h.bs, h.bk, h.sk, (hh a (Ne.symm h.ka)).trans h.box, (hh s h.sk).trans h.hseen, hs, own_of h.own fun g hg => hh g (h.ps hg).2.2⟩
/-- a flag, or how many are left, is stored -/
theorem DmAt.set3 {B a s k n : Nat} {D : Dm} {pv : Value} {w : World} (h : DmAt B a s k n D pv w) (x : Bool) : DmAt B a s k n { D with armed := x } pv (w.setCell ⟨a, 3, none⟩ (.bool x)) :=
  ⟨⟨h.ok.n1, h.ok.seen, h.ok.kept, h.ok.pend, h.ok.left0, h.ok.left1⟩, h.ba, h.bs, h.bk, h.sk, heap_setCell_same h.box 3 _, (heap_setCell_ne _ _ _ _ h.sa).trans h.hseen, (heap_setCell_ne _ _ _ _ h.ka).trans h.hkept, own_of h.own fun _ hg => heap_setCell_ne _ _ _ _ (h.ps hg).1⟩
theorem DmAt.set5 {B a s k n : Nat} {D : Dm} {pv : Value} {w : World} (h : DmAt B a s k n D pv w) (x : Bool) : DmAt B a s k n { D with gone := x } pv (w.setCell ⟨a, 5, none⟩ (.bool x)) :=
  ⟨⟨h.ok.n1, h.ok.seen, h.ok.kept, h.ok.pend, h.ok.left0, h.ok.left1⟩, h.ba, h.bs, h.bk, h.sk, heap_setCell_same h.box 5 _, (heap_setCell_ne _ _ _ _ h.sa).trans h.hseen, (heap_setCell_ne _ _ _ _ h.ka).trans h.hkept, own_of h.own fun _ hg => heap_setCell_ne _ _ _ _ (h.ps hg).1⟩
theorem DmAt.set4 {B a s k n : Nat} {D : Dm} {pv : Value} {w : World} (h : DmAt B a s k n D pv w) (x : Int) (h0 : 0 ≤ x) (h1 : x ≤ 9223372036854775807) : DmAt B a s k n { D with left := x } pv (w.setCell ⟨a, 4, none⟩ (.int .i64 x)) :=
  ⟨⟨h.ok.n1, h.ok.seen, h.ok.kept, h.ok.pend, h0, h1⟩, h.ba, h.bs, h.bk, h.sk, heap_setCell_same h.box 4 _, (heap_setCell_ne _ _ _ _ h.sa).trans h.hseen, (heap_setCell_ne _ _ _ _ h.ka).trans h.hkept, own_of h.own fun _ hg => heap_setCell_ne _ _ _ _ (h.ps hg).1⟩
/-- the pending writes are others -/
theorem DmAt.set2 {B a s k n : Nat} {D : Dm} {pv : Value} {w : World} (h : DmAt B a s k n D pv w) (pv' : Value) (l : List (Nat × List UInt8)) (hl : ∀ x ∈ l, x.1 < n ∧ x.2.length = 64) (ho : w.ownsRow B 50 65 pv' l.length (cellsW l)) : DmAt B a s k n { D with pend := l } pv' (w.setCell ⟨a, 2, none⟩ pv') := by
  refine ⟨⟨h.ok.n1, h.ok.seen, h.ok.kept, hl, h.ok.left0, h.ok.left1⟩, h.ba, h.bs, h.bk, h.sk, heap_setCell_same h.box 2 _, (heap_setCell_ne _ _ _ _ h.sa).trans h.hseen, (heap_setCell_ne _ _ _ _ h.ka).trans h.hkept, own_of ho fun g hg => heap_setCell_ne _ _ _ _ ?_⟩
  intro e
  obtain ⟨cur, hc⟩ := own_T ho hg
  rw [e, h.box] at hc
  injection hc with hc
  injection hc with _ hc
  exact absurd hc (by decide)
theorem Kd.setCell {a s k : Nat} (w : World) (j : Nat) (v : Value) : Kd a s k w (w.setCell ⟨a, j, none⟩ v) := fun _ _ hj h1 _ _ _ => (heap_setCell_ne _ _ _ _ h1).trans hj
theorem below_setCell {B b : Nat} (w : World) (j : Nat) (v : Value) (hb : B ≤ b) : Below B w (w.setCell ⟨b, j, none⟩ v) := (Below.refl B w).setCell (p := ⟨b, j, none⟩) hb v
/-- behind a method of the drum -/
def DPost (B a s k n : Nat) (D : Dm) (w w' : World) : Prop := (∃ pv, DmAt B a s k n D pv w') ∧ Below B w w' ∧ Kd a s k w w'
theorem DPost.trans {B a s k n : Nat} {D D' : Dm} {w w1 w2 : World} (h : DPost B a s k n D w w1) (g : DPost B a s k n D' w1 w2) : DPost B a s k n D' w w2 := ⟨g.1, h.2.1.trans g.2.1, h.2.2.trans g.2.2⟩
set_option maxHeartbeats 1000000 in
theorem sector_any (b off len cap i : Nat) (h1 : 64 * i + 64 ≤ len) (h2 : len ≤ cap) (h3 : (cap : Int) ≤ 9223372036854775807) (w : World) :
    Calls Try.prog 21 #[.slice (some ⟨b, off, none⟩) len cap, .int .i64 (i : Int)] w fun e w' => e = .returned (.slice (some ⟨b, off + 64 * i, none⟩) 64 (cap - 64 * i)) ∧ w' = w := by
  go_enter Try.func21, Try.ntmps21
  go_wp2
  go_ret
  refine ⟨?_, rfl⟩
  show Ending.returned (Value.slice (some ⟨b, off + i * 64, none⟩) ((i + 1) * 64 - i * 64) (cap - i * 64)) = _
  rw [Nat.mul_comm i 64, show (i + 1) * 64 - 64 * i = 64 by omega]
def spendD (D : Dm) : Dm := if D.armed then (if D.left = 0 then { D with armed := false, gone := true } else { D with left := D.left - 1 }) else D
set_option maxHeartbeats 1000000 in
theorem spend_any {B a s k n : Nat} {D : Dm} {pv : Value} (w : World) (h : DmAt B a s k n D pv w) :
    Calls Try.prog 23 #[.pointer (some ⟨a, 0, none⟩)] w fun e w' => e = .returned (.tuple #[]) ∧ DmAt B a s k n (spendD D) pv w' ∧ Below B w w' ∧ Kd a s k w w' := by
  have c3 := h.c3
  have c4 := h.c4
  have c5 := h.c5
  have f3 := h.fz 3
  have f4 := h.fz 4
  have f5 := h.fz 5
  have l0 := h.ok.left0
  have l1 := h.ok.left1
  have HH : Hid (DmAt B a s k n D pv w) := h
  have hba := h.ba
  clear h
  cases hA : D.armed
  · rw [hA] at c3
    have HD : Hid (spendD D = D) := by show _ = _; simp [spendD, hA]
    clear hA
    go_enter Try.func23, Try.ntmps23
    go_wp2
    first | go_end0 | refine bodyPost_ret (results_none rfl _ _ _) rfl ?_
    rw [HD.out]
    exact ⟨rfl, HH.out, Below.refl _ _, Kd.refl _ _ _ _⟩
  · rw [hA] at c3
    by_cases hl : D.left = 0
    · have HD : Hid (spendD D = { D with armed := false, gone := true }) := by show _ = _; simp [spendD, hA, hl]
      rw [hl] at c4
      clear hA hl l0 l1
      go_enter Try.func23, Try.ntmps23
      go_wp2
      first | go_end0 | refine bodyPost_ret (results_none rfl _ _ _) rfl ?_
      rw [HD.out]
      exact ⟨rfl, (HH.out.set3 false).set5 true, (below_setCell _ _ _ hba).trans (below_setCell _ _ _ hba), (Kd.setCell _ _ _).trans (Kd.setCell _ _ _)⟩
    · have HD : Hid (spendD D = { D with left := D.left - 1 }) := by show _ = _; simp [spendD, hA, hl]
      clear hA
      go_enter Try.func23, Try.ntmps23
      go_wp2
      first | go_end0 | refine bodyPost_ret (results_none rfl _ _ _) rfl ?_
      rw [HD.out]
      exact ⟨rfl, HH.out.set4 _ (by omega) (by omega), below_setCell _ _ _ hba, Kd.setCell _ _ _⟩
def armD (D : Dm) (x : Int) : Dm := if D.gone then D else { D with armed := decide (0 ≤ x), left := max x 0 }
set_option maxHeartbeats 1000000 in
theorem arm_any {B a s k n : Nat} {D : Dm} {pv : Value} (w : World) (h : DmAt B a s k n D pv w) (x : Int) (hx : x ≤ 9223372036854775807) :
    Calls Try.prog 14 #[.pointer (some ⟨a, 0, none⟩), .int .i64 x] w fun e w' => e = .returned (.tuple #[]) ∧ DmAt B a s k n (armD D x) pv w' ∧ Below B w w' ∧ Kd a s k w w' := by
  have c3 := h.c3
  have c4 := h.c4
  have c5 := h.c5
  have f3 := h.fz 3
  have f4 := h.fz 4
  have f5 := h.fz 5
  have HH : Hid (DmAt B a s k n D pv w) := h
  have hba := h.ba
  clear h
  cases hA : D.gone
  · rw [hA] at c5
    by_cases hx0 : 0 ≤ x
    · have HD : Hid (armD D x = { D with armed := true, left := x }) := by
        show _ = _
        have e1 : max x 0 = x := by omega
        simp [armD, hA, hx0, e1]
      clear hA
      go_enter Try.func14, Try.ntmps14
      go_wp2
      first | go_end0 | refine bodyPost_ret (results_none rfl _ _ _) rfl ?_
      rw [HD.out]
      exact ⟨rfl, (HH.out.set3 true).set4 x hx0 hx, (below_setCell _ _ _ hba).trans (below_setCell _ _ _ hba), (Kd.setCell _ _ _).trans (Kd.setCell _ _ _)⟩
    · have HD : Hid (armD D x = { D with armed := false, left := 0 }) := by
        show _ = _
        have e1 : max x 0 = 0 := by omega
        simp [armD, hA, hx0, e1]
      clear hA
      go_enter Try.func14, Try.ntmps14
      go_wp2
      first | go_end0 | refine bodyPost_ret (results_none rfl _ _ _) rfl ?_
      rw [HD.out]
      exact ⟨rfl, (HH.out.set3 false).set4 0 (by decide) (by decide), (below_setCell _ _ _ hba).trans (below_setCell _ _ _ hba), (Kd.setCell _ _ _).trans (Kd.setCell _ _ _)⟩
  · rw [hA] at c5
    have HD : Hid (armD D x = D) := by show _ = _; simp [armD, hA]
    clear hA
    go_enter Try.func14, Try.ntmps14
    go_wp2
    first | go_end0 | refine bodyPost_ret (results_none rfl _ _ _) rfl ?_
    rw [HD.out]
    exact ⟨rfl, HH.out, Below.refl _ _, Kd.refl _ _ _ _⟩
end Go.Proofs.Ytjmlklikmcaalaa.Dm
