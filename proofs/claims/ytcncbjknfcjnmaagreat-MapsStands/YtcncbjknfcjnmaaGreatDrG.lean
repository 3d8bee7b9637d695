/-
  Rows of one's own; lots in memory; the region in which one more lot is put behind the others.
-/
import Derived.Test.YtcncbjknfcjnmaaGreatDrE
import Derived.Laws.OwnMore
import Derived.StillTail
namespace Go.Proofs.YtcncbjknfcjnmaaGreat.Dr
open Go.ChangeShapes Go.WideShapes Go.ChangeAt Go.RowKit
theorem held_one {P : Program} {ops : Array Oper} {Q : Exit → Act → World → Prop} {md : Region.Mode} {S : World → Prop} {i : Nat} {o : Oper} {fuel : Nat} {listed : Array Bool} {a : Act} {w : World} (hr : Region.ready md ops listed = [i]) (ho' : ops.toList[i]? = some o) (hg : Region.wanted o (yielded ops a.tmps) = true)
    (h : ∀ K : Act → World → Prop, Hid (∀ a' w', S w' → wpAnyH P md ops Q S fuel (listed.setIfInBounds i true) a' w' → K a' w') → o.wp P a w K Q) : wpAnyH P md ops Q S (fuel + 1) listed a w := by
  have ho : ops[i]? = some o := by simpa using ho'
  refine wpAnyH_all hr (by simp) (fun j hj => ?_)
  obtain rfl : j = i := by simpa using hj
  unfold wpOp
  simp only [ho]
  rw [if_pos hg]
  exact .inl (h _ (fun _ _ h1 h2 => ⟨h1, h2⟩))
theorem held_take {P : Program} {ops : Array Oper} {Q : Exit → Act → World → Prop} {md : Region.Mode} {S : World → Prop} {i : Nat} {oi : Oper} {v : Value} {fuel : Nat} {listed : Array Bool} {a : Act} {w : World} (hi : ops.toList[i]? = some oi)
    (hB : (Region.noSelect ops && Region.free md ops listed i && (Region.ready md ops listed).contains i) = true)
    (hQ : ∀ c a w, Q (.panic c) (a.put oi.dst v) w → Q (.panic c) a w) (hy : YieldsIf P ops S oi v a) (hS : S w)
    (h : wpAnyH P md ops Q S fuel (listed.setIfInBounds i true) (a.put oi.dst v) w) : wpAnyH P md ops Q S (fuel + 1) listed a w := by
  simp only [Bool.and_eq_true] at hB
  exact wpAnyH_take (by simpa using hi) hB.1.1 hB.1.2 hB.2 hQ hy hS h
theorem held_start {P : Program} {ops : Array Oper} {Q : Exit → Act → World → Prop} {S : World → Prop} {id : Nat} {a : Act} {w : World} (hm : P.follows .mixedOrders = true) (h : wpAnyH P .any ops (NoPanic Q) S ops.size (Array.replicate ops.size false) a w.drew) : (Code.region id ops true).wp P Q a w :=
  wp_region_noPanic (wp_region_held hm h)
/-- a region of a body, by its number -/
def regionOf (n : Nat) : Code → Option Code
  | .region id ops d => if id = n then some (.region id ops d) else none
  | .loop c => regionOf n c
  | .seq a b => match regionOf n a with
    | some c => some c
    | none => regionOf n b
  | .block _ c => regionOf n c
  | .scope c => regionOf n c
  | .cond _ a b => match regionOf n a with
    | some c => some c
    | none => regionOf n b
  | _ => none
theorem info46 : (Tryz.prog.info? 185).map (fun i => (i.zero, i.size, i.bytes)) = some (some (.agg #[.int .i64 0, .int .i64 0, .int .i64 0]), 3, 24) := by kernel_rfl
theorem info37 : (Tryz.prog.info? 148).map (fun i => (i.zero, i.size, i.bytes)) = some (some (.agg #[.int .i64 0, .int .i64 0]), 2, 16) := by kernel_rfl
theorem info3 : (Tryz.prog.info? 3).map (fun i => (i.zero, i.size, i.bytes)) = some (some (.int .i64 0), 1, 8) := by kernel_rfl
theorem addr_add (b off i : Nat) : (⟨b, off, none⟩ : Addr).add i = ⟨b, off + i, none⟩ := by
  by_cases h : i = 0
  · subst h; simp [Addr.add]
  · simp [Addr.add, h]
theorem below_grownBy {a b : World} (h : Below a.heap.size a b) (row : Option Nat) : a.grownBy b row := by
  obtain ⟨h1, h2, h3, h4, h5⟩ := h
  exact ⟨by first | exact h1 | exact h2 | exact h3, by first | exact h1 | exact h2 | exact h3, by first | exact h1 | exact h2 | exact h3, h4, fun k hk _ => h5 k hk⟩
theorem own_below {a b : World} {B T n : Nat} {v : Value} {m : Nat} {xs : List Value} (h : a.ownsRow B T n v m xs) (hb : Below a.heap.size a b) : b.ownsRow B T n v m xs := by
  refine h.kept (below_grownBy hb none) ?_
  cases hv : v.ownBlock <;> simp
theorem own_alloc {w : World} {B T m : Nat} {v : Value} {n : Nat} {xs : List Value} (h : w.ownsRow B T m v n xs) (o : Obj) : (w.alloc o).ownsRow B T m v n xs := own_below h (below_alloc w o)
theorem cells_lit (w : World) (cs : List Value) (t : TypeId) : ∀ j u, cs[j]? = some u → (w.alloc (.cells cs.toArray t)).cell? ((⟨w.heap.size, 0, none⟩ : Addr).add j) = some u := by
  intro j u hj
  rw [addr_add, Nat.zero_add]
  unfold World.cell?
  rw [heap_alloc_new]
  simpa using hj
theorem grownBy_cell {a b : World} {row : Option Nat} (h : a.grownBy b row) {p : Addr} (hp : p.block < a.heap.size) (hne : some p.block ≠ row) : b.cell? p = a.cell? p := World.cell?_of_block (h.block p.block hp hne)
theorem grownBy_trans {a b c : World} {r : Option Nat} (h : a.grownBy b r) (k : b.grownBy c r) : a.grownBy c r := ⟨k.os.trans h.os, k.tape.trans h.tape, k.output.trans h.output, Nat.le_trans h.size k.size, fun j hj hne => (k.block j (Nat.lt_of_lt_of_le hj h.size) hne).trans (h.block j hj hne)⟩
/-- a lot, as it lies -/
def lotCells (key : Nat) (c : Ch) : List Value := [.int .i64 c.1, .int .i64 c.2, .int .i64 (costOf key c.1)]
def cellsLot (key : Nat) (L : List Ch) : List Value := L.flatMap (lotCells key)
theorem cellsLot_snoc (key : Nat) (L : List Ch) (c : Ch) : cellsLot key (L ++ [c]) = cellsLot key L ++ lotCells key c := by
  unfold cellsLot; simp
theorem cellsLot_length (key : Nat) (L : List Ch) : (cellsLot key L).length = L.length * 3 := by
  induction L with
  | nil => rfl
  | cons c L ih => unfold cellsLot at *; rw [List.flatMap_cons, List.length_append, ih]; simp [lotCells]; omega
set_option maxHeartbeats 4000000 in
set_option maxRecDepth 60000 in
theorem lot_put (t1 t2 t3 t4 t6 t8 t9 t10 t11 t12 t13 t14 t15 t16 t17 t18 t19 t20 t21 t22 t23 t24 t25 t26 t27 t28 t29 t30 t31 t32 t33 : Value) (X B key : Nat) (c1 c2 : Int) (lv : Value) (L : List Ch) (w1 : World) (Q : Exit → Act → World → Prop)
    (hk : key < 18446744073709551616) (x0 : w1.cell? ⟨X, 0, none⟩ = some (.int .i64 c1)) (x1 : w1.cell? ⟨X, 1, none⟩ = some (.int .i64 c2)) (hX : X < w1.heap.size) (hown : w1.ownsRow B 185 3 lv L.length (cellsLot key L)) (hB : B ≤ w1.heap.size) (hne : lv.ownBlock ≠ some X) (hlen : L.length ≤ 64)
    (hQ : Hid (∀ (u20 u21 u22 u23 u24 u25 u26 u27 u28 u29 u30 u31 : Value) (v' : Value) (wC : World), wC.ownsRow B 185 3 v' (L ++ [(c1, c2)]).length (cellsLot key (L ++ [(c1, c2)])) → w1.grownBy wC lv.ownBlock → Q .normal ⟨#[.int .u64 (key : Int), t1, t2, t3, t4, v', t6, .pointer (some ⟨X, 0, none⟩), t8, t9, t10, t11, t12, t13, t14, t15, t16, t17, t18, t19, u20, u21, u22, u23, u24, u25, u26, u27, u28, u29, u30, u31, t32, t33], []⟩ wC)) :
    Code.wp Tryz.prog ((Tryz.f162.body.bind (regionOf 8)).getD .skip) Q ⟨#[.int .u64 (key : Int), t1, t2, t3, t4, lv, t6, .pointer (some ⟨X, 0, none⟩), t8, t9, t10, t11, t12, t13, t14, t15, t16, t17, t18, t19, t20, t21, t22, t23, t24, t25, t26, t27, t28, t29, t30, t31, t32, t33], []⟩ w1 := by
  obtain ⟨i0, hi, hz0, hz1, hz2⟩ := info_parts info46
  have HS : Hid (∀ w', Below w1.heap.size w1 w' → (fun w' => w'.cell? ⟨X, 0, none⟩ = some (.int .i64 c1) ∧ w'.cell? ⟨X, 1, none⟩ = some (.int .i64 c2)) w') := fun w' h => ⟨(h.cell (p := ⟨X, 0, none⟩) hX).trans x0, (h.cell (p := ⟨X, 1, none⟩) hX).trans x1⟩
  have HOWN : Hid (w1.ownsRow B 185 3 lv L.length (cellsLot key L)) := hown
  have HXX : Hid (w1.cell? ⟨X, 0, none⟩ = some (.int .i64 c1) ∧ w1.cell? ⟨X, 1, none⟩ = some (.int .i64 c2)) := ⟨x0, x1⟩
  have HL : Hid (L.length ≤ 64) := hlen
  clear hown x0 x1 hlen
  have hS := HS.out w1.drew (below_drew w1)
  conv => arg 2; whnf
  refine held_start (S := (fun w' => w'.cell? ⟨X, 0, none⟩ = some (.int .i64 c1) ∧ w'.cell? ⟨X, 1, none⟩ = some (.int .i64 c2))) mixed5 ?_
  refine held_take (i := 0) (v := lv) rfl (by kernel_rfl) (fun _ _ _ h => h) (.inl ⟨rfl, fun w hS => ?_⟩) hS ?_
  · obtain ⟨s1, s2⟩ := hS
    go_simp
  simp only [Act.put, List.setIfInBounds_toArray, List.set_cons_zero, List.set_cons_succ]
  refine held_take (i := 1) (v := .pointer (some ⟨X, 0, none⟩)) rfl (by kernel_rfl) (fun _ _ _ h => h) (.inl ⟨rfl, fun w hS => ?_⟩) hS ?_
  · obtain ⟨s1, s2⟩ := hS
    go_simp
  simp only [Act.put, List.setIfInBounds_toArray, List.set_cons_zero, List.set_cons_succ]
  refine held_take (i := 2) (v := .int .i64 c1) rfl (by kernel_rfl) (fun _ _ _ h => h) (.inl ⟨rfl, fun w hS => ?_⟩) hS ?_
  · obtain ⟨s1, s2⟩ := hS
    go_simp
  simp only [Act.put, List.setIfInBounds_toArray, List.set_cons_zero, List.set_cons_succ]
  refine held_take (i := 3) (v := .pointer (some ⟨X, 1, none⟩)) rfl (by kernel_rfl) (fun _ _ _ h => h) (.inl ⟨rfl, fun w hS => ?_⟩) hS ?_
  · obtain ⟨s1, s2⟩ := hS
    go_simp
  simp only [Act.put, List.setIfInBounds_toArray, List.set_cons_zero, List.set_cons_succ]
  refine held_take (i := 4) (v := .int .i64 c2) rfl (by kernel_rfl) (fun _ _ _ h => h) (.inl ⟨rfl, fun w hS => ?_⟩) hS ?_
  · obtain ⟨s1, s2⟩ := hS
    go_simp
  simp only [Act.put, List.setIfInBounds_toArray, List.set_cons_zero, List.set_cons_succ]
  refine held_take (i := 5) (v := .int .u64 (key : Int)) rfl (by kernel_rfl) (fun _ _ _ h => h) (.inl ⟨rfl, fun w hS => ?_⟩) hS ?_
  · obtain ⟨s1, s2⟩ := hS
    go_simp
  simp only [Act.put, List.setIfInBounds_toArray, List.set_cons_zero, List.set_cons_succ]
  refine held_take (i := 6) (v := .pointer (some ⟨X, 0, none⟩)) rfl (by kernel_rfl) (fun _ _ _ h => h) (.inl ⟨rfl, fun w hS => ?_⟩) hS ?_
  · obtain ⟨s1, s2⟩ := hS
    go_simp
  simp only [Act.put, List.setIfInBounds_toArray, List.set_cons_zero, List.set_cons_succ]
  refine held_take (i := 7) (v := .int .i64 c1) rfl (by kernel_rfl) (fun _ _ _ h => h) (.inl ⟨rfl, fun w hS => ?_⟩) hS ?_
  · obtain ⟨s1, s2⟩ := hS
    go_simp
  simp only [Act.put, List.setIfInBounds_toArray, List.set_cons_zero, List.set_cons_succ]
  refine held_one (i := 8) (by kernel_rfl) rfl rfl ?_
  intro K hK
  go_simp
  go_at_call 174
  refine (cost5_any key c1 _ hk).mono ?_
  rintro en w3 ⟨rfl, hg3⟩
  have hb3 : Below w1.heap.size w1 w3 := below2 (below_drew w1) (grown_below hg3)
  refine hK.out _ _ (HS.out w3 hb3) ?_
  clear hK hS hg3
  have hS := HS.out w3 hb3
  refine held_take (i := 9) (v := .agg #[.int .i64 c1, .int .i64 c2, .int .i64 (costOf key c1)]) rfl (by kernel_rfl) (fun _ _ _ h => h) (.inl ⟨rfl, fun w hS => ?_⟩) hS ?_
  · obtain ⟨s1, s2⟩ := hS
    go_simp
  simp only [Act.put, List.setIfInBounds_toArray, List.set_cons_zero, List.set_cons_succ]
  refine held_one (i := 10) (by kernel_rfl) rfl rfl ?_
  intro K hK
  go_simp
  have hb4 : Below w1.heap.size w1 (w3.alloc (.cells #[.int .i64 c1, .int .i64 c2, .int .i64 (costOf key c1)] 185)) := hb3.alloc hb3.size _
  have hnews := cells_lit w3 (lotCells key (c1, c2)) 185
  refine hK.out _ _ (HS.out _ hb4) ?_
  clear hK hS
  have hS := HS.out _ hb4
  have hw4 : w3.alloc (.cells (lotCells key (c1, c2)).toArray 185) = w3.alloc (.cells #[.int .i64 c1, .int .i64 c2, .int .i64 (costOf key c1)] 185) := rfl
  rw [hw4] at hnews
  have hs4 : w1.heap.size ≤ (w3.alloc (.cells #[.int .i64 c1, .int .i64 c2, .int .i64 (costOf key c1)] 185)).heap.size := hb4.size
  generalize w3.alloc (.cells #[.int .i64 c1, .int .i64 c2, .int .i64 (costOf key c1)] 185) = w4 at *
  refine held_one (i := 11) (by kernel_rfl) rfl rfl ?_
  intro K hK
  refine wp_append_own w4 (.tmp 20) (.tmp 30) 181 rfl B 185 i0 (.agg #[.int .i64 0, .int .i64 0, .int .i64 0]) 3 24 Tryz.underlying181 hi hz0 hz1 hz2 rfl (by decide) lv L.length (cellsLot key L) rfl (own_below HOWN.out hb4) ⟨w3.heap.size, 0, none⟩ 1 1 (lotCells key (c1, c2)) rfl rfl hnews (by intro u hu; simp [lotCells] at hu; rcases hu with rfl | rfl | rfl <;> rfl) (by unfold maxLen; have := HL.out; omega) (by have := HL.out; omega) (Nat.le_trans hB hs4) ?_
  intro v5 w5 hown5 hg5 _
  have hXn : some X ≠ lv.ownBlock := fun e => hne e.symm
  have hS5 : (fun w' => w'.cell? ⟨X, 0, none⟩ = some (.int .i64 c1) ∧ w'.cell? ⟨X, 1, none⟩ = some (.int .i64 c2)) w5 := ⟨(grownBy_cell hg5 (p := ⟨X, 0, none⟩) (Nat.lt_of_lt_of_le hX hs4) hXn).trans hS.1, (grownBy_cell hg5 (p := ⟨X, 1, none⟩) (Nat.lt_of_lt_of_le hX hs4) hXn).trans hS.2⟩
  refine hK.out _ _ hS5 ?_
  clear hK hS
  have hS := hS5
  simp only [Act.put, List.setIfInBounds_toArray, List.set_cons_zero, List.set_cons_succ]
  refine held_take (i := 12) (v := v5) rfl (by kernel_rfl) (fun _ _ _ h => h) (.inl ⟨rfl, fun w hS => ?_⟩) hS ?_
  · obtain ⟨s1, s2⟩ := hS
    go_simp
  simp only [Act.put, List.setIfInBounds_toArray, List.set_cons_zero, List.set_cons_succ]
  refine wpAnyH_done (by kernel_rfl) ?_ _
  refine NoPanic.normal ?_
  refine hQ.out _ _ _ _ _ _ _ _ _ _ _ _ v5 w5 ?_ ?_
  · rw [cellsLot_snoc, List.length_append]
    exact hown5
  · exact grownBy_trans (below_grownBy hb4 lv.ownBlock) hg5
end Go.Proofs.YtcncbjknfcjnmaaGreat.Dr
