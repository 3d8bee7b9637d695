/-
  A region that draws, by hand; the region of writeOne in which one more write is pending.
-/
import Derived.Test.YtjmlklikmcaalaaDmR
namespace Go.Proofs.Ytjmlklikmcaalaa.Dm
open Go.ChangeShapes Go.WideShapes Go.ChangeAt Go.RowKit
theorem mixed9 : Try.prog.follows .mixedOrders = true := by kernel_rfl
theorem held_one {P : Program} {ops : Array Oper} {Q : Exit → Act → World → Prop} {md : Region.Mode} {S : World → Prop} {i : Nat} {o : Oper} {fuel : Nat} {listed : Array Bool} {a : Act} {w : World} (hr : Region.ready md ops listed = [i]) (ho' : ops.toList[i]? = some o) (hg : Region.wanted o (yielded ops a.tmps) = true)
    (h : ∀ K : Act → World → Prop, Hid (∀ a' w', S w' → wpAnyH P md ops Q S fuel (listed.setIfInBounds i true) a' w' → K a' w') → o.wp P a w K Q) : wpAnyH P md ops Q S (fuel + 1) listed a w := by
  have ho : ops[i]? = some o := by simpa using ho'
  refine wpAnyH_all hr (by simp) (fun j hj => ?_)
  obtain rfl : j = i := by simpa using hj
  unfold wpOp
  simp only [ho]
  rw [if_pos hg]
  exact .inl (h _ (fun _ _ h1 h2 => ⟨h1, h2⟩))
theorem held_take {P : Program} {ops : Array Oper} {Q : Exit → Act → World → Prop} {md : Region.Mode} {S : World → Prop} {i : Nat} {oi : Oper} {v : Value} {fuel : Nat} {listed : Array Bool} {a : Act} {w : World} (hi : ops.toList[i]? = some oi)
    (hB : (Region.noSelect ops && Region.free md ops listed i && (Region.ready md ops listed).contains i) = true)
    (hQ : ∀ c a w, Q (.panic c) (a.put oi.dst v) w → Q (.panic c) a w) (hy : YieldsIf P ops S oi v a) (hS : S w)
    (h : wpAnyH P md ops Q S fuel (listed.setIfInBounds i true) (a.put oi.dst v) w) : wpAnyH P md ops Q S (fuel + 1) listed a w := by
  simp only [Bool.and_eq_true] at hB
  exact wpAnyH_take (by simpa using hi) hB.1.1 hB.1.2 hB.2 hQ hy hS h
theorem held_start {P : Program} {ops : Array Oper} {Q : Exit → Act → World → Prop} {S : World → Prop} {id : Nat} {a : Act} {w : World} (hm : P.follows .mixedOrders = true) (h : wpAnyH P .any ops (NoPanic Q) S ops.size (Array.replicate ops.size false) a w.drew) : (Code.region id ops true).wp P Q a w :=
  wp_region_noPanic (wp_region_held hm h)
/-- a region of a body, by its number -/
def regionOf (n : Nat) : Code → Option Code
  | .region id ops d => if id = n then some (.region id ops d) else none
  | .loop c => regionOf n c
  | .seq a b => match regionOf n a with
    | some c => some c
    | none => regionOf n b
  | .block _ c => regionOf n c
  | .scope c => regionOf n c
  | .cond _ a b => match regionOf n a with
    | some c => some c
    | none => regionOf n b
  | _ => none
theorem below_drew (w : World) : Below w.heap.size w w.drew := ⟨rfl, rfl, rfl, Nat.le_refl _, fun _ _ => rfl⟩
theorem below2 {a b c : World} (h : Below a.heap.size a b) (k : Below b.heap.size b c) : Below a.heap.size a c := h.trans ⟨k.os, k.tape, k.output, k.size, fun j hj => k.block j (Nat.lt_of_lt_of_le hj h.size)⟩
theorem cells_lit (w : World) (cs : List Value) (t : TypeId) : ∀ j u, cs[j]? = some u → (w.alloc (.cells cs.toArray t)).cell? ((⟨w.heap.size, 0, none⟩ : Addr).add j) = some u := by
  intro j u hj
  rw [addr_add, Nat.zero_add]
  unfold World.cell?
  rw [heap_alloc_new]
  simpa using hj
/-- noughts, and a sector's number ahead of them -/
def zerosB : List Value := List.replicate 64 (.int .u8 0)
theorem zeroW (w : World) : (zeroValue 50).run Try.prog w = .ok (.agg (.int .i64 0 :: zerosB).toArray) w := by kernel_rfl
theorem buildW (p : Int) (w : World) : (Instr.build 50 #[(0, .int .i64 p)]).run Try.prog w = .ok (.agg (.int .i64 p :: zerosB).toArray) w := by kernel_rfl
theorem fill_seg : ∀ (l : List Value) (m : Nat) (cur : Array Value), m + l.length ≤ cur.size → (l.zipIdx m).foldl (fun cs x => cs.setIfInBounds (0 + x.2) x.1) cur = (cur.toList.take m ++ l ++ cur.toList.drop (m + l.length)).toArray
  | [], m, cur, _ => by simp
  | v :: l, m, cur, h => by
    have h' : m + (l.length + 1) ≤ cur.size := by simpa using h
    rw [List.zipIdx_cons, List.foldl_cons, fill_seg l (m + 1) _ (by simp; omega)]
    have e := list_seg_step cur.toList m v l (by simpa using h')
    simp only [Nat.zero_add, Array.toList_setIfInBounds, List.length_cons]
    rw [e]
theorem fill_all (l : List Value) (cur : Array Value) (h : cur.size = l.length) : l.zipIdx.foldl (fun cs x => cs.setIfInBounds x.2 x.1) cur = l.toArray := by
  have e := fill_seg l 0 cur (by omega)
  simp only [Nat.zero_add] at e
  rw [e]
  simp [h]
theorem zerosB_length : zerosB.length = 64 := rfl
theorem sliceW (l : List Value) (h : l.length = 65) (w : World) : (Instr.buildSlice 41 1 #[(0, .agg l.toArray)]).run Try.prog w = .ok (.slice (some ⟨w.heap.size, 0, none⟩) 1 1) (w.alloc (.cells l.toArray 50)) := by
  have e := fun cur hc => fill_all l cur hc
  simp [Instr.buildSlice, run_underlying Try.underlying41, Try.sizeOf50, zeroW, Instr.fill, Value.cells, h, newRow, zerosB_length]
  rw [e _ (by simp [h])]
theorem wp_of_run {P : Program} {o : Oper} {a : Act} {w w' : World} {K : Act → World → Prop} {Q : Exit → Act → World → Prop} {v : Value} (h : (execOp a.eval o).run P w = .ok (.value v) w') (hK : K (a.put o.dst v) w') : o.wp P a w K Q := by
  unfold Oper.wp
  simp [h]
  exact hK
theorem wp_of_skip {P : Program} {o : Oper} {a : Act} {w w' : World} {K : Act → World → Prop} {Q : Exit → Act → World → Prop} (h : (execOp a.eval o).run P w = .ok .skip w') (hK : K (a.put o.dst undef) w') : o.wp P a w K Q := by
  unfold Oper.wp
  simp [h]
  exact hK
theorem DmAt.append {B a s k n : Nat} {D : Dm} {pv pv' : Value} {w w' : World} (h : DmAt B a s k n D pv w) (hh : ∀ j, (j = a ∨ j = s ∨ j = k) → w'.heap[j]? = w.heap[j]?) (l : List (Nat × List UInt8)) (hl : ∀ x ∈ l, x.1 < n ∧ x.2.length = 64) (ho : w'.ownsRow B 50 65 pv' l.length (cellsW l)) : DmAt B a s k n { D with pend := l } pv' (w'.setCell ⟨a, 2, none⟩ pv') := by
  have hbox := (hh a (.inl rfl)).trans h.box
  refine ⟨⟨h.ok.n1, h.ok.seen, h.ok.kept, hl, h.ok.left0, h.ok.left1⟩, h.ba, h.bs, h.bk, h.sk, heap_setCell_same hbox 2 _, (heap_setCell_ne _ _ _ _ h.sa).trans ((hh s (.inr (.inl rfl))).trans h.hseen), (heap_setCell_ne _ _ _ _ h.ka).trans ((hh k (.inr (.inr rfl))).trans h.hkept), own_of ho fun g hg => heap_setCell_ne _ _ _ _ ?_⟩
  intro e
  obtain ⟨cur, hc⟩ := own_T ho hg
  rw [e, hbox] at hc
  injection hc with hc
  injection hc with _ hc
  exact absurd hc (by decide)
theorem Kd.grown {B a s k n : Nat} {D : Dm} {pv : Value} {w w' : World} (h : DmAt B a s k n D pv w) (hg : w.grownBy w' pv.ownBlock) : Kd a s k w w' := by
  intro j o hj _ _ _ h50
  have hlt : j < w.heap.size := (Array.getElem?_eq_some_iff.1 hj).1
  refine (hg.block j hlt fun e => ?_).trans hj
  obtain ⟨cur, hc⟩ := own_T h.own e.symm
  rw [hj] at hc
  exact h50 _ _ (Option.some.inj hc)
theorem below_grown {B : Nat} {w w' : World} {row : Option Nat} (hg : w.grownBy w' row) (hr : ∀ g, row = some g → B ≤ g) (hB : B ≤ w.heap.size) : Below B w w' := ⟨hg.os, hg.tape, hg.output, hg.size, fun j hj => hg.block j (by omega) fun e => by have := hr j e.symm; omega⟩
theorem infoW : (Try.prog.info? 50).map (fun i => (i.zero, i.size, i.bytes)) = some (some (.agg (.int .i64 0 :: zerosB).toArray), 65, 72) := by kernel_rfl
set_option maxHeartbeats 4000000 in
set_option maxRecDepth 60000 in
theorem write_put (t1 t2 t3 t4 t5 t7 t8 t9 t10 t11 t12 t13 t14 t15 t16 t17 t18 t19 t20 t21 t22 t23 t24 t25 t26 t27 t28 t29 t30 t31 t32 t33 t34 t35 t36 : Value) (B a s k n x p : Nat) (c : List UInt8) (D : Dm) (pv : Value) (w1 : World) (Q : Exit → Act → World → Prop)
    (h : DmAt B a s k n D pv w1) (hx : w1.heap[x]? = some (.cells (.int .i64 (p : Int) :: cellsB c).toArray 50 (0, 0))) (hc : c.length = 64) (hxo : pv.ownBlock ≠ some x) (hp : p < n) (hlen : (D.pend.length : Int) ≤ 100000) (hB : B ≤ w1.heap.size)
    (hQ : Hid (∀ (u27 u28 u29 u30 u31 u32 u33 u34 u35 u36 : Value) (wC : World), DPost B a s k n { D with pend := D.pend ++ [(p, c)] } w1 wC → Q .normal ⟨#[.pointer (some ⟨a, 0, none⟩), t1, t2, t3, t4, t5, .pointer (some ⟨x, 0, none⟩), t7, t8, t9, t10, t11, t12, t13, t14, t15, t16, t17, t18, t19, t20, t21, t22, t23, t24, t25, t26, u27, u28, u29, u30, u31, u32, u33, u34, u35, u36], []⟩ wC)) :
    Code.wp Try.prog ((Try.f20.body.bind (regionOf 5)).getD .skip) Q ⟨#[.pointer (some ⟨a, 0, none⟩), t1, t2, t3, t4, t5, .pointer (some ⟨x, 0, none⟩), t7, t8, t9, t10, t11, t12, t13, t14, t15, t16, t17, t18, t19, t20, t21, t22, t23, t24, t25, t26, t27, t28, t29, t30, t31, t32, t33, t34, t35, t36], []⟩ w1 := by
  obtain ⟨i0, hi, hz0, hz1, hz2⟩ := info_parts infoW
  have hxl : x < w1.heap.size := (Array.getElem?_eq_some_iff.1 hx).1
  have hal : a < w1.heap.size := h.lt (.inl rfl)
  have HS : Hid (∀ w', Below w1.heap.size w1 w' → (fun w' => w'.cell? ⟨a, 2, none⟩ = some pv ∧ w'.frozen? ⟨a, 2, none⟩ = false ∧ ∀ j v, (Value.int .i64 (p : Int) :: cellsB c)[j]? = some v → w'.cell? ((⟨x, 0, none⟩ : Addr).add j) = some v) w') := fun w' hw => by
    refine ⟨(hw.cell (p := ⟨a, 2, none⟩) hal).trans h.c2, (hw.frozen (p := ⟨a, 2, none⟩) hal).trans (h.fz 2), fun j v hj => ?_⟩
    rw [addr_add, Nat.zero_add, hw.cell (p := ⟨x, j, none⟩) hxl, cell_of_heap hx]
    simpa using hj
  have HH : Hid (DmAt B a s k n D pv w1) := h
  have HL : Hid ((D.pend.length : Int) ≤ 100000) := hlen
  have HC : Hid (c.length = 64) := hc
  clear h hx hlen hc
  have hS := HS.out w1.drew (below_drew w1)
  conv => arg 2; whnf
  refine wp_region_but (S := (fun w' => w'.cell? ⟨a, 2, none⟩ = some pv ∧ w'.frozen? ⟨a, 2, none⟩ = false ∧ ∀ j v, (Value.int .i64 (p : Int) :: cellsB c)[j]? = some v → w'.cell? ((⟨x, 0, none⟩ : Addr).add j) = some v)) (n := 10) mixed9 ?_
  refine but_take (i := 0) (v := .pointer (some ⟨a, 0, none⟩)) rfl (by kernel_rfl) (fun _ _ _ h => h) (.inl ⟨rfl, fun w hS => ?_⟩) hS ?_
  · obtain ⟨s1, s2, s3⟩ := hS
    go_simp
  simp only [Act.put, List.setIfInBounds_toArray, List.set_cons_zero, List.set_cons_succ]
  refine but_take (i := 1) (v := .pointer (some ⟨a, 0, none⟩)) rfl (by kernel_rfl) (fun _ _ _ h => h) (.inl ⟨rfl, fun w hS => ?_⟩) hS ?_
  · obtain ⟨s1, s2, s3⟩ := hS
    go_simp
  simp only [Act.put, List.setIfInBounds_toArray, List.set_cons_zero, List.set_cons_succ]
  refine but_take (i := 2) (v := .pointer (some ⟨a, 0, none⟩)) rfl (by kernel_rfl) (fun _ _ _ h => h) (.inl ⟨rfl, fun w hS => ?_⟩) hS ?_
  · obtain ⟨s1, s2, s3⟩ := hS
    go_simp
  simp only [Act.put, List.setIfInBounds_toArray, List.set_cons_zero, List.set_cons_succ]
  refine but_take (i := 3) (v := .pointer (some ⟨a, 2, none⟩)) rfl (by kernel_rfl) (fun _ _ _ h => h) (.inl ⟨rfl, fun w hS => ?_⟩) hS ?_
  · obtain ⟨s1, s2, s3⟩ := hS
    go_simp
  simp only [Act.put, List.setIfInBounds_toArray, List.set_cons_zero, List.set_cons_succ]
  refine but_take (i := 4) (v := pv) rfl (by kernel_rfl) (fun _ _ _ h => h) (.inl ⟨rfl, fun w hS => ?_⟩) hS ?_
  · obtain ⟨s1, s2, s3⟩ := hS
    go_simp
  simp only [Act.put, List.setIfInBounds_toArray, List.set_cons_zero, List.set_cons_succ]
  refine but_take (i := 5) (v := .agg (Value.int .i64 (p : Int) :: cellsB c).toArray) rfl (by kernel_rfl) (fun _ _ _ h => h) (.inl ⟨rfl, fun w hS => ?_⟩) hS ?_
  · obtain ⟨s1, s2, s3⟩ := hS
    have hl := run_loadCells_list (P := Try.prog) w ⟨x, 0, none⟩ _ s3
    rw [show (Value.int .i64 (p : Int) :: cellsB c).length = 65 by simp [cellsB, HC.out]] at hl
    simp [execOp, Act.eval, Instr.loadAt, Instr.sureAddr, loadVar, Try.isAgg50, Try.sizeOf50, hl]
  simp only [Act.put, List.setIfInBounds_toArray, List.set_cons_zero, List.set_cons_succ]
  refine but_one (i := 6) (by kernel_rfl) rfl rfl ?_
  intro K hK
  refine wp_of_run (v := .slice (some ⟨w1.heap.size, 0, none⟩) 1 1) (w' := w1.drew.alloc (.cells (Value.int .i64 (p : Int) :: cellsB c).toArray 50)) ?_ ?_
  · have e := sliceW (Value.int .i64 (p : Int) :: cellsB c) (by simp [cellsB, HC.out]) w1.drew
    simp [execOp, Act.eval] at e ⊢
    rw [e]
    simp
  have hb4 : Below w1.heap.size w1 (w1.drew.alloc (.cells (Value.int .i64 (p : Int) :: cellsB c).toArray 50)) := (below_drew w1).alloc (Nat.le_refl _) _
  have hnews := cells_lit w1.drew (Value.int .i64 (p : Int) :: cellsB c) 50
  refine hK.out _ _ (fun _ => HS.out _ hb4) ?_
  clear hK hS
  have hS := HS.out _ hb4
  simp only [Act.put, List.setIfInBounds_toArray, List.set_cons_zero, List.set_cons_succ]
  have hs4 := hb4.size
  generalize w1.drew.alloc (.cells (Value.int .i64 (p : Int) :: cellsB c).toArray 50) = w4 at *
  refine but_one (i := 7) (by kernel_rfl) rfl rfl ?_
  intro K hK
  refine wp_append_own w4 (.tmp 31) (.tmp 33) 41 rfl B 50 i0 (.agg (.int .i64 0 :: zerosB).toArray) 65 72 Try.underlying41 hi hz0 hz1 hz2 rfl (by decide) pv D.pend.length (cellsW D.pend) rfl (HH.out.below hb4).own ⟨w1.heap.size, 0, none⟩ 1 1 (Value.int .i64 (p : Int) :: cellsB c) rfl (by simp [cellsB, HC.out]) hnews (by intro u hu; rcases List.mem_cons.1 hu with rfl | hu; exact rfl; exact cellsB_one _ _ hu) (by unfold maxLen; have := HL.out; omega) (by have := HL.out; omega) (Nat.le_trans hB hs4) ?_
  intro v5 w5 hown5 hg5 _
  have hD4 := HH.out.below hb4
  have hna : some a ≠ pv.ownBlock := fun e => (hD4.ps e.symm).1 rfl
  have hns : some s ≠ pv.ownBlock := fun e => (hD4.ps e.symm).2.1 rfl
  have hnk : some k ≠ pv.ownBlock := fun e => (hD4.ps e.symm).2.2 rfl
  have hnx : some x ≠ pv.ownBlock := fun e => hxo e.symm
  have hsl : s < w4.heap.size := hD4.lt (.inr (.inl rfl))
  have hkl : k < w4.heap.size := hD4.lt (.inr (.inr (.inl rfl)))
  have hal4 : a < w4.heap.size := hD4.lt (.inl rfl)
  have hS5 : (fun w' => w'.cell? ⟨a, 2, none⟩ = some pv ∧ w'.frozen? ⟨a, 2, none⟩ = false ∧ ∀ j v, (Value.int .i64 (p : Int) :: cellsB c)[j]? = some v → w'.cell? ((⟨x, 0, none⟩ : Addr).add j) = some v) w5 := by
    refine ⟨(World.cell?_of_block (a := ⟨a, 2, none⟩) (hg5.block a hal4 hna)).trans hS.1, (World.frozen?_of_block (a := ⟨a, 2, none⟩) (hg5.block a hal4 hna)).trans hS.2.1, fun j v hj => ?_⟩
    have := hS.2.2 j v hj
    rw [addr_add] at this ⊢
    exact (World.cell?_of_block (a := ⟨x, 0 + j, none⟩) (hg5.block x (Nat.lt_of_lt_of_le hxl hs4) hnx)).trans this
  refine hK.out _ _ (fun _ => hS5) ?_
  have hP : DPost B a s k n { D with pend := D.pend ++ [(p, c)] } w1 (w5.setCell ⟨a, 2, none⟩ v5) := by
    refine ⟨⟨v5, hD4.append (fun j hj => ?_) _ ?_ ?_⟩, ?_, ?_⟩
    · rcases hj with rfl | rfl | rfl
      · exact hg5.block _ hal4 hna
      · exact hg5.block _ hsl hns
      · exact hg5.block _ hkl hnk
    · intro y hy
      rcases List.mem_append.1 hy with hy | hy
      · exact hD4.ok.pend y hy
      · obtain rfl := List.mem_singleton.1 hy
        exact ⟨hp, HC.out⟩
    · rw [cellsW_snoc, List.length_append]
      exact hown5
    · exact ((Below.trans ⟨hb4.os, hb4.tape, hb4.output, hb4.size, fun j hj => hb4.block j (by omega)⟩ (below_grown hg5 (fun g hg => (hD4.own.lt g hg).1) (by omega))).setCell (p := ⟨a, 2, none⟩) hD4.ba _)
    · exact ((Kd.below hb4).trans (Kd.grown hD4 hg5)).trans (Kd.setCell _ _ _)
  obtain ⟨p7, c7, rfl, -⟩ := own_len hown5
  have hS := hS5
  have HP : Hid (DPost B a s k n { D with pend := D.pend ++ [(p, c)] } w1 (w5.setCell ⟨a, 2, none⟩ (.slice p7 (D.pend.length + 1) c7))) := hP
  clear hK hD4 hP hown5 hg5 hS5 hnews hna hns hnk hnx hsl hkl hb4
  simp only [Act.put, List.setIfInBounds_toArray, List.set_cons_zero, List.set_cons_succ]
  refine but_take (i := 8) (v := .pointer (some ⟨a, 0, none⟩)) rfl (by kernel_rfl) (fun _ _ _ h => h) (.inl ⟨rfl, fun w hS => ?_⟩) hS ?_
  · obtain ⟨s1, s2, s3⟩ := hS
    go_simp
  simp only [Act.put, List.setIfInBounds_toArray, List.set_cons_zero, List.set_cons_succ]
  refine but_take (i := 9) (v := .pointer (some ⟨a, 2, none⟩)) rfl (by kernel_rfl) (fun _ _ _ h => h) (.inl ⟨rfl, fun w hS => ?_⟩) hS ?_
  · obtain ⟨s1, s2, s3⟩ := hS
    go_simp
  simp only [Act.put, List.setIfInBounds_toArray, List.set_cons_zero, List.set_cons_succ]
  obtain ⟨k5, kf, -⟩ := hS
  refine but_one (i := 10) (by kernel_rfl) rfl rfl ?_
  intro K hK
  refine wp_of_skip (w' := w5.setCell ⟨a, 2, none⟩ (.slice p7 (D.pend.length + 1) c7)) ?_ ?_
  · clear hK HP HS HH HL HC hQ
    go_simp
  refine hK.out _ _ (fun h => absurd rfl h) ?_
  simp only [Act.put]
  refine AnyBut.done (by kernel_rfl) ?_ _
  refine NoPanic.normal ?_
  exact hQ.out _ _ _ _ _ _ _ _ _ _ _ HP.out

end Go.Proofs.Ytjmlklikmcaalaa.Dm
