/-
  The reader's endLabel, takeValue and take: one sign is read.
  The reader's takeValue and take: one sign is read, as the plain machine reads it.
-/
import Derived.Test.YtihohcmocejijaaGreatPr02
namespace Go.Proofs.YtihohcmocejijaaGreat.Lb
open Go.ChangeShapes Go.WideShapes Go.ChangeAt Go.RowKit
theorem info46 : (Tryz.prog.info? 112).map (fun i => (i.zero, i.size, i.bytes)) = some (some (.agg #[.string ⟨#[]⟩, .string ⟨#[]⟩]), 2, 32) := by kernel_rfl
theorem step_append_own {P : Program} {ops : Array Oper} {o : Oper} {a : Act} (w : World) {K : Act → World → Prop} {Q : Exit → Act → World → Prop} {E : Prop} (hgd : o.guard = none) (s x : Operand) (t : TypeId)
    (ho : o.op = .call { callee := .builtin .append, args := #[s, x], argTypes := #[t, t] })
    (base : Nat) (e : TypeId) (i : TypeInfo) (z : Value) (size bytes : Nat) (ht : P.underlying t = some (.slice e)) (hi : P.info? e = some i) (hz : i.zero = some z)
    (hsize : i.size = size) (hby : i.bytes = bytes) (hzs : z.cells.size = size) (hsz : 0 < size)
    (v : Value) (n : Nat) (xs : List Value) (hs : a.eval s = v) (hown : w.ownsRow base e size v n xs)
    (ad : Addr) (m c : Nat) (news : List Value) (hx : a.eval x = .slice (some ad) m c) (hl : news.length = m * size) (hnews : ∀ j u, news[j]? = some u → w.cell? (ad.add j) = some u) (h1 : ∀ u ∈ news, u.oneCell' = true)
    (h63 : n + m ≤ maxLen) (hbytes : (n + m) * bytes ≤ 140737488355328) (hbase : base ≤ w.heap.size)
    (h : ∀ v' w', w'.ownsRow base e size v' (n + m) (xs ++ news) → w.grownBy w' v.ownBlock → (v' = .slice none 0 0 ↔ v = .slice none 0 0 ∧ m = 0) → K (a.put o.dst v') w') :
    if Region.wanted o (yielded ops a.tmps) = true then Oper.wp P o a w K Q else E := by
  have hw : Region.wanted o (yielded ops a.tmps) = true := by simp [Region.wanted, hgd]
  rw [if_pos hw]
  exact wp_append_own w s x t ho base e i z size bytes ht hi hz hsize hby hzs hsz v n xs hs hown ad m c news hx hl hnews h1 h63 hbytes hbase h
theorem RdAt.alloc {B R : Nat} {st : St} {w : World} (h : RdAt B R st w) (ob : Obj) : RdAt B R st (w.alloc ob) := by
  obtain ⟨cs, hb, c0, c3, c4, lv, c5, hown⟩ := h
  refine ⟨cs, hb.alloc ob, c0, c3, c4, lv, c5, ?_⟩
  exact hown.kept (World.grownBy_alloc w ob none) (by cases hv : lv.ownBlock <;> simp)
theorem RdAt.cells {B R : Nat} {st : St} {w : World} (h : RdAt B R st w) : ∃ lv, (w.cell? ⟨R, 0, none⟩ = some (.int .i64 ((st.1 : Nat) : Int)) ∧ w.cell? ⟨R, 3, none⟩ = some (.string st.2.2.1) ∧ w.cell? ⟨R, 4, none⟩ = some (.string st.2.2.2.1) ∧ w.cell? ⟨R, 5, none⟩ = some lv) ∧ (w.frozen? ⟨R, 0, none⟩ = false ∧ w.frozen? ⟨R, 3, none⟩ = false ∧ w.frozen? ⟨R, 4, none⟩ = false ∧ w.frozen? ⟨R, 5, none⟩ = false) ∧ w.ownsRow B 112 2 lv st.2.2.2.2.length (cellsLb st.2.2.2.2) := by
  obtain ⟨cs, hb, c0, c3, c4, lv, c5, hown⟩ := h
  have hh := hb.2.2.2.1
  refine ⟨lv, ⟨?_, ?_, ?_, ?_⟩, ⟨?_, ?_, ?_, ?_⟩, hown⟩
  · rw [Lib.cell_of_heap hh]; exact c0
  · rw [Lib.cell_of_heap hh]; exact c3
  · rw [Lib.cell_of_heap hh]; exact c4
  · rw [Lib.cell_of_heap hh]; exact c5
  · exact Lib.frozen_of_heap hh _
  · exact Lib.frozen_of_heap hh _
  · exact Lib.frozen_of_heap hh _
  · exact Lib.frozen_of_heap hh _
theorem RdAt.set3 {B R : Nat} {p : Nat} {wd : List UInt8} {ln sn : ByteArray} {ls : List Lab} {w : World} (h : RdAt B R (p, wd, ln, sn, ls) w) (x : ByteArray) : RPost B R (p, wd, x, sn, ls) w (w.setCell ⟨R, 3, none⟩ (.string x)) := by
  obtain ⟨cs, hb, c0, c3, c4, lv, c5, hown⟩ := h
  have hh := hb.2.2.2.1
  have hsz : cs.size = 6 := by rcases hb.1 with ⟨h, _⟩ | ⟨_, h, _⟩
                               · cases h
                               · exact h
  exact ⟨⟨_, hb.other 3 _ (by decide) (by decide), by simpa using c0, by rw [Array.getElem?_setIfInBounds, if_pos rfl, if_pos (by omega)], by simpa using c4, lv, by simpa using c5, own_set hh hown _ _⟩, (Below.refl B w).setCell (p := ⟨R, 3, none⟩) hb.2.1 _, Kp.setCell _ _ _ _⟩
theorem RdAt.set4 {B R : Nat} {p : Nat} {wd : List UInt8} {ln sn : ByteArray} {ls : List Lab} {w : World} (h : RdAt B R (p, wd, ln, sn, ls) w) (x : ByteArray) : RPost B R (p, wd, ln, x, ls) w (w.setCell ⟨R, 4, none⟩ (.string x)) := by
  obtain ⟨cs, hb, c0, c3, c4, lv, c5, hown⟩ := h
  have hh := hb.2.2.2.1
  have hsz : cs.size = 6 := by rcases hb.1 with ⟨h, _⟩ | ⟨_, h, _⟩
                               · cases h
                               · exact h
  exact ⟨⟨_, hb.other 4 _ (by decide) (by decide), by simpa using c0, by simpa using c3, by rw [Array.getElem?_setIfInBounds, if_pos rfl, if_pos (by omega)], lv, by simpa using c5, own_set hh hown _ _⟩, (Below.refl B w).setCell (p := ⟨R, 4, none⟩) hb.2.1 _, Kp.setCell _ _ _ _⟩
theorem RdAt.box {B R : Nat} {st : St} {w : World} (h : RdAt B R st w) {bx : Nat} {c : Array Value} (hx : w.heap[bx]? = some (.cells c 112 (0, 0))) (hne : ∀ lv, w.cell? ⟨R, 5, none⟩ = some lv → lv.ownBlock ≠ some bx) (j : Nat) (u : Value) : RdAt B R st (w.setCell ⟨bx, j, none⟩ u) := by
  obtain ⟨cs, hb, c0, c3, c4, lv, c5, hown⟩ := h
  have hg : w.grownBy (w.setCell ⟨bx, j, none⟩ u) (some bx) := ⟨rfl, rfl, rfl, by simp [World.setCell], fun k _ hk => Below.heap_setCell _ _ _ _ (fun e => hk (by simp [e]))⟩
  obtain ⟨hP, hB, hBw, hh, hp, v, hv, hownF, hnv, hnil⟩ := hb
  have hRx : R ≠ bx := fun e => by subst e; rw [hh] at hx; cases hx
  have h5 : w.cell? ⟨R, 5, none⟩ = some lv := by rw [Lib.cell_of_heap hh]; exact c5
  refine ⟨cs, ⟨hP, hB, by simpa [World.setCell] using hBw, (Below.heap_setCell _ _ _ _ hRx).trans hh, hp, v, hv, hownF.kept hg (.inr fun e => ?_), hnv, hnil⟩, c0, c3, c4, lv, c5, hown.kept hg (.inr (hne lv h5))⟩
  obtain ⟨c', fz, hc⟩ := Lib.ownsRowF_kind hownF bx e
  rw [hx] at hc
  cases hc
theorem Kp.setNew {R : Nat} {w w1 : World} (h : Kp R w w1) {bx : Nat} (hx : w.heap.size ≤ bx) (j : Nat) (u : Value) : Kp R w (w1.setCell ⟨bx, j, none⟩ u) := fun k o hk hr h5 h46 => by
  have hlt : k < w.heap.size := (Array.getElem?_eq_some_iff.1 hk).1
  rw [Below.heap_setCell _ _ _ _ (show k ≠ bx by omega)]
  exact h k o hk hr h5 h46
def BoxPost (B R bx : Nat) (p : Nat) (ln sn : ByteArray) (ls : List Lab) (x : ByteArray) (w W : World) : Prop :=
  RdAt B R (p, [], ln, sn, ls) W ∧ Below B w W ∧ Kp R w W ∧ W.cell? ⟨bx, 0, none⟩ = some (.string ln) ∧ W.cell? ⟨bx, 1, none⟩ = some (.string x)
theorem box_late {B R : Nat} {p : Nat} {ln sn : ByteArray} {ls : List Lab} {x : ByteArray} {w w1 : World} (h : RPost B R (p, [], ln, sn, ls) w.drew w1) : BoxPost B R w1.heap.size p ln sn ls x w (w1.alloc (.cells #[.string ln, .string x] 112)) := by
  have hB : B ≤ w1.heap.size := h.1.choose_spec.1.2.2.1
  refine ⟨h.1.alloc _, (Below.trans (b := w.drew) (Below.drew (Below.refl B w)) h.2.1).alloc hB _, Kp.trans (b := w1) (fun k o hk hr h5 h46 => h.2.2 k o hk hr h5 h46) (Kp.alloc _ _ _), ?_, ?_⟩
  · rw [Lib.cell_of_heap (heap_alloc_new _ _)]; rfl
  · rw [Lib.cell_of_heap (heap_alloc_new _ _)]; rfl
theorem box_early {B R : Nat} {p : Nat} {wd : List UInt8} {ln sn : ByteArray} {ls : List Lab} {x : ByteArray} {w w1 : World} (h0 : RdAt B R (p, wd, ln, sn, ls) w) (h : RPost B R (p, [], ln, sn, ls) (w.alloc (.cells #[.string ⟨#[]⟩, .string ⟨#[]⟩] 112)).drew w1)
    (hk : Lib.OthersKept 5 (some R) (w.alloc (.cells #[.string ⟨#[]⟩, .string ⟨#[]⟩] 112)).drew w1) (hl : w1.cell? ⟨R, 5, none⟩ = (w.alloc (.cells #[.string ⟨#[]⟩, .string ⟨#[]⟩] 112)).drew.cell? ⟨R, 5, none⟩) :
    BoxPost B R w.heap.size p ln sn ls x w ((w1.setCell ⟨w.heap.size, 0, none⟩ (.string ln)).setCell ⟨w.heap.size, 1, none⟩ (.string x)) := by
  obtain ⟨cs, hb, c0, c3, c4, lv, c5, hown⟩ := h0
  have hh := hb.2.2.2.1
  have hRlt : R < w.heap.size := (Array.getElem?_eq_some_iff.1 hh).1
  have hBw : B ≤ w.heap.size := hb.2.2.1
  have h5 : w1.cell? ⟨R, 5, none⟩ = some lv := by
    rw [hl]
    show (w.alloc _).cell? _ = _
    rw [Lib.cell_of_heap ((Lib.alloc_old w _ R hRlt).trans hh)]
    exact c5
  have hne : ∀ lv', w1.cell? ⟨R, 5, none⟩ = some lv' → lv'.ownBlock ≠ some w.heap.size := fun lv' e he => by
    rw [h5] at e
    obtain rfl := Option.some.inj e
    have := (hown.lt _ he).2
    omega
  have hx : w1.heap[w.heap.size]? = some (.cells #[.string ⟨#[]⟩, .string ⟨#[]⟩] 112 (0, 0)) := hk _ _ (heap_alloc_new w _) (by simp; omega) (by intro c fz h; cases h)
  have hx1 := heap_set hx 0 (.string ln)
  have hx2 := heap_set hx1 1 (.string x)
  have hR1 : R ≠ w.heap.size := by omega
  refine ⟨(h.1.box hx hne 0 _).box hx1 (fun lv' e => hne lv' ?_) 1 _, ?_, ?_, ?_, ?_⟩
  · rw [← e]
    exact (World.cell?_setCell_other _ _ _ _ (by intro hh; exact hR1 (congrArg Addr.block hh).symm)).symm
  · exact ((((below_alloc w _).mono hBw).drew.trans (c := w1) h.2.1).setCell (p := ⟨w.heap.size, 0, none⟩) hBw _).setCell (p := ⟨w.heap.size, 1, none⟩) hBw _
  · exact (Kp.setNew ((Kp.alloc R w _).trans (c := w1) h.2.2) (Nat.le_refl _) _ _).setNew (Nat.le_refl _) _ _
  · rw [Lib.cell_of_heap hx2]; rfl
  · rw [Lib.cell_of_heap hx2]; rfl
theorem own_kind {w : World} {B : Nat} {v : Value} {n : Nat} {xs : List Value} (h : w.ownsRow B 112 2 v n xs) : ∀ g, v.ownBlock = some g → ∃ c, w.heap[g]? = some (.cells c 112 (0, 0)) := by
  intro g hg
  rcases h.2 with ⟨rfl, _⟩ | ⟨g', cap, cur, rfl, _, hgg, _⟩
  · simp [Value.ownBlock] at hg
  · simp [Value.ownBlock] at hg
    subst hg
    exact ⟨cur, hgg⟩
theorem rd_append {B R : Nat} {p : Nat} {wd : List UInt8} {ln sn : ByteArray} {ls : List Lab} {x y : ByteArray} {W W3 : World} {lv v' : Value} {ob : Obj} (h : RdAt B R (p, wd, ln, sn, ls) W) (h5 : W.cell? ⟨R, 5, none⟩ = some lv)
    (hg : (W.drew.alloc ob).grownBy W3 lv.ownBlock) (hown : W3.ownsRow B 112 2 v' (ls.length + 1) (cellsLb ls ++ [.string x, .string y])) : RPost B R (p, wd, ln, sn, ls ++ [(x, y)]) W (W3.setCell ⟨R, 5, none⟩ v') := by
  obtain ⟨cs, hb, c0, c3, c4, lv', c5, hownL⟩ := h
  have hh := hb.2.2.2.1
  have hsz : cs.size = 6 := by rcases hb.1 with ⟨h, _⟩ | ⟨_, h, _⟩
                               · cases h
                               · exact h
  have hlv : lv' = lv := by
    rw [Lib.cell_of_heap hh, c5] at h5
    exact Option.some.inj h5
  subst hlv
  obtain ⟨hP, hB, hBw, _, hp, v, hv, hownF, hnv, hnil⟩ := hb
  have hRlt : R < W.heap.size := (Array.getElem?_eq_some_iff.1 hh).1
  have hkind := own_kind hownL
  have hRne : some R ≠ lv'.ownBlock := fun e => by
    obtain ⟨c, hc⟩ := hkind R e.symm
    rw [hh] at hc
    cases hc
  have hsg := hg.size
  have hsa : (W.drew.alloc ob).heap.size = W.heap.size + 1 := by
    show (W.drew.alloc ob).heap.size = W.drew.heap.size + 1
    simp
  have hh3 : W3.heap[R]? = some (.cells cs 137 (0, 0)) := by
    rw [hg.block R (by omega) hRne]
    exact (Lib.alloc_old W.drew ob R hRlt).trans hh
  have hF3 : W3.ownsRowF B 5 1 v wd.length (Lib.byteCells wd) := by
    have h1 : (W.drew.alloc ob).ownsRowF B 5 1 v wd.length (Lib.byteCells wd) := Go.World.ownsRowF.alloc (w := W.drew) hownF ob
    by_cases hn : v.ownBlock = none
    · exact h1.kept hg (.inl hn)
    · refine h1.kept hg (.inr fun e => ?_)
      cases hvb : v.ownBlock with
      | none => exact hn hvb
      | some g =>
        obtain ⟨c, fz, hc⟩ := Lib.ownsRowF_kind hownF g hvb
        obtain ⟨c', hc'⟩ := hkind g (by rw [← e, hvb])
        rw [hc] at hc'
        cases hc'
  have hb3 : Bld 137 1 B R cs wd W3 := ⟨hP, hB, by omega, hh3, hp, v, hv, hF3, hnv, hnil⟩
  refine ⟨⟨_, hb3.other 5 v' (by decide) (by decide), by simpa using c0, by simpa using c3, by simpa using c4, v', by rw [Array.getElem?_setIfInBounds, if_pos rfl, if_pos (by omega)], ?_⟩, ?_, ?_⟩
  · have := own_set hh3 hown 5 v'
    simpa [cellsLb_snoc] using this
  · exact (Below.grown (Below.alloc (Below.drew (Below.refl B W)) hBw ob) hg (by omega) (fun k hk => (hownL.lt k hk).1)).setCell (p := ⟨R, 5, none⟩) hB _
  · intro k o hk hr h5' h46
    have hlt : k < W.heap.size := (Array.getElem?_eq_some_iff.1 hk).1
    rw [Below.heap_setCell _ _ _ _ (show k ≠ R from hr), hg.block k (by omega) (fun e => by
      obtain ⟨c, hc⟩ := hkind k e.symm
      rw [hk] at hc
      exact h46 _ _ (Option.some.inj hc))]
    exact (Lib.alloc_old W.drew ob k hlt).trans hk
theorem own_slice {w : World} {B : Nat} {v : Value} {n : Nat} {xs : List Value} (h : w.ownsRow B 112 2 v n xs) (h0 : 0 < n) : ∃ g cap, v = .slice (some ⟨g, 0, none⟩) n cap := by
  rcases h.2 with ⟨_, h⟩ | ⟨g, cap, cur, hv, _⟩
  · omega
  · exact ⟨g, cap, hv⟩
theorem cells_two (w : World) (x y : Value) (t : TypeId) : ∀ j u, ([x, y] : List Value)[j]? = some u → (w.alloc (.cells #[x, y] t)).cell? ((⟨w.heap.size, 0, none⟩ : Addr).add j) = some u := by
  intro j u hj
  rw [addr_add, Nat.zero_add]
  unfold World.cell?
  rw [heap_alloc_new]
  simpa using hj
theorem one_two (x y : ByteArray) : ∀ u ∈ ([.string x, .string y] : List Value), u.oneCell' = true := by
  intro u hu; simp at hu; rcases hu with rfl | rfl <;> rfl
theorem RPost.trans {B R : Nat} {st st' : St} {a b c : World} (h : RPost B R st a b) (k : RPost B R st' b c) : RPost B R st' a c := ⟨k.1, h.2.1.trans k.2.1, h.2.2.trans k.2.2⟩
set_option maxHeartbeats 8000000 in
set_option maxRecDepth 20000 in
theorem endLabel_any {B R : Nat} {p : Nat} {wd : List UInt8} {ln sn : ByteArray} {ls : List Lab} (w : World) (h : RdAt B R (p, wd, ln, sn, ls) w) (hls : ls.length ≤ 4) :
    Calls Tryz.prog 136 #[.pointer (some ⟨R, 0, none⟩)] w fun e w' => TPost B R (if ls.length + 1 ≤ 4 then some (p, [], ln, sn, ls ++ [(ln, baL wd)]) else none) w e w' := by
  have hA : RdAt B R (p, wd, ln, sn, ls) w.drew := h
  have H0 : Hid (RdAt B R (p, wd, ln, sn, ls) w) := h
  have hB : RdAt B R (p, wd, ln, sn, ls) (w.alloc (.cells #[.string ⟨#[]⟩, .string ⟨#[]⟩] 112)).drew := RdAt.alloc h _
  obtain ⟨lv, ⟨c0, c3, c4, c5⟩, ⟨f0, f3, f4, f5⟩, hown⟩ := hA.cells
  simp only at c3
  obtain ⟨lvB, ⟨_, c3B, _, _⟩, _, _⟩ := hB.cells
  simp only at c3B
  have HA : Hid (RdAt B R (p, wd, ln, sn, ls) w.drew) := hA
  have HBB : Hid (RdAt B R (p, wd, ln, sn, ls) (w.alloc (.cells #[.string ⟨#[]⟩, .string ⟨#[]⟩] 112)).drew) := hB
  have hRlt : R < w.heap.size := (Array.getElem?_eq_some_iff.1 h.choose_spec.1.2.2.2.1).1
  have HBX : Hid (∀ w1, Lib.OthersKept 5 (some R) (w.alloc (.cells #[.string ⟨#[]⟩, .string ⟨#[]⟩] 112)).drew w1 → (w1.cell? ⟨w.heap.size, 0, none⟩ = some (.string ⟨#[]⟩) ∧ w1.cell? ⟨w.heap.size, 1, none⟩ = some (.string ⟨#[]⟩)) ∧ w1.frozen? ⟨w.heap.size, 0, none⟩ = false ∧ w1.frozen? ⟨w.heap.size, 1, none⟩ = false) := fun w1 hk => by
    have hx := hk w.heap.size (.cells #[.string ⟨#[]⟩, .string ⟨#[]⟩] 112 (0, 0)) (heap_alloc_new w _) (by simp; omega) (by intro c fz h; cases h)
    exact ⟨⟨by rw [Lib.cell_of_heap hx]; rfl, by rw [Lib.cell_of_heap hx]; rfl⟩, Lib.frozen_of_heap hx _, Lib.frozen_of_heap hx _⟩
  clear hA hB h hown c0 c4 c5 f0 f3 f4 f5
  go_enter Tryz.func136, Tryz.ntmps136
  go_wp2_with fail
  go_region_with (first | (go_at_call 100; refine (endWord_any _ HBB.out).mono ?_; rintro en w1 ⟨rfl, hp1, hk1, hl1⟩; obtain ⟨lv1, ⟨d0, d3, d4, d5⟩, ⟨i0, i3, i4, i5⟩, hown1⟩ := hp1.1.cells; simp only at d3; obtain ⟨lv2, ⟨_, d3a, _, _⟩, _, _⟩ := (hp1.1.alloc (.cells #[.string ⟨#[]⟩, .string ⟨#[]⟩] 112)).cells; simp only at d3a; obtain ⟨⟨x0, x1⟩, x2, x3⟩ := HBX.out w1 hk1; clear hown1 d0 d4 d5 i0 i3 i4 i5) | (go_at_call 100; refine (endWord_any _ HA.out).mono ?_; rintro en w1 ⟨rfl, hp1, hk1, hl1⟩; obtain ⟨lv1, ⟨d0, d3, d4, d5⟩, ⟨i0, i3, i4, i5⟩, hown1⟩ := hp1.1.cells; simp only at d3; obtain ⟨lv2, ⟨_, d3a, _, _⟩, _, _⟩ := (hp1.1.alloc (.cells #[.string ⟨#[]⟩, .string ⟨#[]⟩] 112)).cells; simp only at d3a; clear hown1 d0 d4 d5 i0 i3 i4 i5))
  all_goals first
    | (have HX : Hid (∃ bx W, bx = w1.heap.size ∧ W = w1.alloc (.cells #[.string ln, .string (baL wd)] 112) ∧ BoxPost B R bx p ln sn ls (baL wd) w W) := ⟨_, _, rfl, rfl, box_late hp1⟩)
    | (have HX : Hid (∃ bx W, bx = w.heap.size ∧ W = (w1.setCell ⟨w.heap.size, 0, none⟩ (.string ln)).setCell ⟨w.heap.size, 1, none⟩ (.string (baL wd)) ∧ BoxPost B R bx p ln sn ls (baL wd) w W) := ⟨_, _, rfl, rfl, box_early H0.out hp1 hk1 hl1⟩)
  all_goals
    obtain ⟨bx, W, hbx, hW, hBX⟩ := HX.out
    rw [← hW, ← hbx]
    clear HX hbx hW hp1 hk1 hl1 d3 d3a c3 c3B HA HBB HBX H0
    try clear x0 x1 x2 x3
  all_goals
    obtain ⟨i0, hi, hz0, hz1, hz2⟩ := info_parts info46
    have HBX : Hid (BoxPost B R bx p ln sn ls (baL wd) w W) := hBX
    obtain ⟨hrd, hbel, hkp, b0, b1⟩ := hBX
    obtain ⟨lv3, ⟨c0, c3, c4, c5⟩, ⟨f0, f3, f4, f5⟩, hown3⟩ := hrd.cells
    simp only at c5 hown3
    have hBw : B ≤ W.heap.size := hrd.choose_spec.1.2.2.1
    have hRW : R < W.heap.size := (Array.getElem?_eq_some_iff.1 hrd.choose_spec.1.2.2.2.1).1
    have HRD : Hid (RdAt B R (p, [], ln, sn, ls) W) := hrd
    have hRne : some R ≠ lv3.ownBlock := fun e => by
      obtain ⟨c, hc⟩ := own_kind hown3 R e.symm
      rw [hrd.choose_spec.1.2.2.2.1] at hc
      cases hc
    have g5 : W.drew.cell? ⟨R, 5, none⟩ = some lv3 := c5
    have g0 : W.drew.cell? ⟨bx, 0, none⟩ = some (.string ln) := b0
    have g1 : W.drew.cell? ⟨bx, 1, none⟩ = some (.string (baL wd)) := b1
    have hownD : W.drew.ownsRow B 112 2 lv3 ls.length (cellsLb ls) := hown3
    clear hrd hbel hkp b0 b1 c0 c3 c4 f0 f3 f4
    go_wp2_with fail
    go_region_law (refine step_append_own _ rfl (.tmp 16) (.tmp 18) 84 rfl B 112 i0 (.agg #[.string ⟨#[]⟩, .string ⟨#[]⟩]) 2 32 Tryz.underlying84 hi hz0 hz1 hz2 rfl (by decide) _ _ _ (by simp [Act.eval]) (hownD.kept (World.grownBy_alloc _ _ none) (by cases hv : lv3.ownBlock <;> simp)) ⟨W.heap.size, 0, none⟩ 1 1 [.string ln, .string (baL wd)] (by simp [Act.eval]) rfl (cells_two _ _ _ _) (one_two _ _) (by unfold maxLen; omega) (by omega) (by simp; omega) ?_; intro v7 w7 hown7 hgrow7 _; obtain ⟨g7, cap7, rfl⟩ := own_slice hown7 (by omega); have hsg7 := hgrow7.size; have k5 : w7.cell? ⟨R, 5, none⟩ = some lv3 := hgrow7.cell (a := ⟨R, 5, none⟩) ((Below.cell (below_alloc W.drew _) (p := ⟨R, 5, none⟩) hRW).trans g5) hRne; have kf : w7.frozen? ⟨R, 5, none⟩ = false := (World.frozen?_of_block (hgrow7.block R (by simp at hsg7 ⊢; omega) hRne)).trans ((Below.frozen (below_alloc W.drew _) (p := ⟨R, 5, none⟩) hRW).trans f5))
    all_goals
      have hP := rd_append (x := ln) (y := baL wd) HRD.out c5 hgrow7 hown7
      have HP : Hid (RPost B R (p, [], ln, sn, ls ++ [(ln, baL wd)]) w (w7.setCell ⟨R, 5, none⟩ (.slice (some ⟨g7, 0, none⟩) (ls.length + 1) cap7))) := ⟨hP.1, HBX.out.2.1.trans hP.2.1, HBX.out.2.2.1.trans hP.2.2⟩
      have m5 : (w7.setCell ⟨R, 5, none⟩ (.slice (some ⟨g7, 0, none⟩) (ls.length + 1) cap7)).cell? ⟨R, 5, none⟩ = some (.slice (some ⟨g7, 0, none⟩) (ls.length + 1) cap7) := World.cell?_setCell_same _ _ _ k5
      clear hP hgrow7 hown7 HRD HBX hownD hown3 g0 g1 g5 c5 k5 kf hsg7 f5 hRne hi hz0 hz1 hz2
      generalize w7.setCell ⟨R, 5, none⟩ (.slice (some ⟨g7, 0, none⟩) (ls.length + 1) cap7) = w8 at *
      by_cases h4 : ls.length + 1 ≤ 4
      · have h4i : (ls.length : Int) + 1 ≤ 4 := by omega
        go_wp2
        go_ret
        exact ⟨HP.out.2.1, HP.out.2.2, .inr ⟨_, rfl, rfl, HP.out.1⟩⟩
      · have h4i : ¬ (ls.length : Int) + 1 ≤ 4 := by omega
        go_wp2
        go_ret
        exact ⟨HP.out.2.1, HP.out.2.2, .inl ⟨rfl, rfl⟩⟩
end Go.Proofs.YtihohcmocejijaaGreat.Lb
namespace Go.Proofs.YtihohcmocejijaaGreat.Lb
open Go.ChangeShapes Go.WideShapes Go.ChangeAt Go.RowKit
theorem move_post {B R : Nat} {st : St} {w w' : World} (h : RPost B R st w w') {o : Option St} (ho : o = some st) : TPost B R o w (.returned (.bool true)) w' := by
  subst ho; exact ⟨h.2.1, h.2.2, .inr ⟨_, rfl, rfl, h.1⟩⟩
theorem none_post {B R : Nat} {w w' : World} (h1 : Below B w w') (h2 : Kp R w w') {o : Option St} (ho : o = none) : TPost B R o w (.returned (.bool false)) w' := by
  subst ho; exact ⟨h1, h2, .inl ⟨rfl, rfl⟩⟩
theorem TPost.eq {B R : Nat} {o o' : Option St} {w : World} {e : Ending} {w' : World} (h : TPost B R o w e w') (ho : o' = o) : TPost B R o' w e w' := by subst ho; exact h
theorem TPost.bool {B R : Nat} {o : Option St} {w : World} {e : Ending} {w' : World} (h : TPost B R o w e w') : ∃ q : Bool, e = .returned (.bool q) := by
  rcases h.2.2 with ⟨_, h⟩ | ⟨_, _, h, _⟩
  · exact ⟨_, h⟩
  · exact ⟨_, h⟩
set_option maxHeartbeats 4000000 in
theorem takeValue_any {B R : Nat} {wd : List UInt8} {ln sn : ByteArray} {ls : List Lab} (w : World) (h : RdAt B R (3, wd, ln, sn, ls) w) (hls : ls.length ≤ 4) (r : Int) (hr0 : 0 ≤ r) (hr1 : r ≤ 2147483647) :
    Calls Tryz.prog 121 #[.pointer (some ⟨R, 0, none⟩), .int .i32 r] w fun e w' => TPost B R (stepS (3, wd, ln, sn, ls) r) w e w' := by
  by_cases h92 : r = 92
  · have HS : Hid (stepS (3, wd, ln, sn, ls) r = some (4, wd, ln, sn, ls)) := by show _ = _; simp [stepS, h92]
    subst h92
    go_enter Tryz.func121, Tryz.ntmps121
    go_wp2_with fail
    refine (move_any _ h 4).mono ?_
    rintro e w1 ⟨rfl, hp⟩
    have HP : Hid (RPost B R (4, wd, ln, sn, ls) w w1) := hp
    clear hp h
    go_wp2
    go_ret
    exact move_post HP.out HS.out
  have n92 : (r == 92) = false := by simpa using h92
  by_cases h34 : r = 34
  · have HS : Hid (stepS (3, wd, ln, sn, ls) r = (if ls.length + 1 ≤ 4 then some (5, [], ln, sn, ls ++ [(ln, baL wd)]) else none)) := by show _ = _; simp [stepS, h34]
    subst h34
    go_enter Tryz.func121, Tryz.ntmps121
    go_wp2_with fail
    refine (endLabel_any _ h hls).mono ?_
    rintro e w1 ⟨hb1, hk1, hc⟩
    by_cases h4 : ls.length + 1 ≤ 4
    · rw [if_pos h4] at hc
      have HS2 : Hid (stepS (3, wd, ln, sn, ls) 34 = some (5, [], ln, sn, ls ++ [(ln, baL wd)])) := by show _ = _; rw [HS.out, if_pos h4]
      rcases hc with ⟨hc, _⟩ | ⟨st, hc, rfl, hrd⟩
      · cases hc
      obtain rfl := Option.some.inj hc
      clear hc HS
      go_wp2_with fail
      refine (move_any _ hrd 5).mono ?_
      rintro e w2 ⟨rfl, hp⟩
      have HP : Hid (RPost B R (5, [], ln, sn, ls ++ [(ln, baL wd)]) w w2) := ⟨hp.1, hb1.trans hp.2.1, hk1.trans hp.2.2⟩
      clear hp hrd h hb1 hk1
      go_wp2
      go_ret
      exact move_post HP.out HS2.out
    · rw [if_neg h4] at hc
      have HS2 : Hid (stepS (3, wd, ln, sn, ls) 34 = none) := by show _ = _; rw [HS.out, if_neg h4]
      rcases hc with ⟨_, rfl⟩ | ⟨st, hc, _⟩
      rotate_left
      · cases hc
      have HB : Hid (Below B w w1) := hb1
      have HK : Hid (Kp R w w1) := hk1
      clear HS h hb1 hk1
      go_wp2
      go_ret
      exact none_post HB.out HK.out HS2.out
  have n34 : (r == 34) = false := by simpa using h34
  have HS : Hid (stepS (3, wd, ln, sn, ls) r = keepS r (3, wd, ln, sn, ls)) := by show _ = _; simp [stepS, h34, h92]
  go_enter Tryz.func121, Tryz.ntmps121
  go_wp2_with fail
  refine (keep_any _ h r hr0 hr1).mono ?_
  rintro e w1 hT
  obtain ⟨q, rfl⟩ := hT.bool
  have HT : Hid (TPost B R (stepS (3, wd, ln, sn, ls) r) w (.returned (.bool q)) w1) := hT.eq HS.out
  clear hT h
  go_wp2
  go_ret
  exact HT.out
end Go.Proofs.YtihohcmocejijaaGreat.Lb
