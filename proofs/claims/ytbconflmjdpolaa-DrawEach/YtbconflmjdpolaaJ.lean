/-
  The contract of slices.MinFunc over lots.
-/
import Derived.Test.YtbconflmjdpolaaI
namespace Go.Proofs.Ytbconflmjdpolaa
open Go.ChangeShapes Go.WideShapes Go.ChangeAt Go.RowKit
theorem minC_snoc (cost : Int → Int) (l : List Ch) (x : Ch) : ∀ m, minC cost (l ++ [x]) m = if cost x.1 * (minC cost l m).2 < cost (minC cost l m).1 * x.2 ∨ (cost x.1 * (minC cost l m).2 = cost (minC cost l m).1 * x.2 ∧ x.1 < (minC cost l m).1) then x else minC cost l m := by
  induction l with
  | nil => intro m; rfl
  | cons c l ih => intro m; rw [List.cons_append, minC, ih, minC]
theorem minC_yes {cost : Int → Int} {l : List Ch} {x m : Ch} (h : ltC cost x (minC cost l m)) : minC cost (l ++ [x]) m = x := by
  rw [minC_snoc]; exact if_pos h
theorem minC_no {cost : Int → Int} {l : List Ch} {x m : Ch} (h : ¬ ltC cost x (minC cost l m)) : minC cost (l ++ [x]) m = minC cost l m := by
  rw [minC_snoc]; exact if_neg h
theorem minC_mem (cost : Int → Int) (l : List Ch) : ∀ m, minC cost l m = m ∨ minC cost l m ∈ l := by
  induction l with
  | nil => intro m; exact .inl rfl
  | cons c l ih =>
    intro m
    rw [minC]
    split
    · rcases ih c with h | h
      · right; rw [h]; simp
      · right; simp [h]
    · rcases ih m with h | h
      · left; exact h
      · right; simp [h]
/-- lots, as they lie -/
def LotsAt (key : Nat) (w : World) (g : Nat) (L : List Ch) : Prop := ∀ i, i < L.length → w.cell? ⟨g, i * 3, none⟩ = some (.int .i64 (L.getD i ch0).1) ∧ w.cell? ⟨g, i * 3 + 1, none⟩ = some (.int .i64 (L.getD i ch0).2) ∧ w.cell? ⟨g, i * 3 + 2, none⟩ = some (.int .i64 (costOf key (L.getD i ch0).1))
theorem LotsAt.below {key : Nat} {w w' : World} {g : Nat} {L : List Ch} (h : LotsAt key w g L) (hg : g < w.heap.size) (hb : Below w.heap.size w w') : LotsAt key w' g L := fun i hi => by
  obtain ⟨h0, h1, h2⟩ := h i hi
  exact ⟨(hb.cell (p := ⟨g, i * 3, none⟩) hg).trans h0, (hb.cell (p := ⟨g, i * 3 + 1, none⟩) hg).trans h1, (hb.cell (p := ⟨g, i * 3 + 2, none⟩) hg).trans h2⟩
theorem cellsLot_get (key : Nat) (L : List Ch) : ∀ i, i < L.length → (cellsLot key L)[i * 3]? = some (.int .i64 (L.getD i ch0).1) ∧ (cellsLot key L)[i * 3 + 1]? = some (.int .i64 (L.getD i ch0).2) ∧ (cellsLot key L)[i * 3 + 2]? = some (.int .i64 (costOf key (L.getD i ch0).1)) := by
  induction L with
  | nil => intro i h; simp at h
  | cons c L ih =>
    intro i h
    cases i with
    | zero => exact ⟨rfl, rfl, rfl⟩
    | succ i =>
      have h1 := ih i (by simpa using h)
      have e : ∀ j, (cellsLot key (c :: L))[(i + 1) * 3 + j]? = (cellsLot key L)[i * 3 + j]? := fun j => by
        unfold cellsLot
        rw [List.flatMap_cons, show (i + 1) * 3 + j = (lotCells key c).length + (i * 3 + j) from by simp [lotCells]; omega, List.getElem?_append_right (by omega), Nat.add_sub_cancel_left]
      exact ⟨(e 0).trans h1.1, (e 1).trans h1.2.1, (e 2).trans h1.2.2⟩
theorem lots_own {key : Nat} {w : World} {B g n cap : Nat} {L : List Ch} (h : w.ownsRow B 46 3 (.slice (some ⟨g, 0, none⟩) n cap) n (cellsLot key L)) (hn : n = L.length) : LotsAt key w g L := fun i hi => by
  obtain ⟨h0, h1, h2⟩ := cellsLot_get key L i hi
  exact ⟨(h.cellAt (i * 3) (by omega)).trans h0, (h.cellAt (i * 3 + 1) (by omega)).trans h1, (h.cellAt (i * 3 + 2) (by omega)).trans h2⟩
/-- three cells of a block of one's own -/
def Box (w : World) (b : Nat) (x y z : Value) : Prop := (w.cell? ⟨b, 0, none⟩ = some x ∧ w.cell? ⟨b, 1, none⟩ = some y ∧ w.cell? ⟨b, 2, none⟩ = some z) ∧ w.frozen? ⟨b, 0, none⟩ = false ∧ w.frozen? ⟨b, 1, none⟩ = false ∧ w.frozen? ⟨b, 2, none⟩ = false
theorem Box.below {w w' : World} {b : Nat} {x y z : Value} (h : Box w b x y z) (hb : Below w.heap.size w w') : Box w' b x y z := by
  have hl : b < w.heap.size := World.block_lt_of_cell? w ⟨b, 0, none⟩ h.1.1
  obtain ⟨⟨h0, h1, h2⟩, f0, f1, f2⟩ := h
  exact ⟨⟨(hb.cell (p := ⟨b, 0, none⟩) hl).trans h0, (hb.cell (p := ⟨b, 1, none⟩) hl).trans h1, (hb.cell (p := ⟨b, 2, none⟩) hl).trans h2⟩, (hb.frozen (p := ⟨b, 0, none⟩) hl).trans f0, (hb.frozen (p := ⟨b, 1, none⟩) hl).trans f1, (hb.frozen (p := ⟨b, 2, none⟩) hl).trans f2⟩
/-- three cells of a block written -/
def set3 (w : World) (b : Nat) (x y z : Value) : World := ((w.setCell ⟨b, 0, none⟩ x).setCell ⟨b, 1, none⟩ y).setCell ⟨b, 2, none⟩ z
theorem set_same {w : World} {b i : Nat} {u : Value} (h : w.cell? ⟨b, i, none⟩ = some u) (x : Value) : (w.setCell ⟨b, i, none⟩ x).cell? ⟨b, i, none⟩ = some x := World.cell?_setCell_same _ _ _ h
theorem set_else {w : World} {b i c j : Nat} (h : ¬ (c = b ∧ j = i)) (x : Value) : (w.setCell ⟨b, i, none⟩ x).cell? ⟨c, j, none⟩ = w.cell? ⟨c, j, none⟩ :=
  World.cell?_setCell_other _ _ _ _ (by intro e; exact h ⟨(congrArg Addr.block e).symm, (congrArg Addr.off e).symm⟩)
theorem set3_frozen (w : World) (b : Nat) (x y z : Value) (p : Addr) : (set3 w b x y z).frozen? p = w.frozen? p := by
  unfold set3
  rw [World.frozen?_setCell, World.frozen?_setCell, World.frozen?_setCell]
theorem Box.set {w : World} {b : Nat} {u0 u1 u2 : Value} (h : Box w b u0 u1 u2) (x y z : Value) : Box (set3 w b x y z) b x y z := by
  obtain ⟨⟨h0, h1, h2⟩, f0, f1, f2⟩ := h
  refine ⟨⟨?_, ?_, ?_⟩, (set3_frozen ..).trans f0, (set3_frozen ..).trans f1, (set3_frozen ..).trans f2⟩
  · unfold set3
    rw [set_else (by omega), set_else (by omega)]
    exact set_same h0 _
  · unfold set3
    rw [set_else (by omega)]
    exact set_same ((set_else (by omega) _).trans h1) _
  · unfold set3
    exact set_same ((set_else (by omega) _).trans ((set_else (by omega) _).trans h2)) _
theorem Box.other {w : World} {b c : Nat} {u0 u1 u2 : Value} (h : Box w c u0 u1 u2) (hne : c ≠ b) (x y z : Value) : Box (set3 w b x y z) c u0 u1 u2 := by
  obtain ⟨⟨h0, h1, h2⟩, f0, f1, f2⟩ := h
  refine ⟨⟨?_, ?_, ?_⟩, (set3_frozen ..).trans f0, (set3_frozen ..).trans f1, (set3_frozen ..).trans f2⟩ <;>
    (unfold set3; rw [set_else (by omega), set_else (by omega), set_else (by omega)]; assumption)
theorem set3_below {N : Nat} {w0 w : World} {b : Nat} (h : Below N w0 w) (hb : N ≤ b) (x y z : Value) : Below N w0 (set3 w b x y z) := ((h.setCell (p := ⟨b, 0, none⟩) hb _).setCell (p := ⟨b, 1, none⟩) hb _).setCell (p := ⟨b, 2, none⟩) hb _
theorem ret_box {fn : Func} {p : Tmp} (h : fn.results = #[.cell p 46]) (tmps : Array Value) (w : World) (b : Nat) (x y z : Value) (hp : tmps.getD p undef = .pointer (some ⟨b, 0, none⟩))
    (hb : Box w b x y z) : (results fn tmps).run Try.prog w = .ok (.agg #[x, y, z]) w := by
  obtain ⟨⟨h0, h1, h2⟩, -⟩ := hb
  simp only [Array.getD_eq_getD_getElem?] at hp
  simp only [results, h]
  simp [go_sem, hp, h0, h1, h2]
set_option maxHeartbeats 2000000 in
set_option maxRecDepth 60000 in
theorem minFunc_any (key g cap : Nat) (a : Ch) (s : List Ch) (w : World) (hAt : LotsAt key w g (a :: s)) (hg : g < w.heap.size) (hlen : (a :: s).length ≤ 64) (hW : ∀ c ∈ a :: s, 1 ≤ c.2 ∧ c.2 ≤ 65536) :
    Calls Try.prog 21 #[.slice (some ⟨g, 0, none⟩) (a :: s).length cap, .func (.func 20) #[] #[]] w fun e w' => e = .returned (.agg (lotCells key (minC (costOf key) s a)).toArray) ∧ Below w.heap.size w w' := by
  obtain ⟨z0, z1, z2⟩ := hAt 0 (by simp)
  have hgd : (a :: s).getD 0 ch0 = a := rfl
  rw [hgd, Nat.zero_mul] at z0 z1 z2
  have HAT : Hid (LotsAt key w g (a :: s)) := hAt
  have HW : Hid (∀ c ∈ a :: s, 1 ≤ c.2 ∧ c.2 ≤ 65536) := hW
  obtain ⟨n, hn⟩ : ∃ n, n = (a :: s).length := ⟨_, rfl⟩
  have HN : Hid (n = s.length + 1) := by show _ = _; rw [hn]; rfl
  rw [← hn]
  have h64 : (n : Int) ≤ 64 := by omega
  have h1n : (1 : Int) ≤ (n : Int) := by have := HN.out; omega
  clear hAt hW hn hlen hgd
  obtain ⟨a1, a2⟩ := a
  go_enter Try.func21, Try.ntmps21
  go_wp2_with fail
  go_loopw [6] (fun i wr => ∃ (j : Nat) (m : Ch), j + 1 ≤ n ∧ i = .int .i64 ((j : Int) + 1) ∧ Hid (m = minC (costOf key) (s.take j) (a1, a2)) ∧ Box wr (w.heap.size + 1) (.int .i64 m.1) (.int .i64 m.2) (.int .i64 (costOf key m.1)) ∧ Box wr w.heap.size (.int .i64 0) (.int .i64 0) (.int .i64 0) ∧ Below w.heap.size w wr) (fun i _ => n - (intOf i).toNat)
  case atStart =>
    refine ⟨0, (a1, a2), by omega, rfl, rfl, ?_, ?_, below2 (below_alloc _ _) (below_alloc _ _)⟩
    · unfold Box; simp
    · unfold Box; simp
  case round =>
    obtain ⟨j, m, hj, rfl, hT, hbx, hbz, hbel⟩ := hrel
    by_cases hlt : j + 1 < n
    · obtain ⟨q0, q1, q2⟩ := (HAT.out.below hg hbel) (j + 1) (by simp; have := HN.out; omega)
      have hk1 : (j : Int) + 1 < (n : Int) := by omega
      have hk0 : (0 : Int) ≤ (j : Int) + 1 := by omega
      have hkn : ((j : Int) + 1).toNat = j + 1 := by omega
      have hkw : IntKind.i64.wrap ((j : Int) + 1) = (j : Int) + 1 := by rw [IntKind.wrap_i64]; omega
      have hsj : j < s.length := by have := HN.out; omega
      have hgd : ((a1, a2) :: s).getD (j + 1) ch0 = s[j] := by simp [hsj]
      rw [hgd] at q0 q1 q2
      have HTK : Hid (s.take (j + 1) = s.take j ++ [s[j]]) := List.take_succ_eq_append_getElem hsj
      have hx := HW.out s[j] (by simp)
      generalize s[j] = x at *
      have hm := HW.out m (by
        rw [hT.out]
        rcases minC_mem (costOf key) (s.take j) (a1, a2) with h | h
        · rw [h]; simp
        · simp [List.mem_of_mem_take h])
      have HLT := cfC_lt key hx hm
      have hcon := fun W => compare_any key x m W
      generalize cfC key x m = r at *
      have HYES : Hid (r < 0 → x = minC (costOf key) (s.take (j + 1)) (a1, a2)) := fun h => by
        have := HLT.1 h
        rw [hT.out] at this
        rw [HTK.out]
        exact (minC_yes this).symm
      have HNO : Hid (¬ r < 0 → m = minC (costOf key) (s.take (j + 1)) (a1, a2)) := fun h => by
        have h2 : ¬ ltC (costOf key) x m := fun h' => h (HLT.2 h')
        rw [hT.out] at h2
        rw [HTK.out, minC_no h2]
        exact hT.out
      obtain ⟨x1, x2⟩ := x
      obtain ⟨m1, m2⟩ := m
      have hgr : g < wr.heap.size := Nat.lt_of_lt_of_le hg hbel.size
      have hHC : ∀ W : World, Calls Try.prog 20 #[.agg #[.int .i64 x1, .int .i64 x2, .int .i64 (costOf key x1)], .agg #[.int .i64 m1, .int .i64 m2, .int .i64 (costOf key m1)]] W fun e w' => e = .returned (.int .i64 r) ∧ Grown W w' := hcon
      have HC : Hid _ := hHC
      have hbl : w.heap.size + 1 < wr.heap.size := World.block_lt_of_cell? wr ⟨w.heap.size + 1, 0, none⟩ hbx.1.1
      have HB : Hid (∀ n os, Box (Go.Sort.grow (wr.drewN n) os) (w.heap.size + 1) (.int .i64 m1) (.int .i64 m2) (.int .i64 (costOf key m1)) ∧ Box (Go.Sort.grow (wr.drewN n) os) w.heap.size (.int .i64 0) (.int .i64 0) (.int .i64 0) ∧ Below w.heap.size w (Go.Sort.grow (wr.drewN n) os)) := fun n os => ⟨hbx.below (below_grow _ _ _), hbz.below (below_grow _ _ _), below2 hbel (below_grow _ _ _)⟩
      have HQ : Hid (∀ w', Below wr.heap.size wr w' → w'.cell? ⟨g, (j + 1) * 3, none⟩ = some (.int .i64 x1) ∧ w'.cell? ⟨g, (j + 1) * 3 + 1, none⟩ = some (.int .i64 x2) ∧ w'.cell? ⟨g, (j + 1) * 3 + 2, none⟩ = some (.int .i64 (costOf key x1))) := fun w' hb => ⟨(hb.cell (p := ⟨g, (j + 1) * 3, none⟩) hgr).trans q0, (hb.cell (p := ⟨g, (j + 1) * 3 + 1, none⟩) hgr).trans q1, (hb.cell (p := ⟨g, (j + 1) * 3 + 2, none⟩) hgr).trans q2⟩
      have y0 := cell_grown (a := ⟨g, (j + 1) * 3, none⟩) hgr q0
      have y1 := cell_grown (a := ⟨g, (j + 1) * 3 + 1, none⟩) hgr q1
      have y2 := cell_grown (a := ⟨g, (j + 1) * 3 + 2, none⟩) hgr q2
      have v0 := cell_grown (a := ⟨w.heap.size + 1, 0, none⟩) hbl hbx.1.1
      have v1 := cell_grown (a := ⟨w.heap.size + 1, 1, none⟩) hbl hbx.1.2.1
      have v2 := cell_grown (a := ⟨w.heap.size + 1, 2, none⟩) hbl hbx.1.2.2
      clear hT HTK HLT hcon hHC hx hm q0 q1 q2 hgd hsj hbx hbz z0 z1 z2
      generalize hpx : costOf key x1 = px at *
      generalize hpm : costOf key m1 = pm at *
      have HPX : Hid (costOf key x1 = px) := hpx
      have HPM : Hid (costOf key m1 = pm) := hpm
      clear hpx hpm
      by_cases hr : r < 0
      · have HY : Hid ((x1, x2) = minC (costOf key) (s.take (j + 1)) (a1, a2)) := HYES.out hr
        clear HYES HNO
        go_wp2_with fail
        refine wp_region_QW mixed5 (by kernel_rfl) ?_
        repeat (refine QW_step (fun K hK => ?_); go_simp; first | (refine hK _ ?_; clear hK K) | (apply Exists.intro; refine ⟨fun _ => ?_, hK _ ?_⟩; (go_at_call 20; refine Calls.grown_of (HC.out _)); clear hK K))
        refine QW_nil ?_
        intro _ hw9
        obtain ⟨⟨nq, osq⟩, hw8⟩ := hw9
        subst hw8
        show Exit.then _ _ _ _ (Go.Sort.grow (wr.drewN nq) osq)
        obtain ⟨hbx, hbz, hbe⟩ := HB.out nq osq
        obtain ⟨q0, q1, q2⟩ := HQ.out _ (below_grow wr nq osq)
        clear HB HQ y0 y1 y2 v0 v1 v2 HC
        generalize Go.Sort.grow (wr.drewN nq) osq = w5 at *
        obtain ⟨⟨b0, b1, b2⟩, f0, f1, f2⟩ := hbx
        have HBX : Hid (Box w5 (w.heap.size + 1) (.int .i64 m1) (.int .i64 m2) (.int .i64 pm)) := ⟨⟨b0, b1, b2⟩, f0, f1, f2⟩
        have HBZ : Hid (Box w5 w.heap.size (.int .i64 0) (.int .i64 0) (.int .i64 0)) := hbz
        clear hbz
        go_wp2_with fail
        exact ⟨⟨j + 1, (x1, x2), by omega, by go_num, HY, by rw [show costOf key (x1, x2).1 = px from HPX.out]; exact HBX.out.set _ _ _, HBZ.out.other (by omega) _ _ _, set3_below hbe (Nat.le_succ _) _ _ _⟩, by simp [intOf]; omega⟩
      · have HY : Hid ((m1, m2) = minC (costOf key) (s.take (j + 1)) (a1, a2)) := HNO.out hr
        have hd : decide (r < 0) = false := decide_eq_false hr
        clear HYES HNO
        go_wp2_with fail
        refine wp_region_QW mixed5 (by kernel_rfl) ?_
        repeat (refine QW_step (fun K hK => ?_); go_simp; first | (refine hK _ ?_; clear hK K) | (apply Exists.intro; refine ⟨fun _ => ?_, hK _ ?_⟩; (go_at_call 20; refine Calls.grown_of (HC.out _)); clear hK K))
        refine QW_nil ?_
        intro _ hw9
        obtain ⟨⟨nq, osq⟩, hw8⟩ := hw9
        subst hw8
        show Exit.then _ _ _ _ (Go.Sort.grow (wr.drewN nq) osq)
        obtain ⟨hbx, hbz, hbe⟩ := HB.out nq osq
        clear HB HQ y0 y1 y2 v0 v1 v2 HC
        generalize Go.Sort.grow (wr.drewN nq) osq = w5 at *
        have HBX : Hid (Box w5 (w.heap.size + 1) (.int .i64 m1) (.int .i64 m2) (.int .i64 pm)) := hbx
        have HBZ : Hid (Box w5 w.heap.size (.int .i64 0) (.int .i64 0) (.int .i64 0)) := hbz
        clear hbz hbx
        go_wp2_with fail
        exact ⟨⟨j + 1, (m1, m2), by omega, by go_num, HY, by rw [show costOf key (m1, m2).1 = pm from HPM.out]; exact HBX.out, HBZ.out, hbe⟩, by simp [intOf]; omega⟩
    · have hltz : ¬ (j : Int) + 1 < (n : Int) := by omega
      have HE : Hid (m = minC (costOf key) s (a1, a2)) := by
        have := hT.out
        rw [List.take_of_length_le (by have := HN.out; omega)] at this
        exact this
      have HBX : Hid (Box wr (w.heap.size + 1) (.int .i64 m.1) (.int .i64 m.2) (.int .i64 (costOf key m.1))) := hbx
      have HBZ : Hid (Box wr w.heap.size (.int .i64 0) (.int .i64 0) (.int .i64 0)) := hbz
      obtain ⟨⟨b0, b1, b2⟩, -⟩ := hbx
      obtain ⟨⟨c0, c1, c2⟩, f0, f1, f2⟩ := hbz
      clear hT z0 z1 z2
      go_wp2_with fail
      try simp only [Exit.inBlock, Exit.then]
      refine bodyPost_ret (ret_box rfl _ _ w.heap.size _ _ _ rfl (HBZ.out.set _ _ _)) rfl ?_
      refine ⟨?_, set3_below hbel (Nat.le_refl _) _ _ _⟩
      rw [← HE.out]
      rfl
end Go.Proofs.Ytbconflmjdpolaa
