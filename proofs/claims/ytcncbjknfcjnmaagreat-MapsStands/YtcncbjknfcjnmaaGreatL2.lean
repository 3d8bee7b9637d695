/-
  The contracts of awake and of the answer's Ints.
  The contract of the answer's Best.
  The contracts of the answer's Without and Order.
  The contract of the answer's Order.
  The contracts of the answer's Zones, Racks and Leaves.
  The contracts of the answer's Zones, Racks and Leaves.
  The answer's Common; the region of its Run that writes into an array.
-/
import Derived.Test.YtcncbjknfcjnmaaGreatDrN
import Derived.Test.YtcncbjknfcjnmaaGreatPc
import Derived.Maps.AppendAt
import Derived.Test.YtcncbjknfcjnmaaGreatPe
namespace Go.Proofs.YtcncbjknfcjnmaaGreat.Dr
open Go.ChangeShapes Go.WideShapes Go.ChangeAt Go.RowKit
def TruePost (w : World) (e : Ending) (w' : World) : Prop := e = .returned (.bool true) ∧ Below w.heap.size w w'
set_option maxHeartbeats 1000000 in
set_option maxRecDepth 60000 in
theorem ints_any (a b : Option Addr) (l r : List Int) (c d : Nat) (w : World) (hl : IntsAt w a l) (hr : IntsAt w b r) (h64 : l.length ≤ 64) (h64' : r.length ≤ 64) (heq : l = r) :
    Calls Tryz.prog 22 #[.slice a l.length c, .slice b r.length d] w fun e w' => TruePost w e w' := by
  subst heq
  have HL : Hid (IntsAt w a l) := hl
  have HR : Hid (IntsAt w b l) := hr
  clear hl hr h64'
  have h64 : (l.length : Int) ≤ 64 := by omega
  generalize hn : l.length = n at *
  have HN : Hid (l.length = n) := hn
  clear hn
  go_enter Tryz.func22, Tryz.ntmps22
  go_wp2_with fail
  go_loopw [5] (fun i wr => ∃ k : Nat, k ≤ n ∧ i = .int .i64 k ∧ Below w.heap.size w wr) (fun i _ => n - (intOf i).toNat)
  case atStart => exact ⟨0, Nat.zero_le _, rfl, Below.refl _ _⟩
  case round =>
    obtain ⟨k, hk, rfl, hbel⟩ := hrel
    by_cases hlt : k < n
    · have hk1 : (k : Int) < (n : Int) := by omega
      have hk0 : (0 : Int) ≤ (k : Int) := by omega
      rcases HL.out.below hbel with h0 | ⟨p, rfl, hp, hcp⟩
      · have := HN.out; rw [h0] at this; simp at this; omega
      rcases HR.out.below hbel with h0 | ⟨q, rfl, hq, hcq⟩
      · have := HN.out; rw [h0] at this; simp at this; omega
      have x0 := cell_grown (a := ⟨p, k, none⟩) hp (hcp k (by have := HN.out; omega))
      have x1 := cell_grown (a := ⟨q, k, none⟩) hq (hcq k (by have := HN.out; omega))
      have HB : Hid (∀ n os, Below w.heap.size w (Go.Sort.grow (wr.drewN n) os)) := fun n os => below2 hbel (below_grow _ _ _)
      clear hcp hcq
      generalize l.getD k 0 = y at *
      go_wp2_with fail
      refine wp_region_QW mixed5 (by kernel_rfl) ?_
      repeat (refine QW_step (fun K hK => ?_); go_simp; first | (refine hK _ ?_; clear hK K) | (apply Exists.intro; refine ⟨fun _ => ?_, hK _ ?_⟩; fail; clear hK K))
      refine QW_nil ?_
      intro _ hw9
      obtain ⟨⟨nq, osq⟩, hw8⟩ := hw9
      subst hw8
      have hb := HB.out nq osq
      go_wp2_with fail
      exact ⟨⟨k + 1, by omega, by go_num, hb⟩, by simp [intOf]; omega⟩
    · go_wp2_with fail
      go_ret
      exact ⟨rfl, hbel⟩
end Go.Proofs.YtcncbjknfcjnmaaGreat.Dr
namespace Go.Proofs.YtcncbjknfcjnmaaGreat.Dr
open Go.ChangeShapes Go.WideShapes Go.ChangeAt Go.RowKit
theorem best_take {cost : Int → Int} {ls : List Ch} {k : Nat} (h : k < ls.length) : bestC cost (ls.take (k + 1)) = stepC cost (bestC cost (ls.take k)) (ls.getD k ch0) := by
  rw [List.take_succ_eq_append_getElem h, getD_get h]
  unfold bestC
  rw [List.foldl_append, List.foldl_cons, List.foldl_nil]
/-- where the best one so far stands -/
def AtIs (cost : Int → Int) (ls : List Ch) (k : Nat) (z : Int) : Prop := (z = -1 ∧ bestC cost (ls.take k) = none) ∨ ∃ j : Nat, j < k ∧ z = j ∧ bestC cost (ls.take k) = some (ls.getD j ch0)
/-- weights that fit -/
def FitC (ls : List Ch) : Prop := ls.length ≤ 64 ∧ ∀ c ∈ ls, 0 ≤ c.2 ∧ c.2 ≤ 65536
theorem FitC.at {ls : List Ch} (h : FitC ls) {i : Nat} (hi : i < ls.length) : 0 ≤ (ls.getD i ch0).2 ∧ (ls.getD i ch0).2 ≤ 65536 := by
  rw [getD_get hi]
  exact h.2 _ (List.getElem_mem hi)
theorem prod_fits {p x : Int} (hp : 0 ≤ p ∧ p < 1114112) (hx : 0 ≤ x ∧ x ≤ 65536) : IntKind.i64.wrap (p * x) = p * x ∧ wrap64 (p * x) = p * x := by
  have h1 : 0 ≤ p * x := Int.mul_nonneg hp.1 hx.1
  have h2 : p * x ≤ 1114112 * 65536 := Int.mul_le_mul (by omega) hx.2 hx.1 (by omega)
  refine ⟨by rw [IntKind.wrap_i64]; omega, by unfold wrap64; omega⟩
def PairPost (r : Option Ch) (w : World) (e : Ending) (w' : World) : Prop := Below w.heap.size w w' ∧ e = .returned (.tuple #[.int .i64 (idO r), .bool (isO r)])
set_option maxHeartbeats 2000000 in
set_option maxRecDepth 60000 in
theorem refBest_any (key : Nat) (a : Option Addr) (len cap : Nat) (ls : List Ch) (w : World) (hkey : key < 18446744073709551616) (h : ChsAt w a len cap ls) (hF : FitC ls) :
    Calls Tryz.prog 126 #[.int .u64 (key : Int), .slice a len cap] w fun e w' => PairPost (bestC (costOf key) ls) w e w' := by
  have hl : ls.length = len := h.1
  have h64 : (len : Int) ≤ 64 := by have := hF.1; omega
  have HL : Hid (ChsAt w a len cap ls) := h
  have HF : Hid (FitC ls) := hF
  have HC : Hid (∀ i W, Calls Tryz.prog 151 #[.int .u64 (key : Int), .int .i64 i] W fun e w' => e = .returned (.int .i64 (costOf key i)) ∧ Grown W w') := fun i W => refCost5_any key i W hkey
  clear h hF hkey
  go_enter Tryz.func126, Tryz.ntmps126
  go_wp2_with fail
  go_loopw [6, 7] (fun s i wr => ∃ (k : Nat) (z : Int), k ≤ len ∧ s = .int .i64 z ∧ i = .int .i64 k ∧ Hid (AtIs (costOf key) ls k z) ∧ Below w.heap.size w wr) (fun _ i _ => len - (intOf i).toNat)
  case atStart => exact ⟨0, -1, Nat.zero_le _, rfl, rfl, .inl ⟨rfl, rfl⟩, Below.refl _ _⟩
  case round =>
    obtain ⟨k, z, hk, rfl, rfl, hT, hbel⟩ := hrel
    by_cases hlt : k < len
    · obtain ⟨b, off, rfl, hbs, hcell⟩ := (HL.out.below hbel).some (by omega)
      obtain ⟨e0, e1⟩ := hcell k hlt
      have hk1 : (k : Int) < (len : Int) := by omega
      have hk0 : (0 : Int) ≤ (k : Int) := by omega
      have HST := best_take (cost := costOf key) (ls := ls) (k := k) (by omega)
      have hc2 := HF.out.at (i := k) (by omega)
      have HB1 : Hid (∀ n os, Below w.heap.size w (Go.Sort.grow (wr.drewN n) os)) := fun n os => below2 hbel (below_grow _ _ _)
      have HNEW : Hid (bestC (costOf key) (ls.take (k + 1)) = some (ls.getD k ch0) → AtIs (costOf key) ls (k + 1) k) := fun h => .inr ⟨k, by omega, rfl, h⟩
      generalize hx : ls.getD k ch0 = x at *
      obtain ⟨c1, c2⟩ := x
      have x0 := cell_grown (a := ⟨b, off + k * 2, none⟩) hbs e0
      have x1 := cell_grown (a := ⟨b, off + k * 2 + 1, none⟩) hbs e1
      clear hx
      by_cases hz0 : c2 = 0
      · have HY : Hid (AtIs (costOf key) ls (k + 1) z) := by
          have hst : bestC (costOf key) (ls.take (k + 1)) = bestC (costOf key) (ls.take k) := HST.trans (stepC_zero _ hz0)
          rcases hT.out with ⟨h1, h2⟩ | ⟨j, h1, h2, h3⟩
          · exact .inl ⟨h1, hst.trans h2⟩
          · exact .inr ⟨j, by omega, h2, hst.trans h3⟩
        subst hz0
        clear hT HST hcell HNEW x0 x1 hc2
        go_wp2_with fail
        exact ⟨⟨k + 1, z, by omega, rfl, by go_num, HY, hbel⟩, by simp [intOf]; omega⟩
      · have hd0 : (c2 == 0) = false := beq_eq_false_iff_ne.2 hz0
        rcases hT.out with ⟨hz, hb⟩ | ⟨j, hj, hz, hb⟩
        · subst hz
          have HY : Hid (AtIs (costOf key) ls (k + 1) k) := HNEW.out (by rw [HST, hb, stepC_none _ hz0])
          clear hT HST hcell HNEW hb hc2
          go_wp2_with fail
          refine wp_region_QW mixed5 (by kernel_rfl) ?_
          repeat (refine QW_step (fun K hK => ?_); go_simp; first | (refine hK _ ?_; clear hK K) | (apply Exists.intro; refine ⟨fun _ => ?_, hK _ ?_⟩; (go_at_call 151; refine Calls.grown_of (HC.out _ _)); clear hK K))
          refine QW_nil ?_
          intro _ hw9
          obtain ⟨⟨nq, osq⟩, hw8⟩ := hw9
          subst hw8
          have hbe := HB1.out nq osq
          go_wp2_with fail
          exact ⟨⟨k + 1, k, by omega, rfl, by go_num, HY, hbe⟩, by simp [intOf]; omega⟩
        · subst hz
          obtain ⟨g0, g1⟩ := hcell j (by omega)
          have hm := HF.out.at (i := j) (by omega)
          have HOLD : Hid (bestC (costOf key) (ls.take (k + 1)) = some (ls.getD j ch0) → AtIs (costOf key) ls (k + 1) j) := fun h => .inr ⟨j, by omega, rfl, h⟩
          have hj1 : (j : Int) < (len : Int) := by omega
          have hj0 : (0 : Int) ≤ (j : Int) := by omega
          have hj2 : decide ((j : Int) < 0) = false := by simp
          generalize ls.getD j ch0 = y at *
          obtain ⟨m1, m2⟩ := y
          have y0 := cell_grown (a := ⟨b, off + j * 2, none⟩) hbs g0
          have y1 := cell_grown (a := ⟨b, off + j * 2 + 1, none⟩) hbs g1
          obtain ⟨p1, p2⟩ := prod_fits (costOf_bound key c1) hm
          obtain ⟨p3, p4⟩ := prod_fits (costOf_bound key m1) hc2
          simp only at p1 p2 p3 p4
          rw [hb] at HST
          clear hT hcell hb hm hc2 g0 g1
          by_cases hq : costOf key c1 * m2 < costOf key m1 * c2
          · have HY : Hid (AtIs (costOf key) ls (k + 1) k) := HNEW.out (HST.trans (stepC_yes _ hz0 hq))
            clear HST HNEW HOLD
            go_wp2_with fail
            refine wp_region_QW mixed5 (by kernel_rfl) ?_
            repeat (refine QW_step (fun K hK => ?_); go_simp; first | (refine hK _ ?_; clear hK K) | (apply Exists.intro; refine ⟨fun _ => ?_, hK _ ?_⟩; (go_at_call 151; refine Calls.grown_of (HC.out _ _)); clear hK K))
            refine QW_nil ?_
            intro _ hw9
            obtain ⟨⟨nq, osq⟩, hw8⟩ := hw9
            subst hw8
            have hbe := HB1.out nq osq
            go_wp2_with fail
            exact ⟨⟨k + 1, k, by omega, rfl, by go_num, HY, hbe⟩, by simp [intOf]; omega⟩
          · have HY : Hid (AtIs (costOf key) ls (k + 1) j) := HOLD.out (HST.trans (stepC_no _ hz0 hq))
            have hqd : decide (costOf key c1 * m2 < costOf key m1 * c2) = false := decide_eq_false hq
            clear HST HNEW HOLD
            go_wp2_with fail
            refine wp_region_QW mixed5 (by kernel_rfl) ?_
            repeat (refine QW_step (fun K hK => ?_); go_simp; first | (refine hK _ ?_; clear hK K) | (apply Exists.intro; refine ⟨fun _ => ?_, hK _ ?_⟩; (go_at_call 151; refine Calls.grown_of (HC.out _ _)); clear hK K))
            refine QW_nil ?_
            intro _ hw9
            obtain ⟨⟨nq, osq⟩, hw8⟩ := hw9
            subst hw8
            have hbe := HB1.out nq osq
            go_wp2_with fail
            exact ⟨⟨k + 1, j, by omega, rfl, by go_num, HY, hbe⟩, by simp [intOf]; omega⟩
    · obtain rfl : k = len := by omega
      have hT' := hT.out
      unfold AtIs at hT'
      rw [List.take_of_length_le (by omega)] at hT'
      rcases hT' with ⟨hz, hb⟩ | ⟨j, hj, hz, hb⟩
      · subst hz
        have HE : Hid (bestC (costOf key) ls = none) := hb
        clear hT hb
        go_wp2_with fail
        go_returns
        exact ⟨hbel, by rw [HE.out]; rfl⟩
      · subst hz
        obtain ⟨b, off, rfl, hbs, hcell⟩ := (HL.out.below hbel).some (by omega)
        obtain ⟨g0, g1⟩ := hcell j (by omega)
        have hj1 : (j : Int) < (k : Int) := by omega
        have hj0 : (0 : Int) ≤ (j : Int) := by omega
        have hj2 : decide ((j : Int) < 0) = false := by simp
        generalize ls.getD j ch0 = y at *
        obtain ⟨m1, m2⟩ := y
        have HE : Hid (bestC (costOf key) ls = some (m1, m2)) := hb
        clear hT hb hcell
        go_wp2_with fail
        go_returns
        exact ⟨hbel, by rw [HE.out]; rfl⟩
end Go.Proofs.YtcncbjknfcjnmaaGreat.Dr
namespace Go.Proofs.YtcncbjknfcjnmaaGreat.Dr
open Go.ChangeShapes Go.WideShapes Go.ChangeAt Go.RowKit
/-- rows of unlike types lie in unlike blocks -/
theorem own_apart {w : World} {B B' s s' n n' : Nat} {e e' : TypeId} {v v' : Value} {xs xs' : List Value} (h : w.ownsRow B e s v n xs) (h' : w.ownsRow B' e' s' v' n' xs') (he : e ≠ e') : v.ownBlock = none ∨ v.ownBlock ≠ v'.ownBlock := by
  rcases h.2 with ⟨rfl, _⟩ | ⟨g, cap, cur, rfl, _, hg, _⟩
  · exact .inl rfl
  · right
    rcases h'.2 with ⟨rfl, _⟩ | ⟨g', cap', cur', rfl, _, hg', _⟩
    · simp [Value.ownBlock]
    · intro e0
      simp [Value.ownBlock] at e0
      subst e0
      rw [hg] at hg'
      simp at hg'
      exact he hg'.2
def chCells (c : Ch) : List Value := [.int .i64 c.1, .int .i64 c.2]
def cellsC (l : List Ch) : List Value := l.flatMap chCells
theorem cellsC_snoc (l : List Ch) (c : Ch) : cellsC (l ++ [c]) = cellsC l ++ chCells c := by
  unfold cellsC; simp
theorem cellsC_get (l : List Ch) : ∀ i, i < l.length → (cellsC l)[i * 2]? = some (.int .i64 (l.getD i ch0).1) ∧ (cellsC l)[i * 2 + 1]? = some (.int .i64 (l.getD i ch0).2) := by
  induction l with
  | nil => intro i h; simp at h
  | cons c l ih =>
    intro i h
    cases i with
    | zero => exact ⟨rfl, rfl⟩
    | succ i =>
      have h1 := ih i (by simpa using h)
      have e : ∀ j, (cellsC (c :: l))[(i + 1) * 2 + j]? = (cellsC l)[i * 2 + j]? := fun j => by
        unfold cellsC
        rw [List.flatMap_cons, show (i + 1) * 2 + j = (chCells c).length + (i * 2 + j) from by simp [chCells]; omega, List.getElem?_append_right (by omega), Nat.add_sub_cancel_left]
      exact ⟨(e 0).trans h1.1, (e 1).trans h1.2⟩
theorem chs_own {w : World} {B n cap : Nat} {a : Option Addr} {l : List Ch} (h : w.ownsRow B 148 2 (.slice a n cap) n (cellsC l)) (hn : l.length = n) : ChsAt w a n cap l := by
  rcases h.2 with ⟨hv, h0⟩ | ⟨g, cap', cur, hv, hB, hh, hc, hm, _⟩
  · injection hv with ha hn' hc
    exact ⟨hn, by omega, by rw [hc]; exact Nat.zero_le _, .inl h0⟩
  · injection hv with ha hn' hc'
    subst ha
    subst hc'
    refine ⟨hn, hc, hm, .inr ⟨g, 0, rfl, fun i hi => ?_⟩⟩
    obtain ⟨h0, h1⟩ := cellsC_get l i (by omega)
    rw [Nat.zero_add]
    exact ⟨(h.cellAt (i * 2) (by omega)).trans h0, (h.cellAt (i * 2 + 1) (by omega)).trans h1⟩
theorem filter_take {ls : List Ch} {k : Nat} {p : Ch → Bool} (h : k < ls.length) : (ls.take (k + 1)).filter p = (ls.take k).filter p ++ (if p (ls.getD k ch0) then [ls.getD k ch0] else []) := by
  rw [List.take_succ_eq_append_getElem h, getD_get h, List.filter_append]
  congr 1
  cases hp : p ls[k] <;> simp [hp]
def WoPost (ls : List Ch) (id : Int) (w : World) (e : Ending) (w' : World) : Prop :=
  Below w.heap.size w w' ∧ ∃ a cap, e = .returned (.slice a (ls.filter fun c => decide (c.1 ≠ id)).length cap) ∧ w'.ownsRow w.heap.size 148 2 (.slice a (ls.filter fun c => decide (c.1 ≠ id)).length cap) (ls.filter fun c => decide (c.1 ≠ id)).length (cellsC (ls.filter fun c => decide (c.1 ≠ id)))
set_option maxHeartbeats 2000000 in
set_option maxRecDepth 60000 in
theorem without_any (a : Option Addr) (len cap : Nat) (ls : List Ch) (id : Int) (w : World) (h : ChsAt w a len cap ls) (h64 : ls.length ≤ 64) :
    Calls Tryz.prog 127 #[.slice a len cap, .int .i64 id] w fun e w' => WoPost ls id w e w' := by
  have hl : ls.length = len := h.1
  have h64' : (len : Int) ≤ 64 := by omega
  have HL : Hid (ChsAt w a len cap ls) := h
  obtain ⟨i0, hi, hz0, hz1, hz2⟩ := info_parts info37
  have HLIT : Hid ((w.alloc (.cells #[] 148)).ownsRow w.heap.size 148 2 (.slice (some ⟨w.heap.size, 0, none⟩) 0 0) ([] : List Ch).length (cellsC [])) := World.ownsRow_lit (base := w.heap.size) (size := 2) (e := 148) w #[] 0 (Nat.le_refl _) (Nat.zero_le _) (by simp)
  have hb0 := below_alloc w (.cells #[] 148)
  clear h h64
  go_enter Tryz.func127, Tryz.ntmps127
  go_wp2_with fail
  go_loopw [5, 6] (fun o i wr => ∃ (k : Nat) (out : List Ch), k ≤ len ∧ i = .int .i64 k ∧ Hid (out = (ls.take k).filter fun c => decide (c.1 ≠ id)) ∧ out.length ≤ k ∧ Hid (wr.ownsRow w.heap.size 148 2 o out.length (cellsC out)) ∧ Below w.heap.size w wr) (fun _ i _ => len - (intOf i).toNat)
  case atStart => exact ⟨0, [], Nat.zero_le _, rfl, rfl, Nat.le_refl _, HLIT, hb0⟩
  case round =>
    obtain ⟨k, out, hk, rfl, hT, hok, hown, hbel⟩ := hrel
    by_cases hlt : k < len
    · obtain ⟨b, off, rfl, hbs, hcell⟩ := (HL.out.below hbel).some (by omega)
      obtain ⟨e0, e1⟩ := hcell k hlt
      have hk1 : (k : Int) < (len : Int) := by omega
      have hk0 : (0 : Int) ≤ (k : Int) := by omega
      have HST := filter_take (ls := ls) (k := k) (p := fun c => decide (c.1 ≠ id)) (by omega)
      rw [← hT.out] at HST
      clear hcell hT
      generalize ls.getD k ch0 = x at *
      obtain ⟨c1, c2⟩ := x
      have hown0 := hown.out
      clear hown
      by_cases hc : c1 = id
      · have HY : Hid (out = (ls.take (k + 1)).filter fun c => decide (c.1 ≠ id)) := by
          show _ = _
          rw [HST]
          simp [hc]
        have hd : (!(c1 == id)) = false := by simp [hc]
        have HO : Hid _ := hown0
        subst hc
        clear HST hown0
        go_wp2_with fail
        exact ⟨⟨k + 1, out, by omega, by go_num, HY, by omega, HO, hbel⟩, by simp [intOf]; omega⟩
      · have HY : Hid (out ++ [(c1, c2)] = (ls.take (k + 1)).filter fun c => decide (c.1 ≠ id)) := by
          show _ = _
          rw [HST]
          simp [hc]
        have hd : (!(c1 == id)) = true := by simp [hc]
        clear HST
        have hownB := own_alloc hown0 (.cells #[.int .i64 c1, .int .i64 c2] 148)
        have hsz := hbel.size
        have hnews := cells_lit wr (chCells (c1, c2)) 148
        have hw4 : wr.alloc (.cells (chCells (c1, c2)).toArray 148) = wr.alloc (.cells #[.int .i64 c1, .int .i64 c2] 148) := rfl
        rw [hw4] at hnews
        go_wp2_with (at_builtin; refine wpList_append_own _ rfl _ _ 122 rfl w.heap.size 148 i0 (.agg #[.int .i64 0, .int .i64 0]) 2 16 Tryz.underlying122 hi hz0 hz1 hz2 rfl (by decide) _ _ _ rfl hownB ⟨wr.heap.size, 0, none⟩ 1 1 (chCells (c1, c2)) rfl rfl hnews (by intro u hu; simp [chCells] at hu; rcases hu with rfl | rfl <;> rfl) (by unfold maxLen; omega) (by omega) (by simp; omega) ?_)
        intro v7 w7 hown7' hg7 _
        have HO : Hid (w7.ownsRow w.heap.size 148 2 v7 (out ++ [(c1, c2)]).length (cellsC (out ++ [(c1, c2)]))) := by
          rw [cellsC_snoc, List.length_append]
          exact hown7'
        have hb7 : Below w.heap.size w w7 := (hbel.alloc hsz _).grown hg7 (by simp; omega) (fun k hk => (hown0.lt k hk).1)
        clear hown7' hg7 hownB hnews hown0
        go_wp2_with fail
        exact ⟨⟨k + 1, _, by omega, by go_num, HY, by simp; omega, HO, hb7⟩, by simp [intOf]; omega⟩
    · obtain rfl : k = len := by omega
      have HE : Hid (out = ls.filter fun c => decide (c.1 ≠ id)) := by
        have := hT.out
        rwa [List.take_of_length_le (by omega)] at this
      obtain ⟨ao, co, he, -⟩ := own_slice hown.out
      clear hT
      go_wp2_with fail
      go_ret
      subst he
      refine ⟨hbel, ao, co, ?_, ?_⟩
      · rw [← HE.out]
        rfl
      · rw [← HE.out]
        exact hown.out
end Go.Proofs.YtcncbjknfcjnmaaGreat.Dr
namespace Go.Proofs.YtcncbjknfcjnmaaGreat.Dr
open Go.ChangeShapes Go.WideShapes Go.ChangeAt Go.RowKit
theorem intCells_snoc (l : List Int) (x : Int) : intCells (l ++ [x]) = intCells l ++ [.int .i64 x] := by
  unfold intCells; simp
/-- the choices that are left: those that came in, or a row of one's own -/
def CurAt (w wr : World) (a : Option Addr) (len cap : Nat) (cur : List Ch) : Prop :=
  cur.length = len ∧ (ChsAt w a len cap cur ∨ wr.ownsRow w.heap.size 148 2 (.slice a len cap) len (cellsC cur))
theorem CurAt.chs {w wr : World} {a : Option Addr} {len cap : Nat} {cur : List Ch} (h : CurAt w wr a len cap cur) (hb : Below w.heap.size w wr) : ChsAt wr a len cap cur := by
  rcases h.2 with h1 | h1
  · exact h1.below hb
  · exact chs_own h1 h.1
theorem CurAt.below {w wr wr' : World} {a : Option Addr} {len cap : Nat} {cur : List Ch} (h : CurAt w wr a len cap cur) (hb : Below wr.heap.size wr wr') : CurAt w wr' a len cap cur := by
  refine ⟨h.1, ?_⟩
  rcases h.2 with h1 | h1
  · exact .inl h1
  · exact .inr (own_below h1 hb)
theorem CurAt.grown {w wr wr' : World} {a : Option Addr} {len cap : Nat} {cur : List Ch} {v : Value} {n : Nat} {xs : List Value} (h : CurAt w wr a len cap cur) (hv : wr.ownsRow w.heap.size 3 1 v n xs) (hg : wr.grownBy wr' v.ownBlock) : CurAt w wr' a len cap cur := by
  refine ⟨h.1, ?_⟩
  rcases h.2 with h1 | h1
  · exact .inl h1
  · exact .inr (h1.kept hg (own_apart h1 hv (by decide)))
def SelPost (key : Nat) (ls : List Ch) (w : World) (e : Ending) (w' : World) : Prop :=
  Below w.heap.size w w' ∧ ∃ a cap, e = .returned (.slice a (selC (costOf key) ls.length ls).length cap) ∧ IntsAt w' a (selC (costOf key) ls.length ls) ∧ (selC (costOf key) ls.length ls).length ≤ 64 ∧ ∀ p : Addr, a = some p → w.heap.size ≤ p.block
theorem selC_len (cost : Int → Int) : ∀ (n : Nat) (l : List Ch), (selC cost n l).length ≤ n := by
  intro n
  induction n with
  | zero => intro l; exact Nat.le_refl _
  | succ n ih =>
    intro l
    cases h : bestC cost l with
    | none => rw [selC_none cost h]; simp
    | some a => rw [selC_some cost h]; simp; exact ih _
set_option maxHeartbeats 2000000 in
set_option maxRecDepth 60000 in
theorem refOrder_any (key : Nat) (a : Option Addr) (len cap : Nat) (ls : List Ch) (w : World) (hkey : key < 18446744073709551616) (h : ChsAt w a len cap ls) (hF : FitC ls) :
    Calls Tryz.prog 108 #[.int .u64 (key : Int), .slice a len cap] w fun e w' => SelPost key ls w e w' := by
  have hl : ls.length = len := h.1
  have h64 : (len : Int) ≤ 64 := by have := hF.1; omega
  have HLS : Hid (ls.length = len) := hl
  have HKEY : Hid (key < 18446744073709551616) := hkey
  obtain ⟨i0, hi, hz0, hz1, hz2⟩ := info_parts info3
  have HLIT : Hid ((w.alloc (.cells #[] 3)).ownsRow w.heap.size 3 1 (.slice (some ⟨w.heap.size, 0, none⟩) 0 0) ([] : List Int).length (intCells [])) := World.ownsRow_lit (base := w.heap.size) (size := 1) (e := 3) w #[] 0 (Nat.le_refl _) (Nat.zero_le _) (by simp)
  have HCUR : Hid (CurAt w (w.alloc (.cells #[] 3)) a len cap ls) := ⟨hl, .inl h⟩
  have HFIT : Hid (FitC ls) := hF
  have hb0 := below_alloc w (.cells #[] 3)
  clear h hF hkey hl
  go_enter Tryz.func108, Tryz.ntmps108
  go_wp2_with fail
  go_loopw [1, 5, 7] (fun l o i wr => ∃ (k : Nat) (out : List Int) (ac : Option Addr) (nc cc : Nat) (cur : List Ch), k ≤ len ∧ i = .int .i64 k ∧ l = .slice ac nc cc ∧ Hid (out ++ selC (costOf key) (len - k) cur = selC (costOf key) len ls) ∧ out.length ≤ k ∧ Hid (FitC cur) ∧ Hid (CurAt w wr ac nc cc cur) ∧ Hid (wr.ownsRow w.heap.size 3 1 o out.length (intCells out)) ∧ Below w.heap.size w wr) (fun _ _ i _ => len - (intOf i).toNat)
  case atStart => exact ⟨0, [], a, len, cap, ls, Nat.zero_le _, rfl, rfl, rfl, Nat.le_refl _, HFIT, HCUR, HLIT, hb0⟩
  case round =>
    obtain ⟨k, out, ac, nc, cc, cur, hk, rfl, rfl, hT, hok, hfit, hcur, hown, hbel⟩ := hrel
    by_cases hlt : k < len
    · have hk1 : (k : Int) < (len : Int) := by omega
      have HBC := refBest_any key ac nc cc cur wr HKEY.out (hcur.out.chs hbel) hfit.out
      obtain ⟨m, hm⟩ : ∃ m, len - k = m + 1 := ⟨len - k - 1, by omega⟩
      cases hbst : bestC (costOf key) cur with
      | none =>
        rw [hbst] at HBC
        have HE : Hid (out = selC (costOf key) len ls) := by
          have := hT.out
          rw [hm, selC_none _ hbst, List.append_nil] at this
          exact this
        have HB : Hid (Calls Tryz.prog 126 #[.int .u64 (key : Int), .slice ac nc cc] wr fun e w' => Below wr.heap.size wr w' ∧ e = .returned (.tuple #[.int .i64 0, .bool false])) := HBC
        obtain ⟨ao, co, he, -⟩ := own_slice hown.out
        clear HBC hT hm hbst
        go_wp2_with (go_at_call 126; refine HB.out.mono ?_; rintro e w2 ⟨hb2, rfl⟩)
        go_ret
        subst he
        rw [HE.out] at hown
        refine ⟨below2 hbel hb2, ao, co, ?_, ?_, ?_, fun p hp => (hown.out.lt p.block (by rw [hp]; rfl)).1⟩
        · rw [HLS.out, ← HE.out]
          rfl
        · rw [HLS.out]
          exact (ints_own hown.out rfl).below hb2
        · rw [HLS.out]
          have := selC_len (costOf key) len ls
          omega
      | some x =>
        rw [hbst] at HBC
        obtain ⟨x1, x2⟩ := x
        have HE : Hid ((out ++ [x1]) ++ selC (costOf key) (len - (k + 1)) (cur.filter fun c => decide (c.1 ≠ x1)) = selC (costOf key) len ls) := by
          have := hT.out
          rw [hm, selC_some _ hbst] at this
          rw [show len - (k + 1) = m by omega, List.append_assoc]
          exact this
        have HB : Hid (Calls Tryz.prog 126 #[.int .u64 (key : Int), .slice ac nc cc] wr fun e w' => Below wr.heap.size wr w' ∧ e = .returned (.tuple #[.int .i64 x1, .bool true])) := HBC
        have HFN : Hid (FitC (cur.filter fun c => decide (c.1 ≠ x1))) := ⟨Nat.le_trans (List.length_filter_le _ _) hfit.out.1, fun c hc => hfit.out.2 c (List.mem_filter.1 hc).1⟩
        clear HBC hT hm hbst
        go_wp2_with fail
        refine HB.out.mono ?_
        rintro e w2 ⟨hb2, rfl⟩
        clear HB
        have hbel2 : Below w.heap.size w w2 := below2 hbel hb2
        have hown2 := own_below hown.out hb2
        have hcur2 := hcur.out.below hb2
        clear hown hcur hb2
        have hownB := own_alloc hown2 (.cells #[.int .i64 x1] 3)
        have hcurB := hcur2.below (below_alloc w2 (.cells #[.int .i64 x1] 3))
        have hsz := hbel2.size
        have hnews := cells_lit w2 [.int .i64 x1] 3
        have HCB : Hid (CurAt w (w2.alloc (.cells #[.int .i64 x1] 3)) ac nc cc cur) := hcurB
        clear hcurB hcur2
        go_wp2_with (at_builtin; refine wpList_append_own _ rfl _ _ 35 rfl w.heap.size 3 i0 (.int .i64 0) 1 8 Tryz.underlying35 hi hz0 hz1 hz2 rfl (by decide) _ _ _ rfl hownB ⟨w2.heap.size, 0, none⟩ 1 1 [.int .i64 x1] rfl rfl hnews (by intro u hu; simp at hu; subst hu; rfl) (by unfold maxLen; omega) (by omega) (by simp; omega) ?_)
        intro v7 w7 hown7' hg7 _
        have HC7 : Hid (CurAt w w7 ac nc cc cur) := HCB.out.grown hownB hg7
        have HO : Hid (w7.ownsRow w.heap.size 3 1 v7 (out ++ [x1]).length (intCells (out ++ [x1]))) := by
          rw [intCells_snoc, List.length_append]
          exact hown7'
        have hb7 : Below w.heap.size w w7 := (hbel2.alloc hsz _).grown hg7 (by simp; omega) (fun k hk => (hownB.lt k hk).1)
        clear hown7' hg7 hownB hnews hown2 HCB
        have HWO : Hid (Calls Tryz.prog 127 #[.slice ac nc cc, .int .i64 x1] w7 fun e w' => WoPost cur x1 w7 e w') := without_any ac nc cc cur x1 w7 (HC7.out.chs hb7) hfit.out.1
        go_wp2_with fail
        refine HWO.out.mono ?_
        rintro e w8 ⟨hb8, an, cn, rfl, hown8⟩
        clear HWO
        generalize (cur.filter fun c => decide (c.1 ≠ x1)) = nx at *
        have HO8 : Hid _ := own_below HO.out hb8
        have hb8' : Below w.heap.size w w8 := below2 hb7 hb8
        have HC8 : Hid (CurAt w w8 an nx.length cn nx) := ⟨rfl, .inr ⟨hown8.1, by
          rcases hown8.2 with h | ⟨g, cap', cu, hv, hB, rest⟩
          · exact .inl h
          · exact .inr ⟨g, cap', cu, hv, Nat.le_trans hb7.size hB, rest⟩⟩⟩
        clear hown8 HO HC7
        go_wp2_with fail
        exact ⟨⟨k + 1, _, an, _, cn, _, by omega, by go_num, rfl, HE, by simp; omega, HFN, HC8, HO8, hb8'⟩, by simp [intOf]; omega⟩
    · obtain rfl : k = len := by omega
      have HE : Hid (out = selC (costOf key) k ls) := by
        have := hT.out
        rw [Nat.sub_self, selC_zero, List.append_nil] at this
        exact this
      obtain ⟨ao, co, he, -⟩ := own_slice hown.out
      clear hT
      go_wp2_with fail
      go_ret
      subst he
      rw [HE.out] at hown
      refine ⟨hbel, ao, co, ?_, ?_, ?_, fun p hp => (hown.out.lt p.block (by rw [hp]; rfl)).1⟩
      · rw [HLS.out, ← HE.out]
        rfl
      · rw [HLS.out]
        exact ints_own hown.out rfl
      · rw [HLS.out]
        have := selC_len (costOf key) k ls
        omega
end Go.Proofs.YtcncbjknfcjnmaaGreat.Dr
namespace Go.Proofs.YtcncbjknfcjnmaaGreat.Tp
open Go.ChangeShapes Go.WideShapes Go.ChangeAt Go.RowKit
theorem refWeight_any (c1 c2 c3 c4 : Int) (c5 c6 : Bool) (w : World) : Calls Tryz.prog 124 #[.agg #[.int .i64 c1, .int .i64 c2, .int .i64 c3, .int .i64 c4, .bool c5, .bool c6]] w fun e w' => e = .returned (.int .i64 (wtN ⟨c1, c2, c3, c4, c5, c6⟩)) ∧ Grown w w' := by
  have HB : Hid (Grown w (w.alloc (.cells #[.int .i64 c1, .int .i64 c2, .int .i64 c3, .int .i64 c4, .bool c5, .bool c6] 72))) := grown_alloc _ _
  cases c6 with
  | true =>
    go_enter Tryz.func124, Tryz.ntmps124
    go_wp2
    go_ret
    exact ⟨rfl, HB.out⟩
  | false =>
    go_enter Tryz.func124, Tryz.ntmps124
    go_wp2
    go_ret
    exact ⟨rfl, HB.out⟩
theorem cellsC_snoc (l : List Ch) (c : Ch) : cellsC (l ++ [c]) = cellsC l ++ chCells c := by
  unfold cellsC; simp
/-- what the first t weigh that go by a number, and whether there are any -/
def accW (g : Nd → Int) (ls : List Nd) (id : Int) (t : Nat) : Int := wsum ((ls.take t).filter fun x => decide (g x = id))
def accB (g : Nd → Int) (ls : List Nd) (id : Int) (t : Nat) : Bool := (ls.take t).any fun x => decide (g x = id)
theorem wsum_app (l r : List Nd) : wsum (l ++ r) = wsum l + wsum r := by
  induction l with
  | nil => simp [wsum]
  | cons x l ih => rw [List.cons_append]; simp only [wsum, ih]; omega
theorem acc_yes {g : Nd → Int} {ls : List Nd} {id : Int} {t : Nat} (h : t < ls.length) (e : g (ls.getD t nd0) = id) : accW g ls id (t + 1) = accW g ls id t + wtN (ls.getD t nd0) ∧ accB g ls id (t + 1) = true := by
  unfold accW accB
  rw [getN_get h] at *
  rw [List.take_succ_eq_append_getElem h, List.filter_append, List.any_append, wsum_app, List.filter_cons_of_pos (by simpa using e)]
  simp [wsum, e]
theorem acc_no {g : Nd → Int} {ls : List Nd} {id : Int} {t : Nat} (h : t < ls.length) (e : ¬ g (ls.getD t nd0) = id) : accW g ls id (t + 1) = accW g ls id t ∧ accB g ls id (t + 1) = accB g ls id t := by
  unfold accW accB
  rw [getN_get h] at *
  rw [List.take_succ_eq_append_getElem h, List.filter_append, List.any_append, wsum_app, List.filter_cons_of_neg (by simpa using e)]
  simp [wsum, e]
theorem acc_bd {g : Nd → Int} {ls : List Nd} (hM : MayN ls) (id : Int) : ∀ t, t ≤ ls.length → 0 ≤ accW g ls id t ∧ accW g ls id t ≤ 65536 * (t : Int) := by
  intro t
  induction t with
  | zero => intro _; simp [accW, wsum]
  | succ t ih =>
    intro h
    obtain ⟨h1, h2⟩ := ih (by omega)
    have hb := wtN_bd (may_in hM (ls.getD t nd0) (by rw [getN_get (by omega)]; exact List.getElem_mem _))
    by_cases e : g (ls.getD t nd0) = id
    · rw [(acc_yes (by omega) e).1]; omega
    · rw [(acc_no (by omega) e).1]; omega
theorem upTo_yes {g : Nd → Int} {ls : List Nd} {k : Nat} (h : accB g ls ((k : Int) + 1) ls.length = true) : upTo g ls (k + 1) = upTo g ls k ++ [((k : Int) + 1, min (accW g ls ((k : Int) + 1) ls.length) 65536)] := by
  unfold accB at h
  rw [List.take_length] at h
  unfold accW
  rw [List.take_length]
  exact if_pos h
theorem upTo_no {g : Nd → Int} {ls : List Nd} {k : Nat} (h : accB g ls ((k : Int) + 1) ls.length = false) : upTo g ls (k + 1) = upTo g ls k := by
  unfold accB at h
  rw [List.take_length] at h
  exact if_neg (by rw [show ((k + 1 : Nat) : Int) = (k : Int) + 1 by omega, h]; decide)
theorem infoCh : (Tryz.prog.info? 148).map (fun i => (i.zero, i.size, i.bytes)) = some (some (.agg #[.int .i64 0, .int .i64 0]), 2, 16) := by kernel_rfl
set_option maxHeartbeats 4000000 in
set_option maxRecDepth 60000 in
theorem sum_any (a : Option Addr) (len cap : Nat) (ls : List Nd) (g : Nd → Int) (aO : Option Addr) (capO : Nat) (w : World) (h : NdsAt w a len cap ls) (hO : IntsAt w aO (ls.map g)) (hM : MayN ls) : Calls Tryz.prog 125 #[.slice a len cap, .slice aO len capO] w fun e w' => ChPost (sumF g ls) w e w' := by
  have hl : ls.length = len := h.1
  have HL : Hid (NdsAt w a len cap ls) := h
  have HO : Hid (IntsAt w aO (ls.map g)) := hO
  have HM : Hid (MayN ls) := hM
  have h12 : (len : Int) ≤ 12 := by have := hM.1; omega
  have HLN : Hid (ls.length = len) := hl
  obtain ⟨i0, hi, hz0, hz1, hz2⟩ := info_parts infoCh
  have HLIT : Hid ((w.alloc (.cells #[] 148)).ownsRow w.heap.size 148 2 (.slice (some ⟨w.heap.size, 0, none⟩) 0 0) ([] : List Ch).length (cellsC [])) := World.ownsRow_lit (base := w.heap.size) (size := 2) (e := 148) w #[] 0 (Nat.le_refl _) (Nat.zero_le _) (by simp)
  have hb0 := below_alloc w (.cells #[] 148)
  have HUL : Hid (∀ k, ((upTo g ls k).length : Int) ≤ 12) := fun k => by
    have h1 := upTo_len g ls k
    have h2 := List.countP_le_length (p := fun x => decide (1 ≤ g x ∧ g x ≤ (k : Int))) (l := ls)
    have := hM.1
    omega
  clear h hO hM hl
  go_enter Tryz.func125, Tryz.ntmps125
  go_wp2_with fail
  go_loopw [5, 6] (fun o i wr => ∃ k : Nat, k ≤ 999 ∧ i = .int .i64 ((k : Int) + 1) ∧ Hid (wr.ownsRow w.heap.size 148 2 o (upTo g ls k).length (cellsC (upTo g ls k))) ∧ Below w.heap.size w wr) (fun _ i _ => 1000 - (intOf i).toNat)
  case atStart => exact ⟨0, Nat.zero_le _, rfl, HLIT, hb0⟩
  case round =>
    obtain ⟨k, hk, rfl, hown, hbel⟩ := hrel
    obtain ⟨W0, hW0⟩ : ∃ W0, W0 = wr := ⟨_, rfl⟩
    subst hW0
    by_cases hlt : k < 999
    · have hk1 : (k : Int) + 1 ≤ 999 := by omega
      have hk0 : (0 : Int) ≤ (k : Int) := by omega
      have HBD : Hid (∀ t, t ≤ len → 0 ≤ accW g ls ((k : Int) + 1) t ∧ accW g ls ((k : Int) + 1) t ≤ 65536 * (t : Int)) := fun t ht => acc_bd HM.out _ t (by have := HLN.out; omega)
      have HW0 : Hid (accW g ls ((k : Int) + 1) 0 = 0) := rfl
      have HB0 : Hid (accB g ls ((k : Int) + 1) 0 = false) := rfl
      have HYS : Hid (∀ t, t < len → g (ls.getD t nd0) = (k : Int) + 1 → accW g ls ((k : Int) + 1) (t + 1) = accW g ls ((k : Int) + 1) t + wtN (ls.getD t nd0) ∧ accB g ls ((k : Int) + 1) (t + 1) = true) := fun t ht e => acc_yes (by have := HLN.out; omega) e
      have HNS : Hid (∀ t, t < len → ¬ g (ls.getD t nd0) = (k : Int) + 1 → accW g ls ((k : Int) + 1) (t + 1) = accW g ls ((k : Int) + 1) t ∧ accB g ls ((k : Int) + 1) (t + 1) = accB g ls ((k : Int) + 1) t) := fun t ht e => acc_no (by have := HLN.out; omega) e
      have HUY : Hid (accB g ls ((k : Int) + 1) len = true → upTo g ls (k + 1) = upTo g ls k ++ [((k : Int) + 1, min (accW g ls ((k : Int) + 1) len) 65536)]) := by have := HLN.out; subst this; exact upTo_yes
      have HUN : Hid (accB g ls ((k : Int) + 1) len = false → upTo g ls (k + 1) = upTo g ls k) := by have := HLN.out; subst this; exact upTo_no
      generalize accW g ls ((k : Int) + 1) = aw at *
      generalize accB g ls ((k : Int) + 1) = ab at *
      have HUK := HUL.out k
      go_wp2_with fail
      go_loopw [7, 8, 9] (fun sw sb i wq => ∃ t : Nat, t ≤ len ∧ i = .int .i64 t ∧ sw = .int .i64 (aw t) ∧ sb = .bool (ab t) ∧ Below W0.heap.size W0 wq) (fun _ _ i _ => len - (intOf i).toNat)
      case atStart => exact ⟨0, Nat.zero_le _, rfl, by rw [HW0.out], by rw [HB0.out], Below.refl _ _⟩
      case round =>
        obtain ⟨t, ht, rfl, rfl, rfl, hbq⟩ := hrel
        obtain ⟨hw0, hw1⟩ := HBD.out t ht
        have hbw : Below w.heap.size w wr := below2 hbel hbq
        by_cases hlt2 : t < len
        · obtain ⟨b, off, rfl, hbs, hcell⟩ := (HL.out.below hbw).some (by omega)
          obtain ⟨e0, e1, e2, e3, e4, e5⟩ := hcell t hlt2
          rcases HO.out.below hbw with h0 | ⟨p, rfl, hp, hcp⟩
          · have h1 := congrArg List.length h0
            rw [List.length_map, List.length_nil] at h1
            have := HLN.out
            omega
          have ht1 : (t : Int) < (len : Int) := by omega
          have ht0 : (0 : Int) ≤ (t : Int) := by omega
          have c0 := hcp t (by rw [List.length_map]; have := HLN.out; omega)
          rw [show (ls.map g).getD t 0 = g (ls.getD t nd0) by simp [show t < ls.length by have := HLN.out; omega]] at c0
          have HY := HYS.out t hlt2
          have HNO := HNS.out t hlt2
          obtain ⟨hx0, hx1⟩ := HBD.out (t + 1) (by omega)
          have HWT : Hid (∀ W : World, Calls Tryz.prog 124 #[.agg (ndCells (ls.getD t nd0)).toArray] W fun e w' => e = .returned (.int .i64 (wtN (ls.getD t nd0))) ∧ Grown W w') := fun W => refWeight_any _ _ _ _ _ _ W
          clear hcp hcell HYS HNS
          generalize ls.getD t nd0 = x at *
          have HXW : Hid (0 ≤ wtN x → True) := fun _ => trivial
          obtain ⟨c1, c2, c3, c4, c5, c6⟩ := x
          simp only at e0 e1 e2 e3 e4 e5
          by_cases hgx : g ⟨c1, c2, c3, c4, c5, c6⟩ = (k : Int) + 1
          · obtain ⟨hy1, hy2⟩ := HY hgx
            have dg : (g ⟨c1, c2, c3, c4, c5, c6⟩ == (k : Int) + 1) = true := by simpa using hgx
            have HWT' : Hid (∀ W : World, Calls Tryz.prog 124 #[.agg #[.int .i64 c1, .int .i64 c2, .int .i64 c3, .int .i64 c4, .bool c5, .bool c6]] W fun e w' => e = .returned (.int .i64 (wtN ⟨c1, c2, c3, c4, c5, c6⟩)) ∧ Grown W w') := HWT.out
            clear HY HNO HWT hgx HXW
            generalize g ⟨c1, c2, c3, c4, c5, c6⟩ = gx at *
            generalize wtN ⟨c1, c2, c3, c4, c5, c6⟩ = wx at *
            rw [hy1] at hx0 hx1
            have HY1 : Hid (aw (t + 1) = aw t + wx) := hy1
            have HY2 : Hid (ab (t + 1) = true) := hy2
            clear hy1 hy2
            generalize aw t = s0 at *
            generalize ab t = b0 at *
            go_wp2_with (go_at_call 124; refine (HWT'.out _).mono ?_; rintro e w2 ⟨rfl, hg2⟩)
            exact ⟨⟨t + 1, by omega, by go_num, by rw [HY1.out]; try rfl, by rw [HY2.out], below2 hbq (grown_below hg2)⟩, by simp [intOf]; omega⟩
          · obtain ⟨hy1, hy2⟩ := HNO hgx
            have dg : (g ⟨c1, c2, c3, c4, c5, c6⟩ == (k : Int) + 1) = false := by simpa using hgx
            have HY1 : Hid (aw (t + 1) = aw t) := hy1
            have HY2 : Hid (ab (t + 1) = ab t) := hy2
            clear HY HNO HWT hgx hy1 hy2 HXW
            generalize g ⟨c1, c2, c3, c4, c5, c6⟩ = gx at *
            go_wp2_with fail
            exact ⟨⟨t + 1, by omega, by go_num, by rw [HY1.out], by rw [HY2.out], hbq⟩, by simp [intOf]; omega⟩
        · obtain rfl : t = len := by omega
          have hownq := own_below hown.out hbq
          obtain ⟨ao, co, he, -⟩ := own_slice hownq
          subst he
          clear HYS HNS HW0 HB0 HBD hown
          cases hab : ab t with
          | false =>
            have HU : Hid (upTo g ls (k + 1) = upTo g ls k) := HUN.out hab
            have HOQ : Hid (wr.ownsRow w.heap.size 148 2 (.slice ao (upTo g ls k).length co) (upTo g ls (k + 1)).length (cellsC (upTo g ls (k + 1)))) := by unfold Hid; rw [HU.out]; exact hownq
            clear HUN HUY hownq
            by_cases hbig : 65536 < aw t
            · have db : decide ((65536 : Int) < aw t) = true := by simpa using hbig
              go_wp2_with fail
              exact ⟨⟨k + 1, by omega, by simp, HOQ, hbw⟩, by simp [intOf]; omega⟩
            · have db : decide ((65536 : Int) < aw t) = false := by simpa using hbig
              go_wp2_with fail
              exact ⟨⟨k + 1, by omega, by simp, HOQ, hbw⟩, by simp [intOf]; omega⟩
          | true =>
            have HU0 : Hid (upTo g ls (k + 1) = upTo g ls k ++ [((k : Int) + 1, min (aw t) 65536)]) := HUY.out hab
            by_cases hbig : 65536 < aw t
            · have db : decide ((65536 : Int) < aw t) = true := by simpa using hbig
              have HU : Hid (upTo g ls (k + 1) = upTo g ls k ++ [((k : Int) + 1, 65536)]) := by unfold Hid; rw [HU0.out, show min (aw t) 65536 = 65536 by omega]
              have hownB := own_alloc hownq (.cells #[.int .i64 ((k : Int) + 1), .int .i64 65536] 148)
              have hnews := cells_lit wr (chCells ((k : Int) + 1, 65536)) 148
              have hw4 : wr.alloc (.cells (chCells ((k : Int) + 1, 65536)).toArray 148) = (wr.alloc (.cells #[.int .i64 ((k : Int) + 1), .int .i64 65536] 148)) := rfl
              rw [hw4] at hnews
              have hsz := hbw.size
              have HLT : Hid (∀ j, (Value.slice ao (upTo g ls k).length co).ownBlock = some j → w.heap.size ≤ j) := fun j hj => (hownq.lt j hj).1
              clear HUN HUY hw4 hownq
              go_wp2_with (at_builtin; refine wpList_append_own _ rfl _ _ 122 rfl w.heap.size 148 i0 (.agg #[.int .i64 0, .int .i64 0]) 2 16 Tryz.underlying122 hi hz0 hz1 hz2 rfl (by decide) _ _ _ rfl hownB ⟨wr.heap.size, 0, none⟩ 1 1 (chCells ((k : Int) + 1, 65536)) rfl rfl hnews (by intro u hu; simp [chCells] at hu; rcases hu with rfl | rfl <;> rfl) (by unfold maxLen; omega) (by omega) (by simp; omega) ?_)
              intro v7 w7 hown7' hg7 _
              have HO7 : Hid (w7.ownsRow w.heap.size 148 2 v7 (upTo g ls (k + 1)).length (cellsC (upTo g ls (k + 1)))) := by
                unfold Hid
                rw [HU.out, cellsC_snoc, List.length_append]
                exact hown7'
              have hb7 : Below w.heap.size w w7 := (hbw.alloc hsz _).grown hg7 (by simp; omega) (fun j hj => HLT.out j hj)
              clear hown7' hg7 hownB hnews HLT
              go_wp2_with fail
              exact ⟨⟨k + 1, by omega, by simp, HO7, hb7⟩, by simp [intOf]; omega⟩
            · have db : decide ((65536 : Int) < aw t) = false := by simpa using hbig
              have HU : Hid (upTo g ls (k + 1) = upTo g ls k ++ [((k : Int) + 1, aw t)]) := by unfold Hid; rw [HU0.out, show min (aw t) 65536 = aw t by omega]
              have hownB := own_alloc hownq (.cells #[.int .i64 ((k : Int) + 1), .int .i64 (aw t)] 148)
              have hnews := cells_lit wr (chCells ((k : Int) + 1, (aw t))) 148
              have hw4 : wr.alloc (.cells (chCells ((k : Int) + 1, (aw t))).toArray 148) = (wr.alloc (.cells #[.int .i64 ((k : Int) + 1), .int .i64 (aw t)] 148)) := rfl
              rw [hw4] at hnews
              have hsz := hbw.size
              have HLT : Hid (∀ j, (Value.slice ao (upTo g ls k).length co).ownBlock = some j → w.heap.size ≤ j) := fun j hj => (hownq.lt j hj).1
              clear HUN HUY hw4 hownq
              go_wp2_with (at_builtin; refine wpList_append_own _ rfl _ _ 122 rfl w.heap.size 148 i0 (.agg #[.int .i64 0, .int .i64 0]) 2 16 Tryz.underlying122 hi hz0 hz1 hz2 rfl (by decide) _ _ _ rfl hownB ⟨wr.heap.size, 0, none⟩ 1 1 (chCells ((k : Int) + 1, (aw t))) rfl rfl hnews (by intro u hu; simp [chCells] at hu; rcases hu with rfl | rfl <;> rfl) (by unfold maxLen; omega) (by omega) (by simp; omega) ?_)
              intro v7 w7 hown7' hg7 _
              have HO7 : Hid (w7.ownsRow w.heap.size 148 2 v7 (upTo g ls (k + 1)).length (cellsC (upTo g ls (k + 1)))) := by
                unfold Hid
                rw [HU.out, cellsC_snoc, List.length_append]
                exact hown7'
              have hb7 : Below w.heap.size w w7 := (hbw.alloc hsz _).grown hg7 (by simp; omega) (fun j hj => HLT.out j hj)
              clear hown7' hg7 hownB hnews HLT
              go_wp2_with fail
              exact ⟨⟨k + 1, by omega, by simp, HO7, hb7⟩, by simp [intOf]; omega⟩
    · obtain rfl : k = 999 := by omega
      obtain ⟨ao, co, he, -⟩ := own_slice hown.out
      subst he
      have HI : Hid (ChsAt W0 ao (sumF g ls).length co (sumF g ls)) := chs_own hown.out rfl
      clear hown
      go_wp2_with fail
      go_ret
      exact ⟨hbel, ao, co, rfl, HI.out⟩
end Go.Proofs.YtcncbjknfcjnmaaGreat.Tp
namespace Go.Proofs.YtcncbjknfcjnmaaGreat.Tp
open Go.ChangeShapes Go.WideShapes Go.ChangeAt Go.RowKit
set_option maxHeartbeats 4000000 in
set_option maxRecDepth 60000 in
theorem leaf_put (t1 t2 t3 t4 t5 t6 t9 t10 t11 t12 t13 t14 t15 t16 t17 t18 t19 t20 t21 t22 t23 t24 t25 t26 t27 t28 t29 t30 t31 t32 t33 t34 t35 t36 t37 t38 t39 t40 t41 t42 t43 t44 t45 t46 t47 t48 t49 t50 t51 t52 t53 t54 : Value) (b off len cap k B : Nat) (c1 c2 c3 c4 : Int) (c5 c6 : Bool) (lv : Value) (L : List Ch) (w1 : World) (Q : Exit → Act → World → Prop)
    (x0 : w1.cell? ⟨b, off + k * 6, none⟩ = some (.int .i64 c1)) (x1 : w1.cell? ⟨b, off + k * 6 + 1, none⟩ = some (.int .i64 c2)) (x2 : w1.cell? ⟨b, off + k * 6 + 2, none⟩ = some (.int .i64 c3)) (x3 : w1.cell? ⟨b, off + k * 6 + 3, none⟩ = some (.int .i64 c4)) (x4 : w1.cell? ⟨b, off + k * 6 + 4, none⟩ = some (.bool c5)) (x5 : w1.cell? ⟨b, off + k * 6 + 5, none⟩ = some (.bool c6)) (hX : b < w1.heap.size) (hk0 : (0 : Int) ≤ (k : Int)) (hk1 : (k : Int) < (len : Int)) (hown : w1.ownsRow B 148 2 lv L.length (cellsC L)) (hB : B ≤ w1.heap.size) (hneX : lv.ownBlock ≠ some b) (hlen : L.length ≤ 12)
    (hQ : Hid (∀ (u40 u41 u42 u43 u44 u45 u46 u47 u48 u49 u50 u51 u52 u53 : Value) (v' : Value) (wC : World), wC.ownsRow B 148 2 v' (L ++ [(c1, wtN ⟨c1, c2, c3, c4, c5, c6⟩)]).length (cellsC (L ++ [(c1, wtN ⟨c1, c2, c3, c4, c5, c6⟩)])) → w1.grownBy wC lv.ownBlock → Q .normal ⟨#[.slice (some ⟨b, off, none⟩) len cap, t1, t2, t3, t4, t5, t6, v', .int .i64 (k : Int), t9, t10, t11, t12, t13, t14, t15, t16, t17, t18, t19, t20, t21, t22, t23, t24, t25, t26, t27, t28, t29, t30, t31, t32, t33, t34, t35, t36, t37, t38, t39, u40, u41, u42, u43, u44, u45, u46, u47, u48, u49, u50, u51, u52, u53, t54], []⟩ wC)) :
    Code.wp Tryz.prog ((Tryz.f105.body.bind (regionOf 6)).getD .skip) Q ⟨#[.slice (some ⟨b, off, none⟩) len cap, t1, t2, t3, t4, t5, t6, lv, .int .i64 (k : Int), t9, t10, t11, t12, t13, t14, t15, t16, t17, t18, t19, t20, t21, t22, t23, t24, t25, t26, t27, t28, t29, t30, t31, t32, t33, t34, t35, t36, t37, t38, t39, t40, t41, t42, t43, t44, t45, t46, t47, t48, t49, t50, t51, t52, t53, t54], []⟩ w1 := by
  obtain ⟨i0, hi, hz0, hz1, hz2⟩ := info_parts infoCh
  have HS : Hid (∀ w', Below w1.heap.size w1 w' → (fun w' => w'.cell? ⟨b, off + k * 6, none⟩ = some (.int .i64 c1) ∧ w'.cell? ⟨b, off + k * 6 + 1, none⟩ = some (.int .i64 c2) ∧ w'.cell? ⟨b, off + k * 6 + 2, none⟩ = some (.int .i64 c3) ∧ w'.cell? ⟨b, off + k * 6 + 3, none⟩ = some (.int .i64 c4) ∧ w'.cell? ⟨b, off + k * 6 + 4, none⟩ = some (.bool c5) ∧ w'.cell? ⟨b, off + k * 6 + 5, none⟩ = some (.bool c6)) w') := fun w' h => ⟨(h.cell (p := ⟨b, off + k * 6, none⟩) hX).trans x0, (h.cell (p := ⟨b, off + k * 6 + 1, none⟩) hX).trans x1, (h.cell (p := ⟨b, off + k * 6 + 2, none⟩) hX).trans x2, (h.cell (p := ⟨b, off + k * 6 + 3, none⟩) hX).trans x3, (h.cell (p := ⟨b, off + k * 6 + 4, none⟩) hX).trans x4, (h.cell (p := ⟨b, off + k * 6 + 5, none⟩) hX).trans x5⟩
  have HW : Hid (∀ W : World, Calls Tryz.prog 124 #[.agg #[.int .i64 c1, .int .i64 c2, .int .i64 c3, .int .i64 c4, .bool c5, .bool c6]] W fun e w' => e = .returned (.int .i64 (wtN ⟨c1, c2, c3, c4, c5, c6⟩)) ∧ Grown W w') := fun W => refWeight_any c1 c2 c3 c4 c5 c6 W
  have HOWN : Hid (w1.ownsRow B 148 2 lv L.length (cellsC L)) := hown
  have HL : Hid (L.length ≤ 12) := hlen
  clear hown x0 x1 x2 x3 x4 x5 hlen
  generalize wtN ⟨c1, c2, c3, c4, c5, c6⟩ = d at *
  have hS := HS.out w1.drew (below_drew w1)
  conv => arg 2; whnf
  refine held_start (S := (fun w' => w'.cell? ⟨b, off + k * 6, none⟩ = some (.int .i64 c1) ∧ w'.cell? ⟨b, off + k * 6 + 1, none⟩ = some (.int .i64 c2) ∧ w'.cell? ⟨b, off + k * 6 + 2, none⟩ = some (.int .i64 c3) ∧ w'.cell? ⟨b, off + k * 6 + 3, none⟩ = some (.int .i64 c4) ∧ w'.cell? ⟨b, off + k * 6 + 4, none⟩ = some (.bool c5) ∧ w'.cell? ⟨b, off + k * 6 + 5, none⟩ = some (.bool c6))) mixed5 ?_
  refine held_take (i := 0) (v := lv) rfl (by kernel_rfl) (fun _ _ _ h => h) (.inl ⟨rfl, fun w hS => ?_⟩) hS ?_
  · obtain ⟨s0, s1, s2, s3, s4, s5⟩ := hS
    go_simp
  simp only [Act.put, List.setIfInBounds_toArray, List.set_cons_zero, List.set_cons_succ]
  refine held_take (i := 1) (v := .slice (some ⟨b, off, none⟩) len cap) rfl (by kernel_rfl) (fun _ _ _ h => h) (.inl ⟨rfl, fun w hS => ?_⟩) hS ?_
  · obtain ⟨s0, s1, s2, s3, s4, s5⟩ := hS
    go_simp
  simp only [Act.put, List.setIfInBounds_toArray, List.set_cons_zero, List.set_cons_succ]
  refine held_take (i := 2) (v := .int .i64 (k : Int)) rfl (by kernel_rfl) (fun _ _ _ h => h) (.inl ⟨rfl, fun w hS => ?_⟩) hS ?_
  · obtain ⟨s0, s1, s2, s3, s4, s5⟩ := hS
    go_simp
  simp only [Act.put, List.setIfInBounds_toArray, List.set_cons_zero, List.set_cons_succ]
  refine held_take (i := 3) (v := .pointer (some ⟨b, off + k * 6, none⟩)) rfl (by kernel_rfl) (fun _ _ _ h => h) (.inl ⟨rfl, fun w hS => ?_⟩) hS ?_
  · obtain ⟨s0, s1, s2, s3, s4, s5⟩ := hS
    go_simp
  simp only [Act.put, List.setIfInBounds_toArray, List.set_cons_zero, List.set_cons_succ]
  refine held_take (i := 4) (v := .pointer (some ⟨b, off + k * 6, none⟩)) rfl (by kernel_rfl) (fun _ _ _ h => h) (.inl ⟨rfl, fun w hS => ?_⟩) hS ?_
  · obtain ⟨s0, s1, s2, s3, s4, s5⟩ := hS
    go_simp
  simp only [Act.put, List.setIfInBounds_toArray, List.set_cons_zero, List.set_cons_succ]
  refine held_take (i := 5) (v := .int .i64 c1) rfl (by kernel_rfl) (fun _ _ _ h => h) (.inl ⟨rfl, fun w hS => ?_⟩) hS ?_
  · obtain ⟨s0, s1, s2, s3, s4, s5⟩ := hS
    go_simp
  simp only [Act.put, List.setIfInBounds_toArray, List.set_cons_zero, List.set_cons_succ]
  refine held_take (i := 6) (v := .slice (some ⟨b, off, none⟩) len cap) rfl (by kernel_rfl) (fun _ _ _ h => h) (.inl ⟨rfl, fun w hS => ?_⟩) hS ?_
  · obtain ⟨s0, s1, s2, s3, s4, s5⟩ := hS
    go_simp
  simp only [Act.put, List.setIfInBounds_toArray, List.set_cons_zero, List.set_cons_succ]
  refine held_take (i := 7) (v := .int .i64 (k : Int)) rfl (by kernel_rfl) (fun _ _ _ h => h) (.inl ⟨rfl, fun w hS => ?_⟩) hS ?_
  · obtain ⟨s0, s1, s2, s3, s4, s5⟩ := hS
    go_simp
  simp only [Act.put, List.setIfInBounds_toArray, List.set_cons_zero, List.set_cons_succ]
  refine held_take (i := 8) (v := .pointer (some ⟨b, off + k * 6, none⟩)) rfl (by kernel_rfl) (fun _ _ _ h => h) (.inl ⟨rfl, fun w hS => ?_⟩) hS ?_
  · obtain ⟨s0, s1, s2, s3, s4, s5⟩ := hS
    go_simp
  simp only [Act.put, List.setIfInBounds_toArray, List.set_cons_zero, List.set_cons_succ]
  refine held_take (i := 9) (v := .agg #[.int .i64 c1, .int .i64 c2, .int .i64 c3, .int .i64 c4, .bool c5, .bool c6]) rfl (by kernel_rfl) (fun _ _ _ h => h) (.inl ⟨rfl, fun w hS => ?_⟩) hS ?_
  · obtain ⟨s0, s1, s2, s3, s4, s5⟩ := hS
    go_simp
  simp only [Act.put, List.setIfInBounds_toArray, List.set_cons_zero, List.set_cons_succ]
  refine held_one (i := 10) (by kernel_rfl) rfl rfl ?_
  intro K hK
  go_simp
  go_at_call 124
  refine (HW.out _).mono ?_
  rintro en w3 ⟨rfl, hg3⟩
  have hb3 : Below w1.heap.size w1 w3 := below2 (below_drew w1) (grown_below hg3)
  refine hK.out _ _ (HS.out w3 hb3) ?_
  clear hK hS hg3
  have hS := HS.out w3 hb3
  refine held_take (i := 11) (v := .agg #[.int .i64 c1, .int .i64 d]) rfl (by kernel_rfl) (fun _ _ _ h => h) (.inl ⟨rfl, fun w hS => ?_⟩) hS ?_
  · obtain ⟨s0, s1, s2, s3, s4, s5⟩ := hS
    go_simp
  simp only [Act.put, List.setIfInBounds_toArray, List.set_cons_zero, List.set_cons_succ]
  refine held_one (i := 12) (by kernel_rfl) rfl rfl ?_
  intro K hK
  go_simp
  have hb4 : Below w1.heap.size w1 (w3.alloc (.cells #[.int .i64 c1, .int .i64 d] 148)) := hb3.alloc hb3.size _
  have hnews := cells_lit w3 (chCells (c1, d)) 148
  refine hK.out _ _ (HS.out _ hb4) ?_
  clear hK hS
  have hS := HS.out _ hb4
  have hw4 : w3.alloc (.cells (chCells (c1, d)).toArray 148) = w3.alloc (.cells #[.int .i64 c1, .int .i64 d] 148) := rfl
  rw [hw4] at hnews
  have hs4 : w1.heap.size ≤ (w3.alloc (.cells #[.int .i64 c1, .int .i64 d] 148)).heap.size := hb4.size
  generalize w3.alloc (.cells #[.int .i64 c1, .int .i64 d] 148) = w4 at *
  refine held_one (i := 13) (by kernel_rfl) rfl rfl ?_
  intro K hK
  refine wp_append_own w4 (.tmp 40) (.tmp 52) 122 rfl B 148 i0 (.agg #[.int .i64 0, .int .i64 0]) 2 16 Tryz.underlying122 hi hz0 hz1 hz2 rfl (by decide) lv L.length (cellsC L) rfl (own_below HOWN.out hb4) ⟨w3.heap.size, 0, none⟩ 1 1 (chCells (c1, d)) rfl rfl hnews (by intro u hu; simp [chCells] at hu; rcases hu with rfl | rfl <;> rfl) (by unfold maxLen; have := HL.out; omega) (by have := HL.out; omega) (Nat.le_trans hB hs4) ?_
  intro v5 w5 hown5 hg5 _
  have hXn : some b ≠ lv.ownBlock := fun e => hneX e.symm
  have hS5 : (fun w' => w'.cell? ⟨b, off + k * 6, none⟩ = some (.int .i64 c1) ∧ w'.cell? ⟨b, off + k * 6 + 1, none⟩ = some (.int .i64 c2) ∧ w'.cell? ⟨b, off + k * 6 + 2, none⟩ = some (.int .i64 c3) ∧ w'.cell? ⟨b, off + k * 6 + 3, none⟩ = some (.int .i64 c4) ∧ w'.cell? ⟨b, off + k * 6 + 4, none⟩ = some (.bool c5) ∧ w'.cell? ⟨b, off + k * 6 + 5, none⟩ = some (.bool c6)) w5 := ⟨(grownBy_cell hg5 (p := ⟨b, off + k * 6, none⟩) (Nat.lt_of_lt_of_le hX hs4) hXn).trans hS.1, (grownBy_cell hg5 (p := ⟨b, off + k * 6 + 1, none⟩) (Nat.lt_of_lt_of_le hX hs4) hXn).trans hS.2.1, (grownBy_cell hg5 (p := ⟨b, off + k * 6 + 2, none⟩) (Nat.lt_of_lt_of_le hX hs4) hXn).trans hS.2.2.1, (grownBy_cell hg5 (p := ⟨b, off + k * 6 + 3, none⟩) (Nat.lt_of_lt_of_le hX hs4) hXn).trans hS.2.2.2.1, (grownBy_cell hg5 (p := ⟨b, off + k * 6 + 4, none⟩) (Nat.lt_of_lt_of_le hX hs4) hXn).trans hS.2.2.2.2.1, (grownBy_cell hg5 (p := ⟨b, off + k * 6 + 5, none⟩) (Nat.lt_of_lt_of_le hX hs4) hXn).trans hS.2.2.2.2.2⟩
  refine hK.out _ _ hS5 ?_
  clear hK hS
  have hS := hS5
  simp only [Act.put, List.setIfInBounds_toArray, List.set_cons_zero, List.set_cons_succ]
  refine held_take (i := 14) (v := v5) rfl (by kernel_rfl) (fun _ _ _ h => h) (.inl ⟨rfl, fun w hS => ?_⟩) hS ?_
  · obtain ⟨s0, s1, s2, s3, s4, s5⟩ := hS
    go_simp
  simp only [Act.put, List.setIfInBounds_toArray, List.set_cons_zero, List.set_cons_succ]
  refine wpAnyH_done (by kernel_rfl) ?_ _
  refine NoPanic.normal ?_
  refine hQ.out _ _ _ _ _ _ _ _ _ _ _ _ _ _ v5 w5 ?_ ?_
  · rw [cellsC_snoc, List.length_append]
    exact hown5
  · exact grownBy_trans (below_grownBy hb4 lv.ownBlock) hg5
def leafC (x : Nd) : Ch := (x.id, wtN x)
theorem leaf_take (ls : List Nd) (zone rack : Int) {k : Nat} (h : k < ls.length) : ((ls.take (k + 1)).filter (selN zone rack)).map leafC = ((ls.take k).filter (selN zone rack)).map leafC ++ (if selN zone rack (ls.getD k nd0) = true then [leafC (ls.getD k nd0)] else []) := by
  rw [List.take_succ_eq_append_getElem h, getN_get h, List.filter_append, List.map_append]
  congr 1
  by_cases hs : selN zone rack ls[k] = true
  · rw [if_pos hs, List.filter_cons_of_pos hs]
    rfl
  · rw [if_neg hs, List.filter_cons_of_neg hs]
    rfl
set_option maxHeartbeats 4000000 in
set_option maxRecDepth 60000 in
theorem refLeaves_any (a : Option Addr) (len cap : Nat) (ls : List Nd) (zone rack : Int) (w : World) (h : NdsAt w a len cap ls) (hM : MayN ls) : Calls Tryz.prog 105 #[.slice a len cap, .int .i64 zone, .int .i64 rack] w fun e w' => ChPost (leavesOf ls zone rack) w e w' := by
  have hl : ls.length = len := h.1
  have HL : Hid (NdsAt w a len cap ls) := h
  have h12 : (len : Int) ≤ 12 := by have := hM.1; omega
  have HEQ : Hid (((ls.take len).filter (selN zone rack)).map leafC = leavesOf ls zone rack) := by unfold Hid; rw [List.take_of_length_le (by omega)]; exact leaves_ref zone rack hM
  have HTK : Hid (∀ k, k < len → ((ls.take (k + 1)).filter (selN zone rack)).map leafC = ((ls.take k).filter (selN zone rack)).map leafC ++ (if selN zone rack (ls.getD k nd0) = true then [leafC (ls.getD k nd0)] else [])) := fun k hk => leaf_take ls zone rack (by omega)
  have HLIT : Hid ((w.alloc (.cells #[] 148)).ownsRow w.heap.size 148 2 (.slice (some ⟨w.heap.size, 0, none⟩) 0 0) ([] : List Ch).length (cellsC [])) := World.ownsRow_lit (base := w.heap.size) (size := 2) (e := 148) w #[] 0 (Nat.le_refl _) (Nat.zero_le _) (by simp)
  have hb0 := below_alloc w (.cells #[] 148)
  clear h hM hl
  go_enter Tryz.func105, Tryz.ntmps105
  go_wp2_with fail
  go_loopw [7, 8] (fun o i wr => ∃ (k : Nat) (out : List Ch), k ≤ len ∧ i = .int .i64 k ∧ Hid (out = ((ls.take k).filter (selN zone rack)).map leafC) ∧ out.length ≤ k ∧ Hid (wr.ownsRow w.heap.size 148 2 o out.length (cellsC out)) ∧ Below w.heap.size w wr) (fun _ i _ => len - (intOf i).toNat)
  case atStart => exact ⟨0, [], Nat.zero_le _, rfl, rfl, Nat.le_refl _, HLIT, hb0⟩
  case round =>
    obtain ⟨k, out, hk, rfl, hT, hok, hown, hbel⟩ := hrel
    obtain ⟨ao, co, he, -⟩ := own_slice hown.out
    subst he
    by_cases hlt : k < len
    · obtain ⟨b, off, rfl, hb00, -⟩ := HL.out.some (by omega)
      have hcell := (HL.out.below hbel)
      obtain ⟨b', off', hbe, hbs, hcell⟩ := hcell.some (by omega)
      injection hbe with hbe
      injection hbe with hb1 hb2
      subst hb1
      subst hb2
      obtain ⟨e0, e1, e2, e3, e4, e5⟩ := hcell k hlt
      have hk1 : (k : Int) < (len : Int) := by omega
      have hk0 : (0 : Int) ≤ (k : Int) := by omega
      have HST := HTK.out k hlt
      rw [← hT.out] at HST
      have HO : Hid (wr.ownsRow w.heap.size 148 2 (.slice ao out.length co) out.length (cellsC out)) := hown.out
      have HLT : Hid (∀ j, (Value.slice ao out.length co).ownBlock = some j → w.heap.size ≤ j) := fun j hj => (hown.out.lt j hj).1
      have HNE : Hid ((Value.slice ao out.length co).ownBlock ≠ some b) := fun e => by have := HLT.out b e; omega
      have HLN : Hid (out.length ≤ 12) := by unfold Hid; omega
      clear hcell hT hown HTK
      generalize ls.getD k nd0 = x at *
      obtain ⟨c1, c2, c3, c4, c5, c6⟩ := x
      simp only at e0 e1 e2 e3 e4 e5
      by_cases hz : zone = 0 ∨ c2 = zone
      · by_cases hr : rack = 0 ∨ c3 = rack
        · have HYES : Hid (out ++ [(c1, wtN ⟨c1, c2, c3, c4, c5, c6⟩)] = ((ls.take (k + 1)).filter (selN zone rack)).map leafC) := by
            unfold Hid
            rw [HST, if_pos (by simp only [selN, coversB, Bool.and_eq_true, Bool.or_eq_true, beq_iff_eq]; exact ⟨hz.imp id Eq.symm, hr.imp id Eq.symm⟩)]
            rfl
          clear HST
          by_cases hz1 : zone = 0
          · have d1 : (zone == 0) = true := by simpa using hz1
            by_cases hr1 : rack = 0
            · have d2 : (rack == 0) = true := by simpa using hr1
              clear hz hr hz1 hr1
              go_wp2_with fail
              refine leaf_put _ _ _ _ _ _ _ _ _ _ _ _ _ _ _ _ _ _ _ _ _ _ _ _ _ _ _ _ _ _ _ _ _ _ _ _ _ _ _ _ _ _ _ _ _ _ _ _ _ _ _ _ b off len cap k w.heap.size c1 c2 c3 c4 c5 c6 (.slice ao out.length co) out wr _ e0 e1 e2 e3 e4 e5 hbs hk0 hk1 HO.out (by have := hbel.size; omega) HNE.out HLN.out (fun u40 u41 u42 u43 u44 u45 u46 u47 u48 u49 u50 u51 u52 u53 v' wC hownC hgC => ?_)
              have HO7 : Hid (wC.ownsRow w.heap.size 148 2 v' (out ++ [(c1, wtN ⟨c1, c2, c3, c4, c5, c6⟩)]).length (cellsC (out ++ [(c1, wtN ⟨c1, c2, c3, c4, c5, c6⟩)]))) := hownC
              have hb7 : Below w.heap.size w wC := hbel.grown hgC hbel.size (fun j hj => HLT.out j hj)
              clear hownC hgC HO HNE HLT
              dsimp only
              go_wp2_with fail
              exact ⟨⟨k + 1, out ++ [(c1, wtN ⟨c1, c2, c3, c4, c5, c6⟩)], by omega, by go_num, HYES, by simp; omega, HO7, hb7⟩, by simp [intOf]; omega⟩
            · have d2 : (rack == 0) = false := by simpa using hr1
              have d3 : (c3 == rack) = true := by rcases hr with h | h; exact absurd h hr1; simpa using h
              clear hz hr hz1 hr1
              go_wp2_with fail
              refine leaf_put _ _ _ _ _ _ _ _ _ _ _ _ _ _ _ _ _ _ _ _ _ _ _ _ _ _ _ _ _ _ _ _ _ _ _ _ _ _ _ _ _ _ _ _ _ _ _ _ _ _ _ _ b off len cap k w.heap.size c1 c2 c3 c4 c5 c6 (.slice ao out.length co) out wr _ e0 e1 e2 e3 e4 e5 hbs hk0 hk1 HO.out (by have := hbel.size; omega) HNE.out HLN.out (fun u40 u41 u42 u43 u44 u45 u46 u47 u48 u49 u50 u51 u52 u53 v' wC hownC hgC => ?_)
              have HO7 : Hid (wC.ownsRow w.heap.size 148 2 v' (out ++ [(c1, wtN ⟨c1, c2, c3, c4, c5, c6⟩)]).length (cellsC (out ++ [(c1, wtN ⟨c1, c2, c3, c4, c5, c6⟩)]))) := hownC
              have hb7 : Below w.heap.size w wC := hbel.grown hgC hbel.size (fun j hj => HLT.out j hj)
              clear hownC hgC HO HNE HLT
              dsimp only
              go_wp2_with fail
              exact ⟨⟨k + 1, out ++ [(c1, wtN ⟨c1, c2, c3, c4, c5, c6⟩)], by omega, by go_num, HYES, by simp; omega, HO7, hb7⟩, by simp [intOf]; omega⟩
          · have d1 : (zone == 0) = false := by simpa using hz1
            have d4 : (c2 == zone) = true := by rcases hz with h | h; exact absurd h hz1; simpa using h
            by_cases hr1 : rack = 0
            · have d2 : (rack == 0) = true := by simpa using hr1
              clear hz hr hz1 hr1
              go_wp2_with fail
              refine leaf_put _ _ _ _ _ _ _ _ _ _ _ _ _ _ _ _ _ _ _ _ _ _ _ _ _ _ _ _ _ _ _ _ _ _ _ _ _ _ _ _ _ _ _ _ _ _ _ _ _ _ _ _ b off len cap k w.heap.size c1 c2 c3 c4 c5 c6 (.slice ao out.length co) out wr _ e0 e1 e2 e3 e4 e5 hbs hk0 hk1 HO.out (by have := hbel.size; omega) HNE.out HLN.out (fun u40 u41 u42 u43 u44 u45 u46 u47 u48 u49 u50 u51 u52 u53 v' wC hownC hgC => ?_)
              have HO7 : Hid (wC.ownsRow w.heap.size 148 2 v' (out ++ [(c1, wtN ⟨c1, c2, c3, c4, c5, c6⟩)]).length (cellsC (out ++ [(c1, wtN ⟨c1, c2, c3, c4, c5, c6⟩)]))) := hownC
              have hb7 : Below w.heap.size w wC := hbel.grown hgC hbel.size (fun j hj => HLT.out j hj)
              clear hownC hgC HO HNE HLT
              dsimp only
              go_wp2_with fail
              exact ⟨⟨k + 1, out ++ [(c1, wtN ⟨c1, c2, c3, c4, c5, c6⟩)], by omega, by go_num, HYES, by simp; omega, HO7, hb7⟩, by simp [intOf]; omega⟩
            · have d2 : (rack == 0) = false := by simpa using hr1
              have d3 : (c3 == rack) = true := by rcases hr with h | h; exact absurd h hr1; simpa using h
              clear hz hr hz1 hr1
              go_wp2_with fail
              refine leaf_put _ _ _ _ _ _ _ _ _ _ _ _ _ _ _ _ _ _ _ _ _ _ _ _ _ _ _ _ _ _ _ _ _ _ _ _ _ _ _ _ _ _ _ _ _ _ _ _ _ _ _ _ b off len cap k w.heap.size c1 c2 c3 c4 c5 c6 (.slice ao out.length co) out wr _ e0 e1 e2 e3 e4 e5 hbs hk0 hk1 HO.out (by have := hbel.size; omega) HNE.out HLN.out (fun u40 u41 u42 u43 u44 u45 u46 u47 u48 u49 u50 u51 u52 u53 v' wC hownC hgC => ?_)
              have HO7 : Hid (wC.ownsRow w.heap.size 148 2 v' (out ++ [(c1, wtN ⟨c1, c2, c3, c4, c5, c6⟩)]).length (cellsC (out ++ [(c1, wtN ⟨c1, c2, c3, c4, c5, c6⟩)]))) := hownC
              have hb7 : Below w.heap.size w wC := hbel.grown hgC hbel.size (fun j hj => HLT.out j hj)
              clear hownC hgC HO HNE HLT
              dsimp only
              go_wp2_with fail
              exact ⟨⟨k + 1, out ++ [(c1, wtN ⟨c1, c2, c3, c4, c5, c6⟩)], by omega, by go_num, HYES, by simp; omega, HO7, hb7⟩, by simp [intOf]; omega⟩
        · have HNO : Hid (out = ((ls.take (k + 1)).filter (selN zone rack)).map leafC) := by
            unfold Hid
            rw [HST, if_neg (by simp only [selN, coversB, Bool.and_eq_true, Bool.or_eq_true, beq_iff_eq]; exact fun h => hr (h.2.imp id Eq.symm)), List.append_nil]
          have d2 : (rack == 0) = false := by simpa using fun h => hr (.inl h)
          have d3 : (c3 == rack) = false := by simpa using fun h => hr (.inr h)
          clear HST
          by_cases hz1 : zone = 0
          · have d1 : (zone == 0) = true := by simpa using hz1
            go_wp2_with fail
            exact ⟨⟨k + 1, out, by omega, by go_num, HNO, by omega, HO, hbel⟩, by simp [intOf]; omega⟩
          · have d1 : (zone == 0) = false := by simpa using hz1
            have d4 : (c2 == zone) = true := by rcases hz with h | h; exact absurd h hz1; simpa using h
            go_wp2_with fail
            exact ⟨⟨k + 1, out, by omega, by go_num, HNO, by omega, HO, hbel⟩, by simp [intOf]; omega⟩
      · have HNO : Hid (out = ((ls.take (k + 1)).filter (selN zone rack)).map leafC) := by
          unfold Hid
          rw [HST, if_neg (by simp only [selN, coversB, Bool.and_eq_true, Bool.or_eq_true, beq_iff_eq]; exact fun h => hz (h.1.imp id Eq.symm)), List.append_nil]
        have d1 : (zone == 0) = false := by simpa using fun h => hz (.inl h)
        have d4 : (c2 == zone) = false := by simpa using fun h => hz (.inr h)
        clear HST
        go_wp2_with fail
        exact ⟨⟨k + 1, out, by omega, by go_num, HNO, by omega, HO, hbel⟩, by simp [intOf]; omega⟩
    · obtain rfl : k = len := by omega
      have HE : Hid (out = leavesOf ls zone rack) := by unfold Hid; rw [hT.out, HEQ.out]
      have HI : Hid (ChsAt wr ao out.length co out) := chs_own hown.out rfl
      clear hT hown
      go_wp2_with fail
      go_ret
      rw [← HE.out]
      exact ⟨hbel, ao, co, rfl, HI.out⟩
set_option maxHeartbeats 4000000 in
set_option maxRecDepth 60000 in
theorem refZones_any (a : Option Addr) (len cap : Nat) (ls : List Nd) (w : World) (h : NdsAt w a len cap ls) (hM : MayN ls) : Calls Tryz.prog 106 #[.slice a len cap] w fun e w' => ChPost (zonesOf ls) w e w' := by
  have hl : ls.length = len := h.1
  have HL : Hid (NdsAt w a len cap ls) := h
  have h12 : (len : Int) ≤ 12 := by have := hM.1; omega
  obtain ⟨i0, hi, hz0, hz1, hz2⟩ := info_parts info3
  obtain ⟨wM, hmk, hownM, hgM⟩ := run_make_full (P := Tryz.prog) w w.heap.size 35 3 i0 (.int .i64 0) 1 Tryz.underlying35 hi hz0 hz1 .i64 .i64 len (by rw [hz2]; omega) (by unfold maxLen; omega) (Nat.le_refl _)
  have hbM : Below w.heap.size w wM := ⟨hgM.os, hgM.tape, hgM.output, hgM.size, fun k hk => hgM.block k hk (by simp)⟩
  have hxs : (madeCells (Value.int .i64 0).cells (len * 1)).toList = intCells ((ls.map zoneG).take 0) ++ List.replicate (len - 0) (Value.int .i64 0) := by
    rw [Nat.mul_one]
    exact toList_madeCells_one _ _
  have HOM : Hid (wM.ownsRow w.heap.size 3 1 (.slice (some ⟨w.heap.size, 0, none⟩) len len) len (intCells ((ls.map zoneG).take 0) ++ List.replicate (len - 0) (Value.int .i64 0))) := by rw [← hxs]; exact hownM
  have HSM : Hid (∀ wr, Below w.heap.size w wr → IntsAt wr (some ⟨w.heap.size, 0, none⟩) (ls.map zoneG) → Calls Tryz.prog 125 #[.slice a len cap, .slice (some ⟨w.heap.size, 0, none⟩) len len] wr fun e w' => ChPost (zonesOf ls) wr e w') := fun wr hb hI => sum_any a len cap ls zoneG _ len wr (HL.out.below hb) hI hM
  have HLN : Hid ((ls.map zoneG).length = len) := by unfold Hid; rw [List.length_map, hl]
  have HGT : Hid (∀ k, k < len → (ls.map zoneG).getD k 0 = zoneG (ls.getD k nd0)) := fun k hk => by simp [show k < ls.length by omega]
  clear hownM hgM hxs hi hz0 hz1 hz2 h hM
  go_enter Tryz.func106, Tryz.ntmps106
  go_wp2_with fail
  clear hmk
  go_loopw [4] (fun i wr => ∃ k : Nat, k ≤ len ∧ i = .int .i64 k ∧ Hid (wr.ownsRow w.heap.size 3 1 (.slice (some ⟨w.heap.size, 0, none⟩) len len) len (intCells ((ls.map zoneG).take k) ++ List.replicate (len - k) (Value.int .i64 0))) ∧ Below w.heap.size w wr) (fun i _ => len - (intOf i).toNat)
  case atStart => exact ⟨0, Nat.zero_le _, rfl, HOM, hbM⟩
  case round =>
    obtain ⟨k, hk, rfl, hT, hbel⟩ := hrel
    by_cases hlt : k < len
    · obtain ⟨b, off, rfl, hb00, -⟩ := HL.out.some (by omega)
      have hcell := (HL.out.below hbel)
      obtain ⟨b', off', hbe, hbs, hcell⟩ := hcell.some (by omega)
      injection hbe with hbe
      injection hbe with hb1 hb2
      subst hb1
      subst hb2
      obtain ⟨e0, e1, e2, e3, e4, e5⟩ := hcell k hlt
      have hk1 : (k : Int) < (len : Int) := by omega
      have hk0 : (0 : Int) ≤ (k : Int) := by omega
      have HNX : (intCells ((ls.map zoneG).take k) ++ List.replicate (len - k) (Value.int .i64 0)).set k (Value.int .i64 ((ls.map zoneG).getD k 0)) = intCells ((ls.map zoneG).take (k + 1)) ++ List.replicate (len - (k + 1)) (Value.int .i64 0) := Dr.set_next _ len k HLN.out hlt
      have hcx : (intCells ((ls.map zoneG).take k) ++ List.replicate (len - k) (Value.int .i64 0))[k]? = some (Value.int .i64 0) := Dr.cell_next _ len k HLN.out hlt
      rw [HGT.out k hlt] at HNX
      have c4 := (hT.out.cellAt k (by omega)).trans hcx
      have f4 := hT.out.frozenAt k
      have hwl : w.heap.size < wr.heap.size := (hT.out.lt w.heap.size rfl).2
      clear hcell
      generalize ls.getD k nd0 = x at *
      obtain ⟨c1, c2, c3, c5, c6, c7⟩ := x
      simp only at e0 e1 e2 e3 e4 e5
      rw [show zoneG ⟨c1, c2, c3, c5, c6, c7⟩ = c2 from rfl] at HNX
      have HO5 : Hid _ := (hT.out.stored k (.int .i64 c2)).1
      rw [HNX] at HO5
      have hb5 : Below w.heap.size w (wr.setCell ⟨w.heap.size, k, none⟩ (.int .i64 c2)) := hbel.setCell (p := ⟨w.heap.size, k, none⟩) (Nat.le_refl _) _
      clear HNX hcx hT
      go_wp2_with fail
      exact ⟨⟨k + 1, by omega, by go_num, HO5, hb5⟩, by simp [intOf]; omega⟩
    · obtain rfl : k = len := by omega
      have HI : Hid (IntsAt wr (some ⟨w.heap.size, 0, none⟩) (ls.map zoneG)) := by
        have := hT.out
        rw [Nat.sub_self, List.replicate_zero, List.append_nil, List.take_of_length_le (by rw [HLN.out]; exact Nat.le_refl _)] at this
        exact ints_own this HLN.out.symm
      have HSQ : Hid (Calls Tryz.prog 125 #[.slice a k cap, .slice (some ⟨w.heap.size, 0, none⟩) k k] wr fun e w' => ChPost (zonesOf ls) wr e w') := HSM.out wr hbel HI.out
      clear hT HSM HI
      go_wp2_with fail
      refine HSQ.out.mono ?_
      rintro e w2 ⟨hb2, a2, cap2, rfl, hc2⟩
      have HP : Hid (ChsAt w2 a2 (zonesOf ls).length cap2 (zonesOf ls)) := hc2
      clear hc2 HSQ
      go_wp2_with fail
      go_ret
      exact ⟨below2 hbel hb2, a2, cap2, rfl, HP.out⟩
set_option maxHeartbeats 4000000 in
set_option maxRecDepth 60000 in
theorem refRacks_any (a : Option Addr) (len cap : Nat) (ls : List Nd) (z : Int) (w : World) (h : NdsAt w a len cap ls) (hM : MayN ls) : Calls Tryz.prog 107 #[.slice a len cap, .int .i64 z] w fun e w' => ChPost (racksOf ls z) w e w' := by
  have hl : ls.length = len := h.1
  have HL : Hid (NdsAt w a len cap ls) := h
  have h12 : (len : Int) ≤ 12 := by have := hM.1; omega
  obtain ⟨i0, hi, hz0, hz1, hz2⟩ := info_parts info3
  obtain ⟨wM, hmk, hownM, hgM⟩ := run_make_full (P := Tryz.prog) w w.heap.size 35 3 i0 (.int .i64 0) 1 Tryz.underlying35 hi hz0 hz1 .i64 .i64 len (by rw [hz2]; omega) (by unfold maxLen; omega) (Nat.le_refl _)
  have hbM : Below w.heap.size w wM := ⟨hgM.os, hgM.tape, hgM.output, hgM.size, fun k hk => hgM.block k hk (by simp)⟩
  have hxs : (madeCells (Value.int .i64 0).cells (len * 1)).toList = intCells ((ls.map (rackG z)).take 0) ++ List.replicate (len - 0) (Value.int .i64 0) := by
    rw [Nat.mul_one]
    exact toList_madeCells_one _ _
  have HOM : Hid (wM.ownsRow w.heap.size 3 1 (.slice (some ⟨w.heap.size, 0, none⟩) len len) len (intCells ((ls.map (rackG z)).take 0) ++ List.replicate (len - 0) (Value.int .i64 0))) := by rw [← hxs]; exact hownM
  have HSM : Hid (∀ wr, Below w.heap.size w wr → IntsAt wr (some ⟨w.heap.size, 0, none⟩) (ls.map (rackG z)) → Calls Tryz.prog 125 #[.slice a len cap, .slice (some ⟨w.heap.size, 0, none⟩) len len] wr fun e w' => ChPost (racksOf ls z) wr e w') := fun wr hb hI => sum_any a len cap ls (rackG z) _ len wr (HL.out.below hb) hI hM
  have HLN : Hid ((ls.map (rackG z)).length = len) := by unfold Hid; rw [List.length_map, hl]
  have HGT : Hid (∀ k, k < len → (ls.map (rackG z)).getD k 0 = (rackG z) (ls.getD k nd0)) := fun k hk => by simp [show k < ls.length by omega]
  clear hownM hgM hxs hi hz0 hz1 hz2 h hM
  go_enter Tryz.func107, Tryz.ntmps107
  go_wp2_with fail
  clear hmk
  go_loopw [6] (fun i wr => ∃ k : Nat, k ≤ len ∧ i = .int .i64 k ∧ Hid (wr.ownsRow w.heap.size 3 1 (.slice (some ⟨w.heap.size, 0, none⟩) len len) len (intCells ((ls.map (rackG z)).take k) ++ List.replicate (len - k) (Value.int .i64 0))) ∧ Below w.heap.size w wr) (fun i _ => len - (intOf i).toNat)
  case atStart => exact ⟨0, Nat.zero_le _, rfl, HOM, hbM⟩
  case round =>
    obtain ⟨k, hk, rfl, hT, hbel⟩ := hrel
    by_cases hlt : k < len
    · obtain ⟨b, off, rfl, hb00, -⟩ := HL.out.some (by omega)
      have hcell := (HL.out.below hbel)
      obtain ⟨b', off', hbe, hbs, hcell⟩ := hcell.some (by omega)
      injection hbe with hbe
      injection hbe with hb1 hb2
      subst hb1
      subst hb2
      obtain ⟨e0, e1, e2, e3, e4, e5⟩ := hcell k hlt
      have hk1 : (k : Int) < (len : Int) := by omega
      have hk0 : (0 : Int) ≤ (k : Int) := by omega
      have HNX : (intCells ((ls.map (rackG z)).take k) ++ List.replicate (len - k) (Value.int .i64 0)).set k (Value.int .i64 ((ls.map (rackG z)).getD k 0)) = intCells ((ls.map (rackG z)).take (k + 1)) ++ List.replicate (len - (k + 1)) (Value.int .i64 0) := Dr.set_next _ len k HLN.out hlt
      have hcx : (intCells ((ls.map (rackG z)).take k) ++ List.replicate (len - k) (Value.int .i64 0))[k]? = some (Value.int .i64 0) := Dr.cell_next _ len k HLN.out hlt
      rw [HGT.out k hlt] at HNX
      have c4 := (hT.out.cellAt k (by omega)).trans hcx
      have f4 := hT.out.frozenAt k
      have hwl : w.heap.size < wr.heap.size := (hT.out.lt w.heap.size rfl).2
      clear hcell
      generalize ls.getD k nd0 = x at *
      obtain ⟨c1, c2, c3, c5, c6, c7⟩ := x
      simp only at e0 e1 e2 e3 e4 e5
      by_cases hz : c2 = z
      · rw [show rackG z ⟨c1, c2, c3, c5, c6, c7⟩ = c3 from if_pos hz] at HNX
        have dz : (c2 == z) = true := by simpa using hz
        have HO5 : Hid _ := (hT.out.stored k (.int .i64 c3)).1
        rw [HNX] at HO5
        have hb5 : Below w.heap.size w (wr.setCell ⟨w.heap.size, k, none⟩ (.int .i64 c3)) := hbel.setCell (p := ⟨w.heap.size, k, none⟩) (Nat.le_refl _) _
        clear HNX hcx hT
        go_wp2_with fail
        exact ⟨⟨k + 1, by omega, by go_num, HO5, hb5⟩, by simp [intOf]; omega⟩
      · rw [show rackG z ⟨c1, c2, c3, c5, c6, c7⟩ = 0 from if_neg hz] at HNX
        have dz : (c2 == z) = false := by simpa using hz
        have hsame : (intCells ((ls.map (rackG z)).take k) ++ List.replicate (len - k) (Value.int .i64 0)).set k (Value.int .i64 0) = intCells ((ls.map (rackG z)).take k) ++ List.replicate (len - k) (Value.int .i64 0) := by
          apply List.ext_getElem?
          intro i
          rw [List.getElem?_set]
          by_cases hik : k = i
          · subst hik
            rw [hcx]
            have hkl := (List.getElem?_eq_some_iff.1 hcx).1
            rw [if_pos rfl, if_pos hkl]
          · rw [if_neg hik]
        have HO5 : Hid (wr.ownsRow w.heap.size 3 1 (.slice (some ⟨w.heap.size, 0, none⟩) len len) len (intCells ((ls.map (rackG z)).take (k + 1)) ++ List.replicate (len - (k + 1)) (Value.int .i64 0))) := by
          unfold Hid
          rw [← HNX, hsame]
          exact hT.out
        clear HNX hcx hT hsame
        go_wp2_with fail
        exact ⟨⟨k + 1, by omega, by go_num, HO5, hbel⟩, by simp [intOf]; omega⟩
    · obtain rfl : k = len := by omega
      have HI : Hid (IntsAt wr (some ⟨w.heap.size, 0, none⟩) (ls.map (rackG z))) := by
        have := hT.out
        rw [Nat.sub_self, List.replicate_zero, List.append_nil, List.take_of_length_le (by rw [HLN.out]; exact Nat.le_refl _)] at this
        exact ints_own this HLN.out.symm
      have HSQ : Hid (Calls Tryz.prog 125 #[.slice a k cap, .slice (some ⟨w.heap.size, 0, none⟩) k k] wr fun e w' => ChPost (racksOf ls z) wr e w') := HSM.out wr hbel HI.out
      clear hT HSM HI
      go_wp2_with fail
      refine HSQ.out.mono ?_
      rintro e w2 ⟨hb2, a2, cap2, rfl, hc2⟩
      have HP : Hid (ChsAt w2 a2 (racksOf ls z).length cap2 (racksOf ls z)) := hc2
      clear hc2 HSQ
      go_wp2_with fail
      go_ret
      exact ⟨below2 hbel hb2, a2, cap2, rfl, HP.out⟩
end Go.Proofs.YtcncbjknfcjnmaaGreat.Tp
namespace Go.Proofs.YtcncbjknfcjnmaaGreat.Tp
open Go.ChangeShapes Go.WideShapes Go.ChangeAt Go.RowKit
theorem refCommon_any (size : Int) (w : World) : Calls Tryz.prog 85 #[.int .i64 size] w fun e w' => e = .returned (.slice (some ⟨w.heap.size, 0, none⟩) 5 5) ∧ w' = w.alloc (.cells (comCells size).toArray 121) := by
  go_enter Tryz.func85, Tryz.ntmps85
  go_wp2
  go_ret
  exact ⟨rfl, rfl⟩
/-- the key, folded by the answer -/
theorem refKey_any (g lev z r : Int) (b : Nat) (W : World) (h0 : W.cell? ⟨b, 0, none⟩ = some (.int .u64 ((Dr.bitsOf lev : Nat) : Int))) (h1 : W.cell? ⟨b, 1, none⟩ = some (.int .u64 ((Dr.bitsOf z : Nat) : Int))) (h2 : W.cell? ⟨b, 2, none⟩ = some (.int .u64 ((Dr.bitsOf r : Nat) : Int))) :
    Calls Tryz.prog 109 #[.int .u64 ((Dr.bitsOf g : Nat) : Int), .slice (some ⟨b, 0, none⟩) 3 3] W fun e w' => e = .returned (.int .u64 ((keyOf g lev z r : Nat) : Int)) ∧ w' = W := by
  refine Dr.refFold_some (Dr.bitsOf g) b 0 3 [Dr.bitsOf lev, Dr.bitsOf z, Dr.bitsOf r] W (Dr.bitsOf_lt g) (by simp [maxLen]) (by intro n hn; simp at hn; rcases hn with rfl | rfl | rfl <;> exact Dr.bitsOf_lt _) (fun i hi => ?_)
  have : i = 0 ∨ i = 1 ∨ i = 2 := by simp at hi; omega
  rcases this with rfl | rfl | rfl
  · exact h0
  · exact h1
  · exact h2
def RefOrdP (I : List Int) (w : World) (e : Ending) (w' : World) : Prop := Below w.heap.size w w' ∧ ∃ a cap, e = .returned (.slice a I.length cap) ∧ IntsAt w' a I ∧ I.length ≤ 64 ∧ ∀ p : Addr, a = some p → w.heap.size ≤ p.block
theorem refOrder_p {key : Nat} {l : List Ch} (hM : Dr.MayC l) (hk : key < 18446744073709551616) (a : Option Addr) (cap : Nat) (w : World) (h : ChsAt w a l.length cap l) : Calls Tryz.prog 108 #[.int .u64 (key : Int), .slice a l.length cap] w fun e w' => RefOrdP (ordF key l) w e w' :=
  Dr.refOrder_any key a l.length cap l w hk h ⟨hM.1, fun c hc => by
    have := ((Dr.may_iff l).1 hM).2.1 c hc
    exact ⟨this.2.2.1, this.2.2.2⟩⟩
set_option maxHeartbeats 4000000 in
set_option maxRecDepth 60000 in
theorem y_put1 (t0 t1 t2 t3 t4 t5 t6 t7 t8 t9 t10 t11 t13 t14 t15 t16 t17 t18 t22 t23 t24 t25 t26 t27 t28 t29 t30 t31 t32 t33 t34 t35 t36 t37 t38 t39 t40 t41 t42 t43 t44 t45 t46 t47 t48 t49 t50 t51 t52 t53 t54 t55 t56 t57 t58 t59 t60 t61 t62 t63 t64 t65 t66 t67 t68 t69 t70 t71 t72 t73 t74 t75 t76 t77 t78 t79 t80 t81 t82 t83 t84 t85 t86 t87 t88 t89 t90 t91 t92 t93 t94 t95 t96 t97 t98 t99 t100 t101 t102 t103 t104 t105 t106 t107 t108 t109 t110 t111 t112 t113 t114 t115 t116 t117 t118 t119 t120 t121 t122 t123 t124 t125 t126 t127 t128 t129 t130 t131 t132 t133 t134 t135 t136 t137 t138 t139 t140 t141 t142 t143 : Value) (S p il ci t Y : Nat) (id : Int) (y : Value) (w1 : World) (Q : Exit → Act → World → Prop)
    (x0 : w1.cell? ⟨S, 1, none⟩ = some (.int .i64 1)) (x1 : w1.cell? ⟨p, t, none⟩ = some (.int .i64 id)) (hSY : S < Y) (hpY : p < Y) (hY : Y < w1.heap.size) (y0 : w1.cell? ⟨Y, 0, none⟩ = some y) (yf : w1.frozen? ⟨Y, 0, none⟩ = false) (ht0 : (0 : Int) ≤ (t : Int)) (ht1 : (t : Int) < (il : Int))
    (hQ : Hid (∀ (u130 u131 u132 u133 u134 u135 u136 u137 : Value), Q .normal ⟨#[t0, t1, t2, t3, t4, t5, t6, t7, t8, t9, t10, t11, .pointer (some ⟨S, 0, none⟩), t13, t14, t15, t16, t17, t18, .slice (some ⟨p, 0, none⟩) il ci, .int .i64 (t : Int), .pointer (some ⟨Y, 0, none⟩), t22, t23, t24, t25, t26, t27, t28, t29, t30, t31, t32, t33, t34, t35, t36, t37, t38, t39, t40, t41, t42, t43, t44, t45, t46, t47, t48, t49, t50, t51, t52, t53, t54, t55, t56, t57, t58, t59, t60, t61, t62, t63, t64, t65, t66, t67, t68, t69, t70, t71, t72, t73, t74, t75, t76, t77, t78, t79, t80, t81, t82, t83, t84, t85, t86, t87, t88, t89, t90, t91, t92, t93, t94, t95, t96, t97, t98, t99, t100, t101, t102, t103, t104, t105, t106, t107, t108, t109, t110, t111, t112, t113, t114, t115, t116, t117, t118, t119, t120, t121, t122, t123, t124, t125, t126, t127, t128, t129, u130, u131, u132, u133, u134, u135, u136, u137, t138, t139, t140, t141, t142, t143], []⟩ (w1.drew.setCell ⟨Y, 0, none⟩ (.int .i64 id)))) :
    Code.wp Tryz.prog ((Tryz.f84.body.bind (regionOf 32)).getD .skip) Q ⟨#[t0, t1, t2, t3, t4, t5, t6, t7, t8, t9, t10, t11, .pointer (some ⟨S, 0, none⟩), t13, t14, t15, t16, t17, t18, .slice (some ⟨p, 0, none⟩) il ci, .int .i64 (t : Int), .pointer (some ⟨Y, 0, none⟩), t22, t23, t24, t25, t26, t27, t28, t29, t30, t31, t32, t33, t34, t35, t36, t37, t38, t39, t40, t41, t42, t43, t44, t45, t46, t47, t48, t49, t50, t51, t52, t53, t54, t55, t56, t57, t58, t59, t60, t61, t62, t63, t64, t65, t66, t67, t68, t69, t70, t71, t72, t73, t74, t75, t76, t77, t78, t79, t80, t81, t82, t83, t84, t85, t86, t87, t88, t89, t90, t91, t92, t93, t94, t95, t96, t97, t98, t99, t100, t101, t102, t103, t104, t105, t106, t107, t108, t109, t110, t111, t112, t113, t114, t115, t116, t117, t118, t119, t120, t121, t122, t123, t124, t125, t126, t127, t128, t129, t130, t131, t132, t133, t134, t135, t136, t137, t138, t139, t140, t141, t142, t143], []⟩ w1 := by
  have HS : Hid ((fun w' => w'.cell? ⟨S, 1, none⟩ = some (.int .i64 1) ∧ w'.cell? ⟨p, t, none⟩ = some (.int .i64 id)) w1.drew) := ⟨((below_drew w1).cell (p := ⟨S, 1, none⟩) (Nat.lt_trans hSY hY)).trans x0, ((below_drew w1).cell (p := ⟨p, t, none⟩) (Nat.lt_trans hpY hY)).trans x1⟩
  have yd : w1.drew.cell? ⟨Y, 0, none⟩ = some y := ((below_drew w1).cell (p := ⟨Y, 0, none⟩) hY).trans y0
  have yfd : w1.drew.frozen? ⟨Y, 0, none⟩ = false := yf
  have HS2 : Hid ((fun w' => w'.cell? ⟨S, 1, none⟩ = some (.int .i64 1) ∧ w'.cell? ⟨p, t, none⟩ = some (.int .i64 id)) (w1.drew.setCell ⟨Y, 0, none⟩ (.int .i64 id))) := ⟨(set_else (by omega) _).trans HS.out.1, (set_else (by omega) _).trans HS.out.2⟩
  have hS := HS.out
  clear x0 x1 y0 yf
  conv => arg 2; whnf
  refine held_start (S := (fun w' => w'.cell? ⟨S, 1, none⟩ = some (.int .i64 1) ∧ w'.cell? ⟨p, t, none⟩ = some (.int .i64 id))) mixed5 ?_
  refine held_take (i := 0) (v := .pointer (some ⟨S, 1, none⟩)) rfl (by kernel_rfl) (fun _ _ _ h => h) (.inl ⟨rfl, fun w hS => ?_⟩) hS ?_
  · obtain ⟨s0, s1⟩ := hS
    go_simp
  simp only [Act.put, List.setIfInBounds_toArray, List.set_cons_zero, List.set_cons_succ]
  refine held_take (i := 1) (v := .int .i64 1) rfl (by kernel_rfl) (fun _ _ _ h => h) (.inl ⟨rfl, fun w hS => ?_⟩) hS ?_
  · obtain ⟨s0, s1⟩ := hS
    go_simp
  simp only [Act.put, List.setIfInBounds_toArray, List.set_cons_zero, List.set_cons_succ]
  refine held_take (i := 2) (v := .int .i64 0) rfl (by kernel_rfl) (fun _ _ _ h => h) (.inl ⟨rfl, fun w hS => ?_⟩) hS ?_
  · obtain ⟨s0, s1⟩ := hS
    go_simp
    decide
  simp only [Act.put, List.setIfInBounds_toArray, List.set_cons_zero, List.set_cons_succ]
  refine held_take (i := 3) (v := .slice (some ⟨p, 0, none⟩) il ci) rfl (by kernel_rfl) (fun _ _ _ h => h) (.inl ⟨rfl, fun w hS => ?_⟩) hS ?_
  · obtain ⟨s0, s1⟩ := hS
    go_simp
  simp only [Act.put, List.setIfInBounds_toArray, List.set_cons_zero, List.set_cons_succ]
  refine held_take (i := 4) (v := .int .i64 (t : Int)) rfl (by kernel_rfl) (fun _ _ _ h => h) (.inl ⟨rfl, fun w hS => ?_⟩) hS ?_
  · obtain ⟨s0, s1⟩ := hS
    go_simp
  simp only [Act.put, List.setIfInBounds_toArray, List.set_cons_zero, List.set_cons_succ]
  refine held_take (i := 5) (v := .pointer (some ⟨p, t, none⟩)) rfl (by kernel_rfl) (fun _ _ _ h => h) (.inl ⟨rfl, fun w hS => ?_⟩) hS ?_
  · obtain ⟨s0, s1⟩ := hS
    go_simp
  simp only [Act.put, List.setIfInBounds_toArray, List.set_cons_zero, List.set_cons_succ]
  refine held_take (i := 6) (v := .int .i64 id) rfl (by kernel_rfl) (fun _ _ _ h => h) (.inl ⟨rfl, fun w hS => ?_⟩) hS ?_
  · obtain ⟨s0, s1⟩ := hS
    go_simp
  simp only [Act.put, List.setIfInBounds_toArray, List.set_cons_zero, List.set_cons_succ]
  refine held_take (i := 7) (v := .pointer (some ⟨Y, 0, none⟩)) rfl (by kernel_rfl) (fun _ _ _ h => h) (.inl ⟨rfl, fun w hS => ?_⟩) hS ?_
  · obtain ⟨s0, s1⟩ := hS
    go_simp
  simp only [Act.put, List.setIfInBounds_toArray, List.set_cons_zero, List.set_cons_succ]
  refine held_one (i := 8) (by kernel_rfl) rfl rfl ?_
  intro K hK
  obtain ⟨s0, s1⟩ := hS
  go_simp
  refine hK.out _ _ HS2.out ?_
  clear hK
  try simp only [Act.put, List.setIfInBounds_toArray, List.set_cons_zero, List.set_cons_succ]
  refine wpAnyH_done (by kernel_rfl) ?_ _
  refine NoPanic.normal ?_
  exact hQ.out _ _ _ _ _ _ _ _
set_option maxHeartbeats 4000000 in
set_option maxRecDepth 60000 in
theorem y_put2 (t0 t1 t2 t3 t4 t5 t6 t7 t8 t9 t10 t11 t13 t14 t15 t16 t17 t18 t22 t23 t24 t25 t26 t27 t28 t29 t30 t31 t32 t33 t34 t35 t36 t37 t38 t39 t40 t41 t42 t43 t44 t45 t46 t47 t48 t49 t50 t51 t52 t53 t54 t55 t56 t57 t58 t59 t60 t61 t62 t63 t64 t65 t66 t67 t68 t69 t70 t71 t72 t73 t74 t75 t76 t77 t78 t79 t80 t81 t82 t83 t84 t85 t86 t87 t88 t89 t90 t91 t92 t93 t94 t95 t96 t97 t98 t99 t100 t101 t102 t103 t104 t105 t106 t107 t108 t109 t110 t111 t112 t113 t114 t115 t116 t117 t118 t119 t120 t121 t122 t123 t124 t125 t126 t127 t128 t129 t130 t131 t132 t133 t134 t135 t136 t137 t138 t139 t140 t141 t142 t143 : Value) (S p il ci t Y : Nat) (id : Int) (y : Value) (w1 : World) (Q : Exit → Act → World → Prop)
    (x0 : w1.cell? ⟨S, 1, none⟩ = some (.int .i64 2)) (x1 : w1.cell? ⟨p, t, none⟩ = some (.int .i64 id)) (hSY : S < Y) (hpY : p < Y) (hY : Y < w1.heap.size) (y0 : w1.cell? ⟨Y, 1, none⟩ = some y) (yf : w1.frozen? ⟨Y, 1, none⟩ = false) (ht0 : (0 : Int) ≤ (t : Int)) (ht1 : (t : Int) < (il : Int))
    (hQ : Hid (∀ (u130 u131 u132 u133 u134 u135 u136 u137 : Value), Q .normal ⟨#[t0, t1, t2, t3, t4, t5, t6, t7, t8, t9, t10, t11, .pointer (some ⟨S, 0, none⟩), t13, t14, t15, t16, t17, t18, .slice (some ⟨p, 0, none⟩) il ci, .int .i64 (t : Int), .pointer (some ⟨Y, 0, none⟩), t22, t23, t24, t25, t26, t27, t28, t29, t30, t31, t32, t33, t34, t35, t36, t37, t38, t39, t40, t41, t42, t43, t44, t45, t46, t47, t48, t49, t50, t51, t52, t53, t54, t55, t56, t57, t58, t59, t60, t61, t62, t63, t64, t65, t66, t67, t68, t69, t70, t71, t72, t73, t74, t75, t76, t77, t78, t79, t80, t81, t82, t83, t84, t85, t86, t87, t88, t89, t90, t91, t92, t93, t94, t95, t96, t97, t98, t99, t100, t101, t102, t103, t104, t105, t106, t107, t108, t109, t110, t111, t112, t113, t114, t115, t116, t117, t118, t119, t120, t121, t122, t123, t124, t125, t126, t127, t128, t129, u130, u131, u132, u133, u134, u135, u136, u137, t138, t139, t140, t141, t142, t143], []⟩ (w1.drew.setCell ⟨Y, 1, none⟩ (.int .i64 id)))) :
    Code.wp Tryz.prog ((Tryz.f84.body.bind (regionOf 32)).getD .skip) Q ⟨#[t0, t1, t2, t3, t4, t5, t6, t7, t8, t9, t10, t11, .pointer (some ⟨S, 0, none⟩), t13, t14, t15, t16, t17, t18, .slice (some ⟨p, 0, none⟩) il ci, .int .i64 (t : Int), .pointer (some ⟨Y, 0, none⟩), t22, t23, t24, t25, t26, t27, t28, t29, t30, t31, t32, t33, t34, t35, t36, t37, t38, t39, t40, t41, t42, t43, t44, t45, t46, t47, t48, t49, t50, t51, t52, t53, t54, t55, t56, t57, t58, t59, t60, t61, t62, t63, t64, t65, t66, t67, t68, t69, t70, t71, t72, t73, t74, t75, t76, t77, t78, t79, t80, t81, t82, t83, t84, t85, t86, t87, t88, t89, t90, t91, t92, t93, t94, t95, t96, t97, t98, t99, t100, t101, t102, t103, t104, t105, t106, t107, t108, t109, t110, t111, t112, t113, t114, t115, t116, t117, t118, t119, t120, t121, t122, t123, t124, t125, t126, t127, t128, t129, t130, t131, t132, t133, t134, t135, t136, t137, t138, t139, t140, t141, t142, t143], []⟩ w1 := by
  have HS : Hid ((fun w' => w'.cell? ⟨S, 1, none⟩ = some (.int .i64 2) ∧ w'.cell? ⟨p, t, none⟩ = some (.int .i64 id)) w1.drew) := ⟨((below_drew w1).cell (p := ⟨S, 1, none⟩) (Nat.lt_trans hSY hY)).trans x0, ((below_drew w1).cell (p := ⟨p, t, none⟩) (Nat.lt_trans hpY hY)).trans x1⟩
  have yd : w1.drew.cell? ⟨Y, 1, none⟩ = some y := ((below_drew w1).cell (p := ⟨Y, 1, none⟩) hY).trans y0
  have yfd : w1.drew.frozen? ⟨Y, 1, none⟩ = false := yf
  have HS2 : Hid ((fun w' => w'.cell? ⟨S, 1, none⟩ = some (.int .i64 2) ∧ w'.cell? ⟨p, t, none⟩ = some (.int .i64 id)) (w1.drew.setCell ⟨Y, 1, none⟩ (.int .i64 id))) := ⟨(set_else (by omega) _).trans HS.out.1, (set_else (by omega) _).trans HS.out.2⟩
  have hS := HS.out
  clear x0 x1 y0 yf
  conv => arg 2; whnf
  refine held_start (S := (fun w' => w'.cell? ⟨S, 1, none⟩ = some (.int .i64 2) ∧ w'.cell? ⟨p, t, none⟩ = some (.int .i64 id))) mixed5 ?_
  refine held_take (i := 0) (v := .pointer (some ⟨S, 1, none⟩)) rfl (by kernel_rfl) (fun _ _ _ h => h) (.inl ⟨rfl, fun w hS => ?_⟩) hS ?_
  · obtain ⟨s0, s1⟩ := hS
    go_simp
  simp only [Act.put, List.setIfInBounds_toArray, List.set_cons_zero, List.set_cons_succ]
  refine held_take (i := 1) (v := .int .i64 2) rfl (by kernel_rfl) (fun _ _ _ h => h) (.inl ⟨rfl, fun w hS => ?_⟩) hS ?_
  · obtain ⟨s0, s1⟩ := hS
    go_simp
  simp only [Act.put, List.setIfInBounds_toArray, List.set_cons_zero, List.set_cons_succ]
  refine held_take (i := 2) (v := .int .i64 1) rfl (by kernel_rfl) (fun _ _ _ h => h) (.inl ⟨rfl, fun w hS => ?_⟩) hS ?_
  · obtain ⟨s0, s1⟩ := hS
    go_simp
    decide
  simp only [Act.put, List.setIfInBounds_toArray, List.set_cons_zero, List.set_cons_succ]
  refine held_take (i := 3) (v := .slice (some ⟨p, 0, none⟩) il ci) rfl (by kernel_rfl) (fun _ _ _ h => h) (.inl ⟨rfl, fun w hS => ?_⟩) hS ?_
  · obtain ⟨s0, s1⟩ := hS
    go_simp
  simp only [Act.put, List.setIfInBounds_toArray, List.set_cons_zero, List.set_cons_succ]
  refine held_take (i := 4) (v := .int .i64 (t : Int)) rfl (by kernel_rfl) (fun _ _ _ h => h) (.inl ⟨rfl, fun w hS => ?_⟩) hS ?_
  · obtain ⟨s0, s1⟩ := hS
    go_simp
  simp only [Act.put, List.setIfInBounds_toArray, List.set_cons_zero, List.set_cons_succ]
  refine held_take (i := 5) (v := .pointer (some ⟨p, t, none⟩)) rfl (by kernel_rfl) (fun _ _ _ h => h) (.inl ⟨rfl, fun w hS => ?_⟩) hS ?_
  · obtain ⟨s0, s1⟩ := hS
    go_simp
  simp only [Act.put, List.setIfInBounds_toArray, List.set_cons_zero, List.set_cons_succ]
  refine held_take (i := 6) (v := .int .i64 id) rfl (by kernel_rfl) (fun _ _ _ h => h) (.inl ⟨rfl, fun w hS => ?_⟩) hS ?_
  · obtain ⟨s0, s1⟩ := hS
    go_simp
  simp only [Act.put, List.setIfInBounds_toArray, List.set_cons_zero, List.set_cons_succ]
  refine held_take (i := 7) (v := .pointer (some ⟨Y, 1, none⟩)) rfl (by kernel_rfl) (fun _ _ _ h => h) (.inl ⟨rfl, fun w hS => ?_⟩) hS ?_
  · obtain ⟨s0, s1⟩ := hS
    go_simp
  simp only [Act.put, List.setIfInBounds_toArray, List.set_cons_zero, List.set_cons_succ]
  refine held_one (i := 8) (by kernel_rfl) rfl rfl ?_
  intro K hK
  obtain ⟨s0, s1⟩ := hS
  go_simp
  refine hK.out _ _ HS2.out ?_
  clear hK
  try simp only [Act.put, List.setIfInBounds_toArray, List.set_cons_zero, List.set_cons_succ]
  refine wpAnyH_done (by kernel_rfl) ?_ _
  refine NoPanic.normal ?_
  exact hQ.out _ _ _ _ _ _ _ _
set_option maxHeartbeats 4000000 in
set_option maxRecDepth 60000 in
theorem y_put3 (t0 t1 t2 t3 t4 t5 t6 t7 t8 t9 t10 t11 t13 t14 t15 t16 t17 t18 t22 t23 t24 t25 t26 t27 t28 t29 t30 t31 t32 t33 t34 t35 t36 t37 t38 t39 t40 t41 t42 t43 t44 t45 t46 t47 t48 t49 t50 t51 t52 t53 t54 t55 t56 t57 t58 t59 t60 t61 t62 t63 t64 t65 t66 t67 t68 t69 t70 t71 t72 t73 t74 t75 t76 t77 t78 t79 t80 t81 t82 t83 t84 t85 t86 t87 t88 t89 t90 t91 t92 t93 t94 t95 t96 t97 t98 t99 t100 t101 t102 t103 t104 t105 t106 t107 t108 t109 t110 t111 t112 t113 t114 t115 t116 t117 t118 t119 t120 t121 t122 t123 t124 t125 t126 t127 t128 t129 t130 t131 t132 t133 t134 t135 t136 t137 t138 t139 t140 t141 t142 t143 : Value) (S p il ci t Y : Nat) (id : Int) (y : Value) (w1 : World) (Q : Exit → Act → World → Prop)
    (x0 : w1.cell? ⟨S, 1, none⟩ = some (.int .i64 3)) (x1 : w1.cell? ⟨p, t, none⟩ = some (.int .i64 id)) (hSY : S < Y) (hpY : p < Y) (hY : Y < w1.heap.size) (y0 : w1.cell? ⟨Y, 2, none⟩ = some y) (yf : w1.frozen? ⟨Y, 2, none⟩ = false) (ht0 : (0 : Int) ≤ (t : Int)) (ht1 : (t : Int) < (il : Int))
    (hQ : Hid (∀ (u130 u131 u132 u133 u134 u135 u136 u137 : Value), Q .normal ⟨#[t0, t1, t2, t3, t4, t5, t6, t7, t8, t9, t10, t11, .pointer (some ⟨S, 0, none⟩), t13, t14, t15, t16, t17, t18, .slice (some ⟨p, 0, none⟩) il ci, .int .i64 (t : Int), .pointer (some ⟨Y, 0, none⟩), t22, t23, t24, t25, t26, t27, t28, t29, t30, t31, t32, t33, t34, t35, t36, t37, t38, t39, t40, t41, t42, t43, t44, t45, t46, t47, t48, t49, t50, t51, t52, t53, t54, t55, t56, t57, t58, t59, t60, t61, t62, t63, t64, t65, t66, t67, t68, t69, t70, t71, t72, t73, t74, t75, t76, t77, t78, t79, t80, t81, t82, t83, t84, t85, t86, t87, t88, t89, t90, t91, t92, t93, t94, t95, t96, t97, t98, t99, t100, t101, t102, t103, t104, t105, t106, t107, t108, t109, t110, t111, t112, t113, t114, t115, t116, t117, t118, t119, t120, t121, t122, t123, t124, t125, t126, t127, t128, t129, u130, u131, u132, u133, u134, u135, u136, u137, t138, t139, t140, t141, t142, t143], []⟩ (w1.drew.setCell ⟨Y, 2, none⟩ (.int .i64 id)))) :
    Code.wp Tryz.prog ((Tryz.f84.body.bind (regionOf 32)).getD .skip) Q ⟨#[t0, t1, t2, t3, t4, t5, t6, t7, t8, t9, t10, t11, .pointer (some ⟨S, 0, none⟩), t13, t14, t15, t16, t17, t18, .slice (some ⟨p, 0, none⟩) il ci, .int .i64 (t : Int), .pointer (some ⟨Y, 0, none⟩), t22, t23, t24, t25, t26, t27, t28, t29, t30, t31, t32, t33, t34, t35, t36, t37, t38, t39, t40, t41, t42, t43, t44, t45, t46, t47, t48, t49, t50, t51, t52, t53, t54, t55, t56, t57, t58, t59, t60, t61, t62, t63, t64, t65, t66, t67, t68, t69, t70, t71, t72, t73, t74, t75, t76, t77, t78, t79, t80, t81, t82, t83, t84, t85, t86, t87, t88, t89, t90, t91, t92, t93, t94, t95, t96, t97, t98, t99, t100, t101, t102, t103, t104, t105, t106, t107, t108, t109, t110, t111, t112, t113, t114, t115, t116, t117, t118, t119, t120, t121, t122, t123, t124, t125, t126, t127, t128, t129, t130, t131, t132, t133, t134, t135, t136, t137, t138, t139, t140, t141, t142, t143], []⟩ w1 := by
  have HS : Hid ((fun w' => w'.cell? ⟨S, 1, none⟩ = some (.int .i64 3) ∧ w'.cell? ⟨p, t, none⟩ = some (.int .i64 id)) w1.drew) := ⟨((below_drew w1).cell (p := ⟨S, 1, none⟩) (Nat.lt_trans hSY hY)).trans x0, ((below_drew w1).cell (p := ⟨p, t, none⟩) (Nat.lt_trans hpY hY)).trans x1⟩
  have yd : w1.drew.cell? ⟨Y, 2, none⟩ = some y := ((below_drew w1).cell (p := ⟨Y, 2, none⟩) hY).trans y0
  have yfd : w1.drew.frozen? ⟨Y, 2, none⟩ = false := yf
  have HS2 : Hid ((fun w' => w'.cell? ⟨S, 1, none⟩ = some (.int .i64 3) ∧ w'.cell? ⟨p, t, none⟩ = some (.int .i64 id)) (w1.drew.setCell ⟨Y, 2, none⟩ (.int .i64 id))) := ⟨(set_else (by omega) _).trans HS.out.1, (set_else (by omega) _).trans HS.out.2⟩
  have hS := HS.out
  clear x0 x1 y0 yf
  conv => arg 2; whnf
  refine held_start (S := (fun w' => w'.cell? ⟨S, 1, none⟩ = some (.int .i64 3) ∧ w'.cell? ⟨p, t, none⟩ = some (.int .i64 id))) mixed5 ?_
  refine held_take (i := 0) (v := .pointer (some ⟨S, 1, none⟩)) rfl (by kernel_rfl) (fun _ _ _ h => h) (.inl ⟨rfl, fun w hS => ?_⟩) hS ?_
  · obtain ⟨s0, s1⟩ := hS
    go_simp
  simp only [Act.put, List.setIfInBounds_toArray, List.set_cons_zero, List.set_cons_succ]
  refine held_take (i := 1) (v := .int .i64 3) rfl (by kernel_rfl) (fun _ _ _ h => h) (.inl ⟨rfl, fun w hS => ?_⟩) hS ?_
  · obtain ⟨s0, s1⟩ := hS
    go_simp
  simp only [Act.put, List.setIfInBounds_toArray, List.set_cons_zero, List.set_cons_succ]
  refine held_take (i := 2) (v := .int .i64 2) rfl (by kernel_rfl) (fun _ _ _ h => h) (.inl ⟨rfl, fun w hS => ?_⟩) hS ?_
  · obtain ⟨s0, s1⟩ := hS
    go_simp
    decide
  simp only [Act.put, List.setIfInBounds_toArray, List.set_cons_zero, List.set_cons_succ]
  refine held_take (i := 3) (v := .slice (some ⟨p, 0, none⟩) il ci) rfl (by kernel_rfl) (fun _ _ _ h => h) (.inl ⟨rfl, fun w hS => ?_⟩) hS ?_
  · obtain ⟨s0, s1⟩ := hS
    go_simp
  simp only [Act.put, List.setIfInBounds_toArray, List.set_cons_zero, List.set_cons_succ]
  refine held_take (i := 4) (v := .int .i64 (t : Int)) rfl (by kernel_rfl) (fun _ _ _ h => h) (.inl ⟨rfl, fun w hS => ?_⟩) hS ?_
  · obtain ⟨s0, s1⟩ := hS
    go_simp
  simp only [Act.put, List.setIfInBounds_toArray, List.set_cons_zero, List.set_cons_succ]
  refine held_take (i := 5) (v := .pointer (some ⟨p, t, none⟩)) rfl (by kernel_rfl) (fun _ _ _ h => h) (.inl ⟨rfl, fun w hS => ?_⟩) hS ?_
  · obtain ⟨s0, s1⟩ := hS
    go_simp
  simp only [Act.put, List.setIfInBounds_toArray, List.set_cons_zero, List.set_cons_succ]
  refine held_take (i := 6) (v := .int .i64 id) rfl (by kernel_rfl) (fun _ _ _ h => h) (.inl ⟨rfl, fun w hS => ?_⟩) hS ?_
  · obtain ⟨s0, s1⟩ := hS
    go_simp
  simp only [Act.put, List.setIfInBounds_toArray, List.set_cons_zero, List.set_cons_succ]
  refine held_take (i := 7) (v := .pointer (some ⟨Y, 2, none⟩)) rfl (by kernel_rfl) (fun _ _ _ h => h) (.inl ⟨rfl, fun w hS => ?_⟩) hS ?_
  · obtain ⟨s0, s1⟩ := hS
    go_simp
  simp only [Act.put, List.setIfInBounds_toArray, List.set_cons_zero, List.set_cons_succ]
  refine held_one (i := 8) (by kernel_rfl) rfl rfl ?_
  intro K hK
  obtain ⟨s0, s1⟩ := hS
  go_simp
  refine hK.out _ _ HS2.out ?_
  clear hK
  try simp only [Act.put, List.setIfInBounds_toArray, List.set_cons_zero, List.set_cons_succ]
  refine wpAnyH_done (by kernel_rfl) ?_ _
  refine NoPanic.normal ?_
  exact hQ.out _ _ _ _ _ _ _ _
end Go.Proofs.YtcncbjknfcjnmaaGreat.Tp
