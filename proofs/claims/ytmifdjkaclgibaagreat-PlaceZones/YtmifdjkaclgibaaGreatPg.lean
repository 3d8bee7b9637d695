/-
  The contracts of the answer's Zones, Racks and Leaves.
-/
import Derived.Test.YtmifdjkaclgibaaGreatPc
import Derived.Maps.AppendAt
namespace Go.Proofs.YtmifdjkaclgibaaGreat.Tp
open Go.ChangeShapes Go.WideShapes Go.ChangeAt Go.RowKit
theorem refWeight_any (c1 c2 c3 c4 : Int) (c5 c6 : Bool) (w : World) : Calls Tryz.prog 26 #[.agg #[.int .i64 c1, .int .i64 c2, .int .i64 c3, .int .i64 c4, .bool c5, .bool c6]] w fun e w' => e = .returned (.int .i64 (wtN ⟨c1, c2, c3, c4, c5, c6⟩)) ∧ Grown w w' := by
  have HB : Hid (Grown w (w.alloc (.cells #[.int .i64 c1, .int .i64 c2, .int .i64 c3, .int .i64 c4, .bool c5, .bool c6] 28))) := grown_alloc _ _
  cases c6 with
  | true =>
    go_enter Tryz.func26, Tryz.ntmps26
    go_wp2
    go_ret
    exact ⟨rfl, HB.out⟩
  | false =>
    go_enter Tryz.func26, Tryz.ntmps26
    go_wp2
    go_ret
    exact ⟨rfl, HB.out⟩
theorem cellsC_snoc (l : List Ch) (c : Ch) : cellsC (l ++ [c]) = cellsC l ++ chCells c := by
  unfold cellsC; simp
/-- what the first t weigh that go by a number, and whether there are any -/
def accW (g : Nd → Int) (ls : List Nd) (id : Int) (t : Nat) : Int := wsum ((ls.take t).filter fun x => decide (g x = id))
def accB (g : Nd → Int) (ls : List Nd) (id : Int) (t : Nat) : Bool := (ls.take t).any fun x => decide (g x = id)
theorem wsum_app (l r : List Nd) : wsum (l ++ r) = wsum l + wsum r := by
  induction l with
  | nil => simp [wsum]
  | cons x l ih => rw [List.cons_append]; simp only [wsum, ih]; omega
theorem acc_yes {g : Nd → Int} {ls : List Nd} {id : Int} {t : Nat} (h : t < ls.length) (e : g (ls.getD t nd0) = id) : accW g ls id (t + 1) = accW g ls id t + wtN (ls.getD t nd0) ∧ accB g ls id (t + 1) = true := by
  unfold accW accB
  rw [getN_get h] at *
  rw [List.take_succ_eq_append_getElem h, List.filter_append, List.any_append, wsum_app, List.filter_cons_of_pos (by simpa using e)]
  simp [wsum, e]
theorem acc_no {g : Nd → Int} {ls : List Nd} {id : Int} {t : Nat} (h : t < ls.length) (e : ¬ g (ls.getD t nd0) = id) : accW g ls id (t + 1) = accW g ls id t ∧ accB g ls id (t + 1) = accB g ls id t := by
  unfold accW accB
  rw [getN_get h] at *
  rw [List.take_succ_eq_append_getElem h, List.filter_append, List.any_append, wsum_app, List.filter_cons_of_neg (by simpa using e)]
  simp [wsum, e]
theorem acc_bd {g : Nd → Int} {ls : List Nd} (hM : MayN ls) (id : Int) : ∀ t, t ≤ ls.length → 0 ≤ accW g ls id t ∧ accW g ls id t ≤ 65536 * (t : Int) := by
  intro t
  induction t with
  | zero => intro _; simp [accW, wsum]
  | succ t ih =>
    intro h
    obtain ⟨h1, h2⟩ := ih (by omega)
    have hb := wtN_bd (may_in hM (ls.getD t nd0) (by rw [getN_get (by omega)]; exact List.getElem_mem _))
    by_cases e : g (ls.getD t nd0) = id
    · rw [(acc_yes (by omega) e).1]; omega
    · rw [(acc_no (by omega) e).1]; omega
theorem upTo_yes {g : Nd → Int} {ls : List Nd} {k : Nat} (h : accB g ls ((k : Int) + 1) ls.length = true) : upTo g ls (k + 1) = upTo g ls k ++ [((k : Int) + 1, min (accW g ls ((k : Int) + 1) ls.length) 65536)] := by
  unfold accB at h
  rw [List.take_length] at h
  unfold accW
  rw [List.take_length]
  exact if_pos h
theorem upTo_no {g : Nd → Int} {ls : List Nd} {k : Nat} (h : accB g ls ((k : Int) + 1) ls.length = false) : upTo g ls (k + 1) = upTo g ls k := by
  unfold accB at h
  rw [List.take_length] at h
  exact if_neg (by rw [show ((k + 1 : Nat) : Int) = (k : Int) + 1 by omega, h]; decide)
theorem infoCh : (Tryz.prog.info? 33).map (fun i => (i.zero, i.size, i.bytes)) = some (some (.agg #[.int .i64 0, .int .i64 0]), 2, 16) := by kernel_rfl
set_option maxHeartbeats 4000000 in
set_option maxRecDepth 60000 in
theorem sum_any (a : Option Addr) (len cap : Nat) (ls : List Nd) (g : Nd → Int) (aO : Option Addr) (capO : Nat) (w : World) (h : NdsAt w a len cap ls) (hO : IntsAt w aO (ls.map g)) (hM : MayN ls) : Calls Tryz.prog 16 #[.slice a len cap, .slice aO len capO] w fun e w' => ChPost (sumF g ls) w e w' := by
  have hl : ls.length = len := h.1
  have HL : Hid (NdsAt w a len cap ls) := h
  have HO : Hid (IntsAt w aO (ls.map g)) := hO
  have HM : Hid (MayN ls) := hM
  have h12 : (len : Int) ≤ 12 := by have := hM.1; omega
  have HLN : Hid (ls.length = len) := hl
  obtain ⟨i0, hi, hz0, hz1, hz2⟩ := info_parts infoCh
  have HLIT : Hid ((w.alloc (.cells #[] 33)).ownsRow w.heap.size 33 2 (.slice (some ⟨w.heap.size, 0, none⟩) 0 0) ([] : List Ch).length (cellsC [])) := World.ownsRow_lit (base := w.heap.size) (size := 2) (e := 33) w #[] 0 (Nat.le_refl _) (Nat.zero_le _) (by simp)
  have hb0 := below_alloc w (.cells #[] 33)
  have HUL : Hid (∀ k, ((upTo g ls k).length : Int) ≤ 12) := fun k => by
    have h1 := upTo_len g ls k
    have h2 := List.countP_le_length (p := fun x => decide (1 ≤ g x ∧ g x ≤ (k : Int))) (l := ls)
    have := hM.1
    omega
  clear h hO hM hl
  go_enter Tryz.func16, Tryz.ntmps16
  go_wp2_with fail
  go_loopw [5, 6] (fun o i wr => ∃ k : Nat, k ≤ 999 ∧ i = .int .i64 ((k : Int) + 1) ∧ Hid (wr.ownsRow w.heap.size 33 2 o (upTo g ls k).length (cellsC (upTo g ls k))) ∧ Below w.heap.size w wr) (fun _ i _ => 1000 - (intOf i).toNat)
  case atStart => exact ⟨0, Nat.zero_le _, rfl, HLIT, hb0⟩
  case round =>
    obtain ⟨k, hk, rfl, hown, hbel⟩ := hrel
    obtain ⟨W0, hW0⟩ : ∃ W0, W0 = wr := ⟨_, rfl⟩
    subst hW0
    by_cases hlt : k < 999
    · have hk1 : (k : Int) + 1 ≤ 999 := by omega
      have hk0 : (0 : Int) ≤ (k : Int) := by omega
      have HBD : Hid (∀ t, t ≤ len → 0 ≤ accW g ls ((k : Int) + 1) t ∧ accW g ls ((k : Int) + 1) t ≤ 65536 * (t : Int)) := fun t ht => acc_bd HM.out _ t (by have := HLN.out; omega)
      have HW0 : Hid (accW g ls ((k : Int) + 1) 0 = 0) := rfl
      have HB0 : Hid (accB g ls ((k : Int) + 1) 0 = false) := rfl
      have HYS : Hid (∀ t, t < len → g (ls.getD t nd0) = (k : Int) + 1 → accW g ls ((k : Int) + 1) (t + 1) = accW g ls ((k : Int) + 1) t + wtN (ls.getD t nd0) ∧ accB g ls ((k : Int) + 1) (t + 1) = true) := fun t ht e => acc_yes (by have := HLN.out; omega) e
      have HNS : Hid (∀ t, t < len → ¬ g (ls.getD t nd0) = (k : Int) + 1 → accW g ls ((k : Int) + 1) (t + 1) = accW g ls ((k : Int) + 1) t ∧ accB g ls ((k : Int) + 1) (t + 1) = accB g ls ((k : Int) + 1) t) := fun t ht e => acc_no (by have := HLN.out; omega) e
      have HUY : Hid (accB g ls ((k : Int) + 1) len = true → upTo g ls (k + 1) = upTo g ls k ++ [((k : Int) + 1, min (accW g ls ((k : Int) + 1) len) 65536)]) := by have := HLN.out; subst this; exact upTo_yes
      have HUN : Hid (accB g ls ((k : Int) + 1) len = false → upTo g ls (k + 1) = upTo g ls k) := by have := HLN.out; subst this; exact upTo_no
      generalize accW g ls ((k : Int) + 1) = aw at *
      generalize accB g ls ((k : Int) + 1) = ab at *
      have HUK := HUL.out k
      go_wp2_with fail
      go_loopw [7, 8, 9] (fun sw sb i wq => ∃ t : Nat, t ≤ len ∧ i = .int .i64 t ∧ sw = .int .i64 (aw t) ∧ sb = .bool (ab t) ∧ Below W0.heap.size W0 wq) (fun _ _ i _ => len - (intOf i).toNat)
      case atStart => exact ⟨0, Nat.zero_le _, rfl, by rw [HW0.out], by rw [HB0.out], Below.refl _ _⟩
      case round =>
        obtain ⟨t, ht, rfl, rfl, rfl, hbq⟩ := hrel
        obtain ⟨hw0, hw1⟩ := HBD.out t ht
        have hbw : Below w.heap.size w wr := below2 hbel hbq
        by_cases hlt2 : t < len
        · obtain ⟨b, off, rfl, hbs, hcell⟩ := (HL.out.below hbw).some (by omega)
          obtain ⟨e0, e1, e2, e3, e4, e5⟩ := hcell t hlt2
          rcases HO.out.below hbw with h0 | ⟨p, rfl, hp, hcp⟩
          · have h1 := congrArg List.length h0
            rw [List.length_map, List.length_nil] at h1
            have := HLN.out
            omega
          have ht1 : (t : Int) < (len : Int) := by omega
          have ht0 : (0 : Int) ≤ (t : Int) := by omega
          have c0 := hcp t (by rw [List.length_map]; have := HLN.out; omega)
          rw [show (ls.map g).getD t 0 = g (ls.getD t nd0) by simp [show t < ls.length by have := HLN.out; omega]] at c0
          have HY := HYS.out t hlt2
          have HNO := HNS.out t hlt2
          obtain ⟨hx0, hx1⟩ := HBD.out (t + 1) (by omega)
          have HWT : Hid (∀ W : World, Calls Tryz.prog 26 #[.agg (ndCells (ls.getD t nd0)).toArray] W fun e w' => e = .returned (.int .i64 (wtN (ls.getD t nd0))) ∧ Grown W w') := fun W => refWeight_any _ _ _ _ _ _ W
          clear hcp hcell HYS HNS
          generalize ls.getD t nd0 = x at *
          have HXW : Hid (0 ≤ wtN x → True) := fun _ => trivial
          obtain ⟨c1, c2, c3, c4, c5, c6⟩ := x
          simp only at e0 e1 e2 e3 e4 e5
          by_cases hgx : g ⟨c1, c2, c3, c4, c5, c6⟩ = (k : Int) + 1
          · obtain ⟨hy1, hy2⟩ := HY hgx
            have dg : (g ⟨c1, c2, c3, c4, c5, c6⟩ == (k : Int) + 1) = true := by simpa using hgx
            have HWT' : Hid (∀ W : World, Calls Tryz.prog 26 #[.agg #[.int .i64 c1, .int .i64 c2, .int .i64 c3, .int .i64 c4, .bool c5, .bool c6]] W fun e w' => e = .returned (.int .i64 (wtN ⟨c1, c2, c3, c4, c5, c6⟩)) ∧ Grown W w') := HWT.out
            clear HY HNO HWT hgx HXW
            generalize g ⟨c1, c2, c3, c4, c5, c6⟩ = gx at *
            generalize wtN ⟨c1, c2, c3, c4, c5, c6⟩ = wx at *
            rw [hy1] at hx0 hx1
            have HY1 : Hid (aw (t + 1) = aw t + wx) := hy1
            have HY2 : Hid (ab (t + 1) = true) := hy2
            clear hy1 hy2
            generalize aw t = s0 at *
            generalize ab t = b0 at *
            go_wp2_with (go_at_call 26; refine (HWT'.out _).mono ?_; rintro e w2 ⟨rfl, hg2⟩)
            exact ⟨⟨t + 1, by omega, by go_num, by rw [HY1.out]; try rfl, by rw [HY2.out], below2 hbq (grown_below hg2)⟩, by simp [intOf]; omega⟩
          · obtain ⟨hy1, hy2⟩ := HNO hgx
            have dg : (g ⟨c1, c2, c3, c4, c5, c6⟩ == (k : Int) + 1) = false := by simpa using hgx
            have HY1 : Hid (aw (t + 1) = aw t) := hy1
            have HY2 : Hid (ab (t + 1) = ab t) := hy2
            clear HY HNO HWT hgx hy1 hy2 HXW
            generalize g ⟨c1, c2, c3, c4, c5, c6⟩ = gx at *
            go_wp2_with fail
            exact ⟨⟨t + 1, by omega, by go_num, by rw [HY1.out], by rw [HY2.out], hbq⟩, by simp [intOf]; omega⟩
        · obtain rfl : t = len := by omega
          have hownq := own_below hown.out hbq
          obtain ⟨ao, co, he, -⟩ := own_slice hownq
          subst he
          clear HYS HNS HW0 HB0 HBD hown
          cases hab : ab t with
          | false =>
            have HU : Hid (upTo g ls (k + 1) = upTo g ls k) := HUN.out hab
            have HOQ : Hid (wr.ownsRow w.heap.size 33 2 (.slice ao (upTo g ls k).length co) (upTo g ls (k + 1)).length (cellsC (upTo g ls (k + 1)))) := by unfold Hid; rw [HU.out]; exact hownq
            clear HUN HUY hownq
            by_cases hbig : 65536 < aw t
            · have db : decide ((65536 : Int) < aw t) = true := by simpa using hbig
              go_wp2_with fail
              exact ⟨⟨k + 1, by omega, by simp, HOQ, hbw⟩, by simp [intOf]; omega⟩
            · have db : decide ((65536 : Int) < aw t) = false := by simpa using hbig
              go_wp2_with fail
              exact ⟨⟨k + 1, by omega, by simp, HOQ, hbw⟩, by simp [intOf]; omega⟩
          | true =>
            have HU0 : Hid (upTo g ls (k + 1) = upTo g ls k ++ [((k : Int) + 1, min (aw t) 65536)]) := HUY.out hab
            by_cases hbig : 65536 < aw t
            · have db : decide ((65536 : Int) < aw t) = true := by simpa using hbig
              have HU : Hid (upTo g ls (k + 1) = upTo g ls k ++ [((k : Int) + 1, 65536)]) := by unfold Hid; rw [HU0.out, show min (aw t) 65536 = 65536 by omega]
              have hownB := own_alloc hownq (.cells #[.int .i64 ((k : Int) + 1), .int .i64 65536] 33)
              have hnews := cells_lit wr (chCells ((k : Int) + 1, 65536)) 33
              have hw4 : wr.alloc (.cells (chCells ((k : Int) + 1, 65536)).toArray 33) = (wr.alloc (.cells #[.int .i64 ((k : Int) + 1), .int .i64 65536] 33)) := rfl
              rw [hw4] at hnews
              have hsz := hbw.size
              have HLT : Hid (∀ j, (Value.slice ao (upTo g ls k).length co).ownBlock = some j → w.heap.size ≤ j) := fun j hj => (hownq.lt j hj).1
              clear HUN HUY hw4 hownq
              go_wp2_with (at_builtin; refine wpList_append_own _ rfl _ _ 30 rfl w.heap.size 33 i0 (.agg #[.int .i64 0, .int .i64 0]) 2 16 Tryz.underlying30 hi hz0 hz1 hz2 rfl (by decide) _ _ _ rfl hownB ⟨wr.heap.size, 0, none⟩ 1 1 (chCells ((k : Int) + 1, 65536)) rfl rfl hnews (by intro u hu; simp [chCells] at hu; rcases hu with rfl | rfl <;> rfl) (by unfold maxLen; omega) (by omega) (by simp; omega) ?_)
              intro v7 w7 hown7' hg7 _
              have HO7 : Hid (w7.ownsRow w.heap.size 33 2 v7 (upTo g ls (k + 1)).length (cellsC (upTo g ls (k + 1)))) := by
                unfold Hid
                rw [HU.out, cellsC_snoc, List.length_append]
                exact hown7'
              have hb7 : Below w.heap.size w w7 := (hbw.alloc hsz _).grown hg7 (by simp; omega) (fun j hj => HLT.out j hj)
              clear hown7' hg7 hownB hnews HLT
              go_wp2_with fail
              exact ⟨⟨k + 1, by omega, by simp, HO7, hb7⟩, by simp [intOf]; omega⟩
            · have db : decide ((65536 : Int) < aw t) = false := by simpa using hbig
              have HU : Hid (upTo g ls (k + 1) = upTo g ls k ++ [((k : Int) + 1, aw t)]) := by unfold Hid; rw [HU0.out, show min (aw t) 65536 = aw t by omega]
              have hownB := own_alloc hownq (.cells #[.int .i64 ((k : Int) + 1), .int .i64 (aw t)] 33)
              have hnews := cells_lit wr (chCells ((k : Int) + 1, (aw t))) 33
              have hw4 : wr.alloc (.cells (chCells ((k : Int) + 1, (aw t))).toArray 33) = (wr.alloc (.cells #[.int .i64 ((k : Int) + 1), .int .i64 (aw t)] 33)) := rfl
              rw [hw4] at hnews
              have hsz := hbw.size
              have HLT : Hid (∀ j, (Value.slice ao (upTo g ls k).length co).ownBlock = some j → w.heap.size ≤ j) := fun j hj => (hownq.lt j hj).1
              clear HUN HUY hw4 hownq
              go_wp2_with (at_builtin; refine wpList_append_own _ rfl _ _ 30 rfl w.heap.size 33 i0 (.agg #[.int .i64 0, .int .i64 0]) 2 16 Tryz.underlying30 hi hz0 hz1 hz2 rfl (by decide) _ _ _ rfl hownB ⟨wr.heap.size, 0, none⟩ 1 1 (chCells ((k : Int) + 1, (aw t))) rfl rfl hnews (by intro u hu; simp [chCells] at hu; rcases hu with rfl | rfl <;> rfl) (by unfold maxLen; omega) (by omega) (by simp; omega) ?_)
              intro v7 w7 hown7' hg7 _
              have HO7 : Hid (w7.ownsRow w.heap.size 33 2 v7 (upTo g ls (k + 1)).length (cellsC (upTo g ls (k + 1)))) := by
                unfold Hid
                rw [HU.out, cellsC_snoc, List.length_append]
                exact hown7'
              have hb7 : Below w.heap.size w w7 := (hbw.alloc hsz _).grown hg7 (by simp; omega) (fun j hj => HLT.out j hj)
              clear hown7' hg7 hownB hnews HLT
              go_wp2_with fail
              exact ⟨⟨k + 1, by omega, by simp, HO7, hb7⟩, by simp [intOf]; omega⟩
    · obtain rfl : k = 999 := by omega
      obtain ⟨ao, co, he, -⟩ := own_slice hown.out
      subst he
      have HI : Hid (ChsAt W0 ao (sumF g ls).length co (sumF g ls)) := chs_own hown.out rfl
      clear hown
      go_wp2_with fail
      go_ret
      exact ⟨hbel, ao, co, rfl, HI.out⟩
end Go.Proofs.YtmifdjkaclgibaaGreat.Tp
