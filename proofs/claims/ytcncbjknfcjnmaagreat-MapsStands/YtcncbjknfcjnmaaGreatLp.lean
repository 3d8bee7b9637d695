/-
  The answer's Run by the common rule, and its Of.
-/
import Derived.Test.YtcncbjknfcjnmaaGreatL2
import Derived.Test.YtcncbjknfcjnmaaGreatTpD
import Derived.Maps.AppendAt
namespace Go.Proofs.YtcncbjknfcjnmaaGreat.Tp
open Go.ChangeShapes Go.WideShapes Go.ChangeAt Go.RowKit
/-- what is at hand and what is told ahead of step k, in the answer's Run -/
def RefAt (ls : List Nd) (g : Int) (size B : Nat) (w : World) (hand out : Value) : Nat → Prop
  | 0 => (∃ a c, hand = .slice a 0 c ∧ HandAt w a []) ∧ w.ownsRow B 3 1 out ([] : List Int).length (intCells [])
  | 1 => (∃ a c, hand = .slice a 1 c ∧ HandAt w a [(0, 0, 0)]) ∧ w.ownsRow B 3 1 out ([] : List Int).length (intCells [])
  | 2 => (∃ a c, hand = .slice a (hand1 ls g size).length c ∧ HandAt w a (hand1 ls g size)) ∧ w.ownsRow B 3 1 out ([] : List Int).length (intCells [])
  | 3 => (∃ a c, hand = .slice a (hand2 ls g size).length c ∧ HandAt w a (hand2 ls g size)) ∧ w.ownsRow B 3 1 out ([] : List Int).length (intCells [])
  | 4 => (∃ a c, hand = .slice a (hand3 ls g size).length c ∧ w.ownsRow B 114 3 (.slice a (hand3 ls g size).length c) (hand3 ls g size).length (cellsLd (hand3 ls g size))) ∧ w.ownsRow B 3 1 out ([] : List Int).length (intCells [])
  | _ => w.ownsRow B 3 1 out (ofP ls g size).length (intCells (ofP ls g size))
/-- ints told -/
def IntsPostR (out : List Int) (w : World) (e : Ending) (w' : World) : Prop := Below w.heap.size w w' ∧ ∃ a cap, e = .returned (.slice a out.length cap) ∧ IntsAt w' a out
theorem Kept.more {n4 : Nat} {w1 w9 wr wB : World} (h : Kept n4 w1 w9 wr) (hb : Below wr.heap.size wr wB) : Kept n4 w1 w9 wB :=
  ⟨below2 h.below hb, Nat.le_trans h.size hb.size, fun k h1 h2 => (hb.block k (Nat.lt_of_lt_of_le h2 h.size)).trans (h.mid k h1 h2)⟩
theorem Kept.stepI {n4 : Nat} {w1 w9 wr wB w7 : World} (h : Kept n4 w1 w9 wr) (hb : Below wr.heap.size wr wB) {v v' : Value} {T : TypeId} {sz n : Nat} {xs : List Value} (hown : wB.ownsRow w1.heap.size T sz v n xs) (ha : Aside v n4 w9.heap.size) (hg : wB.grownBy w7 v.ownBlock) (hv : v'.ownBlock = v.ownBlock ∨ v'.ownBlock = some wB.heap.size) : Kept n4 w1 w9 w7 ∧ Aside v' n4 w9.heap.size := by
  have hs1 := hb.size
  have hs2 := hg.size
  have hs3 := h.size
  have hs4 := h.below.size
  refine ⟨⟨(below2 h.below hb).grown hg (by omega) (fun k hk => (hown.lt k hk).1), by omega, fun k h1 h2 => ?_⟩, fun k hk => ?_⟩
  · rw [hg.block k (by omega) (fun e => by rcases ha k e.symm with h3 | h3 <;> omega), hb.block k (by omega)]
    exact h.mid k h1 h2
  · rcases hv with e | e
    · exact ha k (by rw [← e]; exact hk)
    · rw [e] at hk
      injection hk with hk
      right
      omega
theorem mem_take {l : List Int} {x : Int} {t : Nat} (h : t < l.length) : decide (x ∈ l.take (t + 1)) = (decide (x ∈ l.take t) || (l.getD t 0 == x)) := by
  rw [List.take_succ_eq_append_getElem h, show l.getD t 0 = l[t] by simp [h]]
  by_cases h1 : x ∈ l.take t
  · have h2 : x ∈ l.take t ++ [l[t]] := List.mem_append.2 (.inl h1)
    rw [decide_eq_true h2, decide_eq_true h1, Bool.true_or]
  · by_cases h2 : l[t] = x
    · have h3 : x ∈ l.take t ++ [l[t]] := List.mem_append.2 (.inr (by rw [h2]; exact List.mem_singleton.2 rfl))
      rw [decide_eq_true h3, decide_eq_false h1, Bool.false_or]
      simp [h2]
    · have h3 : x ∉ l.take t ++ [l[t]] := fun h => by
        rcases List.mem_append.1 h with h | h
        · exact h1 h
        · exact h2 (List.mem_singleton.1 h).symm
      rw [decide_eq_false h3, decide_eq_false h1, Bool.false_or]
      simp [h2]
theorem infoA3 : (Tryz.prog.info? 114).map (fun i => (i.zero, i.size, i.bytes)) = some (some (.agg #[.int .i64 0, .int .i64 0, .int .i64 0]), 3, 24) := by kernel_rfl
set_option maxHeartbeats 8000000 in
set_option maxRecDepth 60000 in
theorem refRun_com (a : Option Addr) (len cap : Nat) (ls : List Nd) (b : Nat) (g : Int) (size : Nat) (w : World) (h : NdsAt w a len cap ls) (hC : ComAt w b (size : Int)) (hM : MayN ls) (h3 : size ≤ 3) :
    Calls Tryz.prog 84 #[.slice a len cap, .slice (some ⟨b, 0, none⟩) 5 5, .int .i64 g, .int .i64 (size : Int)] w fun e w' => IntsPostR (ofP ls g size) w e w' := by
  have HL : Hid (NdsAt w a len cap ls) := h
  have HCO : Hid (ComAt w b (size : Int)) := hC
  have HM : Hid (MayN ls) := hM
  have H3 : Hid (size ≤ 3) := h3
  have hs3 : (size : Int) ≤ 3 := by omega
  obtain ⟨i0, hi, hz0, hz1, hz2⟩ := info_parts infoA3
  obtain ⟨j0, hj, hy0, hy1, hy2⟩ := info_parts info3
  have hb2 : Below w.heap.size w ((w.alloc (.cells #[] 114)).alloc (.cells #[] 3)) := below2 (below_alloc _ _) (below_alloc _ _)
  have HO2 : Hid (((w.alloc (.cells #[] 114)).alloc (.cells #[] 3)).ownsRow w.heap.size 3 1 (.slice (some ⟨w.heap.size + 1, 0, none⟩) 0 0) ([] : List Int).length (intCells [])) := by
    have := World.ownsRow_lit (base := w.heap.size) (size := 1) (e := 3) (w.alloc (.cells #[] 114)) #[] 0 (by simp) (Nat.zero_le _) (by simp)
    rw [show (w.alloc (.cells #[] 114)).heap.size = w.heap.size + 1 by simp] at this
    exact this
  clear h hC hM h3
  go_enter Tryz.func84, Tryz.ntmps84
  go_wp2_with fail
  generalize (w.alloc (.cells #[] 114)).alloc (.cells #[] 3) = w2 at *
  go_loopw [9, 10, 11] (fun hd od i wr => ∃ k : Nat, k ≤ 5 ∧ i = .int .i64 k ∧ Hid (RefAt ls g size w.heap.size wr hd od k) ∧ Below w.heap.size w wr) (fun _ _ i _ => 5 - (intOf i).toNat)
  case atStart => exact ⟨0, Nat.zero_le _, rfl, ⟨⟨_, _, rfl, .inl rfl⟩, HO2.out⟩, hb2⟩
  case round =>
    obtain ⟨k, hk, rfl, hT, hbel⟩ := hrel
    have hNW : Hid (NdsAt wr a len cap ls) := HL.out.below hbel
    have hCW : Hid (ComAt wr b (size : Int)) := HCO.out.below hbel
    have hbs := hCW.out.1
    have hcase : k = 0 ∨ k = 1 ∨ k = 2 ∨ k = 3 ∨ k = 4 ∨ k = 5 := by omega
    rcases hcase with rfl | rfl | rfl | rfl | rfl | rfl
    · rw [show ((0 : Nat) : Int) = 0 from rfl]
      obtain ⟨⟨ah, ch, rfl, hHa⟩, hOut⟩ := hT.out
      obtain ⟨ao, co, rfl, -⟩ := own_slice hOut
      obtain ⟨e0, e1, e2⟩ := hCW.out.step (k := 0) (by decide)
      simp only [stepK] at e0 e1 e2
      have hb5 : Below wr.heap.size wr ((wr.alloc (.cells #[.int .i64 1, .int .i64 0, .int .i64 0] 121)).alloc (.cells #[] 114)) := below2 (below_alloc _ _) (below_alloc _ _)
      have hs5 : (wr.alloc (.cells #[.int .i64 1, .int .i64 0, .int .i64 0] 121)).heap.size = wr.heap.size + 1 := by simp
      have hs6 : ((wr.alloc (.cells #[.int .i64 1, .int .i64 0, .int .i64 0] 121)).alloc (.cells #[] 114)).heap.size = wr.heap.size + 2 := by simp
      have hlit : ((wr.alloc (.cells #[.int .i64 1, .int .i64 0, .int .i64 0] 121)).alloc (.cells #[] 114)).ownsRow (wr.heap.size + 1) 114 3 (.slice (some ⟨wr.heap.size + 1, 0, none⟩) 0 0) 0 (cellsLd []) := by
        have := World.ownsRow_lit (base := (wr.alloc (.cells #[.int .i64 1, .int .i64 0, .int .i64 0] 121)).heap.size) (size := 3) (e := 114) (wr.alloc (.cells #[.int .i64 1, .int .i64 0, .int .i64 0] 121)) #[] 0 (Nat.le_refl _) (Nat.zero_le _) (by simp)
        rw [hs5] at this
        exact this
      have hownB := own_alloc hlit (.cells #[.int .i64 0, .int .i64 0, .int .i64 0] 114)
      have hnews := cells_lit ((wr.alloc (.cells #[.int .i64 1, .int .i64 0, .int .i64 0] 121)).alloc (.cells #[] 114)) (ldCells (0, 0, 0)) 114
      have hw4 : ((wr.alloc (.cells #[.int .i64 1, .int .i64 0, .int .i64 0] 121)).alloc (.cells #[] 114)).alloc (.cells (ldCells (0, 0, 0)).toArray 114) = (((wr.alloc (.cells #[.int .i64 1, .int .i64 0, .int .i64 0] 121)).alloc (.cells #[] 114)).alloc (.cells #[.int .i64 0, .int .i64 0, .int .i64 0] 114)) := rfl
      rw [hw4, hs6] at hnews
      have HBB : Hid (Below wr.heap.size wr (((wr.alloc (.cells #[.int .i64 1, .int .i64 0, .int .i64 0] 121)).alloc (.cells #[] 114)).alloc (.cells #[.int .i64 0, .int .i64 0, .int .i64 0] 114))) := below2 hb5 (below_alloc _ _)
      have HLT : Hid (∀ j, (Value.slice (some ⟨wr.heap.size + 1, 0, none⟩) 0 0).ownBlock = some j → wr.heap.size ≤ j) := fun j hj => Nat.le_trans (by omega) (hownB.lt j hj).1
      have HOU : Hid ((((wr.alloc (.cells #[.int .i64 1, .int .i64 0, .int .i64 0] 121)).alloc (.cells #[] 114)).alloc (.cells #[.int .i64 0, .int .i64 0, .int .i64 0] 114)).ownsRow w.heap.size 3 1 (.slice ao 0 co) ([] : List Int).length (intCells [])) := own_below hOut HBB.out
      clear hT hOut hNW hw4 hs5 hs6 hlit
      go_wp2_with (at_builtin; refine wpList_append_own _ rfl _ _ 119 rfl (wr.heap.size + 1) 114 i0 (.agg #[.int .i64 0, .int .i64 0, .int .i64 0]) 3 24 Tryz.underlying119 hi hz0 hz1 hz2 rfl (by decide) _ _ _ rfl hownB ⟨wr.heap.size + 2, 0, none⟩ 1 1 (ldCells (0, 0, 0)) rfl rfl hnews (by intro u hu; simp [ldCells] at hu; rcases hu with rfl | rfl | rfl <;> rfl) (by unfold maxLen; omega) (by omega) (by simp) ?_)
      intro v7 w7 hown7 hg7 _
      have HH7 : Hid (w7.ownsRow (wr.heap.size + 1) 114 3 v7 1 (cellsLd [(0, 0, 0)])) := hown7
      have hb7 : Below wr.heap.size wr w7 := HBB.out.grown hg7 (by simp; omega) (fun j hj => HLT.out j hj)
      have HO7 : Hid (w7.ownsRow w.heap.size 3 1 (.slice ao 0 co) ([] : List Int).length (intCells [])) := HOU.out.kept hg7 (own_apart HOU.out hownB (by decide))
      clear hown7 hg7 hownB hnews HBB HLT HOU hb5
      obtain ⟨av, cv, rfl, -⟩ := own_slice HH7.out
      have HI : Hid (HandAt w7 av [(0, 0, 0)]) := hand_own HH7.out rfl
      clear HH7
      go_wp2_with fail
      go_loopw [10, 13, 14] (fun o10 o13 i wq => i = .int .i64 0 ∧ o10 = .slice ao 0 co ∧ o13 = .slice av 1 cv ∧ wq = w7) (fun _ _ _ _ => 0)
      case atStart => exact ⟨rfl, rfl, rfl, rfl⟩
      case round =>
        obtain ⟨rfl, rfl, rfl, hw7⟩ := hrel
        subst hw7
        have hbw := below2 hbel hb7
        go_wp2_with fail
        exact ⟨⟨1, by decide, rfl, ⟨⟨av, cv, rfl, HI.out⟩, HO7.out⟩, hbw⟩, by simp [intOf]⟩
    · rw [show ((1 : Nat) : Int) = 1 from rfl]
      obtain ⟨⟨ah, ch, rfl, hHa⟩, hOut⟩ := hT.out
      obtain ⟨ao, co, rfl, -⟩ := own_slice hOut
      obtain ⟨e0, e1, e2⟩ := hCW.out.step (k := 1) (by decide)
      simp only [stepK] at e0 e1 e2
      have hb5 : Below wr.heap.size wr (wr.alloc (.cells #[.int .i64 2, .int .i64 1, .int .i64 (size : Int)] 121)) := below_alloc _ _
      have hs5 : (wr.alloc (.cells #[.int .i64 2, .int .i64 1, .int .i64 (size : Int)] 121)).heap.size = wr.heap.size + 1 := by simp
      have HST : Hid ((wr.alloc (.cells #[.int .i64 2, .int .i64 1, .int .i64 (size : Int)] 121)).cell? ⟨wr.heap.size, 0, none⟩ = some (.int .i64 2) ∧ (wr.alloc (.cells #[.int .i64 2, .int .i64 1, .int .i64 (size : Int)] 121)).cell? ⟨wr.heap.size, 1, none⟩ = some (.int .i64 1) ∧ (wr.alloc (.cells #[.int .i64 2, .int .i64 1, .int .i64 (size : Int)] 121)).cell? ⟨wr.heap.size, 2, none⟩ = some (.int .i64 (size : Int))) := ⟨by simp, by simp, by simp⟩
      have HLIT : Hid (((wr.alloc (.cells #[.int .i64 2, .int .i64 1, .int .i64 (size : Int)] 121)).alloc (.cells #[] 114)).ownsRow (wr.alloc (.cells #[.int .i64 2, .int .i64 1, .int .i64 (size : Int)] 121)).heap.size 114 3 (.slice (some ⟨wr.heap.size + 1, 0, none⟩) 0 0) ([] : List Sp).length (cellsLd [])) := by
        have := World.ownsRow_lit (base := (wr.alloc (.cells #[.int .i64 2, .int .i64 1, .int .i64 (size : Int)] 121)).heap.size) (size := 3) (e := 114) (wr.alloc (.cells #[.int .i64 2, .int .i64 1, .int .i64 (size : Int)] 121)) #[] 0 (Nat.le_refl _) (Nat.zero_le _) (by simp)
        rw [hs5] at this ⊢
        exact this
      have HH5 : Hid (HandAt (wr.alloc (.cells #[.int .i64 2, .int .i64 1, .int .i64 (size : Int)] 121)) ah (([(0, 0, 0)] : List Sp))) := hHa.below hb5
      have HO5 : Hid ((wr.alloc (.cells #[.int .i64 2, .int .i64 1, .int .i64 (size : Int)] 121)).ownsRow w.heap.size 3 1 (.slice ao 0 co) ([] : List Int).length (intCells [])) := own_below hOut hb5
      have HL5 : Hid (NdsAt (wr.alloc (.cells #[.int .i64 2, .int .i64 1, .int .i64 (size : Int)] 121)) a len cap ls) := hNW.out.below hb5
      have hbw5 : Below w.heap.size w (wr.alloc (.cells #[.int .i64 2, .int .i64 1, .int .i64 (size : Int)] 121)) := below2 hbel hb5
      clear hT hHa hOut hNW hCW hbel hb5
      have HST2 : Hid (∀ k, k < (([(0, 0, 0)] : List Sp)).length → chooseP ls g 1 size ((([(0, 0, 0)] : List Sp)).take (k + 1)) = chooseP ls g 1 size ((([(0, 0, 0)] : List Sp)).take k) ++ chosen1 ls g 1 size ((([(0, 0, 0)] : List Sp)).getD k ld0)) := fun k hk => choose_take ls g 1 size hk
      have HTK : Hid (chooseP ls g 1 size ((([(0, 0, 0)] : List Sp)).take (([(0, 0, 0)] : List Sp)).length) = hand1 ls g size) := by unfold Hid; rw [List.take_length]; rfl
      have hm12 : (((([(0, 0, 0)] : List Sp)).length : Nat) : Int) ≤ 12 := by have : (([(0, 0, 0)] : List Sp)).length ≤ 12 := (by decide); omega
      have HLN : Hid (([(0, 0, 0)] : List Sp).length = 1) := rfl
      generalize hHH : ([(0, 0, 0)] : List Sp) = H at *
      clear hHH
      go_wp2_with fail
      generalize wr.alloc (.cells #[.int .i64 2, .int .i64 1, .int .i64 (size : Int)] 121) = W5 at *
      generalize wr.heap.size = S at *
      have hS5 : S < W5.heap.size := by omega
      clear hs5
      go_loopw [10, 13, 14] (fun o10 o13 i wq => ∃ (k : Nat) (out : List Sp), k ≤ 1 ∧ i = .int .i64 k ∧ o10 = .slice ao 0 co ∧ Hid (out = chooseP ls g 1 size (H.take k)) ∧ Hid (out.length ≤ k * 64) ∧ Hid (wq.ownsRow W5.heap.size 114 3 o13 out.length (cellsLd out)) ∧ Below W5.heap.size W5 wq) (fun _ _ i _ => 1 - (intOf i).toNat)
      case atStart => exact ⟨0, [], Nat.zero_le _, rfl, rfl, rfl, Nat.le_refl _, HLIT, below_alloc _ _⟩
      case round =>
        obtain ⟨k, out, hk, rfl, rfl, hT, hok, hown, hbel⟩ := hrel
        obtain ⟨am, cm, rfl, -⟩ := own_slice hown.out
        by_cases hlt : k < 1
        · have hk1 : (k : Int) < (1 : Int) := by omega
          have hk0 : (0 : Int) ≤ (k : Int) := by omega
          obtain ⟨bh, rfl, hbs, e0, e1, e2⟩ := (HH5.out.below hbel).get (k := k) (by have := HLN.out; omega)
          have HN : Hid (chooseP ls g 1 size (H.take (k + 1)) = out ++ chosen1 ls g 1 size (H.getD k ld0)) := by have := HST2.out k (by have := HLN.out; omega); rw [← hT.out] at this; exact this
          generalize H.getD k ld0 = x at *
          obtain ⟨x1, x2, x3⟩ := x
          simp only at e0 e1 e2
          have q0 := (hbel.cell (p := ⟨S, 0, none⟩) hS5).trans HST.out.1
          have q1 := (hbel.cell (p := ⟨S, 1, none⟩) hS5).trans HST.out.2.1
          have q2 := (hbel.cell (p := ⟨S, 2, none⟩) hS5).trans HST.out.2.2
          have hSr : S < wr.heap.size := Nat.lt_of_lt_of_le hS5 hbel.size
          have hbA : Below wr.heap.size wr (wr.alloc (.cells #[.int .i64 x1, .int .i64 x2, .int .i64 x3] 114)) := below_alloc _ _
          have hsA : wr.heap.size < (wr.alloc (.cells #[.int .i64 x1, .int .i64 x2, .int .i64 x3] 114)).heap.size := by simp
          have HCA : Hid (((wr.alloc (.cells #[.int .i64 x1, .int .i64 x2, .int .i64 x3] 114)).cell? ⟨wr.heap.size, 0, none⟩ = some (.int .i64 x1) ∧ (wr.alloc (.cells #[.int .i64 x1, .int .i64 x2, .int .i64 x3] 114)).cell? ⟨wr.heap.size, 1, none⟩ = some (.int .i64 x2) ∧ (wr.alloc (.cells #[.int .i64 x1, .int .i64 x2, .int .i64 x3] 114)).cell? ⟨wr.heap.size, 2, none⟩ = some (.int .i64 x3)) ∧ ((wr.alloc (.cells #[.int .i64 x1, .int .i64 x2, .int .i64 x3] 114)).cell? ⟨S, 0, none⟩ = some (.int .i64 2) ∧ (wr.alloc (.cells #[.int .i64 x1, .int .i64 x2, .int .i64 x3] 114)).cell? ⟨S, 1, none⟩ = some (.int .i64 1) ∧ (wr.alloc (.cells #[.int .i64 x1, .int .i64 x2, .int .i64 x3] 114)).cell? ⟨S, 2, none⟩ = some (.int .i64 (size : Int)))) := ⟨⟨by simp, by simp, by simp⟩, (hbA.cell (p := ⟨S, 0, none⟩) hSr).trans q0, (hbA.cell (p := ⟨S, 1, none⟩) hSr).trans q1, (hbA.cell (p := ⟨S, 2, none⟩) hSr).trans q2⟩
          have HLA : Hid (NdsAt (wr.alloc (.cells #[.int .i64 x1, .int .i64 x2, .int .i64 x3] 114)) a len cap ls) := HL5.out.below (below2 hbel hbA)
          have HOA : Hid ((wr.alloc (.cells #[.int .i64 x1, .int .i64 x2, .int .i64 x3] 114)).ownsRow W5.heap.size 114 3 (.slice am out.length cm) out.length (cellsLd out)) := own_below hown.out hbA
          have HAS : Hid (∀ j, (Value.slice am out.length cm).ownBlock = some j → j < wr.heap.size) := fun j hj => (hown.out.lt j hj).2
          have hb5A : Below W5.heap.size W5 (wr.alloc (.cells #[.int .i64 x1, .int .i64 x2, .int .i64 x3] 114)) := below2 hbel hbA
          clear hown hT
          go_wp2_with fail
          generalize wr.alloc (.cells #[.int .i64 x1, .int .i64 x2, .int .i64 x3] 114) = WA at *
          generalize hn4 : wr.heap.size = n4 at *
          have hS4 : S < n4 := hSr
          clear hn4 q0 q1 q2 hbA hSr
          have HK : Hid (∀ w', Below WA.heap.size WA w' → ((w'.cell? ⟨n4, 0, none⟩ = some (.int .i64 x1) ∧ w'.cell? ⟨n4, 1, none⟩ = some (.int .i64 x2) ∧ w'.cell? ⟨n4, 2, none⟩ = some (.int .i64 x3)) ∧ (w'.cell? ⟨S, 0, none⟩ = some (.int .i64 2) ∧ w'.cell? ⟨S, 1, none⟩ = some (.int .i64 1) ∧ w'.cell? ⟨S, 2, none⟩ = some (.int .i64 (size : Int))))) := fun w' hb =>
            ⟨⟨(hb.cell (p := ⟨n4, 0, none⟩) hsA).trans HCA.out.1.1, (hb.cell (p := ⟨n4, 1, none⟩) hsA).trans HCA.out.1.2.1, (hb.cell (p := ⟨n4, 2, none⟩) hsA).trans HCA.out.1.2.2⟩, (hb.cell (p := ⟨S, 0, none⟩) (Nat.lt_trans hS4 hsA)).trans HCA.out.2.1, (hb.cell (p := ⟨S, 1, none⟩) (Nat.lt_trans hS4 hsA)).trans HCA.out.2.2.1, (hb.cell (p := ⟨S, 2, none⟩) (Nat.lt_trans hS4 hsA)).trans HCA.out.2.2.2⟩
          have HLV : Hid (Calls Tryz.prog 105 #[.slice a len cap, .int .i64 x1, .int .i64 x2] WA fun e w' => ChPost (leavesOf ls x1 x2) WA e w') := refLeaves_any a len cap ls x1 x2 WA HLA.out HM.out
          have HZN : Hid (∀ W, Below WA.heap.size WA W → Calls Tryz.prog 106 #[.slice a len cap] W fun e w' => ChPost (zonesOf ls) W e w') := fun W hb => refZones_any a len cap ls W (HLA.out.below hb) HM.out
          refine HLV.out.mono ?_
          rintro e w6 ⟨hb6, a6, c6, rfl, hc6⟩
          skip
          clear HLV hc6
          obtain ⟨⟨s0, s1, s2⟩, r0, r1, r2⟩ := HK.out w6 hb6
          go_wp2_with fail
          clear s0 s1 s2 r0 r1 r2
          refine (HZN.out w6 hb6).mono ?_
          rintro e w7 ⟨hb7, a7, c7, rfl, hc7⟩
          have HC7 : Hid (ChsAt w7 a7 (zonesOf ls).length c7 (zonesOf ls)) := hc7
          have hbA7 := below2 hb6 hb7
          clear hc7 hb7
          obtain ⟨⟨s0, s1, s2⟩, r0, r1, r2⟩ := HK.out w7 hbA7
          have f1 := Dr.bitsOf_form g
          have f2 := Dr.bitsOf_form 1
          have f3 := Dr.bitsOf_form x1
          have f4 := Dr.bitsOf_form x2
          have HF : Hid (∀ (bq : Nat) (W : World), W.cell? ⟨bq, 0, none⟩ = some (.int .u64 ((Dr.bitsOf 1 : Nat) : Int)) → W.cell? ⟨bq, 1, none⟩ = some (.int .u64 ((Dr.bitsOf x1 : Nat) : Int)) → W.cell? ⟨bq, 2, none⟩ = some (.int .u64 ((Dr.bitsOf x2 : Nat) : Int)) → Calls Tryz.prog 109 #[.int .u64 ((Dr.bitsOf g : Nat) : Int), .slice (some ⟨bq, 0, none⟩) 3 3] W fun e w' => e = .returned (.int .u64 ((keyOf g 1 x1 x2 : Nat) : Int)) ∧ w' = W) := fun bq W => refKey_any g 1 x1 x2 bq W
          have HOR : Hid (∀ W : World, ChsAt W a7 (zonesOf ls).length c7 (zonesOf ls) → Calls Tryz.prog 108 #[.int .u64 ((keyOf g 1 x1 x2 : Nat) : Int), .slice a7 (zonesOf ls).length c7] W fun e w' => RefOrdP (ordF (keyOf g 1 x1 x2) (zonesOf ls)) W e w') := fun W hc => refOrder_p (sumF_may HM.out) (keyOf_lt _ _ _ _) a7 c7 W hc
          have HNX : Hid (chooseP ls g 1 size (H.take (k + 1)) = out ++ ((ordF (keyOf g 1 x1 x2) (zonesOf ls)).take size).map (childOf (x1, x2, x3) 1)) := HN.out
          clear HN
          generalize zonesOf ls = C at *
          generalize keyOf g 1 x1 x2 = q at *
          generalize ordF q C = I at *
          generalize Dr.bitsOf g = b1 at *
          generalize Dr.bitsOf 1 = b2 at *
          generalize Dr.bitsOf x1 = b3 at *
          generalize Dr.bitsOf x2 = b4 at *
          have hb7a : Below w7.heap.size w7 (w7.alloc (.cells #[.int .u64 (b2 : Int), .int .u64 (b3 : Int), .int .u64 (b4 : Int)] 127)) := below_alloc _ _
          have HC8 : Hid (ChsAt (w7.alloc (.cells #[.int .u64 (b2 : Int), .int .u64 (b3 : Int), .int .u64 (b4 : Int)] 127)) a7 C.length c7 C) := HC7.out.below hb7a
          go_wp2_with (first
            | (go_at_call 109; refine (HF.out _ _ (by simp) (by simp) (by simp)).mono ?_; rintro e w' ⟨rfl, hw'⟩; subst hw')
            | (go_at_call 108; refine (HOR.out _ HC8.out).mono ?_; rintro e w8 ⟨hb8, ai, ci, rfl, hI, h64, hpi⟩))
          have hbR : Below WA.heap.size WA w8 := below2 hbA7 (below2 hb7a hb8)
          have HIN : Hid (IntsAt w8 ai I) := hI
          have HPI : Hid (∀ pp : Addr, ai = some pp → n4 < pp.block) := fun pp hp => by
            have h0 := hpi pp hp
            have h1 := (hbA7).size
            have h2 := hb7a.size
            omega
          clear hb8 hI hpi HF HOR HC8 HC7 hb7a s0 s1 s2 r0 r1 r2 f1 f2 f3 f4
          obtain ⟨⟨z0, z1, z2⟩, z3, z4, z5⟩ := HK.out w8 hbR
          have HSP : Hid ((w8.cell? ⟨n4, 0, none⟩ = some (.int .i64 x1) ∧ w8.cell? ⟨n4, 1, none⟩ = some (.int .i64 x2) ∧ w8.cell? ⟨n4, 2, none⟩ = some (.int .i64 x3))) := ⟨z0, z1, z2⟩
          have hb8 : Below W5.heap.size W5 w8 := below2 hb5A hbR
          have HO8 : Hid (w8.ownsRow W5.heap.size 114 3 (.slice am out.length cm) out.length (cellsLd out)) := own_below HOA.out hbR
          have HKP : Hid (Kept n4 W5 w8 w8) := ⟨hb8, Nat.le_refl _, fun _ _ _ => rfl⟩
          have HA8 : Hid (Aside (.slice am out.length cm) n4 w8.heap.size) := fun j hj => .inl (HAS.out j hj)
          have hn48 : n4 < w8.heap.size := Nat.lt_of_lt_of_le hsA hbR.size
          obtain ⟨j, hj9⟩ : ∃ j : Nat, j = min size I.length := ⟨_, rfl⟩
          have HJI : Hid (j ≤ I.length) := by unfold Hid; omega
          have HJN : Hid (j ≤ size) := by unfold Hid; omega
          have HJE : Hid (j = I.length ∨ j = size) := by unfold Hid; omega
          have HJT : Hid (I.take size = I.take j) := by
            unfold Hid
            by_cases hc : size ≤ I.length
            · rw [show j = size by omega]
            · rw [List.take_of_length_le (by omega), List.take_of_length_le (by omega)]
          have HO768 : Hid (out.length ≤ 768) := by unfold Hid; have := hok.out; omega
          have h64I : (I.length : Int) ≤ 64 := by omega
          clear HK HOA HAS hbR hb5A HCA HLA z0 z1 z2 z3 z4 z5 hj9 hsA h64 hb6 hbA7
          generalize hIL : I.length = il at *
          have HIL : Hid (I.length = il) := hIL
          clear hIL
          go_wp2_with fail
          go_loopw [13, 20] (fun o i wq => ∃ (t : Nat) (o2 : List Sp), t ≤ j ∧ i = .int .i64 t ∧ Hid (o2 = out ++ (I.take t).map (childOf (x1, x2, x3) 1)) ∧ Hid (o2.length = out.length + t) ∧ Hid (wq.ownsRow W5.heap.size 114 3 o o2.length (cellsLd o2)) ∧ Hid (Aside o n4 w8.heap.size) ∧ Hid (Kept n4 W5 w8 wq)) (fun _ i _ => j - (intOf i).toNat)
          case atStart => exact ⟨0, out, Nat.zero_le _, rfl, (by unfold Hid; simp), rfl, HO8, HA8, HKP⟩
          case round =>
            obtain ⟨t, o2, ht, rfl, hT2, hL2, hown2, has2, hkp2⟩ := hrel
            obtain ⟨ao2, co2, rfl, -⟩ := own_slice hown2.out
            have u3 := (hkp2.out.below.cell (p := ⟨S, 1, none⟩) hS5).trans HST.out.2.1
            have u5 := (hkp2.out.below.cell (p := ⟨S, 2, none⟩) hS5).trans HST.out.2.2
            have hSr : S < wr.heap.size := Nat.lt_of_lt_of_le hS5 hkp2.out.below.size
            by_cases hlt2 : t < j
            · have hti : t < il := by have := HJI.out; omega
              have htn : t < size := by have := HJN.out; omega
              have ht1 : (t : Int) < (il : Int) := by omega
              have ht2 : (t : Int) < (size : Int) := by omega
              have ht0 : (0 : Int) ≤ (t : Int) := by omega
              rcases HIN.out with h0 | ⟨p, rfl, hp8, hci⟩
              · have := HIL.out; rw [h0] at this; simp at this; omega
              have hpn : n4 < p := HPI.out ⟨p, 0, none⟩ rfl
              have u4 := (hkp2.out.cell (i := t) (Nat.le_of_lt hpn) hp8).trans (hci t (by have := HIL.out; omega))
              have u0 := (hkp2.out.cell (i := 0) (Nat.le_refl _) hn48).trans HSP.out.1
              have u1 := (hkp2.out.cell (i := 1) (Nat.le_refl _) hn48).trans HSP.out.2.1
              have u2 := (hkp2.out.cell (i := 2) (Nat.le_refl _) hn48).trans HSP.out.2.2
              have hpr : p < wr.heap.size := Nat.lt_of_lt_of_le hp8 hkp2.out.size
              have hnr : n4 < wr.heap.size := Nat.lt_of_lt_of_le hn48 hkp2.out.size
              have HT3 : Hid (out ++ (I.take (t + 1)).map (childOf (x1, x2, x3) 1) = o2 ++ [childOf (x1, x2, x3) 1 (I.getD t 0)]) := by
                unfold Hid
                rw [hT2.out]
                exact ids_take (by have := HIL.out; omega)
              clear hci hT2
              generalize I.getD t 0 = id at *
              have hch : childOf (x1, x2, x3) 1 id = (id, x2, x3) := rfl
              rw [hch] at HT3
              have g0 := ((below_alloc wr (.cells #[.int .i64 x1, .int .i64 x2, .int .i64 x3] 114)).cell (p := ⟨S, 1, none⟩) hSr).trans u3
              have g1 := ((below_alloc wr (.cells #[.int .i64 x1, .int .i64 x2, .int .i64 x3] 114)).cell (p := ⟨p, t, none⟩) hpr).trans u4
              have HYF : Hid (wr.heap.size < (wr.alloc (.cells #[.int .i64 x1, .int .i64 x2, .int .i64 x3] 114)).heap.size ∧ (wr.alloc (.cells #[.int .i64 x1, .int .i64 x2, .int .i64 x3] 114)).cell? ⟨wr.heap.size, 0, none⟩ = some (.int .i64 x1) ∧ (wr.alloc (.cells #[.int .i64 x1, .int .i64 x2, .int .i64 x3] 114)).frozen? ⟨wr.heap.size, 0, none⟩ = false) := ⟨by simp, by simp, by simp⟩
              have HBC : Hid (Below wr.heap.size wr ((wr.alloc (.cells #[.int .i64 x1, .int .i64 x2, .int .i64 x3] 114)).drew.setCell ⟨wr.heap.size, 0, none⟩ (.int .i64 id))) := (below2 (below_alloc _ _) (below_drew _)).setCell (p := ⟨wr.heap.size, 0, none⟩) (Nat.le_refl _) _
              have HYC : Hid (((wr.alloc (.cells #[.int .i64 x1, .int .i64 x2, .int .i64 x3] 114)).drew.setCell ⟨wr.heap.size, 0, none⟩ (.int .i64 id)).cell? ⟨wr.heap.size, 0, none⟩ = some (.int .i64 id) ∧ ((wr.alloc (.cells #[.int .i64 x1, .int .i64 x2, .int .i64 x3] 114)).drew.setCell ⟨wr.heap.size, 0, none⟩ (.int .i64 id)).cell? ⟨wr.heap.size, 1, none⟩ = some (.int .i64 x2) ∧ ((wr.alloc (.cells #[.int .i64 x1, .int .i64 x2, .int .i64 x3] 114)).drew.setCell ⟨wr.heap.size, 0, none⟩ (.int .i64 id)).cell? ⟨wr.heap.size, 2, none⟩ = some (.int .i64 x3)) := by
                have d0 : (wr.alloc (.cells #[.int .i64 x1, .int .i64 x2, .int .i64 x3] 114)).drew.cell? ⟨wr.heap.size, 0, none⟩ = some (.int .i64 x1) := ((below_drew _).cell (p := ⟨wr.heap.size, 0, none⟩) HYF.out.1).trans (by simp)
                have d1 : (wr.alloc (.cells #[.int .i64 x1, .int .i64 x2, .int .i64 x3] 114)).drew.cell? ⟨wr.heap.size, 1, none⟩ = some (.int .i64 x2) := ((below_drew _).cell (p := ⟨wr.heap.size, 1, none⟩) HYF.out.1).trans (by simp)
                have d2 : (wr.alloc (.cells #[.int .i64 x1, .int .i64 x2, .int .i64 x3] 114)).drew.cell? ⟨wr.heap.size, 2, none⟩ = some (.int .i64 x3) := ((below_drew _).cell (p := ⟨wr.heap.size, 2, none⟩) HYF.out.1).trans (by simp)
                exact ⟨set_same d0 _, (set_else (by omega) _).trans d1, (set_else (by omega) _).trans d2⟩
              go_wp2_with fail
              refine y_put1 _ _ _ _ _ _ _ _ _ _ _ _ _ _ _ _ _ _ _ _ _ _ _ _ _ _ _ _ _ _ _ _ _ _ _ _ _ _ _ _ _ _ _ _ _ _ _ _ _ _ _ _ _ _ _ _ _ _ _ _ _ _ _ _ _ _ _ _ _ _ _ _ _ _ _ _ _ _ _ _ _ _ _ _ _ _ _ _ _ _ _ _ _ _ _ _ _ _ _ _ _ _ _ _ _ _ _ _ _ _ _ _ _ _ _ _ _ _ _ _ _ _ _ _ _ _ _ _ _ _ _ _ _ _ _ _ _ _ _ _ S p il ci t wr.heap.size id (.int .i64 x1) (wr.alloc (.cells #[.int .i64 x1, .int .i64 x2, .int .i64 x3] 114)) _ g0 g1 hSr hpr HYF.out.1 HYF.out.2.1 HYF.out.2.2 ht0 ht1 (fun u130 u131 u132 u133 u134 u135 u136 u137 => ?_)
              obtain ⟨v0, v1, v2⟩ := HYC.out
              have hbC := HBC.out
              clear HYC HBC HYF g0 g1 u0 u1 u2 u4
              generalize (wr.alloc (.cells #[.int .i64 x1, .int .i64 x2, .int .i64 x3] 114)).drew.setCell ⟨wr.heap.size, 0, none⟩ (.int .i64 id) = wC at *
              have hYC : wr.heap.size < wC.heap.size := World.block_lt_of_cell? wC ⟨wr.heap.size, 0, none⟩ v0
              have hownB := own_alloc (own_below hown2.out hbC) (.cells #[.int .i64 id, .int .i64 x2, .int .i64 x3] 114)
              have hnews := cells_lit wC (ldCells (id, x2, x3)) 114
              have hw4 : wC.alloc (.cells (ldCells (id, x2, x3)).toArray 114) = wC.alloc (.cells #[.int .i64 id, .int .i64 x2, .int .i64 x3] 114) := rfl
              rw [hw4] at hnews
              have hbq : Below wr.heap.size wr (wC.alloc (.cells #[.int .i64 id, .int .i64 x2, .int .i64 x3] 114)) := below2 hbC (below_alloc _ _)
              have hszq : W5.heap.size ≤ (wC.alloc (.cells #[.int .i64 id, .int .i64 x2, .int .i64 x3] 114)).heap.size := Nat.le_trans hkp2.out.below.size hbq.size
              have hl780 : (o2.length : Int) ≤ 832 := by have := hL2.out; have := HO768.out; omega
              clear hw4 hch
              dsimp only
              go_wp2_with (at_builtin; refine wpList_append_own_at _ rfl _ _ 119 rfl W5.heap.size 114 i0 (.agg #[.int .i64 0, .int .i64 0, .int .i64 0]) 3 24 Tryz.underlying119 hi hz0 hz1 hz2 rfl (by decide) _ _ _ rfl hownB ⟨wC.heap.size, 0, none⟩ 1 1 (ldCells (id, x2, x3)) rfl rfl hnews (by intro u hu; simp [ldCells] at hu; rcases hu with rfl | rfl | rfl <;> rfl) (by unfold maxLen; omega) (by omega) hszq ?_)
              intro v7 w7 hown7' hg7 _ hv7
              have e6 : (wC.alloc (.cells #[.int .i64 id, .int .i64 x2, .int .i64 x3] 114)).heap.size = wC.heap.size + 1 := by simp
              obtain ⟨hkp7, has7⟩ := hkp2.out.step hbq hownB has2.out hg7 (by rw [e6]; exact hv7)
              have HO7 : Hid (w7.ownsRow W5.heap.size 114 3 v7 (o2 ++ [(id, x2, x3)]).length (cellsLd (o2 ++ [(id, x2, x3)]))) := by
                rw [cellsLd_snoc, List.length_append]
                exact hown7'
              have HKP7 : Hid (Kept n4 W5 w8 w7) := hkp7
              have HAS7 : Hid (Aside v7 n4 w8.heap.size) := has7
              have HL7 : Hid ((o2 ++ [(id, x2, x3)]).length = out.length + (t + 1)) := by unfold Hid; rw [List.length_append, hL2.out]; rfl
              clear hown7' hg7 hownB hnews hv7 hkp7 has7 hbq hszq hbC e6 v0 v1 v2 hYC
              go_wp2_with fail
              exact ⟨⟨t + 1, o2 ++ [(id, x2, x3)], by omega, by go_num, HT3.out.symm, HL7, HO7, HAS7, HKP7⟩, by simp [intOf]; omega⟩
            · obtain rfl : t = j := by omega
              have HE : Hid (o2 = chooseP ls g 1 size (H.take (k + 1))) := by unfold Hid; rw [HNX.out, HJT.out, hT2.out]
              have HL3 : Hid (o2.length ≤ (k + 1) * 64) := by unfold Hid; have := hL2.out; have := hok.out; have := HJI.out; omega
              have hbq := hkp2.out.below
              clear hT2 hL2 has2 hkp2
              by_cases hji : t < il
              · have hi1 : (t : Int) < (il : Int) := by omega
                have hn1 : decide ((t : Int) < (size : Int)) = false := by have := HJE.out; have := HIL.out; simp; omega
                have hn2 : decide (t < size) = false := by have := HJE.out; have := HIL.out; simp; omega
                go_wp2_with fail
                exact ⟨⟨k + 1, o2, by omega, by go_num, rfl, HE, HL3, hown2, hbq⟩, by simp [intOf]; omega⟩
              · have hi1 : decide ((t : Int) < (il : Int)) = false := by simp; omega
                have hi2 : decide (t < il) = false := by simp; omega
                go_wp2_with fail
                exact ⟨⟨k + 1, o2, by omega, by go_num, rfl, HE, HL3, hown2, hbq⟩, by simp [intOf]; omega⟩
        · obtain rfl : k = 1 := by omega
          have HE : Hid (out = hand1 ls g size) := by unfold Hid; rw [hT.out, ← HTK.out, HLN.out]
          have HI : Hid (HandAt wr am out) := hand_own hown.out rfl
          have hbw : Below w.heap.size w wr := below2 hbw5 hbel
          have HO6 : Hid (wr.ownsRow w.heap.size 3 1 (.slice ao 0 co) ([] : List Int).length (intCells [])) := own_below HO5.out hbel
          clear hown hT
          go_wp2_with fail
          refine ⟨⟨2, by decide, rfl, ?_, hbw⟩, by simp [intOf]⟩
          refine ⟨⟨am, cm, ?_, ?_⟩, HO6.out⟩
          · rw [← HE.out]
          · rw [← HE.out]
            exact HI.out
    · rw [show ((2 : Nat) : Int) = 2 from rfl]
      obtain ⟨⟨ah, ch, rfl, hHa⟩, hOut⟩ := hT.out
      obtain ⟨ao, co, rfl, -⟩ := own_slice hOut
      obtain ⟨e0, e1, e2⟩ := hCW.out.step (k := 2) (by decide)
      simp only [stepK] at e0 e1 e2
      have hb5 : Below wr.heap.size wr (wr.alloc (.cells #[.int .i64 2, .int .i64 2, .int .i64 1] 121)) := below_alloc _ _
      have hs5 : (wr.alloc (.cells #[.int .i64 2, .int .i64 2, .int .i64 1] 121)).heap.size = wr.heap.size + 1 := by simp
      have HST : Hid ((wr.alloc (.cells #[.int .i64 2, .int .i64 2, .int .i64 1] 121)).cell? ⟨wr.heap.size, 0, none⟩ = some (.int .i64 2) ∧ (wr.alloc (.cells #[.int .i64 2, .int .i64 2, .int .i64 1] 121)).cell? ⟨wr.heap.size, 1, none⟩ = some (.int .i64 2) ∧ (wr.alloc (.cells #[.int .i64 2, .int .i64 2, .int .i64 1] 121)).cell? ⟨wr.heap.size, 2, none⟩ = some (.int .i64 1)) := ⟨by simp, by simp, by simp⟩
      have HLIT : Hid (((wr.alloc (.cells #[.int .i64 2, .int .i64 2, .int .i64 1] 121)).alloc (.cells #[] 114)).ownsRow (wr.alloc (.cells #[.int .i64 2, .int .i64 2, .int .i64 1] 121)).heap.size 114 3 (.slice (some ⟨wr.heap.size + 1, 0, none⟩) 0 0) ([] : List Sp).length (cellsLd [])) := by
        have := World.ownsRow_lit (base := (wr.alloc (.cells #[.int .i64 2, .int .i64 2, .int .i64 1] 121)).heap.size) (size := 3) (e := 114) (wr.alloc (.cells #[.int .i64 2, .int .i64 2, .int .i64 1] 121)) #[] 0 (Nat.le_refl _) (Nat.zero_le _) (by simp)
        rw [hs5] at this ⊢
        exact this
      have HH5 : Hid (HandAt (wr.alloc (.cells #[.int .i64 2, .int .i64 2, .int .i64 1] 121)) ah (hand1 ls g size)) := hHa.below hb5
      have HO5 : Hid ((wr.alloc (.cells #[.int .i64 2, .int .i64 2, .int .i64 1] 121)).ownsRow w.heap.size 3 1 (.slice ao 0 co) ([] : List Int).length (intCells [])) := own_below hOut hb5
      have HL5 : Hid (NdsAt (wr.alloc (.cells #[.int .i64 2, .int .i64 2, .int .i64 1] 121)) a len cap ls) := hNW.out.below hb5
      have hbw5 : Below w.heap.size w (wr.alloc (.cells #[.int .i64 2, .int .i64 2, .int .i64 1] 121)) := below2 hbel hb5
      clear hT hHa hOut hNW hCW hbel hb5
      have HST2 : Hid (∀ k, k < (hand1 ls g size).length → chooseP ls g 2 1 ((hand1 ls g size).take (k + 1)) = chooseP ls g 2 1 ((hand1 ls g size).take k) ++ chosen1 ls g 2 1 ((hand1 ls g size).getD k ld0)) := fun k hk => choose_take ls g 2 1 hk
      have HTK : Hid (chooseP ls g 2 1 ((hand1 ls g size).take (hand1 ls g size).length) = hand2 ls g size) := by unfold Hid; rw [List.take_length]; rfl
      have hm12 : (((hand1 ls g size).length : Nat) : Int) ≤ 12 := by have : (hand1 ls g size).length ≤ 12 := (by have := hand1_len ls g size; have := H3.out; omega); omega
      generalize hHH : hand1 ls g size = H at *
      clear hHH
      generalize hmm : H.length = m at *
      have HLN : Hid (H.length = m) := hmm
      clear hmm
      go_wp2_with fail
      generalize wr.alloc (.cells #[.int .i64 2, .int .i64 2, .int .i64 1] 121) = W5 at *
      generalize wr.heap.size = S at *
      have hS5 : S < W5.heap.size := by omega
      clear hs5
      go_loopw [10, 13, 14] (fun o10 o13 i wq => ∃ (k : Nat) (out : List Sp), k ≤ m ∧ i = .int .i64 k ∧ o10 = .slice ao 0 co ∧ Hid (out = chooseP ls g 2 1 (H.take k)) ∧ Hid (out.length ≤ k * 64) ∧ Hid (wq.ownsRow W5.heap.size 114 3 o13 out.length (cellsLd out)) ∧ Below W5.heap.size W5 wq) (fun _ _ i _ => m - (intOf i).toNat)
      case atStart => exact ⟨0, [], Nat.zero_le _, rfl, rfl, rfl, Nat.le_refl _, HLIT, below_alloc _ _⟩
      case round =>
        obtain ⟨k, out, hk, rfl, rfl, hT, hok, hown, hbel⟩ := hrel
        obtain ⟨am, cm, rfl, -⟩ := own_slice hown.out
        by_cases hlt : k < m
        · have hk1 : (k : Int) < (m : Int) := by omega
          have hk0 : (0 : Int) ≤ (k : Int) := by omega
          obtain ⟨bh, rfl, hbs, e0, e1, e2⟩ := (HH5.out.below hbel).get (k := k) (by have := HLN.out; omega)
          have HN : Hid (chooseP ls g 2 1 (H.take (k + 1)) = out ++ chosen1 ls g 2 1 (H.getD k ld0)) := by have := HST2.out k (by have := HLN.out; omega); rw [← hT.out] at this; exact this
          generalize H.getD k ld0 = x at *
          obtain ⟨x1, x2, x3⟩ := x
          simp only at e0 e1 e2
          have q0 := (hbel.cell (p := ⟨S, 0, none⟩) hS5).trans HST.out.1
          have q1 := (hbel.cell (p := ⟨S, 1, none⟩) hS5).trans HST.out.2.1
          have q2 := (hbel.cell (p := ⟨S, 2, none⟩) hS5).trans HST.out.2.2
          have hSr : S < wr.heap.size := Nat.lt_of_lt_of_le hS5 hbel.size
          have hbA : Below wr.heap.size wr (wr.alloc (.cells #[.int .i64 x1, .int .i64 x2, .int .i64 x3] 114)) := below_alloc _ _
          have hsA : wr.heap.size < (wr.alloc (.cells #[.int .i64 x1, .int .i64 x2, .int .i64 x3] 114)).heap.size := by simp
          have HCA : Hid (((wr.alloc (.cells #[.int .i64 x1, .int .i64 x2, .int .i64 x3] 114)).cell? ⟨wr.heap.size, 0, none⟩ = some (.int .i64 x1) ∧ (wr.alloc (.cells #[.int .i64 x1, .int .i64 x2, .int .i64 x3] 114)).cell? ⟨wr.heap.size, 1, none⟩ = some (.int .i64 x2) ∧ (wr.alloc (.cells #[.int .i64 x1, .int .i64 x2, .int .i64 x3] 114)).cell? ⟨wr.heap.size, 2, none⟩ = some (.int .i64 x3)) ∧ ((wr.alloc (.cells #[.int .i64 x1, .int .i64 x2, .int .i64 x3] 114)).cell? ⟨S, 0, none⟩ = some (.int .i64 2) ∧ (wr.alloc (.cells #[.int .i64 x1, .int .i64 x2, .int .i64 x3] 114)).cell? ⟨S, 1, none⟩ = some (.int .i64 2) ∧ (wr.alloc (.cells #[.int .i64 x1, .int .i64 x2, .int .i64 x3] 114)).cell? ⟨S, 2, none⟩ = some (.int .i64 1))) := ⟨⟨by simp, by simp, by simp⟩, (hbA.cell (p := ⟨S, 0, none⟩) hSr).trans q0, (hbA.cell (p := ⟨S, 1, none⟩) hSr).trans q1, (hbA.cell (p := ⟨S, 2, none⟩) hSr).trans q2⟩
          have HLA : Hid (NdsAt (wr.alloc (.cells #[.int .i64 x1, .int .i64 x2, .int .i64 x3] 114)) a len cap ls) := HL5.out.below (below2 hbel hbA)
          have HOA : Hid ((wr.alloc (.cells #[.int .i64 x1, .int .i64 x2, .int .i64 x3] 114)).ownsRow W5.heap.size 114 3 (.slice am out.length cm) out.length (cellsLd out)) := own_below hown.out hbA
          have HAS : Hid (∀ j, (Value.slice am out.length cm).ownBlock = some j → j < wr.heap.size) := fun j hj => (hown.out.lt j hj).2
          have hb5A : Below W5.heap.size W5 (wr.alloc (.cells #[.int .i64 x1, .int .i64 x2, .int .i64 x3] 114)) := below2 hbel hbA
          clear hown hT
          go_wp2_with fail
          generalize wr.alloc (.cells #[.int .i64 x1, .int .i64 x2, .int .i64 x3] 114) = WA at *
          generalize hn4 : wr.heap.size = n4 at *
          have hS4 : S < n4 := hSr
          clear hn4 q0 q1 q2 hbA hSr
          have HK : Hid (∀ w', Below WA.heap.size WA w' → ((w'.cell? ⟨n4, 0, none⟩ = some (.int .i64 x1) ∧ w'.cell? ⟨n4, 1, none⟩ = some (.int .i64 x2) ∧ w'.cell? ⟨n4, 2, none⟩ = some (.int .i64 x3)) ∧ (w'.cell? ⟨S, 0, none⟩ = some (.int .i64 2) ∧ w'.cell? ⟨S, 1, none⟩ = some (.int .i64 2) ∧ w'.cell? ⟨S, 2, none⟩ = some (.int .i64 1)))) := fun w' hb =>
            ⟨⟨(hb.cell (p := ⟨n4, 0, none⟩) hsA).trans HCA.out.1.1, (hb.cell (p := ⟨n4, 1, none⟩) hsA).trans HCA.out.1.2.1, (hb.cell (p := ⟨n4, 2, none⟩) hsA).trans HCA.out.1.2.2⟩, (hb.cell (p := ⟨S, 0, none⟩) (Nat.lt_trans hS4 hsA)).trans HCA.out.2.1, (hb.cell (p := ⟨S, 1, none⟩) (Nat.lt_trans hS4 hsA)).trans HCA.out.2.2.1, (hb.cell (p := ⟨S, 2, none⟩) (Nat.lt_trans hS4 hsA)).trans HCA.out.2.2.2⟩
          have HLV : Hid (Calls Tryz.prog 105 #[.slice a len cap, .int .i64 x1, .int .i64 x2] WA fun e w' => ChPost (leavesOf ls x1 x2) WA e w') := refLeaves_any a len cap ls x1 x2 WA HLA.out HM.out
          have HZN : Hid (∀ W, Below WA.heap.size WA W → Calls Tryz.prog 107 #[.slice a len cap, .int .i64 x1] W fun e w' => ChPost (racksOf ls x1) W e w') := fun W hb => refRacks_any a len cap ls x1 W (HLA.out.below hb) HM.out
          refine HLV.out.mono ?_
          rintro e w6 ⟨hb6, a6, c6, rfl, hc6⟩
          skip
          clear HLV hc6
          obtain ⟨⟨s0, s1, s2⟩, r0, r1, r2⟩ := HK.out w6 hb6
          go_wp2_with fail
          clear s0 s1 s2 r0 r1 r2
          refine (HZN.out w6 hb6).mono ?_
          rintro e w7 ⟨hb7, a7, c7, rfl, hc7⟩
          have HC7 : Hid (ChsAt w7 a7 (racksOf ls x1).length c7 (racksOf ls x1)) := hc7
          have hbA7 := below2 hb6 hb7
          clear hc7 hb7
          obtain ⟨⟨s0, s1, s2⟩, r0, r1, r2⟩ := HK.out w7 hbA7
          have f1 := Dr.bitsOf_form g
          have f2 := Dr.bitsOf_form 2
          have f3 := Dr.bitsOf_form x1
          have f4 := Dr.bitsOf_form x2
          have HF : Hid (∀ (bq : Nat) (W : World), W.cell? ⟨bq, 0, none⟩ = some (.int .u64 ((Dr.bitsOf 2 : Nat) : Int)) → W.cell? ⟨bq, 1, none⟩ = some (.int .u64 ((Dr.bitsOf x1 : Nat) : Int)) → W.cell? ⟨bq, 2, none⟩ = some (.int .u64 ((Dr.bitsOf x2 : Nat) : Int)) → Calls Tryz.prog 109 #[.int .u64 ((Dr.bitsOf g : Nat) : Int), .slice (some ⟨bq, 0, none⟩) 3 3] W fun e w' => e = .returned (.int .u64 ((keyOf g 2 x1 x2 : Nat) : Int)) ∧ w' = W) := fun bq W => refKey_any g 2 x1 x2 bq W
          have HOR : Hid (∀ W : World, ChsAt W a7 (racksOf ls x1).length c7 (racksOf ls x1) → Calls Tryz.prog 108 #[.int .u64 ((keyOf g 2 x1 x2 : Nat) : Int), .slice a7 (racksOf ls x1).length c7] W fun e w' => RefOrdP (ordF (keyOf g 2 x1 x2) (racksOf ls x1)) W e w') := fun W hc => refOrder_p (sumF_may HM.out) (keyOf_lt _ _ _ _) a7 c7 W hc
          have HNX : Hid (chooseP ls g 2 1 (H.take (k + 1)) = out ++ ((ordF (keyOf g 2 x1 x2) (racksOf ls x1)).take 1).map (childOf (x1, x2, x3) 2)) := HN.out
          clear HN
          generalize racksOf ls x1 = C at *
          generalize keyOf g 2 x1 x2 = q at *
          generalize ordF q C = I at *
          generalize Dr.bitsOf g = b1 at *
          generalize Dr.bitsOf 2 = b2 at *
          generalize Dr.bitsOf x1 = b3 at *
          generalize Dr.bitsOf x2 = b4 at *
          have hb7a : Below w7.heap.size w7 (w7.alloc (.cells #[.int .u64 (b2 : Int), .int .u64 (b3 : Int), .int .u64 (b4 : Int)] 127)) := below_alloc _ _
          have HC8 : Hid (ChsAt (w7.alloc (.cells #[.int .u64 (b2 : Int), .int .u64 (b3 : Int), .int .u64 (b4 : Int)] 127)) a7 C.length c7 C) := HC7.out.below hb7a
          go_wp2_with (first
            | (go_at_call 109; refine (HF.out _ _ (by simp) (by simp) (by simp)).mono ?_; rintro e w' ⟨rfl, hw'⟩; subst hw')
            | (go_at_call 108; refine (HOR.out _ HC8.out).mono ?_; rintro e w8 ⟨hb8, ai, ci, rfl, hI, h64, hpi⟩))
          have hbR : Below WA.heap.size WA w8 := below2 hbA7 (below2 hb7a hb8)
          have HIN : Hid (IntsAt w8 ai I) := hI
          have HPI : Hid (∀ pp : Addr, ai = some pp → n4 < pp.block) := fun pp hp => by
            have h0 := hpi pp hp
            have h1 := (hbA7).size
            have h2 := hb7a.size
            omega
          clear hb8 hI hpi HF HOR HC8 HC7 hb7a s0 s1 s2 r0 r1 r2 f1 f2 f3 f4
          obtain ⟨⟨z0, z1, z2⟩, z3, z4, z5⟩ := HK.out w8 hbR
          have HSP : Hid ((w8.cell? ⟨n4, 0, none⟩ = some (.int .i64 x1) ∧ w8.cell? ⟨n4, 1, none⟩ = some (.int .i64 x2) ∧ w8.cell? ⟨n4, 2, none⟩ = some (.int .i64 x3))) := ⟨z0, z1, z2⟩
          have hb8 : Below W5.heap.size W5 w8 := below2 hb5A hbR
          have HO8 : Hid (w8.ownsRow W5.heap.size 114 3 (.slice am out.length cm) out.length (cellsLd out)) := own_below HOA.out hbR
          have HKP : Hid (Kept n4 W5 w8 w8) := ⟨hb8, Nat.le_refl _, fun _ _ _ => rfl⟩
          have HA8 : Hid (Aside (.slice am out.length cm) n4 w8.heap.size) := fun j hj => .inl (HAS.out j hj)
          have hn48 : n4 < w8.heap.size := Nat.lt_of_lt_of_le hsA hbR.size
          obtain ⟨j, hj9⟩ : ∃ j : Nat, j = min 1 I.length := ⟨_, rfl⟩
          have HJI : Hid (j ≤ I.length) := by unfold Hid; omega
          have HJN : Hid (j ≤ 1) := by unfold Hid; omega
          have HJE : Hid (j = I.length ∨ j = 1) := by unfold Hid; omega
          have HJT : Hid (I.take 1 = I.take j) := by
            unfold Hid
            by_cases hc : 1 ≤ I.length
            · rw [show j = 1 by omega]
            · rw [List.take_of_length_le (by omega), List.take_of_length_le (by omega)]
          have HO768 : Hid (out.length ≤ 768) := by unfold Hid; have := hok.out; omega
          have h64I : (I.length : Int) ≤ 64 := by omega
          clear HK HOA HAS hbR hb5A HCA HLA z0 z1 z2 z3 z4 z5 hj9 hsA h64 hb6 hbA7
          generalize hIL : I.length = il at *
          have HIL : Hid (I.length = il) := hIL
          clear hIL
          go_wp2_with fail
          go_loopw [13, 20] (fun o i wq => ∃ (t : Nat) (o2 : List Sp), t ≤ j ∧ i = .int .i64 t ∧ Hid (o2 = out ++ (I.take t).map (childOf (x1, x2, x3) 2)) ∧ Hid (o2.length = out.length + t) ∧ Hid (wq.ownsRow W5.heap.size 114 3 o o2.length (cellsLd o2)) ∧ Hid (Aside o n4 w8.heap.size) ∧ Hid (Kept n4 W5 w8 wq)) (fun _ i _ => j - (intOf i).toNat)
          case atStart => exact ⟨0, out, Nat.zero_le _, rfl, (by unfold Hid; simp), rfl, HO8, HA8, HKP⟩
          case round =>
            obtain ⟨t, o2, ht, rfl, hT2, hL2, hown2, has2, hkp2⟩ := hrel
            obtain ⟨ao2, co2, rfl, -⟩ := own_slice hown2.out
            have u3 := (hkp2.out.below.cell (p := ⟨S, 1, none⟩) hS5).trans HST.out.2.1
            have u5 := (hkp2.out.below.cell (p := ⟨S, 2, none⟩) hS5).trans HST.out.2.2
            have hSr : S < wr.heap.size := Nat.lt_of_lt_of_le hS5 hkp2.out.below.size
            by_cases hlt2 : t < j
            · have hti : t < il := by have := HJI.out; omega
              have htn : t < 1 := by have := HJN.out; omega
              have ht1 : (t : Int) < (il : Int) := by omega
              have ht2 : (t : Int) < 1 := by omega
              have ht0 : (0 : Int) ≤ (t : Int) := by omega
              rcases HIN.out with h0 | ⟨p, rfl, hp8, hci⟩
              · have := HIL.out; rw [h0] at this; simp at this; omega
              have hpn : n4 < p := HPI.out ⟨p, 0, none⟩ rfl
              have u4 := (hkp2.out.cell (i := t) (Nat.le_of_lt hpn) hp8).trans (hci t (by have := HIL.out; omega))
              have u0 := (hkp2.out.cell (i := 0) (Nat.le_refl _) hn48).trans HSP.out.1
              have u1 := (hkp2.out.cell (i := 1) (Nat.le_refl _) hn48).trans HSP.out.2.1
              have u2 := (hkp2.out.cell (i := 2) (Nat.le_refl _) hn48).trans HSP.out.2.2
              have hpr : p < wr.heap.size := Nat.lt_of_lt_of_le hp8 hkp2.out.size
              have hnr : n4 < wr.heap.size := Nat.lt_of_lt_of_le hn48 hkp2.out.size
              have HT3 : Hid (out ++ (I.take (t + 1)).map (childOf (x1, x2, x3) 2) = o2 ++ [childOf (x1, x2, x3) 2 (I.getD t 0)]) := by
                unfold Hid
                rw [hT2.out]
                exact ids_take (by have := HIL.out; omega)
              clear hci hT2
              generalize I.getD t 0 = id at *
              have hch : childOf (x1, x2, x3) 2 id = (x1, id, x3) := rfl
              rw [hch] at HT3
              have g0 := ((below_alloc wr (.cells #[.int .i64 x1, .int .i64 x2, .int .i64 x3] 114)).cell (p := ⟨S, 1, none⟩) hSr).trans u3
              have g1 := ((below_alloc wr (.cells #[.int .i64 x1, .int .i64 x2, .int .i64 x3] 114)).cell (p := ⟨p, t, none⟩) hpr).trans u4
              have HYF : Hid (wr.heap.size < (wr.alloc (.cells #[.int .i64 x1, .int .i64 x2, .int .i64 x3] 114)).heap.size ∧ (wr.alloc (.cells #[.int .i64 x1, .int .i64 x2, .int .i64 x3] 114)).cell? ⟨wr.heap.size, 1, none⟩ = some (.int .i64 x2) ∧ (wr.alloc (.cells #[.int .i64 x1, .int .i64 x2, .int .i64 x3] 114)).frozen? ⟨wr.heap.size, 1, none⟩ = false) := ⟨by simp, by simp, by simp⟩
              have HBC : Hid (Below wr.heap.size wr ((wr.alloc (.cells #[.int .i64 x1, .int .i64 x2, .int .i64 x3] 114)).drew.setCell ⟨wr.heap.size, 1, none⟩ (.int .i64 id))) := (below2 (below_alloc _ _) (below_drew _)).setCell (p := ⟨wr.heap.size, 1, none⟩) (Nat.le_refl _) _
              have HYC : Hid (((wr.alloc (.cells #[.int .i64 x1, .int .i64 x2, .int .i64 x3] 114)).drew.setCell ⟨wr.heap.size, 1, none⟩ (.int .i64 id)).cell? ⟨wr.heap.size, 0, none⟩ = some (.int .i64 x1) ∧ ((wr.alloc (.cells #[.int .i64 x1, .int .i64 x2, .int .i64 x3] 114)).drew.setCell ⟨wr.heap.size, 1, none⟩ (.int .i64 id)).cell? ⟨wr.heap.size, 1, none⟩ = some (.int .i64 id) ∧ ((wr.alloc (.cells #[.int .i64 x1, .int .i64 x2, .int .i64 x3] 114)).drew.setCell ⟨wr.heap.size, 1, none⟩ (.int .i64 id)).cell? ⟨wr.heap.size, 2, none⟩ = some (.int .i64 x3)) := by
                have d0 : (wr.alloc (.cells #[.int .i64 x1, .int .i64 x2, .int .i64 x3] 114)).drew.cell? ⟨wr.heap.size, 0, none⟩ = some (.int .i64 x1) := ((below_drew _).cell (p := ⟨wr.heap.size, 0, none⟩) HYF.out.1).trans (by simp)
                have d1 : (wr.alloc (.cells #[.int .i64 x1, .int .i64 x2, .int .i64 x3] 114)).drew.cell? ⟨wr.heap.size, 1, none⟩ = some (.int .i64 x2) := ((below_drew _).cell (p := ⟨wr.heap.size, 1, none⟩) HYF.out.1).trans (by simp)
                have d2 : (wr.alloc (.cells #[.int .i64 x1, .int .i64 x2, .int .i64 x3] 114)).drew.cell? ⟨wr.heap.size, 2, none⟩ = some (.int .i64 x3) := ((below_drew _).cell (p := ⟨wr.heap.size, 2, none⟩) HYF.out.1).trans (by simp)
                exact ⟨(set_else (by omega) _).trans d0, set_same d1 _, (set_else (by omega) _).trans d2⟩
              go_wp2_with fail
              refine y_put2 _ _ _ _ _ _ _ _ _ _ _ _ _ _ _ _ _ _ _ _ _ _ _ _ _ _ _ _ _ _ _ _ _ _ _ _ _ _ _ _ _ _ _ _ _ _ _ _ _ _ _ _ _ _ _ _ _ _ _ _ _ _ _ _ _ _ _ _ _ _ _ _ _ _ _ _ _ _ _ _ _ _ _ _ _ _ _ _ _ _ _ _ _ _ _ _ _ _ _ _ _ _ _ _ _ _ _ _ _ _ _ _ _ _ _ _ _ _ _ _ _ _ _ _ _ _ _ _ _ _ _ _ _ _ _ _ _ _ _ _ S p il ci t wr.heap.size id (.int .i64 x2) (wr.alloc (.cells #[.int .i64 x1, .int .i64 x2, .int .i64 x3] 114)) _ g0 g1 hSr hpr HYF.out.1 HYF.out.2.1 HYF.out.2.2 ht0 ht1 (fun u130 u131 u132 u133 u134 u135 u136 u137 => ?_)
              obtain ⟨v0, v1, v2⟩ := HYC.out
              have hbC := HBC.out
              clear HYC HBC HYF g0 g1 u0 u1 u2 u4
              generalize (wr.alloc (.cells #[.int .i64 x1, .int .i64 x2, .int .i64 x3] 114)).drew.setCell ⟨wr.heap.size, 1, none⟩ (.int .i64 id) = wC at *
              have hYC : wr.heap.size < wC.heap.size := World.block_lt_of_cell? wC ⟨wr.heap.size, 0, none⟩ v0
              have hownB := own_alloc (own_below hown2.out hbC) (.cells #[.int .i64 x1, .int .i64 id, .int .i64 x3] 114)
              have hnews := cells_lit wC (ldCells (x1, id, x3)) 114
              have hw4 : wC.alloc (.cells (ldCells (x1, id, x3)).toArray 114) = wC.alloc (.cells #[.int .i64 x1, .int .i64 id, .int .i64 x3] 114) := rfl
              rw [hw4] at hnews
              have hbq : Below wr.heap.size wr (wC.alloc (.cells #[.int .i64 x1, .int .i64 id, .int .i64 x3] 114)) := below2 hbC (below_alloc _ _)
              have hszq : W5.heap.size ≤ (wC.alloc (.cells #[.int .i64 x1, .int .i64 id, .int .i64 x3] 114)).heap.size := Nat.le_trans hkp2.out.below.size hbq.size
              have hl780 : (o2.length : Int) ≤ 832 := by have := hL2.out; have := HO768.out; omega
              clear hw4 hch
              dsimp only
              go_wp2_with (at_builtin; refine wpList_append_own_at _ rfl _ _ 119 rfl W5.heap.size 114 i0 (.agg #[.int .i64 0, .int .i64 0, .int .i64 0]) 3 24 Tryz.underlying119 hi hz0 hz1 hz2 rfl (by decide) _ _ _ rfl hownB ⟨wC.heap.size, 0, none⟩ 1 1 (ldCells (x1, id, x3)) rfl rfl hnews (by intro u hu; simp [ldCells] at hu; rcases hu with rfl | rfl | rfl <;> rfl) (by unfold maxLen; omega) (by omega) hszq ?_)
              intro v7 w7 hown7' hg7 _ hv7
              have e6 : (wC.alloc (.cells #[.int .i64 x1, .int .i64 id, .int .i64 x3] 114)).heap.size = wC.heap.size + 1 := by simp
              obtain ⟨hkp7, has7⟩ := hkp2.out.step hbq hownB has2.out hg7 (by rw [e6]; exact hv7)
              have HO7 : Hid (w7.ownsRow W5.heap.size 114 3 v7 (o2 ++ [(x1, id, x3)]).length (cellsLd (o2 ++ [(x1, id, x3)]))) := by
                rw [cellsLd_snoc, List.length_append]
                exact hown7'
              have HKP7 : Hid (Kept n4 W5 w8 w7) := hkp7
              have HAS7 : Hid (Aside v7 n4 w8.heap.size) := has7
              have HL7 : Hid ((o2 ++ [(x1, id, x3)]).length = out.length + (t + 1)) := by unfold Hid; rw [List.length_append, hL2.out]; rfl
              clear hown7' hg7 hownB hnews hv7 hkp7 has7 hbq hszq hbC e6 v0 v1 v2 hYC
              go_wp2_with fail
              exact ⟨⟨t + 1, o2 ++ [(x1, id, x3)], by omega, by go_num, HT3.out.symm, HL7, HO7, HAS7, HKP7⟩, by simp [intOf]; omega⟩
            · obtain rfl : t = j := by omega
              have HE : Hid (o2 = chooseP ls g 2 1 (H.take (k + 1))) := by unfold Hid; rw [HNX.out, HJT.out, hT2.out]
              have HL3 : Hid (o2.length ≤ (k + 1) * 64) := by unfold Hid; have := hL2.out; have := hok.out; have := HJI.out; omega
              have hbq := hkp2.out.below
              clear hT2 hL2 has2 hkp2
              by_cases hji : t < il
              · have hi1 : (t : Int) < (il : Int) := by omega
                have hn1 : decide ((t : Int) < 1) = false := by have := HJE.out; have := HIL.out; simp; omega
                skip
                go_wp2_with fail
                exact ⟨⟨k + 1, o2, by omega, by go_num, rfl, HE, HL3, hown2, hbq⟩, by simp [intOf]; omega⟩
              · have hi1 : decide ((t : Int) < (il : Int)) = false := by simp; omega
                have hi2 : decide (t < il) = false := by simp; omega
                go_wp2_with fail
                exact ⟨⟨k + 1, o2, by omega, by go_num, rfl, HE, HL3, hown2, hbq⟩, by simp [intOf]; omega⟩
        · obtain rfl : k = m := by omega
          have HE : Hid (out = hand2 ls g size) := by unfold Hid; rw [hT.out, ← HTK.out]
          have HI : Hid (HandAt wr am out) := hand_own hown.out rfl
          have hbw : Below w.heap.size w wr := below2 hbw5 hbel
          have HO6 : Hid (wr.ownsRow w.heap.size 3 1 (.slice ao 0 co) ([] : List Int).length (intCells [])) := own_below HO5.out hbel
          clear hown hT
          go_wp2_with fail
          refine ⟨⟨3, by decide, rfl, ?_, hbw⟩, by simp [intOf]⟩
          refine ⟨⟨am, cm, ?_, ?_⟩, HO6.out⟩
          · rw [← HE.out]
          · rw [← HE.out]
            exact HI.out
    · rw [show ((3 : Nat) : Int) = 3 from rfl]
      obtain ⟨⟨ah, ch, rfl, hHa⟩, hOut⟩ := hT.out
      obtain ⟨ao, co, rfl, -⟩ := own_slice hOut
      obtain ⟨e0, e1, e2⟩ := hCW.out.step (k := 3) (by decide)
      simp only [stepK] at e0 e1 e2
      have hb5 : Below wr.heap.size wr (wr.alloc (.cells #[.int .i64 2, .int .i64 3, .int .i64 1] 121)) := below_alloc _ _
      have hs5 : (wr.alloc (.cells #[.int .i64 2, .int .i64 3, .int .i64 1] 121)).heap.size = wr.heap.size + 1 := by simp
      have HST : Hid ((wr.alloc (.cells #[.int .i64 2, .int .i64 3, .int .i64 1] 121)).cell? ⟨wr.heap.size, 0, none⟩ = some (.int .i64 2) ∧ (wr.alloc (.cells #[.int .i64 2, .int .i64 3, .int .i64 1] 121)).cell? ⟨wr.heap.size, 1, none⟩ = some (.int .i64 3) ∧ (wr.alloc (.cells #[.int .i64 2, .int .i64 3, .int .i64 1] 121)).cell? ⟨wr.heap.size, 2, none⟩ = some (.int .i64 1)) := ⟨by simp, by simp, by simp⟩
      have HLIT : Hid (((wr.alloc (.cells #[.int .i64 2, .int .i64 3, .int .i64 1] 121)).alloc (.cells #[] 114)).ownsRow (wr.alloc (.cells #[.int .i64 2, .int .i64 3, .int .i64 1] 121)).heap.size 114 3 (.slice (some ⟨wr.heap.size + 1, 0, none⟩) 0 0) ([] : List Sp).length (cellsLd [])) := by
        have := World.ownsRow_lit (base := (wr.alloc (.cells #[.int .i64 2, .int .i64 3, .int .i64 1] 121)).heap.size) (size := 3) (e := 114) (wr.alloc (.cells #[.int .i64 2, .int .i64 3, .int .i64 1] 121)) #[] 0 (Nat.le_refl _) (Nat.zero_le _) (by simp)
        rw [hs5] at this ⊢
        exact this
      have HH5 : Hid (HandAt (wr.alloc (.cells #[.int .i64 2, .int .i64 3, .int .i64 1] 121)) ah (hand2 ls g size)) := hHa.below hb5
      have HO5 : Hid ((wr.alloc (.cells #[.int .i64 2, .int .i64 3, .int .i64 1] 121)).ownsRow w.heap.size 3 1 (.slice ao 0 co) ([] : List Int).length (intCells [])) := own_below hOut hb5
      have HL5 : Hid (NdsAt (wr.alloc (.cells #[.int .i64 2, .int .i64 3, .int .i64 1] 121)) a len cap ls) := hNW.out.below hb5
      have hbw5 : Below w.heap.size w (wr.alloc (.cells #[.int .i64 2, .int .i64 3, .int .i64 1] 121)) := below2 hbel hb5
      clear hT hHa hOut hNW hCW hbel hb5
      have HST2 : Hid (∀ k, k < (hand2 ls g size).length → chooseP ls g 3 1 ((hand2 ls g size).take (k + 1)) = chooseP ls g 3 1 ((hand2 ls g size).take k) ++ chosen1 ls g 3 1 ((hand2 ls g size).getD k ld0)) := fun k hk => choose_take ls g 3 1 hk
      have HTK : Hid (chooseP ls g 3 1 ((hand2 ls g size).take (hand2 ls g size).length) = hand3 ls g size) := by unfold Hid; rw [List.take_length]; rfl
      have hm12 : (((hand2 ls g size).length : Nat) : Int) ≤ 12 := by have : (hand2 ls g size).length ≤ 12 := (by have := hand2_len ls g size; have := H3.out; omega); omega
      generalize hHH : hand2 ls g size = H at *
      clear hHH
      generalize hmm : H.length = m at *
      have HLN : Hid (H.length = m) := hmm
      clear hmm
      go_wp2_with fail
      generalize wr.alloc (.cells #[.int .i64 2, .int .i64 3, .int .i64 1] 121) = W5 at *
      generalize wr.heap.size = S at *
      have hS5 : S < W5.heap.size := by omega
      clear hs5
      go_loopw [10, 13, 14] (fun o10 o13 i wq => ∃ (k : Nat) (out : List Sp), k ≤ m ∧ i = .int .i64 k ∧ o10 = .slice ao 0 co ∧ Hid (out = chooseP ls g 3 1 (H.take k)) ∧ Hid (out.length ≤ k * 64) ∧ Hid (wq.ownsRow W5.heap.size 114 3 o13 out.length (cellsLd out)) ∧ Below W5.heap.size W5 wq) (fun _ _ i _ => m - (intOf i).toNat)
      case atStart => exact ⟨0, [], Nat.zero_le _, rfl, rfl, rfl, Nat.le_refl _, HLIT, below_alloc _ _⟩
      case round =>
        obtain ⟨k, out, hk, rfl, rfl, hT, hok, hown, hbel⟩ := hrel
        obtain ⟨am, cm, rfl, -⟩ := own_slice hown.out
        by_cases hlt : k < m
        · have hk1 : (k : Int) < (m : Int) := by omega
          have hk0 : (0 : Int) ≤ (k : Int) := by omega
          obtain ⟨bh, rfl, hbs, e0, e1, e2⟩ := (HH5.out.below hbel).get (k := k) (by have := HLN.out; omega)
          have HN : Hid (chooseP ls g 3 1 (H.take (k + 1)) = out ++ chosen1 ls g 3 1 (H.getD k ld0)) := by have := HST2.out k (by have := HLN.out; omega); rw [← hT.out] at this; exact this
          generalize H.getD k ld0 = x at *
          obtain ⟨x1, x2, x3⟩ := x
          simp only at e0 e1 e2
          have q0 := (hbel.cell (p := ⟨S, 0, none⟩) hS5).trans HST.out.1
          have q1 := (hbel.cell (p := ⟨S, 1, none⟩) hS5).trans HST.out.2.1
          have q2 := (hbel.cell (p := ⟨S, 2, none⟩) hS5).trans HST.out.2.2
          have hSr : S < wr.heap.size := Nat.lt_of_lt_of_le hS5 hbel.size
          have hbA : Below wr.heap.size wr (wr.alloc (.cells #[.int .i64 x1, .int .i64 x2, .int .i64 x3] 114)) := below_alloc _ _
          have hsA : wr.heap.size < (wr.alloc (.cells #[.int .i64 x1, .int .i64 x2, .int .i64 x3] 114)).heap.size := by simp
          have HCA : Hid (((wr.alloc (.cells #[.int .i64 x1, .int .i64 x2, .int .i64 x3] 114)).cell? ⟨wr.heap.size, 0, none⟩ = some (.int .i64 x1) ∧ (wr.alloc (.cells #[.int .i64 x1, .int .i64 x2, .int .i64 x3] 114)).cell? ⟨wr.heap.size, 1, none⟩ = some (.int .i64 x2) ∧ (wr.alloc (.cells #[.int .i64 x1, .int .i64 x2, .int .i64 x3] 114)).cell? ⟨wr.heap.size, 2, none⟩ = some (.int .i64 x3)) ∧ ((wr.alloc (.cells #[.int .i64 x1, .int .i64 x2, .int .i64 x3] 114)).cell? ⟨S, 0, none⟩ = some (.int .i64 2) ∧ (wr.alloc (.cells #[.int .i64 x1, .int .i64 x2, .int .i64 x3] 114)).cell? ⟨S, 1, none⟩ = some (.int .i64 3) ∧ (wr.alloc (.cells #[.int .i64 x1, .int .i64 x2, .int .i64 x3] 114)).cell? ⟨S, 2, none⟩ = some (.int .i64 1))) := ⟨⟨by simp, by simp, by simp⟩, (hbA.cell (p := ⟨S, 0, none⟩) hSr).trans q0, (hbA.cell (p := ⟨S, 1, none⟩) hSr).trans q1, (hbA.cell (p := ⟨S, 2, none⟩) hSr).trans q2⟩
          have HLA : Hid (NdsAt (wr.alloc (.cells #[.int .i64 x1, .int .i64 x2, .int .i64 x3] 114)) a len cap ls) := HL5.out.below (below2 hbel hbA)
          have HOA : Hid ((wr.alloc (.cells #[.int .i64 x1, .int .i64 x2, .int .i64 x3] 114)).ownsRow W5.heap.size 114 3 (.slice am out.length cm) out.length (cellsLd out)) := own_below hown.out hbA
          have HAS : Hid (∀ j, (Value.slice am out.length cm).ownBlock = some j → j < wr.heap.size) := fun j hj => (hown.out.lt j hj).2
          have hb5A : Below W5.heap.size W5 (wr.alloc (.cells #[.int .i64 x1, .int .i64 x2, .int .i64 x3] 114)) := below2 hbel hbA
          clear hown hT
          go_wp2_with fail
          generalize wr.alloc (.cells #[.int .i64 x1, .int .i64 x2, .int .i64 x3] 114) = WA at *
          generalize hn4 : wr.heap.size = n4 at *
          have hS4 : S < n4 := hSr
          clear hn4 q0 q1 q2 hbA hSr
          have HK : Hid (∀ w', Below WA.heap.size WA w' → ((w'.cell? ⟨n4, 0, none⟩ = some (.int .i64 x1) ∧ w'.cell? ⟨n4, 1, none⟩ = some (.int .i64 x2) ∧ w'.cell? ⟨n4, 2, none⟩ = some (.int .i64 x3)) ∧ (w'.cell? ⟨S, 0, none⟩ = some (.int .i64 2) ∧ w'.cell? ⟨S, 1, none⟩ = some (.int .i64 3) ∧ w'.cell? ⟨S, 2, none⟩ = some (.int .i64 1)))) := fun w' hb =>
            ⟨⟨(hb.cell (p := ⟨n4, 0, none⟩) hsA).trans HCA.out.1.1, (hb.cell (p := ⟨n4, 1, none⟩) hsA).trans HCA.out.1.2.1, (hb.cell (p := ⟨n4, 2, none⟩) hsA).trans HCA.out.1.2.2⟩, (hb.cell (p := ⟨S, 0, none⟩) (Nat.lt_trans hS4 hsA)).trans HCA.out.2.1, (hb.cell (p := ⟨S, 1, none⟩) (Nat.lt_trans hS4 hsA)).trans HCA.out.2.2.1, (hb.cell (p := ⟨S, 2, none⟩) (Nat.lt_trans hS4 hsA)).trans HCA.out.2.2.2⟩
          have HLV : Hid (Calls Tryz.prog 105 #[.slice a len cap, .int .i64 x1, .int .i64 x2] WA fun e w' => ChPost (leavesOf ls x1 x2) WA e w') := refLeaves_any a len cap ls x1 x2 WA HLA.out HM.out
          skip
          refine HLV.out.mono ?_
          rintro e w6 ⟨hb6, a6, c6, rfl, hc6⟩
          have HC7 : Hid (ChsAt w6 a6 (leavesOf ls x1 x2).length c6 (leavesOf ls x1 x2)) := hc6
          clear HLV hc6
          obtain ⟨⟨s0, s1, s2⟩, r0, r1, r2⟩ := HK.out w6 hb6
          have f1 := Dr.bitsOf_form g
          have f2 := Dr.bitsOf_form 3
          have f3 := Dr.bitsOf_form x1
          have f4 := Dr.bitsOf_form x2
          have HF : Hid (∀ (bq : Nat) (W : World), W.cell? ⟨bq, 0, none⟩ = some (.int .u64 ((Dr.bitsOf 3 : Nat) : Int)) → W.cell? ⟨bq, 1, none⟩ = some (.int .u64 ((Dr.bitsOf x1 : Nat) : Int)) → W.cell? ⟨bq, 2, none⟩ = some (.int .u64 ((Dr.bitsOf x2 : Nat) : Int)) → Calls Tryz.prog 109 #[.int .u64 ((Dr.bitsOf g : Nat) : Int), .slice (some ⟨bq, 0, none⟩) 3 3] W fun e w' => e = .returned (.int .u64 ((keyOf g 3 x1 x2 : Nat) : Int)) ∧ w' = W) := fun bq W => refKey_any g 3 x1 x2 bq W
          have HOR : Hid (∀ W : World, ChsAt W a6 (leavesOf ls x1 x2).length c6 (leavesOf ls x1 x2) → Calls Tryz.prog 108 #[.int .u64 ((keyOf g 3 x1 x2 : Nat) : Int), .slice a6 (leavesOf ls x1 x2).length c6] W fun e w' => RefOrdP (ordF (keyOf g 3 x1 x2) (leavesOf ls x1 x2)) W e w') := fun W hc => refOrder_p (sumF_may HM.out) (keyOf_lt _ _ _ _) a6 c6 W hc
          have HNX : Hid (chooseP ls g 3 1 (H.take (k + 1)) = out ++ ((ordF (keyOf g 3 x1 x2) (leavesOf ls x1 x2)).take 1).map (childOf (x1, x2, x3) 3)) := HN.out
          clear HN
          generalize leavesOf ls x1 x2 = C at *
          generalize keyOf g 3 x1 x2 = q at *
          generalize ordF q C = I at *
          generalize Dr.bitsOf g = b1 at *
          generalize Dr.bitsOf 3 = b2 at *
          generalize Dr.bitsOf x1 = b3 at *
          generalize Dr.bitsOf x2 = b4 at *
          have hb7a : Below w6.heap.size w6 (w6.alloc (.cells #[.int .u64 (b2 : Int), .int .u64 (b3 : Int), .int .u64 (b4 : Int)] 127)) := below_alloc _ _
          have HC8 : Hid (ChsAt (w6.alloc (.cells #[.int .u64 (b2 : Int), .int .u64 (b3 : Int), .int .u64 (b4 : Int)] 127)) a6 C.length c6 C) := HC7.out.below hb7a
          go_wp2_with (first
            | (go_at_call 109; refine (HF.out _ _ (by simp) (by simp) (by simp)).mono ?_; rintro e w' ⟨rfl, hw'⟩; subst hw')
            | (go_at_call 108; refine (HOR.out _ HC8.out).mono ?_; rintro e w8 ⟨hb8, ai, ci, rfl, hI, h64, hpi⟩))
          have hbR : Below WA.heap.size WA w8 := below2 hb6 (below2 hb7a hb8)
          have HIN : Hid (IntsAt w8 ai I) := hI
          have HPI : Hid (∀ pp : Addr, ai = some pp → n4 < pp.block) := fun pp hp => by
            have h0 := hpi pp hp
            have h1 := (hb6).size
            have h2 := hb7a.size
            omega
          clear hb8 hI hpi HF HOR HC8 HC7 hb7a s0 s1 s2 r0 r1 r2 f1 f2 f3 f4
          obtain ⟨⟨z0, z1, z2⟩, z3, z4, z5⟩ := HK.out w8 hbR
          have HSP : Hid ((w8.cell? ⟨n4, 0, none⟩ = some (.int .i64 x1) ∧ w8.cell? ⟨n4, 1, none⟩ = some (.int .i64 x2) ∧ w8.cell? ⟨n4, 2, none⟩ = some (.int .i64 x3))) := ⟨z0, z1, z2⟩
          have hb8 : Below W5.heap.size W5 w8 := below2 hb5A hbR
          have HO8 : Hid (w8.ownsRow W5.heap.size 114 3 (.slice am out.length cm) out.length (cellsLd out)) := own_below HOA.out hbR
          have HKP : Hid (Kept n4 W5 w8 w8) := ⟨hb8, Nat.le_refl _, fun _ _ _ => rfl⟩
          have HA8 : Hid (Aside (.slice am out.length cm) n4 w8.heap.size) := fun j hj => .inl (HAS.out j hj)
          have hn48 : n4 < w8.heap.size := Nat.lt_of_lt_of_le hsA hbR.size
          obtain ⟨j, hj9⟩ : ∃ j : Nat, j = min 1 I.length := ⟨_, rfl⟩
          have HJI : Hid (j ≤ I.length) := by unfold Hid; omega
          have HJN : Hid (j ≤ 1) := by unfold Hid; omega
          have HJE : Hid (j = I.length ∨ j = 1) := by unfold Hid; omega
          have HJT : Hid (I.take 1 = I.take j) := by
            unfold Hid
            by_cases hc : 1 ≤ I.length
            · rw [show j = 1 by omega]
            · rw [List.take_of_length_le (by omega), List.take_of_length_le (by omega)]
          have HO768 : Hid (out.length ≤ 768) := by unfold Hid; have := hok.out; omega
          have h64I : (I.length : Int) ≤ 64 := by omega
          clear HK HOA HAS hbR hb5A HCA HLA z0 z1 z2 z3 z4 z5 hj9 hsA h64 hb6
          generalize hIL : I.length = il at *
          have HIL : Hid (I.length = il) := hIL
          clear hIL
          go_wp2_with fail
          go_loopw [13, 20] (fun o i wq => ∃ (t : Nat) (o2 : List Sp), t ≤ j ∧ i = .int .i64 t ∧ Hid (o2 = out ++ (I.take t).map (childOf (x1, x2, x3) 3)) ∧ Hid (o2.length = out.length + t) ∧ Hid (wq.ownsRow W5.heap.size 114 3 o o2.length (cellsLd o2)) ∧ Hid (Aside o n4 w8.heap.size) ∧ Hid (Kept n4 W5 w8 wq)) (fun _ i _ => j - (intOf i).toNat)
          case atStart => exact ⟨0, out, Nat.zero_le _, rfl, (by unfold Hid; simp), rfl, HO8, HA8, HKP⟩
          case round =>
            obtain ⟨t, o2, ht, rfl, hT2, hL2, hown2, has2, hkp2⟩ := hrel
            obtain ⟨ao2, co2, rfl, -⟩ := own_slice hown2.out
            have u3 := (hkp2.out.below.cell (p := ⟨S, 1, none⟩) hS5).trans HST.out.2.1
            have u5 := (hkp2.out.below.cell (p := ⟨S, 2, none⟩) hS5).trans HST.out.2.2
            have hSr : S < wr.heap.size := Nat.lt_of_lt_of_le hS5 hkp2.out.below.size
            by_cases hlt2 : t < j
            · have hti : t < il := by have := HJI.out; omega
              have htn : t < 1 := by have := HJN.out; omega
              have ht1 : (t : Int) < (il : Int) := by omega
              have ht2 : (t : Int) < 1 := by omega
              have ht0 : (0 : Int) ≤ (t : Int) := by omega
              rcases HIN.out with h0 | ⟨p, rfl, hp8, hci⟩
              · have := HIL.out; rw [h0] at this; simp at this; omega
              have hpn : n4 < p := HPI.out ⟨p, 0, none⟩ rfl
              have u4 := (hkp2.out.cell (i := t) (Nat.le_of_lt hpn) hp8).trans (hci t (by have := HIL.out; omega))
              have u0 := (hkp2.out.cell (i := 0) (Nat.le_refl _) hn48).trans HSP.out.1
              have u1 := (hkp2.out.cell (i := 1) (Nat.le_refl _) hn48).trans HSP.out.2.1
              have u2 := (hkp2.out.cell (i := 2) (Nat.le_refl _) hn48).trans HSP.out.2.2
              have hpr : p < wr.heap.size := Nat.lt_of_lt_of_le hp8 hkp2.out.size
              have hnr : n4 < wr.heap.size := Nat.lt_of_lt_of_le hn48 hkp2.out.size
              have HT3 : Hid (out ++ (I.take (t + 1)).map (childOf (x1, x2, x3) 3) = o2 ++ [childOf (x1, x2, x3) 3 (I.getD t 0)]) := by
                unfold Hid
                rw [hT2.out]
                exact ids_take (by have := HIL.out; omega)
              clear hci hT2
              generalize I.getD t 0 = id at *
              have hch : childOf (x1, x2, x3) 3 id = (x1, x2, id) := rfl
              rw [hch] at HT3
              have g0 := ((below_alloc wr (.cells #[.int .i64 x1, .int .i64 x2, .int .i64 x3] 114)).cell (p := ⟨S, 1, none⟩) hSr).trans u3
              have g1 := ((below_alloc wr (.cells #[.int .i64 x1, .int .i64 x2, .int .i64 x3] 114)).cell (p := ⟨p, t, none⟩) hpr).trans u4
              have HYF : Hid (wr.heap.size < (wr.alloc (.cells #[.int .i64 x1, .int .i64 x2, .int .i64 x3] 114)).heap.size ∧ (wr.alloc (.cells #[.int .i64 x1, .int .i64 x2, .int .i64 x3] 114)).cell? ⟨wr.heap.size, 2, none⟩ = some (.int .i64 x3) ∧ (wr.alloc (.cells #[.int .i64 x1, .int .i64 x2, .int .i64 x3] 114)).frozen? ⟨wr.heap.size, 2, none⟩ = false) := ⟨by simp, by simp, by simp⟩
              have HBC : Hid (Below wr.heap.size wr ((wr.alloc (.cells #[.int .i64 x1, .int .i64 x2, .int .i64 x3] 114)).drew.setCell ⟨wr.heap.size, 2, none⟩ (.int .i64 id))) := (below2 (below_alloc _ _) (below_drew _)).setCell (p := ⟨wr.heap.size, 2, none⟩) (Nat.le_refl _) _
              have HYC : Hid (((wr.alloc (.cells #[.int .i64 x1, .int .i64 x2, .int .i64 x3] 114)).drew.setCell ⟨wr.heap.size, 2, none⟩ (.int .i64 id)).cell? ⟨wr.heap.size, 0, none⟩ = some (.int .i64 x1) ∧ ((wr.alloc (.cells #[.int .i64 x1, .int .i64 x2, .int .i64 x3] 114)).drew.setCell ⟨wr.heap.size, 2, none⟩ (.int .i64 id)).cell? ⟨wr.heap.size, 1, none⟩ = some (.int .i64 x2) ∧ ((wr.alloc (.cells #[.int .i64 x1, .int .i64 x2, .int .i64 x3] 114)).drew.setCell ⟨wr.heap.size, 2, none⟩ (.int .i64 id)).cell? ⟨wr.heap.size, 2, none⟩ = some (.int .i64 id)) := by
                have d0 : (wr.alloc (.cells #[.int .i64 x1, .int .i64 x2, .int .i64 x3] 114)).drew.cell? ⟨wr.heap.size, 0, none⟩ = some (.int .i64 x1) := ((below_drew _).cell (p := ⟨wr.heap.size, 0, none⟩) HYF.out.1).trans (by simp)
                have d1 : (wr.alloc (.cells #[.int .i64 x1, .int .i64 x2, .int .i64 x3] 114)).drew.cell? ⟨wr.heap.size, 1, none⟩ = some (.int .i64 x2) := ((below_drew _).cell (p := ⟨wr.heap.size, 1, none⟩) HYF.out.1).trans (by simp)
                have d2 : (wr.alloc (.cells #[.int .i64 x1, .int .i64 x2, .int .i64 x3] 114)).drew.cell? ⟨wr.heap.size, 2, none⟩ = some (.int .i64 x3) := ((below_drew _).cell (p := ⟨wr.heap.size, 2, none⟩) HYF.out.1).trans (by simp)
                exact ⟨(set_else (by omega) _).trans d0, (set_else (by omega) _).trans d1, set_same d2 _⟩
              go_wp2_with fail
              refine y_put3 _ _ _ _ _ _ _ _ _ _ _ _ _ _ _ _ _ _ _ _ _ _ _ _ _ _ _ _ _ _ _ _ _ _ _ _ _ _ _ _ _ _ _ _ _ _ _ _ _ _ _ _ _ _ _ _ _ _ _ _ _ _ _ _ _ _ _ _ _ _ _ _ _ _ _ _ _ _ _ _ _ _ _ _ _ _ _ _ _ _ _ _ _ _ _ _ _ _ _ _ _ _ _ _ _ _ _ _ _ _ _ _ _ _ _ _ _ _ _ _ _ _ _ _ _ _ _ _ _ _ _ _ _ _ _ _ _ _ _ _ S p il ci t wr.heap.size id (.int .i64 x3) (wr.alloc (.cells #[.int .i64 x1, .int .i64 x2, .int .i64 x3] 114)) _ g0 g1 hSr hpr HYF.out.1 HYF.out.2.1 HYF.out.2.2 ht0 ht1 (fun u130 u131 u132 u133 u134 u135 u136 u137 => ?_)
              obtain ⟨v0, v1, v2⟩ := HYC.out
              have hbC := HBC.out
              clear HYC HBC HYF g0 g1 u0 u1 u2 u4
              generalize (wr.alloc (.cells #[.int .i64 x1, .int .i64 x2, .int .i64 x3] 114)).drew.setCell ⟨wr.heap.size, 2, none⟩ (.int .i64 id) = wC at *
              have hYC : wr.heap.size < wC.heap.size := World.block_lt_of_cell? wC ⟨wr.heap.size, 0, none⟩ v0
              have hownB := own_alloc (own_below hown2.out hbC) (.cells #[.int .i64 x1, .int .i64 x2, .int .i64 id] 114)
              have hnews := cells_lit wC (ldCells (x1, x2, id)) 114
              have hw4 : wC.alloc (.cells (ldCells (x1, x2, id)).toArray 114) = wC.alloc (.cells #[.int .i64 x1, .int .i64 x2, .int .i64 id] 114) := rfl
              rw [hw4] at hnews
              have hbq : Below wr.heap.size wr (wC.alloc (.cells #[.int .i64 x1, .int .i64 x2, .int .i64 id] 114)) := below2 hbC (below_alloc _ _)
              have hszq : W5.heap.size ≤ (wC.alloc (.cells #[.int .i64 x1, .int .i64 x2, .int .i64 id] 114)).heap.size := Nat.le_trans hkp2.out.below.size hbq.size
              have hl780 : (o2.length : Int) ≤ 832 := by have := hL2.out; have := HO768.out; omega
              clear hw4 hch
              dsimp only
              go_wp2_with (at_builtin; refine wpList_append_own_at _ rfl _ _ 119 rfl W5.heap.size 114 i0 (.agg #[.int .i64 0, .int .i64 0, .int .i64 0]) 3 24 Tryz.underlying119 hi hz0 hz1 hz2 rfl (by decide) _ _ _ rfl hownB ⟨wC.heap.size, 0, none⟩ 1 1 (ldCells (x1, x2, id)) rfl rfl hnews (by intro u hu; simp [ldCells] at hu; rcases hu with rfl | rfl | rfl <;> rfl) (by unfold maxLen; omega) (by omega) hszq ?_)
              intro v7 w7 hown7' hg7 _ hv7
              have e6 : (wC.alloc (.cells #[.int .i64 x1, .int .i64 x2, .int .i64 id] 114)).heap.size = wC.heap.size + 1 := by simp
              obtain ⟨hkp7, has7⟩ := hkp2.out.step hbq hownB has2.out hg7 (by rw [e6]; exact hv7)
              have HO7 : Hid (w7.ownsRow W5.heap.size 114 3 v7 (o2 ++ [(x1, x2, id)]).length (cellsLd (o2 ++ [(x1, x2, id)]))) := by
                rw [cellsLd_snoc, List.length_append]
                exact hown7'
              have HKP7 : Hid (Kept n4 W5 w8 w7) := hkp7
              have HAS7 : Hid (Aside v7 n4 w8.heap.size) := has7
              have HL7 : Hid ((o2 ++ [(x1, x2, id)]).length = out.length + (t + 1)) := by unfold Hid; rw [List.length_append, hL2.out]; rfl
              clear hown7' hg7 hownB hnews hv7 hkp7 has7 hbq hszq hbC e6 v0 v1 v2 hYC
              go_wp2_with fail
              exact ⟨⟨t + 1, o2 ++ [(x1, x2, id)], by omega, by go_num, HT3.out.symm, HL7, HO7, HAS7, HKP7⟩, by simp [intOf]; omega⟩
            · obtain rfl : t = j := by omega
              have HE : Hid (o2 = chooseP ls g 3 1 (H.take (k + 1))) := by unfold Hid; rw [HNX.out, HJT.out, hT2.out]
              have HL3 : Hid (o2.length ≤ (k + 1) * 64) := by unfold Hid; have := hL2.out; have := hok.out; have := HJI.out; omega
              have hbq := hkp2.out.below
              clear hT2 hL2 has2 hkp2
              by_cases hji : t < il
              · have hi1 : (t : Int) < (il : Int) := by omega
                have hn1 : decide ((t : Int) < 1) = false := by have := HJE.out; have := HIL.out; simp; omega
                skip
                go_wp2_with fail
                exact ⟨⟨k + 1, o2, by omega, by go_num, rfl, HE, HL3, hown2, hbq⟩, by simp [intOf]; omega⟩
              · have hi1 : decide ((t : Int) < (il : Int)) = false := by simp; omega
                have hi2 : decide (t < il) = false := by simp; omega
                go_wp2_with fail
                exact ⟨⟨k + 1, o2, by omega, by go_num, rfl, HE, HL3, hown2, hbq⟩, by simp [intOf]; omega⟩
        · obtain rfl : k = m := by omega
          have HE : Hid (out = hand3 ls g size) := by unfold Hid; rw [hT.out, ← HTK.out]
          have HI : Hid (HandAt wr am out) := hand_own hown.out rfl
          have hbw : Below w.heap.size w wr := below2 hbw5 hbel
          have HO6 : Hid (wr.ownsRow w.heap.size 3 1 (.slice ao 0 co) ([] : List Int).length (intCells [])) := own_below HO5.out hbel
          clear hT
          go_wp2_with fail
          refine ⟨⟨4, by decide, rfl, ?_, hbw⟩, by simp [intOf]⟩
          refine ⟨⟨am, cm, ?_, ?_⟩, HO6.out⟩
          · rw [← HE.out]
          · rw [← HE.out]
            exact own_base hown.out hbw5.size
    · rw [show ((4 : Nat) : Int) = 4 from rfl]
      obtain ⟨⟨ah, ch, rfl, hHa⟩, hOut⟩ := hT.out
      obtain ⟨ao, co, he, -⟩ := own_slice hOut
      subst he
      obtain ⟨e0, e1, e2⟩ := hCW.out.step (k := 4) (by decide)
      simp only [stepK] at e0 e1 e2
      have hb5 : Below wr.heap.size wr ((wr.alloc (.cells #[.int .i64 3, .int .i64 0, .int .i64 0] 121)).alloc (.cells #[] 114)) := below2 (below_alloc _ _) (below_alloc _ _)
      have HK0 : Hid (((wr.alloc (.cells #[.int .i64 3, .int .i64 0, .int .i64 0] 121)).alloc (.cells #[] 114)).cell? ⟨wr.heap.size, 0, none⟩ = some (.int .i64 3)) := by unfold Hid; simp
      have hS6 : wr.heap.size < ((wr.alloc (.cells #[.int .i64 3, .int .i64 0, .int .i64 0] 121)).alloc (.cells #[] 114)).heap.size := by simp; omega
      have HO6 : Hid (((wr.alloc (.cells #[.int .i64 3, .int .i64 0, .int .i64 0] 121)).alloc (.cells #[] 114)).ownsRow w.heap.size 3 1 (.slice ao 0 co) ([] : List Int).length (intCells [])) := own_below hOut hb5
      have HH6 : Hid (((wr.alloc (.cells #[.int .i64 3, .int .i64 0, .int .i64 0] 121)).alloc (.cells #[] 114)).ownsRow w.heap.size 114 3 (.slice ah (hand3 ls g size).length ch) (hand3 ls g size).length (cellsLd (hand3 ls g size))) := own_below hHa hb5
      have HA6 : Hid (Aside (.slice ao 0 co) wr.heap.size ((wr.alloc (.cells #[.int .i64 3, .int .i64 0, .int .i64 0] 121)).alloc (.cells #[] 114)).heap.size) := fun j hj => .inl (hOut.lt j hj).2
      have HKP : Hid (Kept wr.heap.size w ((wr.alloc (.cells #[.int .i64 3, .int .i64 0, .int .i64 0] 121)).alloc (.cells #[] 114)) ((wr.alloc (.cells #[.int .i64 3, .int .i64 0, .int .i64 0] 121)).alloc (.cells #[] 114))) := ⟨below2 hbel hb5, Nat.le_refl _, fun _ _ _ => rfl⟩
      have hm3 : (hand3 ls g size).length ≤ 3 := Nat.le_trans (hand3_len ls g size) H3.out
      have HOF : Hid (ofP ls g size = emitP size [] (hand3 ls g size)) := rfl
      clear hT hHa hOut hNW hCW hb5
      generalize hand3 ls g size = H at *
      have HST : Hid (∀ k, k < H.length → emitP size [] (H.take (k + 1)) = emit1 size (emitP size [] (H.take k)) (H.getD k ld0)) := fun k hk => emit_take size hk
      have HEND : Hid (emitP size [] (H.take H.length) = emitP size [] H) := by unfold Hid; rw [List.take_length]
      have hmI : (H.length : Int) ≤ 3 := by omega
      generalize hmm : H.length = m at *
      have HLN : Hid (H.length = m) := hmm
      clear hmm
      go_wp2_with fail
      generalize ((wr.alloc (.cells #[.int .i64 3, .int .i64 0, .int .i64 0] 121)).alloc (.cells #[] 114)) = W6 at *
      generalize wr.heap.size = S at *
      go_loopw [10, 13, 14] (fun o10 o13 i wq => ∃ (k : Nat) (out : List Int), k ≤ m ∧ i = .int .i64 k ∧ o13 = .slice (some ⟨S + 1, 0, none⟩) 0 0 ∧ Hid (out = emitP size [] (H.take k)) ∧ out.length ≤ k ∧ Hid (wq.ownsRow w.heap.size 3 1 o10 out.length (intCells out)) ∧ Hid (wq.ownsRow w.heap.size 114 3 (.slice ah m ch) m (cellsLd H)) ∧ Hid (Aside o10 S W6.heap.size) ∧ Hid (Kept S w W6 wq)) (fun _ _ i _ => m - (intOf i).toNat)
      case atStart => exact ⟨0, [], Nat.zero_le _, rfl, rfl, rfl, Nat.le_refl _, HO6, HH6, HA6, HKP⟩
      case round =>
        obtain ⟨k, out, hk, rfl, rfl, hT, hok, hown, hhand, has, hkp⟩ := hrel
        obtain ⟨aq, cq, rfl, -⟩ := own_slice hown.out
        by_cases hlt : k < m
        · have hk1 : (k : Int) < (m : Int) := by omega
          have hk0 : (0 : Int) ≤ (k : Int) := by omega
          obtain ⟨bh, hbe, hbs, e0, e1, e2⟩ := (hand_own hhand.out HLN.out.symm).get (k := k) (by have := HLN.out; omega)
          subst hbe
          have HN : Hid (emitP size [] (H.take (k + 1)) = emit1 size out (H.getD k ld0)) := by have := HST.out k (by have := HLN.out; omega); rw [← hT.out] at this; exact this
          have q0 := (hkp.out.cell (i := 0) (Nat.le_refl S) hS6).trans HK0.out
          have hSr : S < wr.heap.size := Nat.lt_of_lt_of_le hS6 hkp.out.size
          generalize H.getD k ld0 = x at *
          obtain ⟨x1, x2, x3⟩ := x
          simp only at e0 e1 e2
          have hbA : Below wr.heap.size wr (wr.alloc (.cells #[.int .i64 x1, .int .i64 x2, .int .i64 x3] 114)) := below_alloc _ _
          have hsA : wr.heap.size < (wr.alloc (.cells #[.int .i64 x1, .int .i64 x2, .int .i64 x3] 114)).heap.size := by simp
          have HXA : Hid ((wr.alloc (.cells #[.int .i64 x1, .int .i64 x2, .int .i64 x3] 114)).cell? ⟨wr.heap.size, 2, none⟩ = some (.int .i64 x3)) := by unfold Hid; simp
          have HOA : Hid ((wr.alloc (.cells #[.int .i64 x1, .int .i64 x2, .int .i64 x3] 114)).ownsRow w.heap.size 3 1 (.slice aq out.length cq) out.length (intCells out)) := own_below hown.out hbA
          have HHA : Hid ((wr.alloc (.cells #[.int .i64 x1, .int .i64 x2, .int .i64 x3] 114)).ownsRow w.heap.size 114 3 (.slice (some ⟨bh, 0, none⟩) m ch) m (cellsLd H)) := own_below hhand.out hbA
          have HKA : Hid (Kept S w W6 (wr.alloc (.cells #[.int .i64 x1, .int .i64 x2, .int .i64 x3] 114))) := hkp.out.more hbA
          have HTO : Hid (out = emitP size [] (H.take k)) := hT
          have hol : (out.length : Int) ≤ 3 := by omega
          clear hown hhand hkp hT HST
          go_wp2_with fail
          generalize wr.alloc (.cells #[.int .i64 x1, .int .i64 x2, .int .i64 x3] 114) = WA at *
          generalize hn4 : wr.heap.size = n4 at *
          clear hn4 q0 hbA
          have hT0 : decide (x3 ∈ out.take 0) = false := by simp
          go_loopw [16, 17] (fun tw i wq => ∃ t : Nat, t ≤ out.length ∧ i = .int .i64 t ∧ tw = .bool (decide (x3 ∈ out.take t)) ∧ Below WA.heap.size WA wq) (fun _ i _ => out.length - (intOf i).toNat)
          case atStart => exact ⟨0, Nat.zero_le _, rfl, by rw [hT0], Below.refl _ _⟩
          case round =>
            obtain ⟨t, ht, rfl, rfl, hbq⟩ := hrel
            have hOq := own_below HOA.out hbq
            have cx := (hbq.cell (p := ⟨n4, 2, none⟩) hsA).trans HXA.out
            have hnq : n4 < wr.heap.size := Nat.lt_of_lt_of_le hsA hbq.size
            by_cases hlt2 : t < out.length
            · have ht1 : (t : Int) < (out.length : Int) := by omega
              have ht0 : (0 : Int) ≤ (t : Int) := by omega
              have HMT := mem_take (x := x3) hlt2
              rcases ints_own hOq rfl with h0 | ⟨p, rfl, hp, hci⟩
              · rw [h0] at hlt2; simp at hlt2
              have g0 := cell_grown (a := ⟨p, t, none⟩) hp (hci t hlt2)
              have g1 := cell_grown (a := ⟨n4, 2, none⟩) hnq cx
              have HB : Hid (∀ n os, Below WA.heap.size WA (Go.Sort.grow (wr.drewN n) os)) := fun n os => below2 hbq (below_grow _ _ _)
              clear hci hOq cx
              generalize out.getD t 0 = y at *
              cases htw : decide (x3 ∈ out.take t) with
              | true =>
                rw [htw, Bool.true_or] at HMT
                have HM2 : Hid (decide (x3 ∈ out.take (t + 1)) = true) := HMT
                clear HMT htw
                go_wp2_with fail
                refine wp_region_QW mixed5 (by kernel_rfl) ?_
                repeat (refine QW_step (fun K hK => ?_); go_simp; first | (refine hK _ ?_; clear hK K) | (apply Exists.intro; refine ⟨fun _ => ?_, hK _ ?_⟩; fail; clear hK K))
                refine QW_nil ?_
                intro _ hw9
                obtain ⟨⟨nq, osq⟩, hw8⟩ := hw9
                subst hw8
                have hb := HB.out nq osq
                go_wp2_with fail
                exact ⟨⟨t + 1, by omega, by go_num, by rw [HM2.out], hb⟩, by simp [intOf]; omega⟩
              | false =>
                rw [htw, Bool.false_or] at HMT
                cases hyx : (y == x3) with
                | true =>
                  rw [hyx] at HMT
                  have HM2 : Hid (decide (x3 ∈ out.take (t + 1)) = true) := HMT
                  clear HMT htw
                  go_wp2_with fail
                  refine wp_region_QW mixed5 (by kernel_rfl) ?_
                  repeat (refine QW_step (fun K hK => ?_); go_simp; first | (refine hK _ ?_; clear hK K) | (apply Exists.intro; refine ⟨fun _ => ?_, hK _ ?_⟩; fail; clear hK K))
                  refine QW_nil ?_
                  intro _ hw9
                  obtain ⟨⟨nq, osq⟩, hw8⟩ := hw9
                  subst hw8
                  have hb := HB.out nq osq
                  go_wp2_with fail
                  exact ⟨⟨t + 1, by omega, by go_num, by rw [HM2.out], hb⟩, by simp [intOf]; omega⟩
                | false =>
                  rw [hyx] at HMT
                  have HM2 : Hid (decide (x3 ∈ out.take (t + 1)) = false) := HMT
                  clear HMT htw
                  go_wp2_with fail
                  refine wp_region_QW mixed5 (by kernel_rfl) ?_
                  repeat (refine QW_step (fun K hK => ?_); go_simp; first | (refine hK _ ?_; clear hK K) | (apply Exists.intro; refine ⟨fun _ => ?_, hK _ ?_⟩; fail; clear hK K))
                  refine QW_nil ?_
                  intro _ hw9
                  obtain ⟨⟨nq, osq⟩, hw8⟩ := hw9
                  subst hw8
                  have hb := HB.out nq osq
                  go_wp2_with fail
                  exact ⟨⟨t + 1, by omega, by go_num, by rw [HM2.out], hb⟩, by simp [intOf]; omega⟩
            · obtain rfl : t = out.length := by omega
              rw [List.take_length]
              have HHq : Hid (wr.ownsRow w.heap.size 114 3 (.slice (some ⟨bh, 0, none⟩) m ch) m (cellsLd H)) := own_below HHA.out hbq
              have HOq : Hid (wr.ownsRow w.heap.size 3 1 (.slice aq out.length cq) out.length (intCells out)) := hOq
              have HKq : Hid (Kept S w W6 wr) := HKA.out.more hbq
              clear hOq
              by_cases hm : x3 ∈ out
              · have HE : Hid (out = emitP size [] (H.take (k + 1))) := by unfold Hid; rw [HN.out]; exact (if_neg (fun h => h.2 hm)).symm
                rw [decide_eq_true hm]
                clear hm HN
                go_wp2_with fail
                exact ⟨⟨k + 1, out, by omega, by go_num, rfl, HE, by omega, HOq, HHq, has, HKq⟩, by simp [intOf]; omega⟩
              · rw [decide_eq_false hm]
                by_cases hsz : out.length < size
                · have HE : Hid (out ++ [x3] = emitP size [] (H.take (k + 1))) := by unfold Hid; rw [HN.out]; exact (if_pos ⟨hsz, hm⟩).symm
                  have hs1 : (out.length : Int) < (size : Int) := by omega
                  have hownB := own_alloc HOq.out (.cells #[.int .i64 x3] 3)
                  have hnews := cells_lit wr [.int .i64 x3] 3
                  have hbB : Below wr.heap.size wr (wr.alloc (.cells #[.int .i64 x3] 3)) := below_alloc _ _
                  have hszB : w.heap.size ≤ (wr.alloc (.cells #[.int .i64 x3] 3)).heap.size := Nat.le_trans HKq.out.below.size hbB.size
                  have HHB : Hid ((wr.alloc (.cells #[.int .i64 x3] 3)).ownsRow w.heap.size 114 3 (.slice (some ⟨bh, 0, none⟩) m ch) m (cellsLd H)) := own_below HHq.out hbB
                  clear HN hm
                  go_wp2_with (at_builtin; refine wpList_append_own_at _ rfl _ _ 35 rfl w.heap.size 3 j0 (.int .i64 0) 1 8 Tryz.underlying35 hj hy0 hy1 hy2 rfl (by decide) _ _ _ rfl hownB ⟨wr.heap.size, 0, none⟩ 1 1 [.int .i64 x3] rfl rfl hnews (by intro u hu; simp at hu; subst hu; rfl) (by unfold maxLen; omega) (by omega) hszB ?_)
                  intro v7 w7 hown7' hg7 _ hv7
                  have e6 : (wr.alloc (.cells #[.int .i64 x3] 3)).heap.size = wr.heap.size + 1 := by simp
                  obtain ⟨hkp7, has7⟩ := HKq.out.stepI hbB hownB has.out hg7 (by rw [e6]; exact hv7)
                  have HO7 : Hid (w7.ownsRow w.heap.size 3 1 v7 (out ++ [x3]).length (intCells (out ++ [x3]))) := by
                    rw [intCells_snoc, List.length_append]
                    exact hown7'
                  have HH7 : Hid (w7.ownsRow w.heap.size 114 3 (.slice (some ⟨bh, 0, none⟩) m ch) m (cellsLd H)) := HHB.out.kept hg7 (own_apart HHB.out hownB (by decide))
                  have HKP7 : Hid (Kept S w W6 w7) := hkp7
                  have HAS7 : Hid (Aside v7 S W6.heap.size) := has7
                  clear hown7' hg7 hownB hnews hv7 hkp7 has7 hbB hszB e6 HHB
                  go_wp2_with fail
                  exact ⟨⟨k + 1, out ++ [x3], by omega, by go_num, rfl, HE, by simp; omega, HO7, HH7, HAS7, HKP7⟩, by simp [intOf]; omega⟩
                · have HE : Hid (out = emitP size [] (H.take (k + 1))) := by unfold Hid; rw [HN.out]; exact (if_neg (fun h => hsz h.1)).symm
                  have hs1 : decide ((out.length : Int) < (size : Int)) = false := by simp; omega
                  have hs2 : decide (out.length < size) = false := by simp; omega
                  clear HN hm hsz
                  go_wp2_with fail
                  exact ⟨⟨k + 1, out, by omega, by go_num, rfl, HE, by omega, HOq, HHq, has, HKq⟩, by simp [intOf]; omega⟩
        · obtain rfl : k = m := by omega
          have HE : Hid (out = ofP ls g size) := by unfold Hid; rw [HOF.out, hT.out, ← HEND.out]
          have hbw : Below w.heap.size w wr := hkp.out.below
          clear hT hkp hhand has
          go_wp2_with fail
          refine ⟨⟨5, by decide, rfl, ?_, hbw⟩, by simp [intOf]⟩
          show wr.ownsRow w.heap.size 3 1 _ (ofP ls g size).length (intCells (ofP ls g size))
          rw [← HE.out]
          exact hown.out
    · have hO := hT.out
      obtain ⟨ao, co, he, -⟩ := own_slice hO
      subst he
      have HI : Hid (IntsAt wr ao (ofP ls g size)) := ints_own hO rfl
      clear hT hO
      go_wp2_with fail
      go_ret
      exact ⟨hbel, ao, co, rfl, HI.out⟩
end Go.Proofs.YtcncbjknfcjnmaaGreat.Tp
