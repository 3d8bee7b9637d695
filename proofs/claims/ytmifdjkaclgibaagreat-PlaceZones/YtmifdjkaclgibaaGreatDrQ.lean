/-
  The contracts of the answer's Without and Order.
-/
import Derived.Test.YtmifdjkaclgibaaGreatDrP
namespace Go.Proofs.YtmifdjkaclgibaaGreat.Dr
open Go.ChangeShapes Go.WideShapes Go.ChangeAt Go.RowKit
/-- rows of unlike types lie in unlike blocks -/
theorem own_apart {w : World} {B B' s s' n n' : Nat} {e e' : TypeId} {v v' : Value} {xs xs' : List Value} (h : w.ownsRow B e s v n xs) (h' : w.ownsRow B' e' s' v' n' xs') (he : e ≠ e') : v.ownBlock = none ∨ v.ownBlock ≠ v'.ownBlock := by
  rcases h.2 with ⟨rfl, _⟩ | ⟨g, cap, cur, rfl, _, hg, _⟩
  · exact .inl rfl
  · right
    rcases h'.2 with ⟨rfl, _⟩ | ⟨g', cap', cur', rfl, _, hg', _⟩
    · simp [Value.ownBlock]
    · intro e0
      simp [Value.ownBlock] at e0
      subst e0
      rw [hg] at hg'
      simp at hg'
      exact he hg'.2
def chCells (c : Ch) : List Value := [.int .i64 c.1, .int .i64 c.2]
def cellsC (l : List Ch) : List Value := l.flatMap chCells
theorem cellsC_snoc (l : List Ch) (c : Ch) : cellsC (l ++ [c]) = cellsC l ++ chCells c := by
  unfold cellsC; simp
theorem cellsC_get (l : List Ch) : ∀ i, i < l.length → (cellsC l)[i * 2]? = some (.int .i64 (l.getD i ch0).1) ∧ (cellsC l)[i * 2 + 1]? = some (.int .i64 (l.getD i ch0).2) := by
  induction l with
  | nil => intro i h; simp at h
  | cons c l ih =>
    intro i h
    cases i with
    | zero => exact ⟨rfl, rfl⟩
    | succ i =>
      have h1 := ih i (by simpa using h)
      have e : ∀ j, (cellsC (c :: l))[(i + 1) * 2 + j]? = (cellsC l)[i * 2 + j]? := fun j => by
        unfold cellsC
        rw [List.flatMap_cons, show (i + 1) * 2 + j = (chCells c).length + (i * 2 + j) from by simp [chCells]; omega, List.getElem?_append_right (by omega), Nat.add_sub_cancel_left]
      exact ⟨(e 0).trans h1.1, (e 1).trans h1.2⟩
theorem chs_own {w : World} {B n cap : Nat} {a : Option Addr} {l : List Ch} (h : w.ownsRow B 33 2 (.slice a n cap) n (cellsC l)) (hn : l.length = n) : ChsAt w a n cap l := by
  rcases h.2 with ⟨hv, h0⟩ | ⟨g, cap', cur, hv, hB, hh, hc, hm, _⟩
  · injection hv with ha hn' hc
    exact ⟨hn, by omega, by rw [hc]; exact Nat.zero_le _, .inl h0⟩
  · injection hv with ha hn' hc'
    subst ha
    subst hc'
    refine ⟨hn, hc, hm, .inr ⟨g, 0, rfl, fun i hi => ?_⟩⟩
    obtain ⟨h0, h1⟩ := cellsC_get l i (by omega)
    rw [Nat.zero_add]
    exact ⟨(h.cellAt (i * 2) (by omega)).trans h0, (h.cellAt (i * 2 + 1) (by omega)).trans h1⟩
theorem filter_take {ls : List Ch} {k : Nat} {p : Ch → Bool} (h : k < ls.length) : (ls.take (k + 1)).filter p = (ls.take k).filter p ++ (if p (ls.getD k ch0) then [ls.getD k ch0] else []) := by
  rw [List.take_succ_eq_append_getElem h, getD_get h, List.filter_append]
  congr 1
  cases hp : p ls[k] <;> simp [hp]
def WoPost (ls : List Ch) (id : Int) (w : World) (e : Ending) (w' : World) : Prop :=
  Below w.heap.size w w' ∧ ∃ a cap, e = .returned (.slice a (ls.filter fun c => decide (c.1 ≠ id)).length cap) ∧ w'.ownsRow w.heap.size 33 2 (.slice a (ls.filter fun c => decide (c.1 ≠ id)).length cap) (ls.filter fun c => decide (c.1 ≠ id)).length (cellsC (ls.filter fun c => decide (c.1 ≠ id)))
set_option maxHeartbeats 2000000 in
set_option maxRecDepth 60000 in
theorem without_any (a : Option Addr) (len cap : Nat) (ls : List Ch) (id : Int) (w : World) (h : ChsAt w a len cap ls) (h64 : ls.length ≤ 64) :
    Calls Tryz.prog 36 #[.slice a len cap, .int .i64 id] w fun e w' => WoPost ls id w e w' := by
  have hl : ls.length = len := h.1
  have h64' : (len : Int) ≤ 64 := by omega
  have HL : Hid (ChsAt w a len cap ls) := h
  obtain ⟨i0, hi, hz0, hz1, hz2⟩ := info_parts info37
  have HLIT : Hid ((w.alloc (.cells #[] 33)).ownsRow w.heap.size 33 2 (.slice (some ⟨w.heap.size, 0, none⟩) 0 0) ([] : List Ch).length (cellsC [])) := World.ownsRow_lit (base := w.heap.size) (size := 2) (e := 33) w #[] 0 (Nat.le_refl _) (Nat.zero_le _) (by simp)
  have hb0 := below_alloc w (.cells #[] 33)
  clear h h64
  go_enter Tryz.func36, Tryz.ntmps36
  go_wp2_with fail
  go_loopw [5, 6] (fun o i wr => ∃ (k : Nat) (out : List Ch), k ≤ len ∧ i = .int .i64 k ∧ Hid (out = (ls.take k).filter fun c => decide (c.1 ≠ id)) ∧ out.length ≤ k ∧ Hid (wr.ownsRow w.heap.size 33 2 o out.length (cellsC out)) ∧ Below w.heap.size w wr) (fun _ i _ => len - (intOf i).toNat)
  case atStart => exact ⟨0, [], Nat.zero_le _, rfl, rfl, Nat.le_refl _, HLIT, hb0⟩
  case round =>
    obtain ⟨k, out, hk, rfl, hT, hok, hown, hbel⟩ := hrel
    by_cases hlt : k < len
    · obtain ⟨b, off, rfl, hbs, hcell⟩ := (HL.out.below hbel).some (by omega)
      obtain ⟨e0, e1⟩ := hcell k hlt
      have hk1 : (k : Int) < (len : Int) := by omega
      have hk0 : (0 : Int) ≤ (k : Int) := by omega
      have HST := filter_take (ls := ls) (k := k) (p := fun c => decide (c.1 ≠ id)) (by omega)
      rw [← hT.out] at HST
      clear hcell hT
      generalize ls.getD k ch0 = x at *
      obtain ⟨c1, c2⟩ := x
      have hown0 := hown.out
      clear hown
      by_cases hc : c1 = id
      · have HY : Hid (out = (ls.take (k + 1)).filter fun c => decide (c.1 ≠ id)) := by
          show _ = _
          rw [HST]
          simp [hc]
        have hd : (!(c1 == id)) = false := by simp [hc]
        have HO : Hid _ := hown0
        subst hc
        clear HST hown0
        go_wp2_with fail
        exact ⟨⟨k + 1, out, by omega, by go_num, HY, by omega, HO, hbel⟩, by simp [intOf]; omega⟩
      · have HY : Hid (out ++ [(c1, c2)] = (ls.take (k + 1)).filter fun c => decide (c.1 ≠ id)) := by
          show _ = _
          rw [HST]
          simp [hc]
        have hd : (!(c1 == id)) = true := by simp [hc]
        clear HST
        have hownB := own_alloc hown0 (.cells #[.int .i64 c1, .int .i64 c2] 33)
        have hsz := hbel.size
        have hnews := cells_lit wr (chCells (c1, c2)) 33
        have hw4 : wr.alloc (.cells (chCells (c1, c2)).toArray 33) = wr.alloc (.cells #[.int .i64 c1, .int .i64 c2] 33) := rfl
        rw [hw4] at hnews
        go_wp2_with (at_builtin; refine wpList_append_own _ rfl _ _ 30 rfl w.heap.size 33 i0 (.agg #[.int .i64 0, .int .i64 0]) 2 16 Tryz.underlying30 hi hz0 hz1 hz2 rfl (by decide) _ _ _ rfl hownB ⟨wr.heap.size, 0, none⟩ 1 1 (chCells (c1, c2)) rfl rfl hnews (by intro u hu; simp [chCells] at hu; rcases hu with rfl | rfl <;> rfl) (by unfold maxLen; omega) (by omega) (by simp; omega) ?_)
        intro v7 w7 hown7' hg7 _
        have HO : Hid (w7.ownsRow w.heap.size 33 2 v7 (out ++ [(c1, c2)]).length (cellsC (out ++ [(c1, c2)]))) := by
          rw [cellsC_snoc, List.length_append]
          exact hown7'
        have hb7 : Below w.heap.size w w7 := (hbel.alloc hsz _).grown hg7 (by simp; omega) (fun k hk => (hown0.lt k hk).1)
        clear hown7' hg7 hownB hnews hown0
        go_wp2_with fail
        exact ⟨⟨k + 1, _, by omega, by go_num, HY, by simp; omega, HO, hb7⟩, by simp [intOf]; omega⟩
    · obtain rfl : k = len := by omega
      have HE : Hid (out = ls.filter fun c => decide (c.1 ≠ id)) := by
        have := hT.out
        rwa [List.take_of_length_le (by omega)] at this
      obtain ⟨ao, co, he, -⟩ := own_slice hown.out
      clear hT
      go_wp2_with fail
      go_ret
      subst he
      refine ⟨hbel, ao, co, ?_, ?_⟩
      · rw [← HE.out]
        rfl
      · rw [← HE.out]
        exact hown.out
end Go.Proofs.YtmifdjkaclgibaaGreat.Dr
