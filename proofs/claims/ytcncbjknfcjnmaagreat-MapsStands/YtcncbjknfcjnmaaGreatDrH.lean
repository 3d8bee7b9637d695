/-
  The contract of lots: those of the choices that have weight, with their costs; none, if the choices may not be.
-/
import Derived.Test.YtcncbjknfcjnmaaGreatDrG
namespace Go.Proofs.YtcncbjknfcjnmaaGreat.Dr
open Go.ChangeShapes Go.WideShapes Go.ChangeAt Go.RowKit
theorem heavy_take {ls : List Ch} {k : Nat} (h : k < ls.length) : heavy (ls.take (k + 1)) = heavy (ls.take k) ++ (if 0 < (ls.getD k ch0).2 then [ls.getD k ch0] else []) := by
  rw [List.take_succ_eq_append_getElem h, getD_get h]
  unfold heavy
  rw [List.filter_append]
  congr 1
  by_cases h0 : 0 < ls[k].2
  · simp [h0]
  · simp [h0]
theorem heavy_len (ls : List Ch) : (heavy ls).length ≤ ls.length := List.length_filter_le _ _
def LotsPost (key : Nat) (ls : List Ch) (w : World) (e : Ending) (w' : World) : Prop :=
  ∃ lv L, e = .returned lv ∧ w'.ownsRow w.heap.size 185 3 lv L.length (cellsLot key L) ∧ Below w.heap.size w w' ∧ ((MayC ls ∧ L = heavy ls) ∨ (¬ MayC ls ∧ L = []))
set_option maxHeartbeats 2000000 in
set_option maxRecDepth 60000 in
theorem lots_any (key : Nat) (a : Option Addr) (len cap : Nat) (ls : List Ch) (w : World) (hkey : key < 18446744073709551616) (h : ChsAt w a len cap ls) :
    Calls Tryz.prog 162 #[.int .u64 (key : Int), .slice a len cap] w fun e w' => LotsPost key ls w e w' := by
  have hl : ls.length = len := h.1
  have hm : len ≤ maxLen := Nat.le_trans h.2.1 h.2.2.1
  unfold maxLen at hm
  have HKEY : Hid (key < 18446744073709551616) := hkey
  have HL : Hid (ChsAt w a len cap ls) := h
  clear h hkey
  go_enter Tryz.func162, Tryz.ntmps162
  go_wp2_with fail
  refine (check_any a len cap ls w HL.out).mono ?_
  rintro e w2 ⟨hb2, ⟨rfl, hM⟩ | ⟨rfl, hN⟩⟩
  · have hM64 : len ≤ 64 := by have := hM.1; omega
    have HM : Hid (MayC ls) := hM
    clear hM
    go_wp2_with fail
    go_loopw [5, 13] (fun l i wr => ∃ (k : Nat) (L : List Ch), k ≤ len ∧ i = .int .i64 k ∧ Hid (L = heavy (ls.take k)) ∧ Hid (wr.ownsRow w.heap.size 185 3 l L.length (cellsLot key L)) ∧ Below w.heap.size w wr) (fun _ i _ => len - (intOf i).toNat)
    case atStart => exact ⟨0, [], Nat.zero_le _, rfl, rfl, World.ownsRow_nil _ _ _ _, hb2⟩
    case round =>
      obtain ⟨k, L, hk, rfl, hT, hown, hbel⟩ := hrel
      by_cases hlt : k < len
      · obtain ⟨b, off, rfl, hbs, hcell⟩ := (HL.out.below hbel).some (by omega)
        obtain ⟨e0, e1⟩ := hcell k hlt
        have hk1 : (k : Int) < (len : Int) := by omega
        clear hcell
        have HT := heavy_take (ls := ls) (k := k) (by omega)
        rw [← hT.out] at HT
        have HLL : Hid (L.length ≤ 64) := by
          show _ ≤ _
          have h1 := heavy_len (ls.take k)
          rw [← hT.out] at h1
          simp at h1
          omega
        generalize ls.getD k ch0 = x at *
        obtain ⟨c1, c2⟩ := x
        have HT' : Hid (heavy (ls.take (k + 1)) = L ++ (if 0 < c2 then [(c1, c2)] else [])) := HT
        clear HT hT
        have HNE : Hid (∀ j, u5.ownBlock = some j → w.heap.size ≤ j ∧ j < wr.heap.size) := hown.out.lt
        by_cases hc : 0 < c2
        · have HY : Hid (L ++ [(c1, c2)] = heavy (ls.take (k + 1))) := by
            show _ = _
            rw [HT'.out, if_pos hc]
          clear HT'
          go_wp2_with fail
          have HB1 : Hid (Below w.heap.size w (wr.alloc (.cells #[.int .i64 c1, .int .i64 c2] 148))) := below2 hbel (below_alloc _ _)
          refine lot_put _ _ _ _ _ _ _ _ _ _ _ _ _ _ _ _ _ _ _ _ _ _ _ _ _ _ _ _ _ _ _ wr.heap.size w.heap.size key c1 c2 u5 L (wr.alloc (.cells #[.int .i64 c1, .int .i64 c2] 148)) _ HKEY.out (by simp) (by simp) (by simp) (own_alloc hown.out _) (by have := hbel.size; simp; omega) (fun e => by have := (HNE.out _ e).2; omega) HLL.out (fun u20 u21 u22 u23 u24 u25 u26 u27 u28 u29 u30 u31 v' wC hownC hgC => ?_)
          have hbC : Below w.heap.size w wC := HB1.out.grown hgC HB1.out.size (fun j hj => (HNE.out j hj).1)
          have HOC : Hid _ := hownC
          clear hgC HNE hown hownC HB1
          go_wp2_with fail
          exact ⟨⟨k + 1, _, by omega, by go_num, HY, HOC, hbC⟩, by simp [intOf]; omega⟩
        · have HY : Hid (L = heavy (ls.take (k + 1))) := by
            show _ = _
            rw [HT'.out, if_neg hc, List.append_nil]
          have hd : decide (0 < c2) = false := decide_eq_false hc
          have HO : Hid ((wr.alloc (.cells #[.int .i64 c1, .int .i64 c2] 148)).ownsRow w.heap.size 185 3 u5 L.length (cellsLot key L)) := own_alloc hown.out _
          have hbC : Below w.heap.size w (wr.alloc (.cells #[.int .i64 c1, .int .i64 c2] 148)) := below2 hbel (below_alloc _ _)
          clear HT' HNE hown
          go_wp2_with fail
          exact ⟨⟨k + 1, _, by omega, by go_num, HY, HO, hbC⟩, by simp [intOf]; omega⟩
      · obtain rfl : k = len := by omega
        have HE : Hid (L = heavy ls) := by
          show _ = _
          rw [hT.out, List.take_of_length_le (by omega)]
        clear hT
        go_wp2_with fail
        go_ret
        exact ⟨_, L, rfl, hown.out, hbel, .inl ⟨HM.out, HE.out⟩⟩
  · go_wp2_with fail
    go_ret
    exact ⟨_, [], rfl, World.ownsRow_nil _ _ _ _, hb2, .inr ⟨hN, rfl⟩⟩
end Go.Proofs.YtcncbjknfcjnmaaGreat.Dr
