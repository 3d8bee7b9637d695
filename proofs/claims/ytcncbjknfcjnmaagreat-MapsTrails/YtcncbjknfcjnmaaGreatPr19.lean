/-
  turned: a node behind a delta; concerns.
  slices.Contains of whatever row of ints; needed.
  The contracts of slices.Insert into nothing, of changeNode and change, for a node added to none.
  The contracts of changeNode and change, for the one node that goes up.
  The contract of turn, of bare maps where those who act no more were too few.
  The contract of Apply, of bare maps, for whatever delta is taken and turns as turn_bare asks.
-/
import Derived.Test.YtcncbjknfcjnmaaGreatPr18
import Derived.Test.YtcncbjknfcjnmaaGreatPr17
import Derived.Test.YtcncbjknfcjnmaaGreatPr04
namespace Go.Proofs.YtcncbjknfcjnmaaGreat.Tp
open Go.ChangeShapes Go.WideShapes Go.ChangeAt Go.RowKit
def turnN (x : Nd) (k wt : Int) : Nd := if k = 2 then { x with weight := wt } else if k = 3 then { x with up := true } else if k = 4 then { x with up := false } else if k = 5 then { x with inn := false } else if k = 6 then { x with inn := true } else x
set_option maxHeartbeats 2000000 in
set_option maxRecDepth 60000 in
theorem turned_2 (c1 c2 c3 c4 : Int) (c5 c6 : Bool) (id z r wt g : Int) (a : Option Addr) (len cap : Nat) (w : World) : Calls Tryz.prog 93 #[.agg #[.int .i64 c1,.int .i64 c2,.int .i64 c3,.int .i64 c4,.bool c5,.bool c6],.agg #[.int .i64 2,.int .i64 id,.int .i64 z,.int .i64 r,.int .i64 wt,.int .i64 g,.slice a len cap]] w fun e w' => e = .returned (.agg #[.int .i64 c1,.int .i64 c2,.int .i64 c3,.int .i64 wt,.bool c5,.bool c6]) /\ Grown w w' := by
 have HG : Hid (Grown w (((w.alloc (.cells #[.int .i64 c1,.int .i64 c2,.int .i64 c3,.int .i64 wt,.bool c5,.bool c6] 72)).alloc (.cells #[.int .i64 2,.int .i64 id,.int .i64 z,.int .i64 r,.int .i64 wt,.int .i64 g,.slice a len cap] 37)).alloc (.cells #[.int .i64 c1,.int .i64 c2,.int .i64 c3,.int .i64 wt,.bool c5,.bool c6] 72))) := grown2 (grown2 (grown_alloc _ _) (grown_alloc _ _)) (grown_alloc _ _)
 have HS : Hid (Six (((w.alloc (.cells #[.int .i64 c1,.int .i64 c2,.int .i64 c3,.int .i64 wt,.bool c5,.bool c6] 72)).alloc (.cells #[.int .i64 2,.int .i64 id,.int .i64 z,.int .i64 r,.int .i64 wt,.int .i64 g,.slice a len cap] 37)).alloc (.cells #[.int .i64 c1,.int .i64 c2,.int .i64 c3,.int .i64 wt,.bool c5,.bool c6] 72)) (w.heap.size + 1 + 1) (.int .i64 c1) (.int .i64 c2) (.int .i64 c3) (.int .i64 wt) (.bool c5) (.bool c6)) := by
  have := six_new ((w.alloc (.cells #[.int .i64 c1,.int .i64 c2,.int .i64 c3,.int .i64 wt,.bool c5,.bool c6] 72)).alloc (.cells #[.int .i64 2,.int .i64 id,.int .i64 z,.int .i64 r,.int .i64 wt,.int .i64 g,.slice a len cap] 37)) (.int .i64 c1) (.int .i64 c2) (.int .i64 c3) (.int .i64 wt) (.bool c5) (.bool c6) 72
  rwa [show ((w.alloc (.cells #[.int .i64 c1,.int .i64 c2,.int .i64 c3,.int .i64 wt,.bool c5,.bool c6] 72)).alloc (.cells #[.int .i64 2,.int .i64 id,.int .i64 z,.int .i64 r,.int .i64 wt,.int .i64 g,.slice a len cap] 37)).heap.size = w.heap.size + 1 + 1 by simp] at this
 go_enter Tryz.func93,Tryz.ntmps93
 go_wp2_with fail
 refine bodyPost_ret (ret_nd rfl _ _ (w.heap.size + 1 + 1) (.int .i64 c1) (.int .i64 c2) (.int .i64 c3) (.int .i64 wt) (.bool c5) (.bool c6) rfl HS.out) rfl ?_
 exact ⟨rfl,HG.out⟩
set_option maxHeartbeats 2000000 in
set_option maxRecDepth 60000 in
theorem turned_3 (c1 c2 c3 c4 : Int) (c5 c6 : Bool) (id z r wt g : Int) (a : Option Addr) (len cap : Nat) (w : World) : Calls Tryz.prog 93 #[.agg #[.int .i64 c1,.int .i64 c2,.int .i64 c3,.int .i64 c4,.bool c5,.bool c6],.agg #[.int .i64 3,.int .i64 id,.int .i64 z,.int .i64 r,.int .i64 wt,.int .i64 g,.slice a len cap]] w fun e w' => e = .returned (.agg #[.int .i64 c1,.int .i64 c2,.int .i64 c3,.int .i64 c4,.bool true,.bool c6]) /\ Grown w w' := by
 have HG : Hid (Grown w (((w.alloc (.cells #[.int .i64 c1,.int .i64 c2,.int .i64 c3,.int .i64 c4,.bool true,.bool c6] 72)).alloc (.cells #[.int .i64 3,.int .i64 id,.int .i64 z,.int .i64 r,.int .i64 wt,.int .i64 g,.slice a len cap] 37)).alloc (.cells #[.int .i64 c1,.int .i64 c2,.int .i64 c3,.int .i64 c4,.bool true,.bool c6] 72))) := grown2 (grown2 (grown_alloc _ _) (grown_alloc _ _)) (grown_alloc _ _)
 have HS : Hid (Six (((w.alloc (.cells #[.int .i64 c1,.int .i64 c2,.int .i64 c3,.int .i64 c4,.bool true,.bool c6] 72)).alloc (.cells #[.int .i64 3,.int .i64 id,.int .i64 z,.int .i64 r,.int .i64 wt,.int .i64 g,.slice a len cap] 37)).alloc (.cells #[.int .i64 c1,.int .i64 c2,.int .i64 c3,.int .i64 c4,.bool true,.bool c6] 72)) (w.heap.size + 1 + 1) (.int .i64 c1) (.int .i64 c2) (.int .i64 c3) (.int .i64 c4) (.bool true) (.bool c6)) := by
  have := six_new ((w.alloc (.cells #[.int .i64 c1,.int .i64 c2,.int .i64 c3,.int .i64 c4,.bool true,.bool c6] 72)).alloc (.cells #[.int .i64 3,.int .i64 id,.int .i64 z,.int .i64 r,.int .i64 wt,.int .i64 g,.slice a len cap] 37)) (.int .i64 c1) (.int .i64 c2) (.int .i64 c3) (.int .i64 c4) (.bool true) (.bool c6) 72
  rwa [show ((w.alloc (.cells #[.int .i64 c1,.int .i64 c2,.int .i64 c3,.int .i64 c4,.bool true,.bool c6] 72)).alloc (.cells #[.int .i64 3,.int .i64 id,.int .i64 z,.int .i64 r,.int .i64 wt,.int .i64 g,.slice a len cap] 37)).heap.size = w.heap.size + 1 + 1 by simp] at this
 go_enter Tryz.func93,Tryz.ntmps93
 go_wp2_with fail
 refine bodyPost_ret (ret_nd rfl _ _ (w.heap.size + 1 + 1) (.int .i64 c1) (.int .i64 c2) (.int .i64 c3) (.int .i64 c4) (.bool true) (.bool c6) rfl HS.out) rfl ?_
 exact ⟨rfl,HG.out⟩
set_option maxHeartbeats 2000000 in
set_option maxRecDepth 60000 in
theorem turned_4 (c1 c2 c3 c4 : Int) (c5 c6 : Bool) (id z r wt g : Int) (a : Option Addr) (len cap : Nat) (w : World) : Calls Tryz.prog 93 #[.agg #[.int .i64 c1,.int .i64 c2,.int .i64 c3,.int .i64 c4,.bool c5,.bool c6],.agg #[.int .i64 4,.int .i64 id,.int .i64 z,.int .i64 r,.int .i64 wt,.int .i64 g,.slice a len cap]] w fun e w' => e = .returned (.agg #[.int .i64 c1,.int .i64 c2,.int .i64 c3,.int .i64 c4,.bool false,.bool c6]) /\ Grown w w' := by
 have HG : Hid (Grown w (((w.alloc (.cells #[.int .i64 c1,.int .i64 c2,.int .i64 c3,.int .i64 c4,.bool false,.bool c6] 72)).alloc (.cells #[.int .i64 4,.int .i64 id,.int .i64 z,.int .i64 r,.int .i64 wt,.int .i64 g,.slice a len cap] 37)).alloc (.cells #[.int .i64 c1,.int .i64 c2,.int .i64 c3,.int .i64 c4,.bool false,.bool c6] 72))) := grown2 (grown2 (grown_alloc _ _) (grown_alloc _ _)) (grown_alloc _ _)
 have HS : Hid (Six (((w.alloc (.cells #[.int .i64 c1,.int .i64 c2,.int .i64 c3,.int .i64 c4,.bool false,.bool c6] 72)).alloc (.cells #[.int .i64 4,.int .i64 id,.int .i64 z,.int .i64 r,.int .i64 wt,.int .i64 g,.slice a len cap] 37)).alloc (.cells #[.int .i64 c1,.int .i64 c2,.int .i64 c3,.int .i64 c4,.bool false,.bool c6] 72)) (w.heap.size + 1 + 1) (.int .i64 c1) (.int .i64 c2) (.int .i64 c3) (.int .i64 c4) (.bool false) (.bool c6)) := by
  have := six_new ((w.alloc (.cells #[.int .i64 c1,.int .i64 c2,.int .i64 c3,.int .i64 c4,.bool false,.bool c6] 72)).alloc (.cells #[.int .i64 4,.int .i64 id,.int .i64 z,.int .i64 r,.int .i64 wt,.int .i64 g,.slice a len cap] 37)) (.int .i64 c1) (.int .i64 c2) (.int .i64 c3) (.int .i64 c4) (.bool false) (.bool c6) 72
  rwa [show ((w.alloc (.cells #[.int .i64 c1,.int .i64 c2,.int .i64 c3,.int .i64 c4,.bool false,.bool c6] 72)).alloc (.cells #[.int .i64 4,.int .i64 id,.int .i64 z,.int .i64 r,.int .i64 wt,.int .i64 g,.slice a len cap] 37)).heap.size = w.heap.size + 1 + 1 by simp] at this
 go_enter Tryz.func93,Tryz.ntmps93
 go_wp2_with fail
 refine bodyPost_ret (ret_nd rfl _ _ (w.heap.size + 1 + 1) (.int .i64 c1) (.int .i64 c2) (.int .i64 c3) (.int .i64 c4) (.bool false) (.bool c6) rfl HS.out) rfl ?_
 exact ⟨rfl,HG.out⟩
set_option maxHeartbeats 2000000 in
set_option maxRecDepth 60000 in
theorem turned_5 (c1 c2 c3 c4 : Int) (c5 c6 : Bool) (id z r wt g : Int) (a : Option Addr) (len cap : Nat) (w : World) : Calls Tryz.prog 93 #[.agg #[.int .i64 c1,.int .i64 c2,.int .i64 c3,.int .i64 c4,.bool c5,.bool c6],.agg #[.int .i64 5,.int .i64 id,.int .i64 z,.int .i64 r,.int .i64 wt,.int .i64 g,.slice a len cap]] w fun e w' => e = .returned (.agg #[.int .i64 c1,.int .i64 c2,.int .i64 c3,.int .i64 c4,.bool c5,.bool false]) /\ Grown w w' := by
 have HG : Hid (Grown w (((w.alloc (.cells #[.int .i64 c1,.int .i64 c2,.int .i64 c3,.int .i64 c4,.bool c5,.bool false] 72)).alloc (.cells #[.int .i64 5,.int .i64 id,.int .i64 z,.int .i64 r,.int .i64 wt,.int .i64 g,.slice a len cap] 37)).alloc (.cells #[.int .i64 c1,.int .i64 c2,.int .i64 c3,.int .i64 c4,.bool c5,.bool false] 72))) := grown2 (grown2 (grown_alloc _ _) (grown_alloc _ _)) (grown_alloc _ _)
 have HS : Hid (Six (((w.alloc (.cells #[.int .i64 c1,.int .i64 c2,.int .i64 c3,.int .i64 c4,.bool c5,.bool false] 72)).alloc (.cells #[.int .i64 5,.int .i64 id,.int .i64 z,.int .i64 r,.int .i64 wt,.int .i64 g,.slice a len cap] 37)).alloc (.cells #[.int .i64 c1,.int .i64 c2,.int .i64 c3,.int .i64 c4,.bool c5,.bool false] 72)) (w.heap.size + 1 + 1) (.int .i64 c1) (.int .i64 c2) (.int .i64 c3) (.int .i64 c4) (.bool c5) (.bool false)) := by
  have := six_new ((w.alloc (.cells #[.int .i64 c1,.int .i64 c2,.int .i64 c3,.int .i64 c4,.bool c5,.bool false] 72)).alloc (.cells #[.int .i64 5,.int .i64 id,.int .i64 z,.int .i64 r,.int .i64 wt,.int .i64 g,.slice a len cap] 37)) (.int .i64 c1) (.int .i64 c2) (.int .i64 c3) (.int .i64 c4) (.bool c5) (.bool false) 72
  rwa [show ((w.alloc (.cells #[.int .i64 c1,.int .i64 c2,.int .i64 c3,.int .i64 c4,.bool c5,.bool false] 72)).alloc (.cells #[.int .i64 5,.int .i64 id,.int .i64 z,.int .i64 r,.int .i64 wt,.int .i64 g,.slice a len cap] 37)).heap.size = w.heap.size + 1 + 1 by simp] at this
 go_enter Tryz.func93,Tryz.ntmps93
 go_wp2_with fail
 refine bodyPost_ret (ret_nd rfl _ _ (w.heap.size + 1 + 1) (.int .i64 c1) (.int .i64 c2) (.int .i64 c3) (.int .i64 c4) (.bool c5) (.bool false) rfl HS.out) rfl ?_
 exact ⟨rfl,HG.out⟩
set_option maxHeartbeats 2000000 in
set_option maxRecDepth 60000 in
theorem turned_6 (c1 c2 c3 c4 : Int) (c5 c6 : Bool) (id z r wt g : Int) (a : Option Addr) (len cap : Nat) (w : World) : Calls Tryz.prog 93 #[.agg #[.int .i64 c1,.int .i64 c2,.int .i64 c3,.int .i64 c4,.bool c5,.bool c6],.agg #[.int .i64 6,.int .i64 id,.int .i64 z,.int .i64 r,.int .i64 wt,.int .i64 g,.slice a len cap]] w fun e w' => e = .returned (.agg #[.int .i64 c1,.int .i64 c2,.int .i64 c3,.int .i64 c4,.bool c5,.bool true]) /\ Grown w w' := by
 have HG : Hid (Grown w (((w.alloc (.cells #[.int .i64 c1,.int .i64 c2,.int .i64 c3,.int .i64 c4,.bool c5,.bool true] 72)).alloc (.cells #[.int .i64 6,.int .i64 id,.int .i64 z,.int .i64 r,.int .i64 wt,.int .i64 g,.slice a len cap] 37)).alloc (.cells #[.int .i64 c1,.int .i64 c2,.int .i64 c3,.int .i64 c4,.bool c5,.bool true] 72))) := grown2 (grown2 (grown_alloc _ _) (grown_alloc _ _)) (grown_alloc _ _)
 have HS : Hid (Six (((w.alloc (.cells #[.int .i64 c1,.int .i64 c2,.int .i64 c3,.int .i64 c4,.bool c5,.bool true] 72)).alloc (.cells #[.int .i64 6,.int .i64 id,.int .i64 z,.int .i64 r,.int .i64 wt,.int .i64 g,.slice a len cap] 37)).alloc (.cells #[.int .i64 c1,.int .i64 c2,.int .i64 c3,.int .i64 c4,.bool c5,.bool true] 72)) (w.heap.size + 1 + 1) (.int .i64 c1) (.int .i64 c2) (.int .i64 c3) (.int .i64 c4) (.bool c5) (.bool true)) := by
  have := six_new ((w.alloc (.cells #[.int .i64 c1,.int .i64 c2,.int .i64 c3,.int .i64 c4,.bool c5,.bool true] 72)).alloc (.cells #[.int .i64 6,.int .i64 id,.int .i64 z,.int .i64 r,.int .i64 wt,.int .i64 g,.slice a len cap] 37)) (.int .i64 c1) (.int .i64 c2) (.int .i64 c3) (.int .i64 c4) (.bool c5) (.bool true) 72
  rwa [show ((w.alloc (.cells #[.int .i64 c1,.int .i64 c2,.int .i64 c3,.int .i64 c4,.bool c5,.bool true] 72)).alloc (.cells #[.int .i64 6,.int .i64 id,.int .i64 z,.int .i64 r,.int .i64 wt,.int .i64 g,.slice a len cap] 37)).heap.size = w.heap.size + 1 + 1 by simp] at this
 go_enter Tryz.func93,Tryz.ntmps93
 go_wp2_with fail
 refine bodyPost_ret (ret_nd rfl _ _ (w.heap.size + 1 + 1) (.int .i64 c1) (.int .i64 c2) (.int .i64 c3) (.int .i64 c4) (.bool c5) (.bool true) rfl HS.out) rfl ?_
 exact ⟨rfl,HG.out⟩
theorem turned_any (x : Nd) (k id z r wt g : Int) (hk : 2 <= k /\ k <= 6) (a : Option Addr) (len cap : Nat) (w : World) : Calls Tryz.prog 93 #[.agg (ndCells x).toArray,.agg #[.int .i64 k,.int .i64 id,.int .i64 z,.int .i64 r,.int .i64 wt,.int .i64 g,.slice a len cap]] w fun e w' => e = .returned (.agg (ndCells (turnN x k wt)).toArray) /\ Grown w w' := by
 have h5 : k = 2 ∨ k = 3 ∨ k = 4 ∨ k = 5 ∨ k = 6 := by omega
 rcases h5 with rfl | rfl | rfl | rfl | rfl
 ·exact turned_2 x.id x.zone x.rack x.weight x.up x.inn id z r wt g a len cap w
 ·exact turned_3 x.id x.zone x.rack x.weight x.up x.inn id z r wt g a len cap w
 ·exact turned_4 x.id x.zone x.rack x.weight x.up x.inn id z r wt g a len cap w
 ·exact turned_5 x.id x.zone x.rack x.weight x.up x.inn id z r wt g a len cap w
 ·exact turned_6 x.id x.zone x.rack x.weight x.up x.inn id z r wt g a len cap w
def concP (k dg g : Int) : Bool := if k = 9 ∨ k = 10 then false else if k = 8 then decide (g = dg) else true
set_option maxHeartbeats 2000000 in
theorem concerns_any (k id z r wt dg g : Int) (a : Option Addr) (len cap : Nat) (w : World) : Calls Tryz.prog 70 #[.agg #[.int .i64 k,.int .i64 id,.int .i64 z,.int .i64 r,.int .i64 wt,.int .i64 dg,.slice a len cap],.int .i64 g] w fun e w' => e = .returned (.bool (concP k dg g)) /\ Below w.heap.size w w' := by
 by_cases h9 : k = 9
 ·subst h9
  go_enter Tryz.func70,Tryz.ntmps70
  go_wp2
  go_ret
  exact ⟨rfl,by go_grown⟩
 ·by_cases h10 : k = 10
  ·subst h10
   go_enter Tryz.func70,Tryz.ntmps70
   go_wp2
   go_ret
   exact ⟨rfl,by go_grown⟩
  ·by_cases h8 : k = 8
   ·subst h8
    go_enter Tryz.func70,Tryz.ntmps70
    go_wp2
    go_ret
    refine ⟨ret_bool8 ?_,by go_grown⟩
    rw [Bool.eq_iff_iff]
    simp [concP]
   ·have b9 : (k == 9) = false := by simpa using h9
    have b10 : (k == 10) = false := by simpa using h10
    have b8 : (k == 8) = false := by simpa using h8
    go_enter Tryz.func70,Tryz.ntmps70
    go_wp2
    go_ret
    refine ⟨ret_bool8 ?_,by go_grown⟩
    simp [concP,h9,h10,h8]
end Go.Proofs.YtcncbjknfcjnmaaGreat.Tp
namespace Go.Proofs.YtcncbjknfcjnmaaGreat.Tp
open Go.ChangeShapes Go.WideShapes Go.ChangeAt Go.RowKit
theorem mem_getD {l : List Int} {id : Int} {k : Nat} (hk : k < l.length) (e : l.getD k 0 = id) : id ∈ l := by
 rw [<- e,show l.getD k 0 = l[k] by simp [hk]]
 exact List.getElem_mem hk
theorem not_mem_getD {l : List Int} {id : Int} (h : ∀ j,j < l.length -> l.getD j 0 ≠ id) : id ∉ l := fun hm => by
 obtain ⟨j,hj,e⟩ := List.getElem_of_mem hm
 exact h j hj (by simp [hj,e])
set_option maxHeartbeats 2000000 in
theorem index_row (a : Option Addr) (l : List Int) (n cap : Nat) (id : Int) (w : World) (h : RowI w a n cap l) : Calls Tryz.prog 129 #[.slice a n cap,.int .i64 id] w fun e w' => IdxPost l id w e w' := by
 have HL : Hid (RowI w a n cap l) := h
 have hn : l.length = n := h.1
 have hmx : (n : Int) <= 9223372036854775807 := by have := h.2.1; have h2 := h.2.2.1; unfold maxLen at h2; omega
 have HN : Hid (l.length = n) := hn
 clear h hn
 go_enter Tryz.func129,Tryz.ntmps129
 go_wp2_with fail
 go_loopw [8] (fun i wr => ∃ k : Nat,k <= n /\ i = .int .i64 k /\ wr = w /\ Hid (∀ j,j < k -> l.getD j 0 ≠ id)) (fun i _ => n - (intOf i).toNat)
 case atStart => exact ⟨0,Nat.zero_le _,rfl,rfl,fun j hj => absurd hj (Nat.not_lt_zero _)⟩
 case round =>
  obtain ⟨k,hk,rfl,rfl,hT⟩ := hrel
  by_cases hlt : k < n
  ·have hk1 : (k : Int) < (n : Int) := by omega
   obtain ⟨p,off,rfl,hp,hcp⟩ := HL.out.some (by omega)
   have x0 := hcp k hlt
   have HT2 : Hid (l.getD k 0 ≠ id -> ∀ j,j < k + 1 -> l.getD j 0 ≠ id) := fun h j hj => by
    rcases Nat.lt_succ_iff_lt_or_eq.1 hj with h' | rfl
    ·exact hT.out j h'
    ·exact h
   have HY2 : Hid (l.getD k 0 = id -> id ∈ l) := fun e => mem_getD (by rw [HN.out]; exact hlt) e
   clear hcp hT
   generalize l.getD k 0 = y at *
   by_cases hy : y = id
   ·have HI : Hid (id ∈ l) := HY2.out hy
    have hd : (id == y) = true := by simp [hy]
    clear HY2 HT2
    go_wp2_with fail
    go_ret
    exact ⟨rfl,.inl ⟨k,rfl,HI.out⟩⟩
   ·have HI : Hid (∀ j,j < k + 1 -> l.getD j 0 ≠ id) := HT2.out hy
    have hd : (id == y) = false := by simpa using fun e : id = y => hy e.symm
    clear HY2 HT2
    go_wp2_with fail
    exact ⟨⟨k + 1,by omega,by go_num,trivial,HI⟩,by simp [intOf]; omega⟩
  ·obtain rfl : k = n := by omega
   have HI : Hid (id ∉ l) := not_mem_getD (by rw [HN.out]; exact hT.out)
   clear hT
   go_wp2_with fail
   go_ret
   exact ⟨rfl,.inr ⟨rfl,HI.out⟩⟩
theorem contains_row (a : Option Addr) (l : List Int) (n cap : Nat) (id : Int) (w : World) (h : RowI w a n cap l) : Calls Tryz.prog 112 #[.slice a n cap,.int .i64 id] w fun e w' => e = .returned (.bool (decide (id ∈ l))) /\ w' = w := by
 by_cases hm : id ∈ l
 ·have HI : Hid (Calls Tryz.prog 129 #[.slice a n cap,.int .i64 id] w fun e w' => (∃ k : Nat,e = .returned (.int .i64 k)) /\ w' = w) := (index_row a l n cap id w h).mono fun _ _ ⟨hw,hh⟩ => by
   rcases hh with ⟨k,he,_⟩ | ⟨_,hn⟩
   ·exact ⟨⟨k,he⟩,hw⟩
   ·exact absurd hm hn
  rw [decide_eq_true hm]
  clear h hm
  go_enter Tryz.func112,Tryz.ntmps112
  go_wp2_with (go_at_call 129; refine HI.out.mono ?_; rintro e w2 ⟨⟨k,rfl⟩,rfl⟩; have hk : decide ((0 : Int) <= (k : Int)) = true := by simp)
  go_ret
  exact ⟨rfl,rfl⟩
 ·have HI : Hid (Calls Tryz.prog 129 #[.slice a n cap,.int .i64 id] w fun e w' => e = .returned (.int .i64 (-1)) /\ w' = w) := (index_row a l n cap id w h).mono fun _ _ ⟨hw,hh⟩ => by
   rcases hh with ⟨k,_,hn⟩ | ⟨he,_⟩
   ·exact absurd hn hm
   ·exact ⟨he,hw⟩
  rw [decide_eq_false hm]
  clear h hm
  go_enter Tryz.func112,Tryz.ntmps112
  go_wp2_with (go_at_call 129; refine HI.out.mono ?_; rintro e w2 ⟨rfl,rfl⟩)
  go_ret
  exact ⟨rfl,rfl⟩
def NeedT (m : Mp) (id : Int) : Prop := ∃ i,i < m.tms.length /\ id ∈ (m.tms.getD i tm0).ns
def NeedS (p : List Tm) (id : Int) : Prop := ∃ i,i < p.length /\ id ∈ (p.getD i tm0).ns
def NeedR (m : Mp) (id : Int) : Prop := ∃ i,i < m.trs.length /\ NeedS (m.trs.getD i tr0).past id
def NeedP (m : Mp) (id : Int) : Prop := NeedT m id ∨ NeedR m id
theorem not_step {P : Nat -> Prop} {k : Nat} (h : ∀ i,i < k -> ¬ P i) (hk : ¬ P k) : ∀ i,i < k + 1 -> ¬ P i := fun i hi => by
 rcases Nat.lt_succ_iff_lt_or_eq.1 hi with h' | rfl
 ·exact h i h'
 ·exact hk
set_option maxHeartbeats 4000000 in
set_option maxRecDepth 60000 in
theorem needed_any (m : Mp) (s : MV) (id : Int) (w : World) (h : MapAt w m s) : Calls Tryz.prog 92 #[.agg (mapCells m s).toArray,.int .i64 id] w fun e w' => BoolPost (NeedP m id) w e w' := by
 have HT : Hid (TmsAt w s.aT s.lT s.cT m.tms) := h.tms
 have HR : Hid (TrsAt w s.aR s.lR s.cR m.trs) := h.trs
 have hmT : (s.lT : Int) <= 9223372036854775807 := by have := h.tms.2.1; have h2 := h.tms.2.2.1; unfold maxLen at h2; omega
 have hmR : (s.lR : Int) <= 9223372036854775807 := by have := h.trs.2.1; have h2 := h.trs.2.2.1; unfold maxLen at h2; omega
 have HlT : Hid (m.tms.length = s.lT) := h.tms.1
 have HlR : Hid (m.trs.length = s.lR) := h.trs.1
 rw [map_split]
 obtain ⟨aN,lN,cN,aT,lT,cT,aR,lR,cR⟩ := s
 simp only at *
 have hb1 := below_alloc w (.cells #[.int .i64 m.ep,.int .i64 m.size,.int .i64 m.mn,.int .i64 m.gr,.slice aN lN cN,.slice aT lT cT,.slice aR lR cR] 26)
 have HBX : Hid (Box7 (w.alloc (.cells #[.int .i64 m.ep,.int .i64 m.size,.int .i64 m.mn,.int .i64 m.gr,.slice aN lN cN,.slice aT lT cT,.slice aR lR cR] 26)) w.heap.size (.int .i64 m.ep) (.int .i64 m.size) (.int .i64 m.mn) (.int .i64 m.gr) (.slice aN lN cN) (.slice aT lT cT) (.slice aR lR cR)) := Box7.new w _ _ _ _ _ _ _ _
 have HB1 : Hid (Below w.heap.size w (w.alloc (.cells #[.int .i64 m.ep,.int .i64 m.size,.int .i64 m.mn,.int .i64 m.gr,.slice aN lN cN,.slice aT lT cT,.slice aR lR cR] 26))) := hb1
 clear h hb1
 go_enter Tryz.func92,Tryz.ntmps92
 go_wp2_with fail
 generalize w.alloc (.cells #[.int .i64 m.ep,.int .i64 m.size,.int .i64 m.mn,.int .i64 m.gr,.slice aN lN cN,.slice aT lT cT,.slice aR lR cR] 26) = w1 at *
 go_loopw [14] (fun i wr => ∃ k : Nat,k <= lT /\ i = .int .i64 k /\ Hid (∀ i,i < k -> ¬ id ∈ (m.tms.getD i tm0).ns) /\ Hid (Below w1.heap.size w1 wr)) (fun i _ => lT - (intOf i).toNat)
 case atStart => exact ⟨0,Nat.zero_le _,rfl,(fun i hi => absurd hi (Nat.not_lt_zero _)),Below.refl _ _⟩
 case round =>
  obtain ⟨k,hk,rfl,hT,HW⟩ := hrel
  obtain ⟨⟨c0,c1,c2,c3,c4,c5,c6⟩,-⟩ := HBX.out.below HW.out
  by_cases hlt : k < lT
  ·have hk1 : (k : Int) < (lT : Int) := by omega
   obtain ⟨b,off,rfl,hbs,hcell⟩ := (HT.out.below (below2 HB1.out HW.out)).some (by omega)
   obtain ⟨e0,aq,lq,cq,e1,hrow⟩ := hcell k hlt
   have HC : Hid (∀ W,Below wr.heap.size wr W -> Calls Tryz.prog 112 #[.slice aq lq cq,.int .i64 id] W fun e w' => e = .returned (.bool (decide (id ∈ (m.tms.getD k tm0).ns))) /\ w' = W) := fun W hW => contains_row aq _ lq cq id W (hrow.below hW)
   have HN : Hid (¬ id ∈ (m.tms.getD k tm0).ns -> ∀ i,i < k + 1 -> ¬ id ∈ (m.tms.getD i tm0).ns) := fun h => not_step hT.out h
   have HY : Hid (id ∈ (m.tms.getD k tm0).ns -> NeedP m id) := fun h => .inl ⟨k,by rw [HlT.out]; exact hlt,h⟩
   have hba := below_alloc wr (.cells #[.int .i64 (m.tms.getD k tm0).g,.slice aq lq cq] 59)
   clear hcell hrow hT
   by_cases hin : id ∈ (m.tms.getD k tm0).ns
   ·have HP := HY.out hin
    have HC2 := fun W hW => by have := HC.out W hW; rw [decide_eq_true hin] at this; exact this
    clear HC HN HY hin
    generalize (m.tms.getD k tm0).g = gg at *
    have HHP : Hid (NeedP m id) := HP
    clear HP
    go_wp2_with (go_at_call 112; refine (HC2 _ hba).mono ?_; rintro e w3 ⟨rfl,rfl⟩)
    go_ret
    exact bool_yes (below2 HB1.out (below2 HW.out hba)) HHP.out
   ·have HN2 := HN.out hin
    have HN3 : Hid (∀ i,i < k + 1 -> ¬ id ∈ (m.tms.getD i tm0).ns) := HN2
    have HC2 := fun W hW => by have := HC.out W hW; rw [decide_eq_false hin] at this; exact this
    clear HC HN HN2 HY hin
    generalize (m.tms.getD k tm0).g = gg at *
    go_wp2_with (go_at_call 112; refine (HC2 _ hba).mono ?_; rintro e w3 ⟨rfl,rfl⟩)
    go_roundw
    case rel => exact ⟨k + 1,by omega,by go_num,HN3,below2 HW.out hba⟩
    case measure => simp [intOf]; omega
  ·obtain rfl : k = lT := by omega
   have HNT : Hid (¬ NeedT m id) := fun ⟨i,hi,hm⟩ => hT.out i (by rw [<- HlT.out]; exact hi) hm
   clear hT
   go_wp2_with fail
   go_loopw [26] (fun i wr => ∃ k : Nat,k <= lR /\ i = .int .i64 k /\ Hid (∀ i,i < k -> ¬ NeedS (m.trs.getD i tr0).past id) /\ Hid (Below w1.heap.size w1 wr)) (fun i _ => lR - (intOf i).toNat)
   case atStart => exact ⟨0,Nat.zero_le _,rfl,(fun i hi => absurd hi (Nat.not_lt_zero _)),HW⟩
   case round =>
    clear c0 c1 c2 c3 c4 c5 c6 HW
    obtain ⟨k,hk,rfl,hT,HW⟩ := hrel
    obtain ⟨⟨c0,c1,c2,c3,c4,c5,c6⟩,-⟩ := HBX.out.below HW.out
    by_cases hlt : k < lR
    ·have hk1 : (k : Int) < (lR : Int) := by omega
     obtain ⟨b,off,rfl,hbs,hcell⟩ := (HR.out.below (below2 HB1.out HW.out)).some (by omega)
     obtain ⟨e0,aq,lq,cq,e1,hpast⟩ := hcell k hlt
     have hlq : (lq : Int) <= 9223372036854775807 := by have := hpast.2.1; have h2 := hpast.2.2.1; unfold maxLen at h2; omega
     have HPs : Hid (TmsAt wr aq lq cq (m.trs.getD k tr0).past) := hpast
     have HN : Hid (¬ NeedS (m.trs.getD k tr0).past id -> ∀ i,i < k + 1 -> ¬ NeedS (m.trs.getD i tr0).past id) := fun h => not_step hT.out h
     have HY : Hid (NeedS (m.trs.getD k tr0).past id -> NeedP m id) := fun h => .inr ⟨k,by rw [HlR.out]; exact hlt,h⟩
     have hba := below_alloc wr (.cells #[.int .i64 (m.trs.getD k tr0).since,.slice aq lq cq] 53)
     clear hcell hpast hT
     generalize (m.trs.getD k tr0).since = gg at *
     generalize (m.trs.getD k tr0).past = ps at *
     go_wp2_with fail
     have HBA : Hid (Below w1.heap.size w1 (wr.alloc (.cells #[.int .i64 gg,.slice aq lq cq] 53))) := below2 HW.out hba
     have HPa : Hid (TmsAt (wr.alloc (.cells #[.int .i64 gg,.slice aq lq cq] 53)) aq lq cq ps) := HPs.out.below hba
     generalize wr.alloc (.cells #[.int .i64 gg,.slice aq lq cq] 53) = w4 at *
     clear HPs hba
     go_loopw [33] (fun i wr => ∃ j : Nat,j <= lq /\ i = .int .i64 j /\ Hid (∀ i,i < j -> ¬ id ∈ (ps.getD i tm0).ns) /\ Hid (Below w4.heap.size w4 wr)) (fun i _ => lq - (intOf i).toNat)
     case atStart => exact ⟨0,Nat.zero_le _,rfl,(fun i hi => absurd hi (Nat.not_lt_zero _)),Below.refl _ _⟩
     case round =>
      obtain ⟨j,hj,rfl,hU,HV⟩ := hrel
      by_cases hjt : j < lq
      ·have hj1 : (j : Int) < (lq : Int) := by omega
       obtain ⟨b',off',rfl,hbs',hcell⟩ := (HPa.out.below HV.out).some (by omega)
       obtain ⟨f0,ar,lr,cr,f1,hrow⟩ := hcell j hjt
       have HC : Hid (∀ W,Below wr.heap.size wr W -> Calls Tryz.prog 112 #[.slice ar lr cr,.int .i64 id] W fun e w' => e = .returned (.bool (decide (id ∈ (ps.getD j tm0).ns))) /\ w' = W) := fun W hW => contains_row ar _ lr cr id W (hrow.below hW)
       have HN5 : Hid (¬ id ∈ (ps.getD j tm0).ns -> ∀ i,i < j + 1 -> ¬ id ∈ (ps.getD i tm0).ns) := fun h => not_step hU.out h
       have HY5 : Hid (id ∈ (ps.getD j tm0).ns -> NeedP m id) := fun h => HY.out ⟨j,by rw [HPa.out.1]; exact hjt,h⟩
       have hbv := below_alloc wr (.cells #[.int .i64 (ps.getD j tm0).g,.slice ar lr cr] 55)
       clear hcell hrow hU
       by_cases hin : id ∈ (ps.getD j tm0).ns
       ·have HHP : Hid (NeedP m id) := HY5.out hin
        have HC2 := fun W hW => by have := HC.out W hW; rw [decide_eq_true hin] at this; exact this
        clear HC HN5 HY5 hin HN HY
        generalize (ps.getD j tm0).g = gh at *
        go_wp2_with (go_at_call 112; refine (HC2 _ hbv).mono ?_; rintro e w5 ⟨rfl,rfl⟩)
        go_ret
        exact bool_yes (below2 HB1.out (below2 HBA.out (below2 HV.out hbv))) HHP.out
       ·have HN6 : Hid (∀ i,i < j + 1 -> ¬ id ∈ (ps.getD i tm0).ns) := HN5.out hin
        have HC2 := fun W hW => by have := HC.out W hW; rw [decide_eq_false hin] at this; exact this
        clear HC HN5 HY5 hin
        generalize (ps.getD j tm0).g = gh at *
        go_wp2_with (go_at_call 112; refine (HC2 _ hbv).mono ?_; rintro e w5 ⟨rfl,rfl⟩)
        go_roundw
        case rel => exact ⟨j + 1,by omega,by go_num,HN6,below2 HV.out hbv⟩
        case measure => simp [intOf]; omega
      ·obtain rfl : j = lq := by omega
       have HN6 : Hid (∀ i,i < k + 1 -> ¬ NeedS (m.trs.getD i tr0).past id) := HN.out (fun ⟨i,hi,hm⟩ => hU.out i (by rw [<- HPa.out.1]; exact hi) hm)
       clear hU HN HY
       go_wp2_with fail
       go_roundw
       case rel => exact ⟨k + 1,by omega,by go_num,HN6,below2 HBA.out HV.out⟩
       case measure => simp [intOf]; omega
    ·obtain rfl : k = lR := by omega
     have HNO : Hid (¬ NeedP m id) := fun h => h.elim HNT.out fun ⟨i,hi,hm⟩ => hT.out i (by rw [<- HlR.out]; exact hi) hm
     clear hT
     go_wp2_with fail
     go_ret
     exact bool_no (below2 HB1.out HW.out) HNO.out
end Go.Proofs.YtcncbjknfcjnmaaGreat.Tp
namespace Go.Proofs.YtcncbjknfcjnmaaGreat.Tp
open Go.ChangeShapes Go.WideShapes Go.ChangeAt Go.RowKit
end Go.Proofs.YtcncbjknfcjnmaaGreat.Tp
namespace Go.Proofs.YtcncbjknfcjnmaaGreat.Tp
open Go.ChangeShapes Go.WideShapes Go.ChangeAt Go.RowKit
end Go.Proofs.YtcncbjknfcjnmaaGreat.Tp
namespace Go.Proofs.YtcncbjknfcjnmaaGreat.Tp
open Go.ChangeShapes Go.WideShapes Go.ChangeAt Go.RowKit
theorem stand_more {m : Mp} (h : StandOk m) (e : Int) (l : List Tr) : StandOk { m with ep := e,trs := l } := ⟨h.size,h.nds,h.rise,h.few,h.ns⟩
theorem infoInts8 : (Tryz.prog.info? 35).map (fun i => (i.zero,i.size,i.bytes)) = some (some (.slice none 0 0),1,24) := by kernel_rfl
end Go.Proofs.YtcncbjknfcjnmaaGreat.Tp
namespace Go.Proofs.YtcncbjknfcjnmaaGreat.Tp
open Go.ChangeShapes Go.WideShapes Go.ChangeAt Go.RowKit
end Go.Proofs.YtcncbjknfcjnmaaGreat.Tp
