/-
  mayBe: which deltas there may be; turned, concerns.
-/
import Derived.Test.YtcncbjknfcjnmaaGreatPr01
import Derived.Test.YtcncbjknfcjnmaaGreatPr17
import Derived.Handy
namespace Go.Proofs.YtcncbjknfcjnmaaGreat.Tp
open Go.ChangeShapes Go.WideShapes Go.ChangeAt Go.RowKit
theorem ret_bool8 {a b : Bool} (h : a = b) : Ending.returned (.bool a) = .returned (.bool b) := by rw [h]
theorem len_zero (n : Nat) : ((n : Int) == 0) = decide (n = 0) := by rw [Bool.eq_iff_iff]; simp
def MayK (k id z r wt g : Int) (len : Nat) : Prop :=
 (k = 1 /\ g = 0 /\ len = 0) ∨
 (k = 2 /\ z = 0 /\ r = 0 /\ g = 0 /\ len = 0) ∨
 (k = 3 /\ z = 0 /\ r = 0 /\ wt = 0 /\ g = 0 /\ len = 0) ∨
 (k = 4 /\ z = 0 /\ r = 0 /\ wt = 0 /\ g = 0 /\ len = 0) ∨
 (k = 5 /\ z = 0 /\ r = 0 /\ wt = 0 /\ g = 0 /\ len = 0) ∨
 (k = 6 /\ z = 0 /\ r = 0 /\ wt = 0 /\ g = 0 /\ len = 0) ∨
 (k = 7 /\ z = 0 /\ r = 0 /\ wt = 0 /\ g = 0 /\ len = 0) ∨
 (k = 8 /\ id = 0 /\ z = 0 /\ r = 0 /\ wt = 0) ∨
 (k = 9 /\ id = 0 /\ z = 0 /\ r = 0 /\ wt = 0 /\ g = 0 /\ len = 0) ∨
 (k = 10 /\ id = 0 /\ z = 0 /\ r = 0 /\ len = 0)
instance (k id z r wt g : Int) (len : Nat) : Decidable (MayK k id z r wt g len) := by unfold MayK; infer_instance
set_option maxHeartbeats 4000000 in
set_option maxRecDepth 60000 in
theorem mayBe_1 (id z r wt g : Int) (a : Option Addr) (len cap : Nat) (w : World) : Calls Tryz.prog 64 #[.agg #[.int .i64 1,.int .i64 id,.int .i64 z,.int .i64 r,.int .i64 wt,.int .i64 g,.slice a len cap]] w fun e w' => e = .returned (.bool (decide (g = 0 /\ len = 0))) /\ Below w.heap.size w w' := by
 go_enter Tryz.func64,Tryz.ntmps64
 go_wp2
 all_goals
  go_ret
  refine ⟨ret_bool8 ?_,by go_grown⟩
  first | rfl | (simp_all; done) | (simp_all; exact len_zero _)
set_option maxHeartbeats 4000000 in
set_option maxRecDepth 60000 in
theorem mayBe_2 (id z r wt g : Int) (a : Option Addr) (len cap : Nat) (w : World) : Calls Tryz.prog 64 #[.agg #[.int .i64 2,.int .i64 id,.int .i64 z,.int .i64 r,.int .i64 wt,.int .i64 g,.slice a len cap]] w fun e w' => e = .returned (.bool (decide (z = 0 /\ r = 0 /\ g = 0 /\ len = 0))) /\ Below w.heap.size w w' := by
 go_enter Tryz.func64,Tryz.ntmps64
 go_wp2
 all_goals
  go_ret
  refine ⟨ret_bool8 ?_,by go_grown⟩
  first | rfl | (simp_all; done) | (simp_all; exact len_zero _)
set_option maxHeartbeats 4000000 in
set_option maxRecDepth 60000 in
theorem mayBe_3 (id z r wt g : Int) (a : Option Addr) (len cap : Nat) (w : World) : Calls Tryz.prog 64 #[.agg #[.int .i64 3,.int .i64 id,.int .i64 z,.int .i64 r,.int .i64 wt,.int .i64 g,.slice a len cap]] w fun e w' => e = .returned (.bool (decide (z = 0 /\ r = 0 /\ wt = 0 /\ g = 0 /\ len = 0))) /\ Below w.heap.size w w' := by
 go_enter Tryz.func64,Tryz.ntmps64
 go_wp2
 all_goals
  go_ret
  refine ⟨ret_bool8 ?_,by go_grown⟩
  first | rfl | (simp_all; done) | (simp_all; exact len_zero _)
set_option maxHeartbeats 4000000 in
set_option maxRecDepth 60000 in
theorem mayBe_4 (id z r wt g : Int) (a : Option Addr) (len cap : Nat) (w : World) : Calls Tryz.prog 64 #[.agg #[.int .i64 4,.int .i64 id,.int .i64 z,.int .i64 r,.int .i64 wt,.int .i64 g,.slice a len cap]] w fun e w' => e = .returned (.bool (decide (z = 0 /\ r = 0 /\ wt = 0 /\ g = 0 /\ len = 0))) /\ Below w.heap.size w w' := by
 go_enter Tryz.func64,Tryz.ntmps64
 go_wp2
 all_goals
  go_ret
  refine ⟨ret_bool8 ?_,by go_grown⟩
  first | rfl | (simp_all; done) | (simp_all; exact len_zero _)
set_option maxHeartbeats 4000000 in
set_option maxRecDepth 60000 in
theorem mayBe_5 (id z r wt g : Int) (a : Option Addr) (len cap : Nat) (w : World) : Calls Tryz.prog 64 #[.agg #[.int .i64 5,.int .i64 id,.int .i64 z,.int .i64 r,.int .i64 wt,.int .i64 g,.slice a len cap]] w fun e w' => e = .returned (.bool (decide (z = 0 /\ r = 0 /\ wt = 0 /\ g = 0 /\ len = 0))) /\ Below w.heap.size w w' := by
 go_enter Tryz.func64,Tryz.ntmps64
 go_wp2
 all_goals
  go_ret
  refine ⟨ret_bool8 ?_,by go_grown⟩
  first | rfl | (simp_all; done) | (simp_all; exact len_zero _)
set_option maxHeartbeats 4000000 in
set_option maxRecDepth 60000 in
theorem mayBe_6 (id z r wt g : Int) (a : Option Addr) (len cap : Nat) (w : World) : Calls Tryz.prog 64 #[.agg #[.int .i64 6,.int .i64 id,.int .i64 z,.int .i64 r,.int .i64 wt,.int .i64 g,.slice a len cap]] w fun e w' => e = .returned (.bool (decide (z = 0 /\ r = 0 /\ wt = 0 /\ g = 0 /\ len = 0))) /\ Below w.heap.size w w' := by
 go_enter Tryz.func64,Tryz.ntmps64
 go_wp2
 all_goals
  go_ret
  refine ⟨ret_bool8 ?_,by go_grown⟩
  first | rfl | (simp_all; done) | (simp_all; exact len_zero _)
set_option maxHeartbeats 4000000 in
set_option maxRecDepth 60000 in
theorem mayBe_7 (id z r wt g : Int) (a : Option Addr) (len cap : Nat) (w : World) : Calls Tryz.prog 64 #[.agg #[.int .i64 7,.int .i64 id,.int .i64 z,.int .i64 r,.int .i64 wt,.int .i64 g,.slice a len cap]] w fun e w' => e = .returned (.bool (decide (z = 0 /\ r = 0 /\ wt = 0 /\ g = 0 /\ len = 0))) /\ Below w.heap.size w w' := by
 go_enter Tryz.func64,Tryz.ntmps64
 go_wp2
 all_goals
  go_ret
  refine ⟨ret_bool8 ?_,by go_grown⟩
  first | rfl | (simp_all; done) | (simp_all; exact len_zero _)
set_option maxHeartbeats 4000000 in
set_option maxRecDepth 60000 in
theorem mayBe_8 (id z r wt g : Int) (a : Option Addr) (len cap : Nat) (w : World) : Calls Tryz.prog 64 #[.agg #[.int .i64 8,.int .i64 id,.int .i64 z,.int .i64 r,.int .i64 wt,.int .i64 g,.slice a len cap]] w fun e w' => e = .returned (.bool (decide (id = 0 /\ z = 0 /\ r = 0 /\ wt = 0))) /\ Below w.heap.size w w' := by
 go_enter Tryz.func64,Tryz.ntmps64
 go_wp2
 all_goals
  go_ret
  refine ⟨ret_bool8 ?_,by go_grown⟩
  first | rfl | (simp_all; done) | (simp_all; exact len_zero _)
set_option maxHeartbeats 4000000 in
set_option maxRecDepth 60000 in
theorem mayBe_9 (id z r wt g : Int) (a : Option Addr) (len cap : Nat) (w : World) : Calls Tryz.prog 64 #[.agg #[.int .i64 9,.int .i64 id,.int .i64 z,.int .i64 r,.int .i64 wt,.int .i64 g,.slice a len cap]] w fun e w' => e = .returned (.bool (decide (id = 0 /\ z = 0 /\ r = 0 /\ wt = 0 /\ g = 0 /\ len = 0))) /\ Below w.heap.size w w' := by
 go_enter Tryz.func64,Tryz.ntmps64
 go_wp2
 all_goals
  go_ret
  refine ⟨ret_bool8 ?_,by go_grown⟩
  first | rfl | (simp_all; done) | (simp_all; exact len_zero _)
set_option maxHeartbeats 4000000 in
set_option maxRecDepth 60000 in
theorem mayBe_10 (id z r wt g : Int) (a : Option Addr) (len cap : Nat) (w : World) : Calls Tryz.prog 64 #[.agg #[.int .i64 10,.int .i64 id,.int .i64 z,.int .i64 r,.int .i64 wt,.int .i64 g,.slice a len cap]] w fun e w' => e = .returned (.bool (decide (id = 0 /\ z = 0 /\ r = 0 /\ len = 0))) /\ Below w.heap.size w w' := by
 go_enter Tryz.func64,Tryz.ntmps64
 go_wp2
 all_goals
  go_ret
  refine ⟨ret_bool8 ?_,by go_grown⟩
  first | rfl | (simp_all; done) | (simp_all; exact len_zero _)
set_option maxHeartbeats 4000000 in
set_option maxRecDepth 60000 in
theorem mayBe_else (k id z r wt g : Int) (hk : k < 1 ∨ 10 < k) (a : Option Addr) (len cap : Nat) (w : World) : Calls Tryz.prog 64 #[.agg #[.int .i64 k,.int .i64 id,.int .i64 z,.int .i64 r,.int .i64 wt,.int .i64 g,.slice a len cap]] w fun e w' => e = .returned (.bool false) /\ Below w.heap.size w w' := by
 have h1 : (k == 1) = false := by simp; omega
 have h2 : (k == 2) = false := by simp; omega
 have h3 : (k == 3) = false := by simp; omega
 have h4 : (k == 4) = false := by simp; omega
 have h5 : (k == 5) = false := by simp; omega
 have h6 : (k == 6) = false := by simp; omega
 have h7 : (k == 7) = false := by simp; omega
 have h8 : (k == 8) = false := by simp; omega
 have h9 : (k == 9) = false := by simp; omega
 have h10 : (k == 10) = false := by simp; omega
 go_enter Tryz.func64,Tryz.ntmps64
 go_wp2
 go_ret
 exact ⟨rfl,by go_grown⟩
end Go.Proofs.YtcncbjknfcjnmaaGreat.Tp
