/-
  Proved: for every list of nodes, every group and every uint8 PlaceMoves(l, group, out) returns true, and all read as before; no condition.
-/
import Derived.Test.YtmifdjkaclgibaaRows
import Derived.Test.YtmifdjkaclgibaaDrA
import Derived.Test.YtmifdjkaclgibaaDrB
import Derived.Test.YtmifdjkaclgibaaDrC
import Derived.Test.YtmifdjkaclgibaaDrD
import Derived.Test.YtmifdjkaclgibaaDrPl
import Derived.Test.YtmifdjkaclgibaaDrE
import Derived.Test.YtmifdjkaclgibaaDrG
import Derived.Test.YtmifdjkaclgibaaDrH
import Derived.Test.YtmifdjkaclgibaaDrI
import Derived.Test.YtmifdjkaclgibaaDrJ
import Derived.Test.YtmifdjkaclgibaaDrK
import Derived.Test.YtmifdjkaclgibaaDrLay
import Derived.Test.YtmifdjkaclgibaaDrL
import Derived.Test.YtmifdjkaclgibaaDrM
import Derived.Test.YtmifdjkaclgibaaDrN
import Derived.Test.YtmifdjkaclgibaaTpA
import Derived.Test.YtmifdjkaclgibaaTpB
import Derived.Test.YtmifdjkaclgibaaTpC
import Derived.Test.YtmifdjkaclgibaaTpD
import Derived.Test.YtmifdjkaclgibaaTpE
import Derived.Test.YtmifdjkaclgibaaTpLay
import Derived.Test.YtmifdjkaclgibaaTpG
import Derived.Test.YtmifdjkaclgibaaTpR
import Derived.Test.YtmifdjkaclgibaaTpH
import Derived.Test.YtmifdjkaclgibaaTpP
import Derived.Test.YtmifdjkaclgibaaTpI
import Derived.Test.YtmifdjkaclgibaaTpIz
import Derived.Test.YtmifdjkaclgibaaTpIl
import Derived.Test.YtmifdjkaclgibaaTpIr
import Derived.Test.YtmifdjkaclgibaaTpJ
import Derived.Test.YtmifdjkaclgibaaTpK
import Derived.Test.YtmifdjkaclgibaaTpQ
import Derived.Test.YtmifdjkaclgibaaTpF
import Derived.Test.YtmifdjkaclgibaaTpOp
import Derived.Test.YtmifdjkaclgibaaPp
import Derived.Test.YtmifdjkaclgibaaPq
import Derived.Test.YtmifdjkaclgibaaPt
import Derived.Test.YtmifdjkaclgibaaPb
import Derived.Test.YtmifdjkaclgibaaPc
import Derived.Test.YtmifdjkaclgibaaPd
import Derived.Test.YtmifdjkaclgibaaPe
import Derived.Test.YtmifdjkaclgibaaPf
import Derived.WalkKit
import Derived.ProofKit
import Derived.OpenShut
import Derived.ShutString
import Derived.ChangeOld
import Derived.Below
namespace Go.Proofs.Ytmifdjkaclgibaa
open Go.ChangeShapes Go.WideShapes Go.ChangeAt Go.RowKit
open Go.ChangeMaps (open_string shut_string)
set_option linter.unusedVariables false

theorem placeMoves_own : ownKnob Try.prog.godebug = none := by kernel_rfl
theorem placeMoves_laidOut : laidOutB Try.prog = true := by kernel_rfl

theorem placeMoves_walk (a0 : Option Addr) (len0 cap0 : Nat) (z0 : List Tp.Nd) (a1 : Int) (a2 : Int) (w : World) (w0 : Tp.NdsAt w a0 len0 cap0 z0) (w1 : (Lit.int .i64 a1).wf = true) (w2 : (Lit.int .u8 a2).wf = true) :
    Calls Try.prog 5 #[.slice a0 len0 cap0, .int .i64 a1, .int .u8 a2] w fun e w' => e = .returned (.bool true) ∧ Below w.heap.size w w' := by
  exact Tp.placeMoves_any a0 len0 cap0 z0 a1 a2 w w0 w2

set_option maxRecDepth 100000 in
theorem placeMoves_lifted (os : Os) (started : os.Started) (H : Type) (enc : TypeId × Value → H) :
    ReturnsInHanded {} Try.checked os 5 .any (Rows.placeMovesSpec.pre6 enc Try.prog Try.f5 Rows.placeMovesRow.domain false) (Rows.placeMovesSpec.post enc Try.prog Try.f5 false true false false) := by
  refine returnsInHanded_of_change (C := Try.checked) placeMoves_own started (by kernel_rfl) Try.func5
    (ChangeSpec.witness6 (enc := enc) (C := Try.checked) false ⟨#[], #[.slice none 0 0, .int .i64 0, .int .u8 0], []⟩ 8 (by kernel_rfl) (by kernel_rfl) (by kernel_rfl) (by kernel_rfl)) ?_
  intro W base args ds gs before hval0 hW hcnd _
  have hval : ∀ (j : Nat) t v, Try.f5.params[j]? = some t → args[j]? = some v → Value.okWide Try.prog W .any base t v := hval0
  have hW' := hW
  obtain ⟨p, q, hA0, hV, rfl, hfz, hnd⟩ := hW
  have hA : DataW.TrodAll enc Try.prog W 0 (fun _ => true) true Try.f5.params.toList args.toList ds p := hA0
  rw [Try.params5] at hA hval
  obtain ⟨v0, vs0, d0, ds0, p0, q0, hargs, rfl, rfl, h0, r0⟩ := trodAll_cons hA
  obtain ⟨v1, vs1, d1, ds1, p1, q1, rfl, rfl, rfl, h1, r1⟩ := trodAll_cons r0
  obtain ⟨v2, vs2, d2, ds2, p2, q2, rfl, rfl, rfl, h2, r2⟩ := trodAll_cons r1
  obtain ⟨rfl, rfl, rfl⟩ := trodAll_nil r2
  obtain rfl : args = #[v0, v1, v2] := by cases args; simp_all
  obtain ⟨rfl, rfl⟩ := trodVars_none hV
  have k0 := h0
  have lt0 : ∀ x ∈ p0, x.block < W.heap.size := by obtain ⟨m, hm⟩ := k0; exact DataW.trod_lt m _ _ _ hm
  have k1 := h1
  have lt1 : ∀ x ∈ p1, x.block < W.heap.size := by obtain ⟨m, hm⟩ := k1; exact DataW.trod_lt m _ _ _ hm
  have k2 := h2
  have lt2 : ∀ x ∈ p2, x.block < W.heap.size := by obtain ⟨m, hm⟩ := k2; exact DataW.trod_lt m _ _ _ hm
  obtain ⟨a0, len0, cap0, z0, rfl, w0⟩ := Tp.open_nodesv (hval 0 30 v0 rfl rfl) h0
  obtain ⟨a1, rfl, rfl, rfl, w1⟩ := open_int Try.underlying3 (hval 1 3 v1 rfl rfl) h1
  obtain ⟨a2, rfl, rfl, rfl, w2⟩ := open_int Try.underlying5 (hval 2 5 v2 rfl rfl) h2
  clear hA0 hval0
  refine (placeMoves_walk a0 len0 cap0 z0 a1 a2 W w0 w1 w2).mono fun e W' ⟨he, bel⟩ => ?_
  subst he
  exact ⟨_, rfl, _, _, _, [], _, [], hW', trodAll_mk1 (shut_bool Try.underlying4 _), (trodAll_cons_mk (Below.trod placeMoves_laidOut (by kernel_rfl) (of_decide_eq_true (by kernel_rfl)) k0 bel lt0) (trodAll_cons_mk (Below.trod placeMoves_laidOut (by kernel_rfl) (of_decide_eq_true (by kernel_rfl)) k1 bel lt1) (trodAll_cons_mk (Below.trod placeMoves_laidOut (by kernel_rfl) (of_decide_eq_true (by kernel_rfl)) k2 bel lt2) trodAll_mk0))), rfl, bel.frame _, fun h => by cases h⟩

theorem placeMoves_over : Rows.placeMovesRow.holds Try.pinned (OpenSpec.ofChange Rows.placeMovesSpec) :=
  OpenClaim.holds_of_wide 5 Try.f5 rfl rfl rfl rfl rfl rfl rfl ⟨rfl, rfl, rfl, rfl, rfl⟩ rfl rfl rfl rfl rfl (by kernel_rfl) Try.func5 (by kernel_rfl)
    (of_decide_eq_true (by kernel_rfl)) (by unfold Func.isWrapper; first | (rw [if_pos (by decide +kernel)]; kernel_rfl) | (rw [if_neg (by decide +kernel)]; exact ⟨rfl, rfl⟩))
    (fun os started H enc _ => placeMoves_lifted os started H enc)

theorem placeMoves_holds : Rows.PlaceMovesSaid := placeMoves_over
#print axioms placeMoves_holds
end Go.Proofs.Ytmifdjkaclgibaa
