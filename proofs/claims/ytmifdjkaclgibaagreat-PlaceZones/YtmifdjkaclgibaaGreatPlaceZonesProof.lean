/-
  Proved: for every list of nodes, every group and every size PlaceZones(l, group, size) returns true, and all read as before; no condition.
-/
import Derived.Test.YtmifdjkaclgibaaGreatRows
import Derived.Test.YtmifdjkaclgibaaGreatDrA
import Derived.Test.YtmifdjkaclgibaaGreatDrB
import Derived.Test.YtmifdjkaclgibaaGreatDrC
import Derived.Test.YtmifdjkaclgibaaGreatDrD
import Derived.Test.YtmifdjkaclgibaaGreatDrPl
import Derived.Test.YtmifdjkaclgibaaGreatDrE
import Derived.Test.YtmifdjkaclgibaaGreatDrG
import Derived.Test.YtmifdjkaclgibaaGreatDrH
import Derived.Test.YtmifdjkaclgibaaGreatDrI
import Derived.Test.YtmifdjkaclgibaaGreatDrJ
import Derived.Test.YtmifdjkaclgibaaGreatDrK
import Derived.Test.YtmifdjkaclgibaaGreatDrLay
import Derived.Test.YtmifdjkaclgibaaGreatDrL
import Derived.Test.YtmifdjkaclgibaaGreatDrM
import Derived.Test.YtmifdjkaclgibaaGreatDrN
import Derived.Test.YtmifdjkaclgibaaGreatTpA
import Derived.Test.YtmifdjkaclgibaaGreatTpB
import Derived.Test.YtmifdjkaclgibaaGreatTpC
import Derived.Test.YtmifdjkaclgibaaGreatTpD
import Derived.Test.YtmifdjkaclgibaaGreatTpE
import Derived.Test.YtmifdjkaclgibaaGreatTpLay
import Derived.Test.YtmifdjkaclgibaaGreatTpG
import Derived.Test.YtmifdjkaclgibaaGreatTpR
import Derived.Test.YtmifdjkaclgibaaGreatTpH
import Derived.Test.YtmifdjkaclgibaaGreatTpP
import Derived.Test.YtmifdjkaclgibaaGreatTpI
import Derived.Test.YtmifdjkaclgibaaGreatTpIz
import Derived.Test.YtmifdjkaclgibaaGreatTpIl
import Derived.Test.YtmifdjkaclgibaaGreatTpIr
import Derived.Test.YtmifdjkaclgibaaGreatTpJ
import Derived.Test.YtmifdjkaclgibaaGreatTpK
import Derived.Test.YtmifdjkaclgibaaGreatTpQ
import Derived.Test.YtmifdjkaclgibaaGreatTpF
import Derived.Test.YtmifdjkaclgibaaGreatTpOp
import Derived.Test.YtmifdjkaclgibaaGreatDrO
import Derived.Test.YtmifdjkaclgibaaGreatDrP
import Derived.Test.YtmifdjkaclgibaaGreatDrQ
import Derived.Test.YtmifdjkaclgibaaGreatDrR
import Derived.Test.YtmifdjkaclgibaaGreatPp
import Derived.Test.YtmifdjkaclgibaaGreatPq
import Derived.Test.YtmifdjkaclgibaaGreatPb
import Derived.Test.YtmifdjkaclgibaaGreatPc
import Derived.Test.YtmifdjkaclgibaaGreatPd
import Derived.Test.YtmifdjkaclgibaaGreatPe
import Derived.Test.YtmifdjkaclgibaaGreatPg
import Derived.Test.YtmifdjkaclgibaaGreatPh
import Derived.Test.YtmifdjkaclgibaaGreatPi
import Derived.Test.YtmifdjkaclgibaaGreatPj
import Derived.Test.YtmifdjkaclgibaaGreatPk
import Derived.Test.YtmifdjkaclgibaaGreatPu
import Derived.Test.YtmifdjkaclgibaaGreatPm
import Derived.WalkKit
import Derived.ProofKit
import Derived.OpenShut
import Derived.ShutString
import Derived.ChangeOld
import Derived.Below
namespace Go.Proofs.YtmifdjkaclgibaaGreat
open Go.ChangeShapes Go.WideShapes Go.ChangeAt Go.RowKit
open Go.ChangeMaps (open_string shut_string)
set_option linter.unusedVariables false

theorem placeZones_own : ownKnob Tryz.prog.godebug = none := by kernel_rfl
theorem placeZones_laidOut : laidOutB Tryz.prog = true := by kernel_rfl

theorem placeZones_walk (a0 : Option Addr) (len0 cap0 : Nat) (z0 : List Tp.Nd) (a1 : Int) (a2 : Int) (w : World) (w0 : Tp.NdsAt w a0 len0 cap0 z0) (w1 : (Lit.int .i64 a1).wf = true) (w2 : (Lit.int .i64 a2).wf = true) :
    Calls Tryz.prog 3 #[.slice a0 len0 cap0, .int .i64 a1, .int .i64 a2] w fun e w' => e = .returned (.bool true) ∧ Below w.heap.size w w' := by
  exact Tp.placeZones_any a0 len0 cap0 z0 a1 a2 w w0

set_option maxRecDepth 100000 in
theorem placeZones_lifted (os : Os) (started : os.Started) (H : Type) (enc : TypeId × Value → H) :
    ReturnsInHanded {} Tryz.checked os 3 .any (Rows.placeZonesSpec.pre6 enc Tryz.prog Tryz.f3 Rows.placeZonesRow.domain false) (Rows.placeZonesSpec.post enc Tryz.prog Tryz.f3 false true false false) := by
  refine returnsInHanded_of_change (C := Tryz.checked) placeZones_own started (by kernel_rfl) Tryz.func3
    (ChangeSpec.witness6 (enc := enc) (C := Tryz.checked) false ⟨#[], #[.slice none 0 0, .int .i64 0, .int .i64 0], []⟩ 8 (by kernel_rfl) (by kernel_rfl) (by kernel_rfl) (by kernel_rfl)) ?_
  intro W base args ds gs before hval0 hW hcnd _
  have hval : ∀ (j : Nat) t v, Tryz.f3.params[j]? = some t → args[j]? = some v → Value.okWide Tryz.prog W .any base t v := hval0
  have hW' := hW
  obtain ⟨p, q, hA0, hV, rfl, hfz, hnd⟩ := hW
  have hA : DataW.TrodAll enc Tryz.prog W 0 (fun _ => true) true Tryz.f3.params.toList args.toList ds p := hA0
  rw [Tryz.params3] at hA hval
  obtain ⟨v0, vs0, d0, ds0, p0, q0, hargs, rfl, rfl, h0, r0⟩ := trodAll_cons hA
  obtain ⟨v1, vs1, d1, ds1, p1, q1, rfl, rfl, rfl, h1, r1⟩ := trodAll_cons r0
  obtain ⟨v2, vs2, d2, ds2, p2, q2, rfl, rfl, rfl, h2, r2⟩ := trodAll_cons r1
  obtain ⟨rfl, rfl, rfl⟩ := trodAll_nil r2
  obtain rfl : args = #[v0, v1, v2] := by cases args; simp_all
  obtain ⟨rfl, rfl⟩ := trodVars_none hV
  have k0 := h0
  have lt0 : ∀ x ∈ p0, x.block < W.heap.size := by obtain ⟨m, hm⟩ := k0; exact DataW.trod_lt m _ _ _ hm
  have k1 := h1
  have lt1 : ∀ x ∈ p1, x.block < W.heap.size := by obtain ⟨m, hm⟩ := k1; exact DataW.trod_lt m _ _ _ hm
  have k2 := h2
  have lt2 : ∀ x ∈ p2, x.block < W.heap.size := by obtain ⟨m, hm⟩ := k2; exact DataW.trod_lt m _ _ _ hm
  obtain ⟨a0, len0, cap0, z0, rfl, w0⟩ := Tp.open_nodesv (hval 0 22 v0 rfl rfl) h0
  obtain ⟨a1, rfl, rfl, rfl, w1⟩ := open_int Tryz.underlying3 (hval 1 3 v1 rfl rfl) h1
  obtain ⟨a2, rfl, rfl, rfl, w2⟩ := open_int Tryz.underlying3 (hval 2 3 v2 rfl rfl) h2
  clear hA0 hval0
  refine (placeZones_walk a0 len0 cap0 z0 a1 a2 W w0 w1 w2).mono fun e W' ⟨he, bel⟩ => ?_
  subst he
  exact ⟨_, rfl, _, _, _, [], _, [], hW', trodAll_mk1 (shut_bool Tryz.underlying4 _), (trodAll_cons_mk (Below.trod placeZones_laidOut (by kernel_rfl) (of_decide_eq_true (by kernel_rfl)) k0 bel lt0) (trodAll_cons_mk (Below.trod placeZones_laidOut (by kernel_rfl) (of_decide_eq_true (by kernel_rfl)) k1 bel lt1) (trodAll_cons_mk (Below.trod placeZones_laidOut (by kernel_rfl) (of_decide_eq_true (by kernel_rfl)) k2 bel lt2) trodAll_mk0))), rfl, bel.frame _, fun h => by cases h⟩

theorem placeZones_over : Rows.placeZonesRow.holds Tryz.pinned (OpenSpec.ofChange Rows.placeZonesSpec) :=
  OpenClaim.holds_of_wide 3 Tryz.f3 rfl rfl rfl rfl rfl rfl rfl ⟨rfl, rfl, rfl, rfl, rfl⟩ rfl rfl rfl rfl rfl (by kernel_rfl) Tryz.func3 (by kernel_rfl)
    (of_decide_eq_true (by kernel_rfl)) (by unfold Func.isWrapper; first | (rw [if_pos (by decide +kernel)]; kernel_rfl) | (rw [if_neg (by decide +kernel)]; exact ⟨rfl, rfl⟩))
    (fun os started H enc _ => placeZones_lifted os started H enc)

theorem placeZones_holds : Rows.PlaceZonesSaid := placeZones_over
#print axioms placeZones_holds
end Go.Proofs.YtmifdjkaclgibaaGreat
