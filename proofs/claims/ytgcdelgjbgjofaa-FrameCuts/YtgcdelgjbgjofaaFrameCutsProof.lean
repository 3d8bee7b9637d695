/-
  Proved: for all lists of data and all cuts FrameCuts(l, cut) returns true, and they read as before; no condition.
-/
import Derived.Test.YtgcdelgjbgjofaaRows
import Derived.Test.YtgcdelgjbgjofaaPlain
import Derived.Test.YtgcdelgjbgjofaaSums
import Derived.Test.YtgcdelgjbgjofaaA
import Derived.Test.YtgcdelgjbgjofaaB
import Derived.Test.YtgcdelgjbgjofaaC
import Derived.Test.YtgcdelgjbgjofaaD
import Derived.Test.YtgcdelgjbgjofaaE
import Derived.Test.YtgcdelgjbgjofaaLeads
import Derived.Test.YtgcdelgjbgjofaaG
import Derived.Test.YtgcdelgjbgjofaaH
import Derived.Test.YtgcdelgjbgjofaaI
import Derived.Test.YtgcdelgjbgjofaaJ
import Derived.Test.YtgcdelgjbgjofaaK
import Derived.Test.YtgcdelgjbgjofaaM
import Derived.Test.YtgcdelgjbgjofaaNn
import Derived.Test.YtgcdelgjbgjofaaO
import Derived.Test.YtgcdelgjbgjofaaOp
import Derived.Test.YtgcdelgjbgjofaaQ
import Derived.Test.YtgcdelgjbgjofaaR0
import Derived.Test.YtgcdelgjbgjofaaR
import Derived.Test.YtgcdelgjbgjofaaS
import Derived.Test.YtgcdelgjbgjofaaT
import Derived.Test.YtgcdelgjbgjofaaU
import Derived.Test.YtgcdelgjbgjofaaV
import Derived.Test.YtgcdelgjbgjofaaK2
import Derived.Test.YtgcdelgjbgjofaaU2
import Derived.Test.YtgcdelgjbgjofaaR2
import Derived.Test.YtgcdelgjbgjofaaRw
import Derived.Test.YtgcdelgjbgjofaaRx
import Derived.Test.YtgcdelgjbgjofaaLs
import Derived.Test.YtgcdelgjbgjofaaRf
import Derived.Test.YtgcdelgjbgjofaaCu
import Derived.Test.YtgcdelgjbgjofaaCv
import Derived.Test.YtgcdelgjbgjofaaCw
import Derived.WalkKit
import Derived.ProofKit
import Derived.OpenShut
import Derived.ShutString
import Derived.ChangeOld
import Derived.Below
namespace Go.Proofs.Ytgcdelgjbgjofaa
open Go.ChangeShapes Go.WideShapes Go.ChangeAt Go.RowKit
open Go.ChangeMaps (open_string shut_string)
set_option linter.unusedVariables false

theorem frameCuts_own : ownKnob Try.prog.godebug = none := by kernel_rfl
theorem frameCuts_laidOut : laidOutB Try.prog = true := by kernel_rfl

theorem frameCuts_walk (a0 : Option Addr) (len0 cap0 : Nat) (z0 : List Dat) (a1 : Int) (w : World) (w0 : DRow w a0 len0 cap0 z0) (w1 : (Lit.int .u16 a1).wf = true) :
    Calls Try.prog 7 #[.slice a0 len0 cap0, .int .u16 a1] w fun e w' => e = .returned (.bool true) ∧ Below w.heap.size w w' := by
  have hb1 := bounds_u16 w1
  obtain ⟨x, rfl⟩ : ∃ x : Nat, a1 = x := ⟨a1.toNat, by omega⟩
  exact (frameCuts_any a0 len0 cap0 z0 x w w0 (by omega)).mono fun e w' h => h

set_option maxRecDepth 100000 in
theorem frameCuts_lifted (os : Os) (started : os.Started) (H : Type) (enc : TypeId × Value → H) :
    ReturnsInHanded {} Try.checked os 7 .any (Rows.frameCutsSpec.pre6 enc Try.prog Try.f7 Rows.frameCutsRow.domain false) (Rows.frameCutsSpec.post enc Try.prog Try.f7 false true false false) := by
  refine returnsInHanded_of_change (C := Try.checked) frameCuts_own started (by kernel_rfl) Try.func7
    (ChangeSpec.witness6 (enc := enc) (C := Try.checked) false ⟨#[], #[.slice none 0 0, .int .u16 0], []⟩ 8 (by kernel_rfl) (by kernel_rfl) (by kernel_rfl) (by kernel_rfl)) ?_
  intro W base args ds gs before hval0 hW hcnd _
  have hval : ∀ (j : Nat) t v, Try.f7.params[j]? = some t → args[j]? = some v → Value.okWide Try.prog W .any base t v := hval0
  have hW' := hW
  obtain ⟨p, q, hA0, hV, rfl, hfz, hnd⟩ := hW
  have hA : DataW.TrodAll enc Try.prog W 0 (fun _ => true) true Try.f7.params.toList args.toList ds p := hA0
  rw [Try.params7] at hA hval
  obtain ⟨v0, vs0, d0, ds0, p0, q0, hargs, rfl, rfl, h0, r0⟩ := trodAll_cons hA
  obtain ⟨v1, vs1, d1, ds1, p1, q1, rfl, rfl, rfl, h1, r1⟩ := trodAll_cons r0
  obtain ⟨rfl, rfl, rfl⟩ := trodAll_nil r1
  obtain rfl : args = #[v0, v1] := by cases args; simp_all
  obtain ⟨rfl, rfl⟩ := trodVars_none hV
  have k0 := h0
  have lt0 : ∀ x ∈ p0, x.block < W.heap.size := by obtain ⟨m, hm⟩ := k0; exact DataW.trod_lt m _ _ _ hm
  have k1 := h1
  have lt1 : ∀ x ∈ p1, x.block < W.heap.size := by obtain ⟨m, hm⟩ := k1; exact DataW.trod_lt m _ _ _ hm
  obtain ⟨a0, len0, cap0, z0, rfl, w0⟩ := open_datasv (hval 0 44 v0 rfl rfl) h0
  obtain ⟨a1, rfl, rfl, rfl, w1⟩ := open_int Try.underlying48 (hval 1 48 v1 rfl rfl) h1
  clear hA0 hval0
  refine (frameCuts_walk a0 len0 cap0 z0 a1 W w0 w1).mono fun e W' ⟨he, bel⟩ => ?_
  subst he
  exact ⟨_, rfl, _, _, _, [], _, [], hW', trodAll_mk1 (shut_bool Try.underlying4 _), (trodAll_cons_mk (Below.trod frameCuts_laidOut (by kernel_rfl) (of_decide_eq_true (by kernel_rfl)) k0 bel lt0) (trodAll_cons_mk (Below.trod frameCuts_laidOut (by kernel_rfl) (of_decide_eq_true (by kernel_rfl)) k1 bel lt1) trodAll_mk0)), rfl, bel.frame _, fun h => by cases h⟩

theorem frameCuts_over : Rows.frameCutsRow.holds Try.pinned (OpenSpec.ofChange Rows.frameCutsSpec) :=
  OpenClaim.holds_of_wide 7 Try.f7 rfl rfl rfl rfl rfl rfl rfl ⟨rfl, rfl, rfl, rfl, rfl⟩ rfl rfl rfl rfl rfl (by kernel_rfl) Try.func7 (by kernel_rfl)
    (of_decide_eq_true (by kernel_rfl)) (by unfold Func.isWrapper; first | (rw [if_pos (by decide +kernel)]; kernel_rfl) | (rw [if_neg (by decide +kernel)]; exact ⟨rfl, rfl⟩))
    (fun os started H enc _ => frameCuts_lifted os started H enc)

theorem frameCuts_holds : Rows.FrameCutsSaid := frameCuts_over
#print axioms frameCuts_holds
end Go.Proofs.Ytgcdelgjbgjofaa
