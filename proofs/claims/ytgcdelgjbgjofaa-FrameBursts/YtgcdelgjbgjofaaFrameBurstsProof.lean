/-
  Proved: for all data, places and patterns FrameBursts(d, at, pattern) returns true, and they read as before; no condition.
-/
import Derived.Test.YtgcdelgjbgjofaaRows
import Derived.Test.YtgcdelgjbgjofaaPlain
import Derived.Test.YtgcdelgjbgjofaaSums
import Derived.Test.YtgcdelgjbgjofaaA
import Derived.Test.YtgcdelgjbgjofaaB
import Derived.Test.YtgcdelgjbgjofaaC
import Derived.Test.YtgcdelgjbgjofaaD
import Derived.Test.YtgcdelgjbgjofaaE
import Derived.Test.YtgcdelgjbgjofaaLeads
import Derived.Test.YtgcdelgjbgjofaaG
import Derived.Test.YtgcdelgjbgjofaaH
import Derived.Test.YtgcdelgjbgjofaaI
import Derived.Test.YtgcdelgjbgjofaaJ
import Derived.Test.YtgcdelgjbgjofaaK
import Derived.Test.YtgcdelgjbgjofaaM
import Derived.Test.YtgcdelgjbgjofaaNn
import Derived.Test.YtgcdelgjbgjofaaO
import Derived.Test.YtgcdelgjbgjofaaOp
import Derived.Test.YtgcdelgjbgjofaaQ
import Derived.Test.YtgcdelgjbgjofaaR0
import Derived.Test.YtgcdelgjbgjofaaS
import Derived.Test.YtgcdelgjbgjofaaT
import Derived.Test.YtgcdelgjbgjofaaU
import Derived.Test.YtgcdelgjbgjofaaV
import Derived.Test.YtgcdelgjbgjofaaX
import Derived.Test.YtgcdelgjbgjofaaY
import Derived.Test.YtgcdelgjbgjofaaZ
import Derived.WalkKit
import Derived.ProofKit
import Derived.OpenShut
import Derived.ShutString
import Derived.ChangeOld
import Derived.Below
namespace Go.Proofs.Ytgcdelgjbgjofaa
open Go.ChangeShapes Go.WideShapes Go.ChangeAt Go.RowKit
open Go.ChangeMaps (open_string shut_string)
set_option linter.unusedVariables false

theorem frameBursts_own : ownKnob Try.prog.godebug = none := by kernel_rfl
theorem frameBursts_laidOut : laidOutB Try.prog = true := by kernel_rfl

theorem frameBursts_walk (a0 : Value) (z0 : List Int) (y0 : List ByteArray) (a1 : Int) (a2 : Int) (w : World) (w0 : DataAt w a0 z0 y0) (w1 : (Lit.int .u16 a1).wf = true) (w2 : (Lit.int .u32 a2).wf = true) :
    Calls Try.prog 8 #[a0, .int .u16 a1, .int .u32 a2] w fun e w' => e = .returned (.bool true) ∧ Below w.heap.size w w' := by
  have hb1 := bounds_u16 w1
  have hb2 := bounds_u32 w2
  obtain ⟨x, rfl⟩ : ∃ x : Nat, a1 = x := ⟨a1.toNat, by omega⟩
  obtain ⟨y, rfl⟩ : ∃ x : Nat, a2 = x := ⟨a2.toNat, by omega⟩
  exact (frameBursts_any a0 z0 y0 x y w w0 (by omega)).mono fun e w' h => h

set_option maxRecDepth 100000 in
theorem frameBursts_lifted (os : Os) (started : os.Started) (H : Type) (enc : TypeId × Value → H) :
    ReturnsInHanded {} Try.checked os 8 .any (Rows.frameBurstsSpec.pre6 enc Try.prog Try.f8 Rows.frameBurstsRow.domain false) (Rows.frameBurstsSpec.post enc Try.prog Try.f8 false true false false) := by
  refine returnsInHanded_of_change (C := Try.checked) frameBursts_own started (by kernel_rfl) Try.func8
    (ChangeSpec.witness6 (enc := enc) (C := Try.checked) false ⟨#[], #[.agg #[.slice none 0 0, .slice none 0 0], .int .u16 0, .int .u32 0], []⟩ 8 (by kernel_rfl) (by kernel_rfl) (by kernel_rfl) (by kernel_rfl)) ?_
  intro W base args ds gs before hval0 hW hcnd _
  have hval : ∀ (j : Nat) t v, Try.f8.params[j]? = some t → args[j]? = some v → Value.okWide Try.prog W .any base t v := hval0
  have hW' := hW
  obtain ⟨p, q, hA0, hV, rfl, hfz, hnd⟩ := hW
  have hA : DataW.TrodAll enc Try.prog W 0 (fun _ => true) true Try.f8.params.toList args.toList ds p := hA0
  rw [Try.params8] at hA hval
  obtain ⟨v0, vs0, d0, ds0, p0, q0, hargs, rfl, rfl, h0, r0⟩ := trodAll_cons hA
  obtain ⟨v1, vs1, d1, ds1, p1, q1, rfl, rfl, rfl, h1, r1⟩ := trodAll_cons r0
  obtain ⟨v2, vs2, d2, ds2, p2, q2, rfl, rfl, rfl, h2, r2⟩ := trodAll_cons r1
  obtain ⟨rfl, rfl, rfl⟩ := trodAll_nil r2
  obtain rfl : args = #[v0, v1, v2] := by cases args; simp_all
  obtain ⟨rfl, rfl⟩ := trodVars_none hV
  have k0 := h0
  have lt0 : ∀ x ∈ p0, x.block < W.heap.size := by obtain ⟨m, hm⟩ := k0; exact DataW.trod_lt m _ _ _ hm
  have k1 := h1
  have lt1 : ∀ x ∈ p1, x.block < W.heap.size := by obtain ⟨m, hm⟩ := k1; exact DataW.trod_lt m _ _ _ hm
  have k2 := h2
  have lt2 : ∀ x ∈ p2, x.block < W.heap.size := by obtain ⟨m, hm⟩ := k2; exact DataW.trod_lt m _ _ _ hm
  obtain ⟨z0, y0, w0⟩ := open_data (hval 0 29 v0 rfl rfl) h0
  obtain ⟨a1, rfl, rfl, rfl, w1⟩ := open_int Try.underlying48 (hval 1 48 v1 rfl rfl) h1
  obtain ⟨a2, rfl, rfl, rfl, w2⟩ := open_int Try.underlying34 (hval 2 34 v2 rfl rfl) h2
  clear hA0 hval0
  refine (frameBursts_walk v0 z0 y0 a1 a2 W w0 w1 w2).mono fun e W' ⟨he, bel⟩ => ?_
  subst he
  exact ⟨_, rfl, _, _, _, [], _, [], hW', trodAll_mk1 (shut_bool Try.underlying4 _), (trodAll_cons_mk (Below.trod frameBursts_laidOut (by kernel_rfl) (of_decide_eq_true (by kernel_rfl)) k0 bel lt0) (trodAll_cons_mk (Below.trod frameBursts_laidOut (by kernel_rfl) (of_decide_eq_true (by kernel_rfl)) k1 bel lt1) (trodAll_cons_mk (Below.trod frameBursts_laidOut (by kernel_rfl) (of_decide_eq_true (by kernel_rfl)) k2 bel lt2) trodAll_mk0))), rfl, bel.frame _, fun h => by cases h⟩

theorem frameBursts_over : Rows.frameBurstsRow.holds Try.pinned (OpenSpec.ofChange Rows.frameBurstsSpec) :=
  OpenClaim.holds_of_wide 8 Try.f8 rfl rfl rfl rfl rfl rfl rfl ⟨rfl, rfl, rfl, rfl, rfl⟩ rfl rfl rfl rfl rfl (by kernel_rfl) Try.func8 (by kernel_rfl)
    (of_decide_eq_true (by kernel_rfl)) (by unfold Func.isWrapper; first | (rw [if_pos (by decide +kernel)]; kernel_rfl) | (rw [if_neg (by decide +kernel)]; exact ⟨rfl, rfl⟩))
    (fun os started H enc _ => frameBursts_lifted os started H enc)

theorem frameBursts_holds : Rows.FrameBurstsSaid := frameBursts_over
#print axioms frameBursts_holds
end Go.Proofs.Ytgcdelgjbgjofaa
