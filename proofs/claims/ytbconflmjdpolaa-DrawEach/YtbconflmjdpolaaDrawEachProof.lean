/-
  Proved: for every key and every list of choices DrawEach(key, l) returns true, and both read as before; no condition.
-/
import Derived.Test.YtbconflmjdpolaaRows
import Derived.Test.YtbconflmjdpolaaA
import Derived.Test.YtbconflmjdpolaaB
import Derived.Test.YtbconflmjdpolaaC
import Derived.Test.YtbconflmjdpolaaD
import Derived.Test.YtbconflmjdpolaaPl
import Derived.Test.YtbconflmjdpolaaE
import Derived.Test.YtbconflmjdpolaaF
import Derived.Test.YtbconflmjdpolaaG
import Derived.Test.YtbconflmjdpolaaH
import Derived.Test.YtbconflmjdpolaaI
import Derived.Test.YtbconflmjdpolaaJ
import Derived.Test.YtbconflmjdpolaaK
import Derived.Test.YtbconflmjdpolaaLay
import Derived.Test.YtbconflmjdpolaaL
import Derived.Test.YtbconflmjdpolaaM
import Derived.Test.YtbconflmjdpolaaN
import Derived.Test.YtbconflmjdpolaaO
import Derived.Test.YtbconflmjdpolaaP
import Derived.Test.YtbconflmjdpolaaQ
import Derived.Test.YtbconflmjdpolaaR
import Derived.Test.YtbconflmjdpolaaS
import Derived.Test.YtbconflmjdpolaaW
import Derived.Test.YtbconflmjdpolaaX
import Derived.Test.YtbconflmjdpolaaOp
import Derived.WalkKit
import Derived.ProofKit
import Derived.OpenShut
import Derived.ShutString
import Derived.ChangeOld
import Derived.Below
namespace Go.Proofs.Ytbconflmjdpolaa
open Go.ChangeShapes Go.WideShapes Go.ChangeAt Go.RowKit
open Go.ChangeMaps (open_string shut_string)
set_option linter.unusedVariables false

theorem drawEach_own : ownKnob Try.prog.godebug = none := by kernel_rfl
theorem drawEach_laidOut : laidOutB Try.prog = true := by kernel_rfl

theorem drawEach_walk (a0 : Int) (a1 : Option Addr) (len1 cap1 : Nat) (z1 : List Ch) (w : World) (w0 : (Lit.int .u64 a0).wf = true) (w1 : ChsAt w a1 len1 cap1 z1) :
    Calls Try.prog 6 #[.int .u64 a0, .slice a1 len1 cap1] w fun e w' => e = .returned (.bool true) ∧ Below w.heap.size w w' := by
  obtain ⟨k0, rfl⟩ : ∃ k : Nat, a0 = k := ⟨a0.toNat, by have := bounds_u64 w0; omega⟩
  have hk : k0 < 18446744073709551616 := by have := bounds_u64 w0; omega
  exact drawEach_any k0 a1 len1 cap1 z1 w hk w1

set_option maxRecDepth 100000 in
theorem drawEach_lifted (os : Os) (started : os.Started) (H : Type) (enc : TypeId × Value → H) :
    ReturnsInHanded {} Try.checked os 6 .any (Rows.drawEachSpec.pre6 enc Try.prog Try.f6 Rows.drawEachRow.domain false) (Rows.drawEachSpec.post enc Try.prog Try.f6 false true false false) := by
  refine returnsInHanded_of_change (C := Try.checked) drawEach_own started (by kernel_rfl) Try.func6
    (ChangeSpec.witness6 (enc := enc) (C := Try.checked) false ⟨#[], #[.int .u64 0, .slice none 0 0], []⟩ 8 (by kernel_rfl) (by kernel_rfl) (by kernel_rfl) (by kernel_rfl)) ?_
  intro W base args ds gs before hval0 hW hcnd _
  have hval : ∀ (j : Nat) t v, Try.f6.params[j]? = some t → args[j]? = some v → Value.okWide Try.prog W .any base t v := hval0
  have hW' := hW
  obtain ⟨p, q, hA0, hV, rfl, hfz, hnd⟩ := hW
  have hA : DataW.TrodAll enc Try.prog W 0 (fun _ => true) true Try.f6.params.toList args.toList ds p := hA0
  rw [Try.params6] at hA hval
  obtain ⟨v0, vs0, d0, ds0, p0, q0, hargs, rfl, rfl, h0, r0⟩ := trodAll_cons hA
  obtain ⟨v1, vs1, d1, ds1, p1, q1, rfl, rfl, rfl, h1, r1⟩ := trodAll_cons r0
  obtain ⟨rfl, rfl, rfl⟩ := trodAll_nil r1
  obtain rfl : args = #[v0, v1] := by cases args; simp_all
  obtain ⟨rfl, rfl⟩ := trodVars_none hV
  have k0 := h0
  have lt0 : ∀ x ∈ p0, x.block < W.heap.size := by obtain ⟨m, hm⟩ := k0; exact DataW.trod_lt m _ _ _ hm
  have k1 := h1
  have lt1 : ∀ x ∈ p1, x.block < W.heap.size := by obtain ⟨m, hm⟩ := k1; exact DataW.trod_lt m _ _ _ hm
  obtain ⟨a0, rfl, rfl, rfl, w0⟩ := open_int Try.underlying22 (hval 0 22 v0 rfl rfl) h0
  obtain ⟨a1, len1, cap1, z1, rfl, w1⟩ := open_choicesv (hval 1 23 v1 rfl rfl) h1
  clear hA0 hval0
  refine (drawEach_walk a0 a1 len1 cap1 z1 W w0 w1).mono fun e W' ⟨he, bel⟩ => ?_
  subst he
  exact ⟨_, rfl, _, _, _, [], _, [], hW', trodAll_mk1 (shut_bool Try.underlying4 _), (trodAll_cons_mk (Below.trod drawEach_laidOut (by kernel_rfl) (of_decide_eq_true (by kernel_rfl)) k0 bel lt0) (trodAll_cons_mk (Below.trod drawEach_laidOut (by kernel_rfl) (of_decide_eq_true (by kernel_rfl)) k1 bel lt1) trodAll_mk0)), rfl, bel.frame _, fun h => by cases h⟩

theorem drawEach_over : Rows.drawEachRow.holds Try.pinned (OpenSpec.ofChange Rows.drawEachSpec) :=
  OpenClaim.holds_of_wide 6 Try.f6 rfl rfl rfl rfl rfl rfl rfl ⟨rfl, rfl, rfl, rfl, rfl⟩ rfl rfl rfl rfl rfl (by kernel_rfl) Try.func6 (by kernel_rfl)
    (of_decide_eq_true (by kernel_rfl)) (by unfold Func.isWrapper; first | (rw [if_pos (by decide +kernel)]; kernel_rfl) | (rw [if_neg (by decide +kernel)]; exact ⟨rfl, rfl⟩))
    (fun os started H enc _ => drawEach_lifted os started H enc)

theorem drawEach_holds : Rows.DrawEachSaid := drawEach_over
#print axioms drawEach_holds
end Go.Proofs.Ytbconflmjdpolaa
