/-
  Proved: for every series, name and value LabelWith(s, name, value) returns true, and they read as before; no condition.
-/
import Derived.Test.YtnjbpiekbekpeaaRows
import Derived.Test.YtnjbpiekbekpeaaA
import Derived.Test.YtnjbpiekbekpeaaLay
import Derived.Test.YtnjbpiekbekpeaaB
import Derived.Test.YtnjbpiekbekpeaaC
import Derived.Test.YtnjbpiekbekpeaaD
import Derived.Test.YtnjbpiekbekpeaaE
import Derived.Test.YtnjbpiekbekpeaaF
import Derived.Test.YtnjbpiekbekpeaaG
import Derived.Test.YtnjbpiekbekpeaaH
import Derived.Test.YtnjbpiekbekpeaaI
import Derived.Test.YtnjbpiekbekpeaaJ
import Derived.Test.YtnjbpiekbekpeaaK
import Derived.Test.YtnjbpiekbekpeaaL
import Derived.Test.YtnjbpiekbekpeaaM
import Derived.Test.YtnjbpiekbekpeaaN
import Derived.Test.YtnjbpiekbekpeaaOp
import Derived.Test.YtnjbpiekbekpeaaS
import Derived.Test.YtnjbpiekbekpeaaV
import Derived.Test.YtnjbpiekbekpeaaW
import Derived.Test.YtnjbpiekbekpeaaX
import Derived.Test.YtnjbpiekbekpeaaY
import Derived.WalkKit
import Derived.ProofKit
import Derived.OpenShut
import Derived.ShutString
import Derived.ChangeOld
import Derived.Below
namespace Go.Proofs.Ytnjbpiekbekpeaa
open Go.ChangeShapes Go.WideShapes Go.ChangeAt Go.RowKit
open Go.ChangeMaps (open_string shut_string)
set_option linter.unusedVariables false

theorem labelWith_own : ownKnob Try.prog.godebug = none := by kernel_rfl
theorem labelWith_laidOut : laidOutB Try.prog = true := by kernel_rfl

theorem labelWith_walk (a0 : Value) (z0 : ByteArray) (y0 : List Lab) (a1 : ByteArray) (a2 : ByteArray) (w : World) (w0 : SerAt w a0 z0 y0) (w1 : a1.size ≤ maxLen) (w2 : a2.size ≤ maxLen) :
    Calls Try.prog 6 #[a0, .string a1, .string a2] w fun e w' => e = .returned (.bool true) ∧ Below w.heap.size w w' := by
  exact labelWith_any a0 z0 y0 a1 a2 w w0 w1 w2

set_option maxRecDepth 100000 in
theorem labelWith_lifted (os : Os) (started : os.Started) (H : Type) (enc : TypeId × Value → H) :
    ReturnsInHanded {} Try.checked os 6 .any (Rows.labelWithSpec.pre6 enc Try.prog Try.f6 Rows.labelWithRow.domain false) (Rows.labelWithSpec.post enc Try.prog Try.f6 false true false false) := by
  refine returnsInHanded_of_change (C := Try.checked) labelWith_own started (by kernel_rfl) Try.func6
    (ChangeSpec.witness6 (enc := enc) (C := Try.checked) false ⟨#[], #[.agg #[.string ByteArray.empty, .slice none 0 0], .string ByteArray.empty, .string ByteArray.empty], []⟩ 8 (by kernel_rfl) (by kernel_rfl) (by kernel_rfl) (by kernel_rfl)) ?_
  intro W base args ds gs before hval0 hW hcnd _
  have hval : ∀ (j : Nat) t v, Try.f6.params[j]? = some t → args[j]? = some v → Value.okWide Try.prog W .any base t v := hval0
  have hW' := hW
  obtain ⟨p, q, hA0, hV, rfl, hfz, hnd⟩ := hW
  have hA : DataW.TrodAll enc Try.prog W 0 (fun _ => true) true Try.f6.params.toList args.toList ds p := hA0
  rw [Try.params6] at hA hval
  obtain ⟨v0, vs0, d0, ds0, p0, q0, hargs, rfl, rfl, h0, r0⟩ := trodAll_cons hA
  obtain ⟨v1, vs1, d1, ds1, p1, q1, rfl, rfl, rfl, h1, r1⟩ := trodAll_cons r0
  obtain ⟨v2, vs2, d2, ds2, p2, q2, rfl, rfl, rfl, h2, r2⟩ := trodAll_cons r1
  obtain ⟨rfl, rfl, rfl⟩ := trodAll_nil r2
  obtain rfl : args = #[v0, v1, v2] := by cases args; simp_all
  obtain ⟨rfl, rfl⟩ := trodVars_none hV
  have k0 := h0
  have lt0 : ∀ x ∈ p0, x.block < W.heap.size := by obtain ⟨m, hm⟩ := k0; exact DataW.trod_lt m _ _ _ hm
  have k1 := h1
  have lt1 : ∀ x ∈ p1, x.block < W.heap.size := by obtain ⟨m, hm⟩ := k1; exact DataW.trod_lt m _ _ _ hm
  have k2 := h2
  have lt2 : ∀ x ∈ p2, x.block < W.heap.size := by obtain ⟨m, hm⟩ := k2; exact DataW.trod_lt m _ _ _ hm
  obtain ⟨z0, y0, w0⟩ := open_series (hval 0 24 v0 rfl rfl) h0
  obtain ⟨a1, rfl, rfl, rfl, w1⟩ := open_string Try.underlying9 (hval 1 9 v1 rfl rfl) h1
  obtain ⟨a2, rfl, rfl, rfl, w2⟩ := open_string Try.underlying9 (hval 2 9 v2 rfl rfl) h2
  clear hA0 hval0
  refine (labelWith_walk v0 z0 y0 a1 a2 W w0 w1 w2).mono fun e W' ⟨he, bel⟩ => ?_
  subst he
  exact ⟨_, rfl, _, _, _, [], _, [], hW', trodAll_mk1 (shut_bool Try.underlying4 _), (trodAll_cons_mk (Below.trod labelWith_laidOut (by kernel_rfl) (of_decide_eq_true (by kernel_rfl)) k0 bel lt0) (trodAll_cons_mk (Below.trod labelWith_laidOut (by kernel_rfl) (of_decide_eq_true (by kernel_rfl)) k1 bel lt1) (trodAll_cons_mk (Below.trod labelWith_laidOut (by kernel_rfl) (of_decide_eq_true (by kernel_rfl)) k2 bel lt2) trodAll_mk0))), rfl, bel.frame _, fun h => by cases h⟩

theorem labelWith_over : Rows.labelWithRow.holds Try.pinned (OpenSpec.ofChange Rows.labelWithSpec) :=
  OpenClaim.holds_of_wide 6 Try.f6 rfl rfl rfl rfl rfl rfl rfl ⟨rfl, rfl, rfl, rfl, rfl⟩ rfl rfl rfl rfl rfl (by kernel_rfl) Try.func6 (by kernel_rfl)
    (of_decide_eq_true (by kernel_rfl)) (by unfold Func.isWrapper; first | (rw [if_pos (by decide +kernel)]; kernel_rfl) | (rw [if_neg (by decide +kernel)]; exact ⟨rfl, rfl⟩))
    (fun os started H enc _ => labelWith_lifted os started H enc)

theorem labelWith_holds : Rows.LabelWithSaid := labelWith_over
#print axioms labelWith_holds
end Go.Proofs.Ytnjbpiekbekpeaa
