/-
  Proved: for every act JournalNobody(a) returns true, and all read as before; no condition.
-/
import Derived.Test.YtmkmogkhkmlnkaaRows
import Derived.Test.YtmkmogkhkmlnkaaJnX
import Derived.WalkKit
import Derived.ProofKit
import Derived.OpenShut
import Derived.ShutString
import Derived.ChangeOld
import Derived.Below
namespace Go.Proofs.Ytmkmogkhkmlnkaa
open Go.ChangeShapes Go.WideShapes Go.ChangeAt Go.RowKit
open Go.ChangeMaps (open_string shut_string)
set_option linter.unusedVariables false

theorem journalNobody_own : ownKnob Try.prog.godebug = none := by kernel_rfl
theorem journalNobody_laidOut : laidOutB Try.prog = true := by kernel_rfl

theorem journalNobody_walk (a0 : Int) (x0 : Option Addr) (n0 c0 : Nat) (y0 : Option Addr) (m0 k0 : Nat) (z0 : Option Addr) (l0 j0 : Nat) (e0 f0 g0 : Int) (u0 t0 : Value) (w : World)  :
    Calls Try.prog 4 #[.agg #[.int .i64 a0, .slice x0 n0 c0, .slice y0 m0 k0, .slice z0 l0 j0, .int .i64 e0, .int .i64 f0, .int .i64 g0, u0, t0]] w fun e w' => e = .returned (.bool true) ∧ Below w.heap.size w w' := by
  exact Dm.journalNobody_any a0 x0 n0 c0 y0 m0 k0 z0 l0 j0 e0 f0 g0 u0 t0 w

set_option maxRecDepth 100000 in
theorem journalNobody_lifted (os : Os) (started : os.Started) (H : Type) (enc : TypeId × Value → H) :
    ReturnsInHanded {} Try.checked os 4 .any (Rows.journalNobodySpec.pre6 enc Try.prog Try.f4 Rows.journalNobodyRow.domain false) (Rows.journalNobodySpec.post enc Try.prog Try.f4 false true false false) := by
  refine returnsInHanded_of_change (C := Try.checked) journalNobody_own started (by kernel_rfl) Try.func4
    (ChangeSpec.witness6 (enc := enc) (C := Try.checked) false ⟨#[], #[.agg #[.int .i64 0, .slice none 0 0, .slice none 0 0, .slice none 0 0, .int .i64 0, .int .i64 0, .int .i64 0, .slice none 0 0, .slice none 0 0]], []⟩ 8 (by kernel_rfl) (by kernel_rfl) (by kernel_rfl) (by kernel_rfl)) ?_
  intro W base args ds gs before hval0 hW hcnd _
  have hval : ∀ (j : Nat) t v, Try.f4.params[j]? = some t → args[j]? = some v → Value.okWide Try.prog W .any base t v := hval0
  have hW' := hW
  obtain ⟨p, q, hA0, hV, rfl, hfz, hnd⟩ := hW
  have hA : DataW.TrodAll enc Try.prog W 0 (fun _ => true) true Try.f4.params.toList args.toList ds p := hA0
  rw [Try.params4] at hA hval
  obtain ⟨v0, vs0, d0, ds0, p0, q0, hargs, rfl, rfl, h0, r0⟩ := trodAll_cons hA
  obtain ⟨rfl, rfl, rfl⟩ := trodAll_nil r0
  obtain rfl : args = #[v0] := by cases args; simp_all
  obtain ⟨rfl, rfl⟩ := trodVars_none hV
  have k0 := h0
  have lt0 : ∀ x ∈ p0, x.block < W.heap.size := by obtain ⟨m, hm⟩ := k0; exact DataW.trod_lt m _ _ _ hm
  obtain ⟨a0, x0, n0, c0, y0, m0, kk0, z0, l0, j0, e0, f0, g0, u0, t0, rfl⟩ := Dm.open_a10v (hval 0 44 v0 rfl rfl) h0
  clear hA0 hval0
  refine (journalNobody_walk a0 x0 n0 c0 y0 m0 kk0 z0 l0 j0 e0 f0 g0 u0 t0 W ).mono fun e W' ⟨he, bel⟩ => ?_
  subst he
  exact ⟨_, rfl, _, _, _, [], _, [], hW', trodAll_mk1 (shut_bool Try.underlying4 _), (trodAll_cons_mk (Below.trod journalNobody_laidOut (by kernel_rfl) (of_decide_eq_true (by kernel_rfl)) k0 bel lt0) trodAll_mk0), rfl, bel.frame _, fun h => by cases h⟩

theorem journalNobody_over : Rows.journalNobodyRow.holds Try.pinned (OpenSpec.ofChange Rows.journalNobodySpec) :=
  OpenClaim.holds_of_wide 4 Try.f4 rfl rfl rfl rfl rfl rfl rfl ⟨rfl, rfl, rfl, rfl, rfl⟩ rfl rfl rfl rfl rfl (by kernel_rfl) Try.func4 (by kernel_rfl)
    (of_decide_eq_true (by kernel_rfl)) (by unfold Func.isWrapper; first | (rw [if_pos (by decide +kernel)]; kernel_rfl) | (rw [if_neg (by decide +kernel)]; exact ⟨rfl, rfl⟩))
    (fun os started H enc _ => journalNobody_lifted os started H enc)

theorem journalNobody_holds : Rows.JournalNobodySaid := journalNobody_over
#print axioms journalNobody_holds
end Go.Proofs.Ytmkmogkhkmlnkaa
