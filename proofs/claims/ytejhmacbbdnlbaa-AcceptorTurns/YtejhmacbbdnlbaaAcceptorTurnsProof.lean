/-
  Proved: for every acceptor, all three numbers and every delta AcceptorTurns(a, x, d) returns true, and they read as before; no condition.
-/
import Derived.Test.YtejhmacbbdnlbaaRows
import Derived.Test.YtejhmacbbdnlbaaAcT
import Derived.Test.YtejhmacbbdnlbaaAcOp
import Derived.WalkKit
import Derived.ProofKit
import Derived.OpenShut
import Derived.ShutString
import Derived.ChangeOld
import Derived.Below
namespace Go.Proofs.Ytejhmacbbdnlbaa
open Go.ChangeShapes Go.WideShapes Go.ChangeAt Go.RowKit
open Go.ChangeMaps (open_string shut_string)
set_option linter.unusedVariables false

theorem acceptorTurns_own : ownKnob Try.prog.godebug = none := by kernel_rfl
theorem acceptorTurns_laidOut : laidOutB Try.prog = true := by kernel_rfl

theorem acceptorTurns_walk (a0 : Int) (y0 : Option Addr) (len0 cap0 : Nat) (z0 : List Ac.Acd) (a1 b1 c1 : Int) (a2 : Ac.Dl) (y2 : Option Addr) (len2 cap2 : Nat) (w : World) (w0 : Ac.AcsAt w y0 len0 cap0 z0) (w2 : Ac.RowI w y2 len2 cap2 a2.ns) :
    Calls Try.prog 3 #[.agg #[.int .i64 a0, .slice y0 len0 cap0], .agg #[.int .i64 a1, .int .i64 b1, .int .i64 c1], .agg (Ac.dlV a2 y2 len2 cap2).toArray] w fun e w' => e = .returned (.bool true) ∧ Below w.heap.size w w' := by
  exact Ac.turns_any a0 y0 len0 cap0 z0 a1 b1 c1 a2 y2 len2 cap2 w w0 w2

set_option maxRecDepth 100000 in
theorem acceptorTurns_lifted (os : Os) (started : os.Started) (H : Type) (enc : TypeId × Value → H) :
    ReturnsInHanded {} Try.checked os 3 .any (Rows.acceptorTurnsSpec.pre6 enc Try.prog Try.f3 Rows.acceptorTurnsRow.domain false) (Rows.acceptorTurnsSpec.post enc Try.prog Try.f3 false true false false) := by
  refine returnsInHanded_of_change (C := Try.checked) acceptorTurns_own started (by kernel_rfl) Try.func3
    (ChangeSpec.witness6 (enc := enc) (C := Try.checked) false ⟨#[], #[.agg #[.int .i64 0, .slice none 0 0], .agg #[.int .i64 0, .int .i64 0, .int .i64 0], .agg #[.int .i64 0, .int .i64 0, .int .i64 0, .int .i64 0, .int .i64 0, .int .i64 0, .slice none 0 0]], []⟩ 8 (by kernel_rfl) (by kernel_rfl) (by kernel_rfl) (by kernel_rfl)) ?_
  intro W base args ds gs before hval0 hW hcnd _
  have hval : ∀ (j : Nat) t v, Try.f3.params[j]? = some t → args[j]? = some v → Value.okWide Try.prog W .any base t v := hval0
  have hW' := hW
  obtain ⟨p, q, hA0, hV, rfl, hfz, hnd⟩ := hW
  have hA : DataW.TrodAll enc Try.prog W 0 (fun _ => true) true Try.f3.params.toList args.toList ds p := hA0
  rw [Try.params3] at hA hval
  obtain ⟨v0, vs0, d0, ds0, p0, q0, hargs, rfl, rfl, h0, r0⟩ := trodAll_cons hA
  obtain ⟨v1, vs1, d1, ds1, p1, q1, rfl, rfl, rfl, h1, r1⟩ := trodAll_cons r0
  obtain ⟨v2, vs2, d2, ds2, p2, q2, rfl, rfl, rfl, h2, r2⟩ := trodAll_cons r1
  obtain ⟨rfl, rfl, rfl⟩ := trodAll_nil r2
  obtain rfl : args = #[v0, v1, v2] := by cases args; simp_all
  obtain ⟨rfl, rfl⟩ := trodVars_none hV
  have k0 := h0
  have lt0 : ∀ x ∈ p0, x.block < W.heap.size := by obtain ⟨m, hm⟩ := k0; exact DataW.trod_lt m _ _ _ hm
  have k1 := h1
  have lt1 : ∀ x ∈ p1, x.block < W.heap.size := by obtain ⟨m, hm⟩ := k1; exact DataW.trod_lt m _ _ _ hm
  have k2 := h2
  have lt2 : ∀ x ∈ p2, x.block < W.heap.size := by obtain ⟨m, hm⟩ := k2; exact DataW.trod_lt m _ _ _ hm
  obtain ⟨a0, y0, len0, cap0, z0, rfl, w0⟩ := Ac.open_acceptorv (hval 0 24 v0 rfl rfl) h0
  obtain ⟨a1, b1, c1, rfl⟩ := Ac.open_three (hval 1 25 v1 rfl rfl) h1
  obtain ⟨a2, y2, len2, cap2, rfl, w2⟩ := Ac.open_deltav (hval 2 28 v2 rfl rfl) h2
  clear hA0 hval0
  refine (acceptorTurns_walk a0 y0 len0 cap0 z0 a1 b1 c1 a2 y2 len2 cap2 W w0 w2).mono fun e W' ⟨he, bel⟩ => ?_
  subst he
  exact ⟨_, rfl, _, _, _, [], _, [], hW', trodAll_mk1 (shut_bool Try.underlying4 _), (trodAll_cons_mk (Below.trod acceptorTurns_laidOut (by kernel_rfl) (of_decide_eq_true (by kernel_rfl)) k0 bel lt0) (trodAll_cons_mk (Below.trod acceptorTurns_laidOut (by kernel_rfl) (of_decide_eq_true (by kernel_rfl)) k1 bel lt1) (trodAll_cons_mk (Below.trod acceptorTurns_laidOut (by kernel_rfl) (of_decide_eq_true (by kernel_rfl)) k2 bel lt2) trodAll_mk0))), rfl, bel.frame _, fun h => by cases h⟩

theorem acceptorTurns_over : Rows.acceptorTurnsRow.holds Try.pinned (OpenSpec.ofChange Rows.acceptorTurnsSpec) :=
  OpenClaim.holds_of_wide 3 Try.f3 rfl rfl rfl rfl rfl rfl rfl ⟨rfl, rfl, rfl, rfl, rfl⟩ rfl rfl rfl rfl rfl (by kernel_rfl) Try.func3 (by kernel_rfl)
    (of_decide_eq_true (by kernel_rfl)) (by unfold Func.isWrapper; first | (rw [if_pos (by decide +kernel)]; kernel_rfl) | (rw [if_neg (by decide +kernel)]; exact ⟨rfl, rfl⟩))
    (fun os started H enc _ => acceptorTurns_lifted os started H enc)

theorem acceptorTurns_holds : Rows.AcceptorTurnsSaid := acceptorTurns_over
#print axioms acceptorTurns_holds
end Go.Proofs.Ytejhmacbbdnlbaa
