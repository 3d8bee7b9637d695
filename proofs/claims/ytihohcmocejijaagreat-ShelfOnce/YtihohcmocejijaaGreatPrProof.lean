/-
  Proved: for all lists of entries l and m and every entry e ShelfOnce(l, e, m) returns true, and they read as before; no condition.
-/
import Derived.Test.YtihohcmocejijaaGreatRows
import Derived.Test.YtihohcmocejijaaGreatPr41
import Derived.Test.YtihohcmocejijaaGreatPr42
import Derived.WalkKit
import Derived.ProofKit
import Derived.OpenShut
import Derived.ShutString
import Derived.ChangeOld
import Derived.Below
namespace Go.Proofs.YtihohcmocejijaaGreat
open Go.ChangeShapes Go.WideShapes Go.ChangeAt Go.RowKit
open Go.ChangeMaps (open_string shut_string)
set_option linter.unusedVariables false

theorem shelfOnce_own : ownKnob Tryz.prog.godebug = none := by kernel_rfl
theorem shelfOnce_laidOut : laidOutB Tryz.prog = true := by kernel_rfl

theorem shelfOnce_walk (a0 : Option Addr) (len0 cap0 : Nat) (z0 : List Bk.Ent) (a1 : Bk.Ent) (a2 : Option Addr) (len2 cap2 : Nat) (z2 : List Bk.Ent) (w : World) (w0 : Bk.EnsAt w a0 len0 cap0 z0) (w2 : Bk.EnsAt w a2 len2 cap2 z2) :
    Calls Tryz.prog 5 #[.slice a0 len0 cap0, Bk.entV a1, .slice a2 len2 cap2] w fun e w' => e = .returned (.bool true) ∧ Below w.heap.size w w' := by
  exact Bk.shelfOnce_any a0 len0 cap0 z0 a1.ep a1.cl a1.id a1.op.k a1.op.t a1.op.v a1.op.f a1.op.u a1.op.m a1.op.s a2 len2 cap2 z2 w w0 w2

set_option maxRecDepth 100000 in
theorem shelfOnce_lifted (os : Os) (started : os.Started) (H : Type) (enc : TypeId × Value → H) :
    ReturnsInHanded {} Tryz.checked os 5 .any (Rows.shelfOnceSpec.pre6 enc Tryz.prog Tryz.f5 Rows.shelfOnceRow.domain false) (Rows.shelfOnceSpec.post enc Tryz.prog Tryz.f5 false true false false) := by
  refine returnsInHanded_of_change (C := Tryz.checked) shelfOnce_own started (by kernel_rfl) Tryz.func5
    (ChangeSpec.witness6 (enc := enc) (C := Tryz.checked) false ⟨#[], #[.slice none 0 0, .agg #[.int .i64 0, .int .i64 0, .int .i64 0, .int .i64 0, .string ByteArray.empty, .int .i64 0, .int .i64 0, .int .i64 0, .int .i64 0, .int .i64 0], .slice none 0 0], []⟩ 8 (by kernel_rfl) (by kernel_rfl) (by kernel_rfl) (by kernel_rfl)) ?_
  intro W base args ds gs before hval0 hW hcnd _
  have hval : ∀ (j : Nat) t v, Tryz.f5.params[j]? = some t → args[j]? = some v → Value.okWide Tryz.prog W .any base t v := hval0
  have hW' := hW
  obtain ⟨p, q, hA0, hV, rfl, hfz, hnd⟩ := hW
  have hA : DataW.TrodAll enc Tryz.prog W 0 (fun _ => true) true Tryz.f5.params.toList args.toList ds p := hA0
  rw [Tryz.params5] at hA hval
  obtain ⟨v0, vs0, d0, ds0, p0, q0, hargs, rfl, rfl, h0, r0⟩ := trodAll_cons hA
  obtain ⟨v1, vs1, d1, ds1, p1, q1, rfl, rfl, rfl, h1, r1⟩ := trodAll_cons r0
  obtain ⟨v2, vs2, d2, ds2, p2, q2, rfl, rfl, rfl, h2, r2⟩ := trodAll_cons r1
  obtain ⟨rfl, rfl, rfl⟩ := trodAll_nil r2
  obtain rfl : args = #[v0, v1, v2] := by cases args; simp_all
  obtain ⟨rfl, rfl⟩ := trodVars_none hV
  have k0 := h0
  have lt0 : ∀ x ∈ p0, x.block < W.heap.size := by obtain ⟨m, hm⟩ := k0; exact DataW.trod_lt m _ _ _ hm
  have k1 := h1
  have lt1 : ∀ x ∈ p1, x.block < W.heap.size := by obtain ⟨m, hm⟩ := k1; exact DataW.trod_lt m _ _ _ hm
  have k2 := h2
  have lt2 : ∀ x ∈ p2, x.block < W.heap.size := by obtain ⟨m, hm⟩ := k2; exact DataW.trod_lt m _ _ _ hm
  obtain ⟨a0, len0, cap0, z0, rfl, w0⟩ := Bk.open_ensv (hval 0 47 v0 rfl rfl) h0
  obtain ⟨a1, rfl⟩ := Bk.open_env (hval 1 31 v1 rfl rfl) h1
  obtain ⟨a2, len2, cap2, z2, rfl, w2⟩ := Bk.open_ensv (hval 2 47 v2 rfl rfl) h2
  clear hA0 hval0
  refine (shelfOnce_walk a0 len0 cap0 z0 a1 a2 len2 cap2 z2 W w0 w2).mono fun e W' ⟨he, bel⟩ => ?_
  subst he
  exact ⟨_, rfl, _, _, _, [], _, [], hW', trodAll_mk1 (shut_bool Tryz.underlying4 _), (trodAll_cons_mk (Below.trod shelfOnce_laidOut (by kernel_rfl) (of_decide_eq_true (by kernel_rfl)) k0 bel lt0) (trodAll_cons_mk (Below.trod shelfOnce_laidOut (by kernel_rfl) (of_decide_eq_true (by kernel_rfl)) k1 bel lt1) (trodAll_cons_mk (Below.trod shelfOnce_laidOut (by kernel_rfl) (of_decide_eq_true (by kernel_rfl)) k2 bel lt2) trodAll_mk0))), rfl, bel.frame _, fun h => by cases h⟩

theorem shelfOnce_over : Rows.shelfOnceRow.holds Tryz.pinned (OpenSpec.ofChange Rows.shelfOnceSpec) :=
  OpenClaim.holds_of_wide 5 Tryz.f5 rfl rfl rfl rfl rfl rfl rfl ⟨rfl, rfl, rfl, rfl, rfl⟩ rfl rfl rfl rfl rfl (by kernel_rfl) Tryz.func5 (by kernel_rfl)
    (of_decide_eq_true (by kernel_rfl)) (by unfold Func.isWrapper; first | (rw [if_pos (by decide +kernel)]; kernel_rfl) | (rw [if_neg (by decide +kernel)]; exact ⟨rfl, rfl⟩))
    (fun os started H enc _ => shelfOnce_lifted os started H enc)

theorem shelfOnce_holds : Rows.ShelfOnceSaid := shelfOnce_over
#print axioms shelfOnce_holds
end Go.Proofs.YtihohcmocejijaaGreat
