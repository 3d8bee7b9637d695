/-
  Proved: for every map and every delta MapsMoves(m, d) returns true, and all read as before; no condition.
-/
import Derived.Test.YtcncbjknfcjnmaaGreatRows
import Derived.Test.YtcncbjknfcjnmaaGreatPr48
import Derived.Test.YtcncbjknfcjnmaaGreatPr01
import Derived.WalkKit
import Derived.ProofKit
import Derived.OpenShut
import Derived.ShutString
import Derived.ChangeOld
import Derived.Below
namespace Go.Proofs.YtcncbjknfcjnmaaGreat
open Go.ChangeShapes Go.WideShapes Go.ChangeAt Go.RowKit
open Go.ChangeMaps (open_string shut_string)
set_option linter.unusedVariables false

theorem mapsMoves_own : ownKnob Tryz.prog.godebug = none := by kernel_rfl
theorem mapsMoves_laidOut : laidOutB Tryz.prog = true := by kernel_rfl

theorem mapsMoves_walk (a0 : Tp.Mp) (z0 : Tp.MV) (a1 : Tp.Dl) (y1 : Option Addr) (len1 cap1 : Nat) (w : World) (w0 : Tp.MapAt w a0 z0) (w1 : Tp.RowI w y1 len1 cap1 a1.ns) :
    Calls Tryz.prog 7 #[.agg (Tp.mapCells a0 z0).toArray, .agg (Tp.dlCells a1 y1 len1 cap1).toArray] w fun e w' => e = .returned (.bool true) ∧ Below w.heap.size w w' := by
  exact Tp.mapsMoves_any a0 z0 a1 y1 len1 cap1 w w0 w1

set_option maxRecDepth 100000 in
theorem mapsMoves_lifted (os : Os) (started : os.Started) (H : Type) (enc : TypeId × Value → H) :
    ReturnsInHanded {} Tryz.checked os 7 .any (Rows.mapsMovesSpec.pre6 enc Tryz.prog Tryz.f7 Rows.mapsMovesRow.domain false) (Rows.mapsMovesSpec.post enc Tryz.prog Tryz.f7 false true false false) := by
  refine returnsInHanded_of_change (C := Tryz.checked) mapsMoves_own started (by kernel_rfl) Tryz.func7
    (ChangeSpec.witness6 (enc := enc) (C := Tryz.checked) false ⟨#[], #[.agg #[.int .i64 0, .int .i64 0, .int .i64 0, .int .i64 0, .slice none 0 0, .slice none 0 0, .slice none 0 0], .agg #[.int .i64 0, .int .i64 0, .int .i64 0, .int .i64 0, .int .i64 0, .int .i64 0, .slice none 0 0]], []⟩ 8 (by kernel_rfl) (by kernel_rfl) (by kernel_rfl) (by kernel_rfl)) ?_
  intro W base args ds gs before hval0 hW hcnd _
  have hval : ∀ (j : Nat) t v, Tryz.f7.params[j]? = some t → args[j]? = some v → Value.okWide Tryz.prog W .any base t v := hval0
  have hW' := hW
  obtain ⟨p, q, hA0, hV, rfl, hfz, hnd⟩ := hW
  have hA : DataW.TrodAll enc Tryz.prog W 0 (fun _ => true) true Tryz.f7.params.toList args.toList ds p := hA0
  rw [Tryz.params7] at hA hval
  obtain ⟨v0, vs0, d0, ds0, p0, q0, hargs, rfl, rfl, h0, r0⟩ := trodAll_cons hA
  obtain ⟨v1, vs1, d1, ds1, p1, q1, rfl, rfl, rfl, h1, r1⟩ := trodAll_cons r0
  obtain ⟨rfl, rfl, rfl⟩ := trodAll_nil r1
  obtain rfl : args = #[v0, v1] := by cases args; simp_all
  obtain ⟨rfl, rfl⟩ := trodVars_none hV
  have k0 := h0
  have lt0 : ∀ x ∈ p0, x.block < W.heap.size := by obtain ⟨m, hm⟩ := k0; exact DataW.trod_lt m _ _ _ hm
  have k1 := h1
  have lt1 : ∀ x ∈ p1, x.block < W.heap.size := by obtain ⟨m, hm⟩ := k1; exact DataW.trod_lt m _ _ _ hm
  obtain ⟨a0, z0, rfl, w0⟩ := Tp.open_mapv (hval 0 26 v0 rfl rfl) h0
  obtain ⟨a1, y1, len1, cap1, rfl, w1⟩ := Tp.open_deltav (hval 1 37 v1 rfl rfl) h1
  clear hA0 hval0
  refine (mapsMoves_walk a0 z0 a1 y1 len1 cap1 W w0 w1).mono fun e W' ⟨he, bel⟩ => ?_
  subst he
  exact ⟨_, rfl, _, _, _, [], _, [], hW', trodAll_mk1 (shut_bool Tryz.underlying4 _), (trodAll_cons_mk (Below.trod mapsMoves_laidOut (by kernel_rfl) (of_decide_eq_true (by kernel_rfl)) k0 bel lt0) (trodAll_cons_mk (Below.trod mapsMoves_laidOut (by kernel_rfl) (of_decide_eq_true (by kernel_rfl)) k1 bel lt1) trodAll_mk0)), rfl, bel.frame _, fun h => by cases h⟩

theorem mapsMoves_over : Rows.mapsMovesRow.holds Tryz.pinned (OpenSpec.ofChange Rows.mapsMovesSpec) :=
  OpenClaim.holds_of_wide 7 Tryz.f7 rfl rfl rfl rfl rfl rfl rfl ⟨rfl, rfl, rfl, rfl, rfl⟩ rfl rfl rfl rfl rfl (by kernel_rfl) Tryz.func7 (by kernel_rfl)
    (of_decide_eq_true (by kernel_rfl)) (by unfold Func.isWrapper; first | (rw [if_pos (by decide +kernel)]; kernel_rfl) | (rw [if_neg (by decide +kernel)]; exact ⟨rfl, rfl⟩))
    (fun os started H enc _ => mapsMoves_lifted os started H enc)

theorem mapsMoves_holds : Rows.MapsMovesSaid := mapsMoves_over
#print axioms mapsMoves_holds
end Go.Proofs.YtcncbjknfcjnmaaGreat
