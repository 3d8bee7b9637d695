/-
  Proved: for every map and all deltas MapsTrails(m, l) returns true, and all read as before; no condition.
-/
import Derived.Test.YtcncbjknfcjnmaaGreatRows
import Derived.Test.YtcncbjknfcjnmaaGreatPr48
import Derived.Test.YtcncbjknfcjnmaaGreatPr01
import Derived.WalkKit
import Derived.ProofKit
import Derived.OpenShut
import Derived.ShutString
import Derived.ChangeOld
import Derived.Below
namespace Go.Proofs.YtcncbjknfcjnmaaGreat
open Go.ChangeShapes Go.WideShapes Go.ChangeAt Go.RowKit
open Go.ChangeMaps (open_string shut_string)
set_option linter.unusedVariables false
theorem mapsTrails_own : ownKnob Tryz.prog.godebug = none := by kernel_rfl
theorem mapsTrails_laidOut : laidOutB Tryz.prog = true := by kernel_rfl
theorem mapsTrails_walk (a0 : Tp.Mp) (z0 : Tp.MV) (a1 : Option Addr) (len1 cap1 : Nat) (z1 : List Tp.Dl) (w : World) (w0 : Tp.MapAt w a0 z0) (w1 : Tp.DlsAt w a1 len1 cap1 z1) :
  Calls Tryz.prog 8 #[.agg (Tp.mapCells a0 z0).toArray,.slice a1 len1 cap1] w fun e w' => e = .returned (.bool true) /\ Below w.heap.size w w' := by
 exact Tp.mapsTrails_any a0 z0 a1 len1 cap1 z1 w w0 w1
set_option maxRecDepth 100000 in
theorem mapsTrails_lifted (os : Os) (started : os.Started) (H : Type) (enc : TypeId × Value -> H) :
  ReturnsInHanded {} Tryz.checked os 8 .any (Rows.mapsTrailsSpec.pre6 enc Tryz.prog Tryz.f8 Rows.mapsTrailsRow.domain false) (Rows.mapsTrailsSpec.post enc Tryz.prog Tryz.f8 false true false false) := by
 refine returnsInHanded_of_change (C := Tryz.checked) mapsTrails_own started (by kernel_rfl) Tryz.func8
  (ChangeSpec.witness6 (enc := enc) (C := Tryz.checked) false ⟨#[],#[.agg #[.int .i64 0,.int .i64 0,.int .i64 0,.int .i64 0,.slice none 0 0,.slice none 0 0,.slice none 0 0],.slice none 0 0],[]⟩ 8 (by kernel_rfl) (by kernel_rfl) (by kernel_rfl) (by kernel_rfl)) ?_
 intro W base args ds gs before hval0 hW hcnd _
 have hval : ∀ (j : Nat) t v,Tryz.f8.params[j]? = some t -> args[j]? = some v -> Value.okWide Tryz.prog W .any base t v := hval0
 have hW' := hW
 obtain ⟨p,q,hA0,hV,rfl,hfz,hnd⟩ := hW
 have hA : DataW.TrodAll enc Tryz.prog W 0 (fun _ => true) true Tryz.f8.params.toList args.toList ds p := hA0
 rw [Tryz.params8] at hA hval
 obtain ⟨v0,vs0,d0,ds0,p0,q0,hargs,rfl,rfl,h0,r0⟩ := trodAll_cons hA
 obtain ⟨v1,vs1,d1,ds1,p1,q1,rfl,rfl,rfl,h1,r1⟩ := trodAll_cons r0
 obtain ⟨rfl,rfl,rfl⟩ := trodAll_nil r1
 obtain rfl : args = #[v0,v1] := by cases args; simp_all
 obtain ⟨rfl,rfl⟩ := trodVars_none hV
 have k0 := h0
 have lt0 : ∀ x ∈ p0,x.block < W.heap.size := by obtain ⟨m,hm⟩ := k0; exact DataW.trod_lt m _ _ _ hm
 have k1 := h1
 have lt1 : ∀ x ∈ p1,x.block < W.heap.size := by obtain ⟨m,hm⟩ := k1; exact DataW.trod_lt m _ _ _ hm
 obtain ⟨a0,z0,rfl,w0⟩ := Tp.open_mapv (hval 0 26 v0 rfl rfl) h0
 obtain ⟨a1,len1,cap1,z1,rfl,w1⟩ := Tp.open_deltasv (hval 1 42 v1 rfl rfl) h1
 clear hA0 hval0
 refine (mapsTrails_walk a0 z0 a1 len1 cap1 z1 W w0 w1).mono fun e W' ⟨he,bel⟩ => ?_
 subst he
 exact ⟨_,rfl,_,_,_,[],_,[],hW',trodAll_mk1 (shut_bool Tryz.underlying4 _),(trodAll_cons_mk (Below.trod mapsTrails_laidOut (by kernel_rfl) (of_decide_eq_true (by kernel_rfl)) k0 bel lt0) (trodAll_cons_mk (Below.trod mapsTrails_laidOut (by kernel_rfl) (of_decide_eq_true (by kernel_rfl)) k1 bel lt1) trodAll_mk0)),rfl,bel.frame _,fun h => by cases h⟩
theorem mapsTrails_over : Rows.mapsTrailsRow.holds Tryz.pinned (OpenSpec.ofChange Rows.mapsTrailsSpec) :=
 OpenClaim.holds_of_wide 8 Tryz.f8 rfl rfl rfl rfl rfl rfl rfl ⟨rfl,rfl,rfl,rfl,rfl⟩ rfl rfl rfl rfl rfl (by kernel_rfl) Tryz.func8 (by kernel_rfl)
  (of_decide_eq_true (by kernel_rfl)) (by unfold Func.isWrapper; first | (rw [if_pos (by decide +kernel)]; kernel_rfl) | (rw [if_neg (by decide +kernel)]; exact ⟨rfl,rfl⟩))
  (fun os started H enc _ => mapsTrails_lifted os started H enc)
theorem mapsTrails_holds : Rows.MapsTrailsSaid := mapsTrails_over
#print axioms mapsTrails_holds
end Go.Proofs.YtcncbjknfcjnmaaGreat
