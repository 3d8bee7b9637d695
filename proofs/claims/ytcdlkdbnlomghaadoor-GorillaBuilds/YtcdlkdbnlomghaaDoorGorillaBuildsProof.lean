/-
  Proved: for every list of samples GorillaBuilds(l) returns true, and it reads as before; no condition but that the table of shapes reads as its initialiser lays it, which the card ties to the text.
-/
import Derived.Test.YtcdlkdbnlomghaaDoorRows
import Derived.Test.YtcdlkdbnlomghaaDoorTie
import Derived.Test.YtcdlkdbnlomghaaDoorCards
import Derived.Test.YtcdlkdbnlomghaaDoorGlT
import Derived.Test.YtcdlkdbnlomghaaDoorBkO
import Derived.Test.YtcdlkdbnlomghaaDoorBiOp
import Derived.Test.YtcdlkdbnlomghaaDoorBiCd
import Derived.WalkKit
import Derived.ProofKit
import Derived.OpenShut
import Derived.ShutString
import Derived.ChangeOld
import Derived.Below
import Derived.SevenTiedAt
import Derived.LaidMore
import Derived.Stop.Joined
namespace Go.Proofs.YtcdlkdbnlomghaaDoor
open Go.ChangeShapes Go.WideShapes Go.ChangeAt Go.RowKit
open Go.ChangeMaps (open_string shut_string)
set_option linter.unusedVariables false

theorem gorillaBuilds_own : ownKnob Tryd.prog.godebug = none := by kernel_rfl
theorem gorillaBuilds_laidOut : laidOutB Tryd.prog = true := by kernel_rfl

theorem gorillaBuilds_walk (a0 : Option Addr) (len0 cap0 : Nat) (z0 : List Bk.Sm) (w : World) (w0 : Bk.SmsAt w a0 len0 cap0 z0) (hT : Bi.Tab w) :
    Calls Tryd.prog 3 #[.slice a0 len0 cap0] w fun e w' => e = .returned (.bool true) ∧ Below w.heap.size w w' := by
  exact Gl.builds_any a0 len0 cap0 z0 w w0 hT

set_option maxRecDepth 100000 in
theorem gorillaBuilds_lifted (os : Os) (started : os.Started) (H : Type) (enc : TypeId × Value → H) :
    ReturnsInHanded {} Tryd.checked os 3 .any (fun w args => (Rows.gorillaBuildsSpec.pre enc Tryd.prog Tryd.f3 [] false w args ∧ laidMetH Tryd.prog Bi.laidS w) ∧ sizedMet enc Tryd.prog Tryd.f3 (OpenSpec.ofChange Rows.gorillaBuildsSpec) false w args) (Rows.gorillaBuildsSpec.post enc Tryd.prog Tryd.f3 false true false false) := by
  refine returnsInHanded_of_change_and (C := Tryd.checked) (X := fun w _ => laidMetH Tryd.prog Bi.laidS w) (fun _ _ _ hh h => h.of_heap hh) gorillaBuilds_own started (by kernel_rfl) Tryd.func3
    (ChangeSpec.witness_shaped (enc := enc) (C := Tryd.checked) (os := os) (X := fun w _ => laidMetH Tryd.prog Bi.laidS w) false (World.doorLaid Tryd.prog 400 os) #[.slice none 0 0] 8 rfl (World.shaped_of_RefB (by kernel_rfl) (by kernel_rfl)) (by kernel_rfl) (by kernel_rfl) (by kernel_rfl) (Bi.door_met os _)) ?_
  intro W base args ds gs before hval0 hW _ _ hL _
  have hval : ∀ (j : Nat) t v, Tryd.f3.params[j]? = some t → args[j]? = some v → Value.okWide Tryd.prog W .any base t v := hval0
  have hW' := hW
  obtain ⟨p, q, hA0, hV, rfl, hfz, hnd⟩ := hW
  have hA : DataW.TrodAll enc Tryd.prog W 0 (fun _ => true) true Tryd.f3.params.toList args.toList ds p := hA0
  rw [Tryd.params3] at hA hval
  obtain ⟨v0, vs0, d0, ds0, p0, q0, hargs, rfl, rfl, h0, r0⟩ := trodAll_cons hA
  obtain ⟨rfl, rfl, rfl⟩ := trodAll_nil r0
  obtain rfl : args = #[v0] := by cases args; simp_all
  obtain ⟨rfl, rfl⟩ := trodVars_none hV
  have k0 := h0
  have lt0 : ∀ x ∈ p0, x.block < W.heap.size := by obtain ⟨m, hm⟩ := k0; exact DataW.trod_lt m _ _ _ hm
  obtain ⟨a0, len0, cap0, z0, rfl, w0⟩ := Bk.open_smsv (hval 0 22 v0 rfl rfl) h0
  clear hA0 hval0
  refine (gorillaBuilds_walk a0 len0 cap0 z0 W w0 (Bi.of_laid hL)).mono fun e W' ⟨he, bel⟩ => ?_
  subst he
  exact ⟨_, rfl, _, _, _, [], _, [], hW', trodAll_mk1 (shut_bool Tryd.underlying4 _), (trodAll_cons_mk (Below.trod gorillaBuilds_laidOut (by kernel_rfl) (of_decide_eq_true (by kernel_rfl)) k0 bel lt0) trodAll_mk0), rfl, bel.frame _, fun h => by cases h⟩

theorem gorillaBuilds_over : Rows.GorillaBuildsSaid :=
  OpenClaim.holds_of_wide 3 Tryd.f3 rfl rfl rfl rfl rfl rfl rfl ⟨rfl, rfl, rfl, rfl, rfl⟩ rfl rfl rfl rfl rfl (by kernel_rfl) Tryd.func3 (by kernel_rfl)
    (of_decide_eq_true (by kernel_rfl)) (by unfold Func.isWrapper; first | (rw [if_pos (by decide +kernel)]; kernel_rfl) | (rw [if_neg (by decide +kernel)]; exact ⟨rfl, rfl⟩))
    (fun os started H enc _ => gorillaBuilds_lifted os started H enc)

theorem gorillaBuilds_holds : Rows.GorillaBuildsCardSaid :=
  Claim7.holds_tied_plain_at .later [] [.wider] true (true, "fdb89c11451b28a54186389dff7eed7acabbe84c015eccf7a06e9a58a3e2d6b7") false
    gorillaBuilds_over (fun _ h => by cases h) (by kernel_rfl) (fun _ h => by cases h) gorillaBuilds_row_tie rfl ⟨rfl, rfl⟩ (by kernel_rfl) rfl
    (fun f fn hf hfn => by
      obtain rfl : f = 3 := Option.some.inj ((show Tryd.prog.funcNamed "windrose/windroselaw18.GorillaBuilds" = some 3 by kernel_rfl).symm.trans hf) |>.symm
      obtain rfl : fn = Tryd.f3 := (Option.some.inj (Tryd.func3.symm.trans hfn)).symm
      exact ⟨by kernel_rfl, fun j t ht => by
        rw [Tryd.params3] at ht
        have hm : t ∈ [22] := by simpa using Array.mem_of_getElem? ht
        have hall : ([22].all fun u => !Tryd.prog.wantsStandIn u) = true := by kernel_rfl
        exact (show Tryd.prog.wantsStandIn t = false by simpa using List.all_eq_true.1 hall t hm)⟩)
    (by kernel_rfl)
#print axioms gorillaBuilds_holds
end Go.Proofs.YtcdlkdbnlomghaaDoor
