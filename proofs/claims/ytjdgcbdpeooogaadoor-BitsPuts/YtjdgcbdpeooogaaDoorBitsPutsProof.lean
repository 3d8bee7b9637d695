/-
  Proved: for every two bits and every two numbers BitsPuts(x, y, z) returns true, and they read as before; no condition but that the table of shapes reads as its initialiser lays it, which the card ties to the text.
-/
import Derived.Test.YtjdgcbdpeooogaaDoorRows
import Derived.Test.YtjdgcbdpeooogaaDoorTie
import Derived.Test.YtjdgcbdpeooogaaDoorCards
import Derived.Test.YtjdgcbdpeooogaaDoorBiPu
import Derived.Test.YtjdgcbdpeooogaaDoorBiOp
import Derived.Test.YtjdgcbdpeooogaaDoorBiCd
import Derived.WalkKit
import Derived.ProofKit
import Derived.OpenShut
import Derived.ShutString
import Derived.ChangeOld
import Derived.Below
import Derived.SevenTiedAt
import Derived.LaidMore
import Derived.Stop.Joined
namespace Go.Proofs.YtjdgcbdpeooogaaDoor
open Go.ChangeShapes Go.WideShapes Go.ChangeAt Go.RowKit
open Go.ChangeMaps (open_string shut_string)
set_option linter.unusedVariables false

theorem bitsPuts_own : ownKnob Tryd.prog.godebug = none := by kernel_rfl
theorem bitsPuts_laidOut : laidOutB Tryd.prog = true := by kernel_rfl

theorem bitsPuts_walk (a0 : Option Addr) (len0 cap0 : Nat) (z0 : List Nat) (n0 : Int) (a1 : Option Addr) (len1 cap1 : Nat) (z1 : List Nat) (n1 : Int) (a2 b2 : Int) (w : World) (w0 : Bi.ByAt w a0 len0 cap0 z0) (w1 : Bi.ByAt w a1 len1 cap1 z1) (w2 : (Lit.int .u64 a2).wf = true) (u2 : (Lit.int .u64 b2).wf = true) (hT : Bi.Tab w) :
    Calls Tryd.prog 3 #[.agg #[.slice a0 len0 cap0, .int .i64 n0], .agg #[.slice a1 len1 cap1, .int .i64 n1], .agg #[.int .u64 a2, .int .u64 b2]] w fun e w' => e = .returned (.bool true) ∧ Below w.heap.size w w' := by
  have _ := u2
  exact Bi.puts_any a0 len0 cap0 z0 n0 a1 len1 cap1 z1 n1 a2 b2 w w0 w1 w2 hT

set_option maxRecDepth 100000 in
theorem bitsPuts_lifted (os : Os) (started : os.Started) (H : Type) (enc : TypeId × Value → H) :
    ReturnsInHanded {} Tryd.checked os 3 .any (fun w args => (Rows.bitsPutsSpec.pre enc Tryd.prog Tryd.f3 [] false w args ∧ laidMetH Tryd.prog Bi.laidS w) ∧ sizedMet enc Tryd.prog Tryd.f3 (OpenSpec.ofChange Rows.bitsPutsSpec) false w args) (Rows.bitsPutsSpec.post enc Tryd.prog Tryd.f3 false true false false) := by
  refine returnsInHanded_of_change_and (C := Tryd.checked) (X := fun w _ => laidMetH Tryd.prog Bi.laidS w) (fun _ _ _ hh h => h.of_heap hh) bitsPuts_own started (by kernel_rfl) Tryd.func3
    (ChangeSpec.witness_shaped (enc := enc) (C := Tryd.checked) (os := os) (X := fun w _ => laidMetH Tryd.prog Bi.laidS w) false (World.doorLaid Tryd.prog 400 os) #[.agg #[.slice none 0 0, .int .i64 0], .agg #[.slice none 0 0, .int .i64 0], .agg #[.int .u64 0, .int .u64 0]] 8 rfl (World.shaped_of_RefB (by kernel_rfl) (by kernel_rfl)) (by kernel_rfl) (by kernel_rfl) (by kernel_rfl) (Bi.door_met os _)) ?_
  intro W base args ds gs before hval0 hW _ _ hL _
  have hval : ∀ (j : Nat) t v, Tryd.f3.params[j]? = some t → args[j]? = some v → Value.okWide Tryd.prog W .any base t v := hval0
  have hW' := hW
  obtain ⟨p, q, hA0, hV, rfl, hfz, hnd⟩ := hW
  have hA : DataW.TrodAll enc Tryd.prog W 0 (fun _ => true) true Tryd.f3.params.toList args.toList ds p := hA0
  rw [Tryd.params3] at hA hval
  obtain ⟨v0, vs0, d0, ds0, p0, q0, hargs, rfl, rfl, h0, r0⟩ := trodAll_cons hA
  obtain ⟨v1, vs1, d1, ds1, p1, q1, rfl, rfl, rfl, h1, r1⟩ := trodAll_cons r0
  obtain ⟨v2, vs2, d2, ds2, p2, q2, rfl, rfl, rfl, h2, r2⟩ := trodAll_cons r1
  obtain ⟨rfl, rfl, rfl⟩ := trodAll_nil r2
  obtain rfl : args = #[v0, v1, v2] := by cases args; simp_all
  obtain ⟨rfl, rfl⟩ := trodVars_none hV
  have k0 := h0
  have lt0 : ∀ x ∈ p0, x.block < W.heap.size := by obtain ⟨m, hm⟩ := k0; exact DataW.trod_lt m _ _ _ hm
  have k1 := h1
  have lt1 : ∀ x ∈ p1, x.block < W.heap.size := by obtain ⟨m, hm⟩ := k1; exact DataW.trod_lt m _ _ _ hm
  have k2 := h2
  have lt2 : ∀ x ∈ p2, x.block < W.heap.size := by obtain ⟨m, hm⟩ := k2; exact DataW.trod_lt m _ _ _ hm
  obtain ⟨a0, len0, cap0, z0, n0, rfl, w0⟩ := Bi.open_bitsv (hval 0 24 v0 rfl rfl) h0
  obtain ⟨a1, len1, cap1, z1, n1, rfl, w1⟩ := Bi.open_bitsv (hval 1 24 v1 rfl rfl) h1
  obtain ⟨a2, b2, rfl, w2, u2⟩ := Bi.open_arr2 Tryd.underlying26 Tryd.underlying25 (by kernel_rfl) (by kernel_rfl) (hval 2 26 v2 rfl rfl) h2
  clear hA0 hval0
  refine (bitsPuts_walk a0 len0 cap0 z0 n0 a1 len1 cap1 z1 n1 a2 b2 W w0 w1 w2 u2 (Bi.of_laid hL)).mono fun e W' ⟨he, bel⟩ => ?_
  subst he
  exact ⟨_, rfl, _, _, _, [], _, [], hW', trodAll_mk1 (shut_bool Tryd.underlying4 _), (trodAll_cons_mk (Below.trod bitsPuts_laidOut (by kernel_rfl) (of_decide_eq_true (by kernel_rfl)) k0 bel lt0) (trodAll_cons_mk (Below.trod bitsPuts_laidOut (by kernel_rfl) (of_decide_eq_true (by kernel_rfl)) k1 bel lt1) (trodAll_cons_mk (Below.trod bitsPuts_laidOut (by kernel_rfl) (of_decide_eq_true (by kernel_rfl)) k2 bel lt2) trodAll_mk0))), rfl, bel.frame _, fun h => by cases h⟩

theorem bitsPuts_over : Rows.BitsPutsSaid :=
  OpenClaim.holds_of_wide 3 Tryd.f3 rfl rfl rfl rfl rfl rfl rfl ⟨rfl, rfl, rfl, rfl, rfl⟩ rfl rfl rfl rfl rfl (by kernel_rfl) Tryd.func3 (by kernel_rfl)
    (of_decide_eq_true (by kernel_rfl)) (by unfold Func.isWrapper; first | (rw [if_pos (by decide +kernel)]; kernel_rfl) | (rw [if_neg (by decide +kernel)]; exact ⟨rfl, rfl⟩))
    (fun os started H enc _ => bitsPuts_lifted os started H enc)

theorem bitsPuts_holds : Rows.BitsPutsCardSaid :=
  Claim7.holds_tied_plain_at .later [] [.wider] true (true, "9cfc3ae1e862015fd9fdf792f8480d8fca55708535e00469cb2c4908ace657e2") false
    bitsPuts_over (fun _ h => by cases h) (by kernel_rfl) (fun _ h => by cases h) bitsPuts_row_tie rfl ⟨rfl, rfl⟩ (by kernel_rfl) rfl
    (fun f fn hf hfn => by
      obtain rfl : f = 3 := Option.some.inj ((show Tryd.prog.funcNamed "windrose/windroselaw17.BitsPuts" = some 3 by kernel_rfl).symm.trans hf) |>.symm
      obtain rfl : fn = Tryd.f3 := (Option.some.inj (Tryd.func3.symm.trans hfn)).symm
      exact ⟨by kernel_rfl, fun j t ht => by
        rw [Tryd.params3] at ht
        have hm : t ∈ [24, 24, 26] := by simpa using Array.mem_of_getElem? ht
        have hall : ([24, 24, 26].all fun u => !Tryd.prog.wantsStandIn u) = true := by kernel_rfl
        exact (show Tryd.prog.wantsStandIn t = false by simpa using List.all_eq_true.1 hall t hm)⟩)
    (by kernel_rfl)
#print axioms bitsPuts_holds
end Go.Proofs.YtjdgcbdpeooogaaDoor
