/-
  The law BitsReads.
-/
import Derived.Test.YtjdgcbdpeooogaaDoorBiRdY
import Derived.Test.YtjdgcbdpeooogaaDoorBiRdN
namespace Go.Proofs.YtjdgcbdpeooogaaDoor.Bi
open Go.ChangeShapes Go.WideShapes Go.ChangeAt Go.RowKit
set_option maxHeartbeats 1000000 in
set_option maxRecDepth 60000 in
theorem reads_any (a0 : Option Addr) (len0 cap0 : Nat) (z0 : List Nat) (n0 : Int) (a1 : Option Addr) (len1 cap1 : Nat) (z1 : List (Int × Int)) (w : World) (h0 : ByAt w a0 len0 cap0 z0) (h1 : StAt w a1 len1 cap1 z1) (hT : Tab w) : Calls Tryd.prog 4 #[.agg #[.slice a0 len0 cap0, .int .i64 n0], .slice a1 len1 cap1] w fun e w' => e = .returned (.bool true) ∧ Below w.heap.size w w' := by
  cases hl : lightP len0 n0 with
  | true =>
    by_cases hM : MayB z0 n0
    · exact reads_yes a0 len0 cap0 z0 n0 a1 len1 cap1 z1 w h0 h1 hT hl hM
    · exact reads_no a0 len0 cap0 z0 n0 a1 len1 cap1 z1 w h0 h1 hT hl hM
  | false =>
    have HLt := Hid.mk9 hl
    have HR0 := Hid.mk9 h0
    have HB := Hid.mk9 (below_alloc w (.cells #[.slice a0 len0 cap0, .int .i64 n0] 24))
    have HX := Hid.mk9 (B2.new w 24 (.slice a0 len0 cap0) (.int .i64 n0))
    have HT := Hid.mk9 hT
    clear h0 h1 hT hl
    go_enter Tryd.func4, Tryd.ntmps4
    go_upto_region 1 with fail
    generalize w.alloc (.cells #[.slice a0 len0 cap0, .int .i64 n0] 24) = w1 at *
    obtain ⟨X, hX⟩ : ∃ X, w.heap.size = X := ⟨_, rfl⟩
    rw [hX] at HX
    rw [show (.pointer (some ⟨w.heap.size, 0, none⟩) : Value) = .pointer (some ⟨X, 0, none⟩) by rw [hX]]
    clear hX
    obtain ⟨p0, p1⟩ := HX.out.cells
    go_wp2_with (first | (go_at_call 8; refine (light_any a0 len0 cap0 n0 z0 _ (HR0.out.below HB.out)).mono ?_; rintro e w2 ⟨rfl, hg2⟩; rw [HLt.out]; have HB2 := Hid.mk9 (below2 HB.out (grown_below hg2)); clear hg2) | (go_at_call 9; refine (awake_any _ (HT.out.below HB2.out)).mono ?_; rintro e w8 ⟨rfl, hb8⟩; have HB8 := Hid.mk9 (below2 HB2.out hb8); clear hb8))
    go_ret
    exact ⟨rfl, HB8.out⟩
end Go.Proofs.YtjdgcbdpeooogaaDoor.Bi
