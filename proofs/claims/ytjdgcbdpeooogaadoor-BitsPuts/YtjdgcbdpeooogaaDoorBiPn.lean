/-
  The walk of the law BitsPuts over bits that may not be.
-/
import Derived.Test.YtjdgcbdpeooogaaDoorBiPl
namespace Go.Proofs.YtjdgcbdpeooogaaDoor.Bi
open Go.ChangeShapes Go.WideShapes Go.ChangeAt Go.RowKit
set_option maxHeartbeats 4000000 in
set_option maxRecDepth 60000 in
theorem puts_no (a0 : Option Addr) (len0 cap0 : Nat) (z0 : List Nat) (n0 : Int) (a1 : Option Addr) (len1 cap1 : Nat) (z1 : List Nat) (n1 : Int) (u : Nat) (b2 v n : Int) (w : World) (h0 : ByAt w a0 len0 cap0 z0) (h1 : ByAt w a1 len1 cap1 z1) (hv : IntKind.i64.wrap (u : Int) = v) (hn : IntKind.i64.wrap b2 = n) (hT : Tab w) (hl0 : lightP len0 n0 = true) (hl1 : lightP len1 n1 = true) (hM : ¬ MayB z0 n0) : Calls Tryd.prog 3 #[.agg #[.slice a0 len0 cap0, .int .i64 n0], .agg #[.slice a1 len1 cap1, .int .i64 n1], .agg #[.int .u64 (u : Int), .int .u64 b2]] w fun e w' => e = .returned (.bool true) ∧ Below w.heap.size w w' := by
  have hll := lightP_iff.1 hl0
  have HMy : Hid (mayR z0 n0 = false) := mayR_no hM
  have HR0 := Hid.mk9 h0
  have HR1 := Hid.mk9 h1
  have HT := Hid.mk9 hT
  have HV := Hid.mk9 hv
  have HN := Hid.mk9 hn
  have HL0 := Hid.mk9 hl0
  have HL1 := Hid.mk9 hl1
  have HPut : Hid (∀ W, Below w.heap.size w W → Calls Tryd.prog 10 #[.agg #[.slice a0 len0 cap0, .int .i64 n0], .int .u64 (u : Int), .int .i64 n] W fun e w' => BP [] 1 W e w') := fun W hW => (put_no a0 len0 cap0 n0 n u z0 W (HR0.out.below hW) hM).mono fun e w' hp => bp_of hp
  have HNu : Hid (∀ W, Below w.heap.size w W → Calls Tryd.prog 11 #[.agg #[.slice a0 len0 cap0, .int .i64 n0], .int .i64 v] W fun e w' => BP [] 1 W e w') := fun W hW => (number_no a0 len0 cap0 n0 v z0 W (HR0.out.below hW) hM).mono fun e w' hp => bp_of hp
  have HJo : Hid (∀ W, Below w.heap.size w W → Calls Tryd.prog 12 #[.agg #[.slice a0 len0 cap0, .int .i64 n0], .agg #[.slice a1 len1 cap1, .int .i64 n1]] W fun e w' => BP [] 1 W e w') := fun W hW => (join_no a0 a1 len0 cap0 len1 cap1 n0 n1 z0 W (HR0.out.below hW) hM).mono fun e w' hp => bp_of hp
  have HN9 : Hid (n0 ≤ 2400) := hll.2.1
  clear hll hM hv hl0 hl1 hT h0 h1 hn
  have HB1 := Hid.mk9 (below_alloc w (.cells #[.slice a0 len0 cap0, .int .i64 n0] 24))
  have HX1 := Hid.mk9 (B2.new w 24 (.slice a0 len0 cap0) (.int .i64 n0))
  have HB2 := Hid.mk9 (below2 HB1.out (below_alloc _ (.cells #[.slice a1 len1 cap1, .int .i64 n1] 24)))
  have HX2 := Hid.mk9 (HX1.out.below (below_alloc _ (.cells #[.slice a1 len1 cap1, .int .i64 n1] 24)))
  have HY2 := Hid.mk9 (B2.new (w.alloc (.cells #[.slice a0 len0 cap0, .int .i64 n0] 24)) 24 (.slice a1 len1 cap1) (.int .i64 n1))
  have HB3 := Hid.mk9 (below2 HB2.out (below_alloc _ (.cells #[.int .u64 (u : Int), .int .u64 b2] 26)))
  have HX3 := Hid.mk9 (HX2.out.below (below_alloc _ (.cells #[.int .u64 (u : Int), .int .u64 b2] 26)))
  have HY3 := Hid.mk9 (HY2.out.below (below_alloc _ (.cells #[.int .u64 (u : Int), .int .u64 b2] 26)))
  have HZ3 := Hid.mk9 (B2.new ((w.alloc (.cells #[.slice a0 len0 cap0, .int .i64 n0] 24)).alloc (.cells #[.slice a1 len1 cap1, .int .i64 n1] 24)) 26 (.int .u64 (u : Int)) (.int .u64 b2))
  rw [show (w.alloc (.cells #[.slice a0 len0 cap0, .int .i64 n0] 24)).heap.size = w.heap.size + 1 from by simp] at HY3
  rw [show ((w.alloc (.cells #[.slice a0 len0 cap0, .int .i64 n0] 24)).alloc (.cells #[.slice a1 len1 cap1, .int .i64 n1] 24)).heap.size = w.heap.size + 1 + 1 from by simp] at HZ3
  clear HB1 HX1 HB2 HX2 HY2
  go_enter Tryd.func3, Tryd.ntmps3
  go_upto_region 1 with fail
  generalize ((w.alloc (.cells #[.slice a0 len0 cap0, .int .i64 n0] 24)).alloc (.cells #[.slice a1 len1 cap1, .int .i64 n1] 24)).alloc (.cells #[.int .u64 (u : Int), .int .u64 b2] 26) = w3 at *
  obtain ⟨X, hX⟩ : ∃ X, w.heap.size = X := ⟨_, rfl⟩
  rw [hX] at HX3 HY3 HZ3 ⊢
  clear hX
  obtain ⟨Y, hY⟩ : ∃ Y, X + 1 = Y := ⟨_, rfl⟩
  rw [hY] at HY3 HZ3 ⊢
  obtain ⟨Z, hZ⟩ : ∃ Z, Y + 1 = Z := ⟨_, rfl⟩
  rw [hZ] at HZ3 ⊢
  clear hY hZ
  obtain ⟨p0, p1⟩ := HZ3.out.cells
  have hnn := HN.out
  go_region
  clear p0 p1 HZ3
  have HB := Hid.mk9 (below2 HB3.out (below_drew w3))
  have HX := Hid.mk9 (HX3.out.below (below_drew w3))
  have HY := Hid.mk9 (HY3.out.below (below_drew w3))
  clear HB3 HX3 HY3
  generalize w3.drew = w4 at *
  obtain ⟨p0, p1⟩ := HX.out.cells
  clear hnn HN
  go_upto_region 4 with (first | (have := HL0.out; clear this; go_at_call 8; refine (light_any a0 len0 cap0 n0 z0 _ (HR0.out.below HB.out)).mono ?_; rintro e w7 ⟨rfl, hg7⟩; rw [HL0.out]; replace HB := Hid.mk9 (below2 HB.out (grown_below hg7)); replace HX := Hid.mk9 (HX.out.below (grown_below hg7)); replace HY := Hid.mk9 (HY.out.below (grown_below hg7)); clear HL0 hg7 p0 p1; obtain ⟨p0, p1⟩ := HY.out.cells) | (go_at_call 8; refine (light_any a1 len1 cap1 n1 z1 _ (HR1.out.below HB.out)).mono ?_; rintro e w7 ⟨rfl, hg7⟩; rw [HL1.out]; replace HB := Hid.mk9 (below2 HB.out (grown_below hg7)); replace HX := Hid.mk9 (HX.out.below (grown_below hg7)); replace HY := Hid.mk9 (HY.out.below (grown_below hg7)); clear HL1 hg7 p0 p1))
  obtain ⟨p0, p1⟩ := HX.out.cells
  go_upto_region 5 with (go_at_call 10; refine (HPut.out _ HB.out).mono ?_; rintro e w7 ⟨hb7, a3, ln3, c3, k3, rfl, hk3, hy3, hl3⟩; replace HB := Hid.mk9 (below2 HB.out hb7); replace HX := Hid.mk9 (HX.out.below hb7); replace HY := Hid.mk9 (HY.out.below hb7); have HY3 := Hid.mk9 hy3; have HZ3 : Hid (k3 = ([] : List Bool).length ∧ ln3 = need k3) := ⟨hk3, hl3⟩; clear hk3 hy3 hl3 hb7; clear HPut)
  have HBX := Hid.mk9 (below_alloc w7 (.cells #[.slice a3 ln3 c3, .int .i64 (k3 : Int)] 24))
  have HA := Hid.mk9 (B2.new w7 24 (.slice a3 ln3 c3) (.int .i64 (k3 : Int)))
  replace HB := Hid.mk9 (below2 HB.out HBX.out)
  replace HX := Hid.mk9 (HX.out.below HBX.out)
  replace HY := Hid.mk9 (HY.out.below HBX.out)
  replace HY3 := Hid.mk9 (HY3.out.below HBX.out)
  clear HBX p0 p1
  generalize w7.alloc (.cells #[.slice a3 ln3 c3, .int .i64 (k3 : Int)] 24) = w3 at *
  generalize w7.heap.size = A at *
  obtain ⟨p0, p1⟩ := HX.out.cells
  have hv := HV.out
  go_upto_region 6 with (go_at_call 11; refine (HNu.out _ HB.out).mono ?_; rintro e w7 ⟨hb7, a5, ln5, c5, k5, rfl, hk5, hy5, hl5⟩; replace HB := Hid.mk9 (below2 HB.out hb7); replace HX := Hid.mk9 (HX.out.below hb7); replace HY := Hid.mk9 (HY.out.below hb7); replace HA := Hid.mk9 (HA.out.below hb7); replace HY3 := Hid.mk9 (HY3.out.below hb7); have HY5 := Hid.mk9 hy5; have HZ5 : Hid (k5 = ([] : List Bool).length ∧ ln5 = need k5) := ⟨hk5, hl5⟩; clear hk5 hy5 hl5 hb7; clear HNu)
  have HBX := Hid.mk9 (below_alloc w7 (.cells #[.slice a5 ln5 c5, .int .i64 (k5 : Int)] 24))
  have HB5 := Hid.mk9 (B2.new w7 24 (.slice a5 ln5 c5) (.int .i64 (k5 : Int)))
  replace HB := Hid.mk9 (below2 HB.out HBX.out)
  replace HX := Hid.mk9 (HX.out.below HBX.out)
  replace HY := Hid.mk9 (HY.out.below HBX.out)
  replace HA := Hid.mk9 (HA.out.below HBX.out)
  replace HY3 := Hid.mk9 (HY3.out.below HBX.out)
  replace HY5 := Hid.mk9 (HY5.out.below HBX.out)
  clear HBX p0 p1
  generalize w7.alloc (.cells #[.slice a5 ln5 c5, .int .i64 (k5 : Int)] 24) = w5 at *
  generalize w7.heap.size = B at *
  clear hv
  obtain ⟨p0, p1⟩ := HX.out.cells
  obtain ⟨q0, q1⟩ := HY.out.cells
  go_upto_region 7 with (go_at_call 12; refine (HJo.out _ HB.out).mono ?_; rintro e w7 ⟨hb7, a6, ln6, c6, k6, rfl, hk6, hy6, hl6⟩; replace HB := Hid.mk9 (below2 HB.out hb7); replace HX := Hid.mk9 (HX.out.below hb7); replace HY := Hid.mk9 (HY.out.below hb7); replace HA := Hid.mk9 (HA.out.below hb7); replace HY3 := Hid.mk9 (HY3.out.below hb7); replace HB5 := Hid.mk9 (HB5.out.below hb7); replace HY5 := Hid.mk9 (HY5.out.below hb7); have HY6 := Hid.mk9 hy6; have HZ6 : Hid (k6 = ([] : List Bool).length ∧ ln6 = need k6) := ⟨hk6, hl6⟩; clear hk6 hy6 hl6 hb7; clear HJo q0 q1)
  have HBX := Hid.mk9 (below_alloc w7 (.cells #[.slice a6 ln6 c6, .int .i64 (k6 : Int)] 24))
  have HC := Hid.mk9 (B2.new w7 24 (.slice a6 ln6 c6) (.int .i64 (k6 : Int)))
  replace HB := Hid.mk9 (below2 HB.out HBX.out)
  replace HX := Hid.mk9 (HX.out.below HBX.out)
  replace HY := Hid.mk9 (HY.out.below HBX.out)
  replace HA := Hid.mk9 (HA.out.below HBX.out)
  replace HY3 := Hid.mk9 (HY3.out.below HBX.out)
  replace HB5 := Hid.mk9 (HB5.out.below HBX.out)
  replace HY5 := Hid.mk9 (HY5.out.below HBX.out)
  replace HY6 := Hid.mk9 (HY6.out.below HBX.out)
  clear HBX p0 p1
  generalize w7.alloc (.cells #[.slice a6 ln6 c6, .int .i64 (k6 : Int)] 24) = w6 at *
  generalize w7.heap.size = C at *
  obtain ⟨p0, p1⟩ := HX.out.cells
  go_wp2_with (first | (have := HMy.out; clear this; go_at_call 13; refine (rmay_any a0 len0 cap0 n0 z0 _ (HR0.out.below HB.out) HN9.out).mono ?_; rintro e w7 ⟨rfl, hg7⟩; rw [HMy.out]; replace HB := Hid.mk9 (below2 HB.out (grown_below hg7)); replace HX := Hid.mk9 (HX.out.below (grown_below hg7)); replace HY := Hid.mk9 (HY.out.below (grown_below hg7)); replace HA := Hid.mk9 (HA.out.below (grown_below hg7)); replace HY3 := Hid.mk9 (HY3.out.below (grown_below hg7)); replace HB5 := Hid.mk9 (HB5.out.below (grown_below hg7)); replace HY5 := Hid.mk9 (HY5.out.below (grown_below hg7)); replace HC := Hid.mk9 (HC.out.below (grown_below hg7)); replace HY6 := Hid.mk9 (HY6.out.below (grown_below hg7)); clear HMy hg7 p0 p1; obtain ⟨p0, p1⟩ := HA.out.cells; obtain ⟨q0, q1⟩ := HB5.out.cells; obtain ⟨r0, r1⟩ := HC.out.cells) | (go_at_call 14; refine (told_nil _ _ _ _ _ (by first | exact HY3.out | exact HY5.out | exact HY6.out) (by first | exact HZ3.out.2 | exact HZ5.out.2 | exact HZ6.out.2) (by first | exact HZ3.out.1 | exact HZ5.out.1 | exact HZ6.out.1)).mono ?_; rintro e w7 ⟨rfl, hb7⟩; replace HB := Hid.mk9 (below2 HB.out hb7); replace HX := Hid.mk9 (HX.out.below hb7); replace HY := Hid.mk9 (HY.out.below hb7); replace HA := Hid.mk9 (HA.out.below hb7); replace HY3 := Hid.mk9 (HY3.out.below hb7); replace HB5 := Hid.mk9 (HB5.out.below hb7); replace HY5 := Hid.mk9 (HY5.out.below hb7); replace HC := Hid.mk9 (HC.out.below hb7); replace HY6 := Hid.mk9 (HY6.out.below hb7); clear hb7 p0 p1 q0 q1 r0 r1; obtain ⟨p0, p1⟩ := HA.out.cells; obtain ⟨q0, q1⟩ := HB5.out.cells; obtain ⟨r0, r1⟩ := HC.out.cells) | (go_at_call 9; refine (awake_any _ (HT.out.below HB.out)).mono ?_; rintro e w7 ⟨rfl, hb7⟩; replace HB := Hid.mk9 (below2 HB.out hb7); replace HX := Hid.mk9 (HX.out.below hb7); replace HY := Hid.mk9 (HY.out.below hb7); clear hb7))
  go_ret
  exact ⟨rfl, HB.out⟩
end Go.Proofs.YtjdgcbdpeooogaaDoor.Bi
