/-
  The law BitsPuts.
-/
import Derived.Test.YtjdgcbdpeooogaaDoorBiPd
import Derived.Test.YtjdgcbdpeooogaaDoorBiPn
namespace Go.Proofs.YtjdgcbdpeooogaaDoor.Bi
open Go.ChangeShapes Go.WideShapes Go.ChangeAt Go.RowKit
set_option maxHeartbeats 1000000 in
set_option maxRecDepth 60000 in
theorem puts_dark0 (a0 : Option Addr) (len0 cap0 : Nat) (z0 : List Nat) (n0 : Int) (a1 : Option Addr) (len1 cap1 : Nat) (z1 : List Nat) (n1 : Int) (u : Nat) (b2 v n : Int) (w : World) (h0 : ByAt w a0 len0 cap0 z0) (h1 : ByAt w a1 len1 cap1 z1) (hv : IntKind.i64.wrap (u : Int) = v) (hn : IntKind.i64.wrap b2 = n) (hT : Tab w) (hl0 : lightP len0 n0 = false)  : Calls Tryd.prog 3 #[.agg #[.slice a0 len0 cap0, .int .i64 n0], .agg #[.slice a1 len1 cap1, .int .i64 n1], .agg #[.int .u64 (u : Int), .int .u64 b2]] w fun e w' => e = .returned (.bool true) ∧ Below w.heap.size w w' := by
  have HR0 := Hid.mk9 h0
  have HR1 := Hid.mk9 h1
  have HT := Hid.mk9 hT
  have HV := Hid.mk9 hv
  have HN := Hid.mk9 hn
  have HL0 := Hid.mk9 hl0
  clear hv hl0 hT h0 h1 hn
  have HB1 := Hid.mk9 (below_alloc w (.cells #[.slice a0 len0 cap0, .int .i64 n0] 24))
  have HX1 := Hid.mk9 (B2.new w 24 (.slice a0 len0 cap0) (.int .i64 n0))
  have HB2 := Hid.mk9 (below2 HB1.out (below_alloc _ (.cells #[.slice a1 len1 cap1, .int .i64 n1] 24)))
  have HX2 := Hid.mk9 (HX1.out.below (below_alloc _ (.cells #[.slice a1 len1 cap1, .int .i64 n1] 24)))
  have HY2 := Hid.mk9 (B2.new (w.alloc (.cells #[.slice a0 len0 cap0, .int .i64 n0] 24)) 24 (.slice a1 len1 cap1) (.int .i64 n1))
  have HB3 := Hid.mk9 (below2 HB2.out (below_alloc _ (.cells #[.int .u64 (u : Int), .int .u64 b2] 26)))
  have HX3 := Hid.mk9 (HX2.out.below (below_alloc _ (.cells #[.int .u64 (u : Int), .int .u64 b2] 26)))
  have HY3 := Hid.mk9 (HY2.out.below (below_alloc _ (.cells #[.int .u64 (u : Int), .int .u64 b2] 26)))
  have HZ3 := Hid.mk9 (B2.new ((w.alloc (.cells #[.slice a0 len0 cap0, .int .i64 n0] 24)).alloc (.cells #[.slice a1 len1 cap1, .int .i64 n1] 24)) 26 (.int .u64 (u : Int)) (.int .u64 b2))
  rw [show (w.alloc (.cells #[.slice a0 len0 cap0, .int .i64 n0] 24)).heap.size = w.heap.size + 1 from by simp] at HY3
  rw [show ((w.alloc (.cells #[.slice a0 len0 cap0, .int .i64 n0] 24)).alloc (.cells #[.slice a1 len1 cap1, .int .i64 n1] 24)).heap.size = w.heap.size + 1 + 1 from by simp] at HZ3
  clear HB1 HX1 HB2 HX2 HY2
  go_enter Tryd.func3, Tryd.ntmps3
  go_upto_region 1 with fail
  generalize ((w.alloc (.cells #[.slice a0 len0 cap0, .int .i64 n0] 24)).alloc (.cells #[.slice a1 len1 cap1, .int .i64 n1] 24)).alloc (.cells #[.int .u64 (u : Int), .int .u64 b2] 26) = w3 at *
  obtain ⟨X, hX⟩ : ∃ X, w.heap.size = X := ⟨_, rfl⟩
  rw [hX] at HX3 HY3 HZ3 ⊢
  clear hX
  obtain ⟨Y, hY⟩ : ∃ Y, X + 1 = Y := ⟨_, rfl⟩
  rw [hY] at HY3 HZ3 ⊢
  obtain ⟨Z, hZ⟩ : ∃ Z, Y + 1 = Z := ⟨_, rfl⟩
  rw [hZ] at HZ3 ⊢
  clear hY hZ
  obtain ⟨p0, p1⟩ := HZ3.out.cells
  have hnn := HN.out
  go_region
  clear p0 p1 HZ3
  have HB := Hid.mk9 (below2 HB3.out (below_drew w3))
  have HX := Hid.mk9 (HX3.out.below (below_drew w3))
  have HY := Hid.mk9 (HY3.out.below (below_drew w3))
  clear HB3 HX3 HY3
  generalize w3.drew = w4 at *
  obtain ⟨p0, p1⟩ := HX.out.cells
  clear hnn HN
  go_wp2_with (first | (have := HL0.out; clear this; go_at_call 8; refine (light_any a0 len0 cap0 n0 z0 _ (HR0.out.below HB.out)).mono ?_; rintro e w7 ⟨rfl, hg7⟩; rw [HL0.out]; replace HB := Hid.mk9 (below2 HB.out (grown_below hg7)); replace HX := Hid.mk9 (HX.out.below (grown_below hg7)); replace HY := Hid.mk9 (HY.out.below (grown_below hg7)); clear HL0 hg7 p0 p1; obtain ⟨p0, p1⟩ := HY.out.cells) | (go_at_call 8; refine (light_any a1 len1 cap1 n1 z1 _ (HR1.out.below HB.out)).mono ?_; rintro e w7 ⟨rfl, hg7⟩; rw [HL1.out]; replace HB := Hid.mk9 (below2 HB.out (grown_below hg7)); replace HX := Hid.mk9 (HX.out.below (grown_below hg7)); replace HY := Hid.mk9 (HY.out.below (grown_below hg7)); clear HL1 hg7 p0 p1) | (go_at_call 9; refine (awake_any _ (HT.out.below HB.out)).mono ?_; rintro e w7 ⟨rfl, hb7⟩; replace HB := Hid.mk9 (below2 HB.out hb7); replace HX := Hid.mk9 (HX.out.below hb7); replace HY := Hid.mk9 (HY.out.below hb7); clear hb7))
  go_ret
  exact ⟨rfl, HB.out⟩
set_option maxHeartbeats 1000000 in
set_option maxRecDepth 60000 in
theorem puts_dark1 (a0 : Option Addr) (len0 cap0 : Nat) (z0 : List Nat) (n0 : Int) (a1 : Option Addr) (len1 cap1 : Nat) (z1 : List Nat) (n1 : Int) (u : Nat) (b2 v n : Int) (w : World) (h0 : ByAt w a0 len0 cap0 z0) (h1 : ByAt w a1 len1 cap1 z1) (hv : IntKind.i64.wrap (u : Int) = v) (hn : IntKind.i64.wrap b2 = n) (hT : Tab w) (hl0 : lightP len0 n0 = true) (hl1 : lightP len1 n1 = false)  : Calls Tryd.prog 3 #[.agg #[.slice a0 len0 cap0, .int .i64 n0], .agg #[.slice a1 len1 cap1, .int .i64 n1], .agg #[.int .u64 (u : Int), .int .u64 b2]] w fun e w' => e = .returned (.bool true) ∧ Below w.heap.size w w' := by
  have HR0 := Hid.mk9 h0
  have HR1 := Hid.mk9 h1
  have HT := Hid.mk9 hT
  have HV := Hid.mk9 hv
  have HN := Hid.mk9 hn
  have HL0 := Hid.mk9 hl0
  have HL1 := Hid.mk9 hl1
  clear hv hl0 hl1 hT h0 h1 hn
  have HB1 := Hid.mk9 (below_alloc w (.cells #[.slice a0 len0 cap0, .int .i64 n0] 24))
  have HX1 := Hid.mk9 (B2.new w 24 (.slice a0 len0 cap0) (.int .i64 n0))
  have HB2 := Hid.mk9 (below2 HB1.out (below_alloc _ (.cells #[.slice a1 len1 cap1, .int .i64 n1] 24)))
  have HX2 := Hid.mk9 (HX1.out.below (below_alloc _ (.cells #[.slice a1 len1 cap1, .int .i64 n1] 24)))
  have HY2 := Hid.mk9 (B2.new (w.alloc (.cells #[.slice a0 len0 cap0, .int .i64 n0] 24)) 24 (.slice a1 len1 cap1) (.int .i64 n1))
  have HB3 := Hid.mk9 (below2 HB2.out (below_alloc _ (.cells #[.int .u64 (u : Int), .int .u64 b2] 26)))
  have HX3 := Hid.mk9 (HX2.out.below (below_alloc _ (.cells #[.int .u64 (u : Int), .int .u64 b2] 26)))
  have HY3 := Hid.mk9 (HY2.out.below (below_alloc _ (.cells #[.int .u64 (u : Int), .int .u64 b2] 26)))
  have HZ3 := Hid.mk9 (B2.new ((w.alloc (.cells #[.slice a0 len0 cap0, .int .i64 n0] 24)).alloc (.cells #[.slice a1 len1 cap1, .int .i64 n1] 24)) 26 (.int .u64 (u : Int)) (.int .u64 b2))
  rw [show (w.alloc (.cells #[.slice a0 len0 cap0, .int .i64 n0] 24)).heap.size = w.heap.size + 1 from by simp] at HY3
  rw [show ((w.alloc (.cells #[.slice a0 len0 cap0, .int .i64 n0] 24)).alloc (.cells #[.slice a1 len1 cap1, .int .i64 n1] 24)).heap.size = w.heap.size + 1 + 1 from by simp] at HZ3
  clear HB1 HX1 HB2 HX2 HY2
  go_enter Tryd.func3, Tryd.ntmps3
  go_upto_region 1 with fail
  generalize ((w.alloc (.cells #[.slice a0 len0 cap0, .int .i64 n0] 24)).alloc (.cells #[.slice a1 len1 cap1, .int .i64 n1] 24)).alloc (.cells #[.int .u64 (u : Int), .int .u64 b2] 26) = w3 at *
  obtain ⟨X, hX⟩ : ∃ X, w.heap.size = X := ⟨_, rfl⟩
  rw [hX] at HX3 HY3 HZ3 ⊢
  clear hX
  obtain ⟨Y, hY⟩ : ∃ Y, X + 1 = Y := ⟨_, rfl⟩
  rw [hY] at HY3 HZ3 ⊢
  obtain ⟨Z, hZ⟩ : ∃ Z, Y + 1 = Z := ⟨_, rfl⟩
  rw [hZ] at HZ3 ⊢
  clear hY hZ
  obtain ⟨p0, p1⟩ := HZ3.out.cells
  have hnn := HN.out
  go_region
  clear p0 p1 HZ3
  have HB := Hid.mk9 (below2 HB3.out (below_drew w3))
  have HX := Hid.mk9 (HX3.out.below (below_drew w3))
  have HY := Hid.mk9 (HY3.out.below (below_drew w3))
  clear HB3 HX3 HY3
  generalize w3.drew = w4 at *
  obtain ⟨p0, p1⟩ := HX.out.cells
  clear hnn HN
  go_wp2_with (first | (have := HL0.out; clear this; go_at_call 8; refine (light_any a0 len0 cap0 n0 z0 _ (HR0.out.below HB.out)).mono ?_; rintro e w7 ⟨rfl, hg7⟩; rw [HL0.out]; replace HB := Hid.mk9 (below2 HB.out (grown_below hg7)); replace HX := Hid.mk9 (HX.out.below (grown_below hg7)); replace HY := Hid.mk9 (HY.out.below (grown_below hg7)); clear HL0 hg7 p0 p1; obtain ⟨p0, p1⟩ := HY.out.cells) | (go_at_call 8; refine (light_any a1 len1 cap1 n1 z1 _ (HR1.out.below HB.out)).mono ?_; rintro e w7 ⟨rfl, hg7⟩; rw [HL1.out]; replace HB := Hid.mk9 (below2 HB.out (grown_below hg7)); replace HX := Hid.mk9 (HX.out.below (grown_below hg7)); replace HY := Hid.mk9 (HY.out.below (grown_below hg7)); clear HL1 hg7 p0 p1) | (go_at_call 9; refine (awake_any _ (HT.out.below HB.out)).mono ?_; rintro e w7 ⟨rfl, hb7⟩; replace HB := Hid.mk9 (below2 HB.out hb7); replace HX := Hid.mk9 (HX.out.below hb7); replace HY := Hid.mk9 (HY.out.below hb7); clear hb7))
  go_ret
  exact ⟨rfl, HB.out⟩
set_option maxHeartbeats 1000000 in
set_option maxRecDepth 60000 in
theorem puts_any (a0 : Option Addr) (len0 cap0 : Nat) (z0 : List Nat) (n0 : Int) (a1 : Option Addr) (len1 cap1 : Nat) (z1 : List Nat) (n1 a2 b2 : Int) (w : World) (h0 : ByAt w a0 len0 cap0 z0) (h1 : ByAt w a1 len1 cap1 z1) (h2 : (Lit.int .u64 a2).wf = true) (hT : Tab w) : Calls Tryd.prog 3 #[.agg #[.slice a0 len0 cap0, .int .i64 n0], .agg #[.slice a1 len1 cap1, .int .i64 n1], .agg #[.int .u64 a2, .int .u64 b2]] w fun e w' => e = .returned (.bool true) ∧ Below w.heap.size w w' := by
  have g2 : 0 ≤ a2 ∧ a2 ≤ 18446744073709551615 := by simpa [Lit.wf, IntKind.min, IntKind.max, IntKind.bits, IntKind.signed] using h2
  obtain ⟨u, rfl⟩ : ∃ x : Nat, a2 = x := ⟨a2.toNat, by omega⟩
  have hu : inU u := by unfold inU; omega
  cases hl0 : lightP len0 n0 with
  | false => exact puts_dark0 a0 len0 cap0 z0 n0 a1 len1 cap1 z1 n1 u b2 _ _ w h0 h1 rfl rfl hT hl0
  | true =>
    cases hl1 : lightP len1 n1 with
    | false => exact puts_dark1 a0 len0 cap0 z0 n0 a1 len1 cap1 z1 n1 u b2 _ _ w h0 h1 rfl rfl hT hl0 hl1
    | true =>
      by_cases hM : MayB z0 n0
      · exact puts_yes a0 len0 cap0 z0 n0 a1 len1 cap1 z1 n1 u b2 _ _ w h0 h1 hu rfl rfl hT hl0 hl1 hM
      · exact puts_no a0 len0 cap0 z0 n0 a1 len1 cap1 z1 n1 u b2 _ _ w h0 h1 rfl rfl hT hl0 hl1 hM
end Go.Proofs.YtjdgcbdpeooogaaDoor.Bi
