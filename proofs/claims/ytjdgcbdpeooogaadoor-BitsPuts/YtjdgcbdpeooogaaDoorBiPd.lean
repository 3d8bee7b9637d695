/-
  The walk of the law BitsPuts.
-/
import Derived.Test.YtjdgcbdpeooogaaDoorBiPb
import Derived.Test.YtjdgcbdpeooogaaDoorBiPc
import Derived.Test.YtjdgcbdpeooogaaDoorBiPl
namespace Go.Proofs.YtjdgcbdpeooogaaDoor.Bi
open Go.ChangeShapes Go.WideShapes Go.ChangeAt Go.RowKit
set_option maxHeartbeats 4000000 in
set_option maxRecDepth 60000 in
theorem puts_yes (a0 : Option Addr) (len0 cap0 : Nat) (z0 : List Nat) (n0 : Int) (a1 : Option Addr) (len1 cap1 : Nat) (z1 : List Nat) (n1 : Int) (u : Nat) (b2 v n : Int) (w : World) (h0 : ByAt w a0 len0 cap0 z0) (h1 : ByAt w a1 len1 cap1 z1) (hu : inU u) (hv : IntKind.i64.wrap (u : Int) = v) (hn : IntKind.i64.wrap b2 = n) (hT : Tab w) (hl0 : lightP len0 n0 = true) (hl1 : lightP len1 n1 = true) (hM : MayB z0 n0) : Calls Tryd.prog 3 #[.agg #[.slice a0 len0 cap0, .int .i64 n0], .agg #[.slice a1 len1 cap1, .int .i64 n1], .agg #[.int .u64 (u : Int), .int .u64 b2]] w fun e w' => e = .returned (.bool true) ∧ Below w.heap.size w w' := by
  obtain ⟨k0, rfl⟩ : ∃ k0 : Nat, n0 = (k0 : Int) := ⟨n0.toNat, by have := hM.1; omega⟩
  have hll := lightP_iff.1 hl0
  have hll1 := lightP_iff.1 hl1
  obtain ⟨L, hL⟩ : ∃ L, L = unpack z0 k0 := ⟨_, rfl⟩
  have hLk : L.length = k0 := by rw [hL]; exact unpack_len _ _
  have hpk := may_pack h0.2.2.2.1 hM
  rw [← hL, h0.1] at hpk
  have hnd : len0 = need k0 := by have := (may_iff.1 hM).2.1; rw [h0.1] at this; exact this
  have hk9 : k0 ≤ 2400 := by omega
  have hvI : inI v := by rw [← hv]; exact wrap_inI _
  have hnI : inI n := by rw [← hn]; exact wrap_inI _
  have HMy : Hid (mayR z0 (k0 : Int) = true) := mayR_yes hM
  have HR0 := Hid.mk9 h0
  have HR1 := Hid.mk9 h1
  have HPk : Hid (z0 = pack L len0 ∧ L.length = k0 ∧ len0 = need k0 ∧ k0 ≤ 2400) := ⟨hpk, hLk, hnd, hk9⟩
  obtain ⟨l3, er3, hP, hput⟩ := put_is a0 len0 cap0 k0 L u n hLk hnd hk9
  obtain ⟨l6, er6, hJ, hjoin⟩ := join_is a0 a1 len0 cap0 k0 len1 cap1 n1 L z1 hLk hnd hk9 hll1.2.1 h1.2.2.2.1
  have HPP := Hid.mk9 hP
  have HJJ := Hid.mk9 hJ
  have HRL : Hid (∀ W, Below w.heap.size w W → ByAt W a0 len0 cap0 (pack L len0)) := fun W hW => by have := HR0.out.below hW; rwa [HPk.out.1] at this
  have HPut : Hid (∀ W, Below w.heap.size w W → Calls Tryd.prog 10 #[.agg #[.slice a0 len0 cap0, .int .i64 (k0 : Int)], .int .u64 (u : Int), .int .i64 n] W fun e w' => BP l3 er3 W e w') := fun W hW => hput W (HRL.out W hW)
  have HJo : Hid (∀ W, Below w.heap.size w W → Calls Tryd.prog 12 #[.agg #[.slice a0 len0 cap0, .int .i64 (k0 : Int)], .agg #[.slice a1 len1 cap1, .int .i64 n1]] W fun e w' => BP l6 er6 W e w') := fun W hW => hjoin W (HRL.out W hW) (HR1.out.below hW)
  obtain ⟨cod, hcod⟩ : ∃ cod, cod = coded v := ⟨_, rfl⟩
  have hcl := coded_len v
  rw [← hcod] at hcl
  obtain ⟨cv, hcv⟩ : ∃ cv, cv = clsU (foldN v) := ⟨_, rfl⟩
  obtain ⟨kc, hkc⟩ : ∃ kc, kc = cod.length := ⟨_, rfl⟩
  have hkc9 : (kc : Int) ≤ 68 := by
    rw [hkc, hcl]
    unfold szT
    have h1 := hdT_small (clsU_lt (foldN v))
    have h2 := wdT_small (clsU_lt (foldN v))
    omega
  have HT := Hid.mk9 hT
  have HNu : Hid (∀ W, Below w.heap.size w W → Calls Tryd.prog 11 #[.agg #[.slice a0 len0 cap0, .int .i64 (k0 : Int)], .int .i64 v] W fun e w' => BP (L ++ cod) 0 W e w') := fun W hW => by
    rw [hcod]
    exact (number_yes a0 len0 cap0 k0 v L W (HRL.out W hW) hLk hnd hvI (HT.out.below hW) (by rw [← hcl, ← hkc]; omega)).mono fun e w' hp => bp_of hp
  have HLi : Hid (∀ W, Below w.heap.size w W → Calls Tryd.prog 15 #[.agg #[.slice a0 len0 cap0, .int .i64 (k0 : Int)]] W fun e w' => Below W.heap.size W w' ∧ ∃ (aw : Option Addr) (cw : Nat), e = .returned (.slice aw k0 cw) ∧ BoAt w' aw k0 cw L) := fun W hW => by
    have := list_any a0 len0 cap0 k0 L W (HRL.out W hW) hLk hnd (by omega)
    unfold BoPost at this
    rwa [hLk] at this
  have HCd : Hid (∀ W, Calls Tryd.prog 16 #[.int .i64 v] W fun e w' => Below W.heap.size W w' ∧ ∃ (ac : Option Addr) (cc : Nat), e = .returned (.slice ac kc cc) ∧ BoAt w' ac kc cc cod) := fun W => by
    have := coded_any v hvI W
    unfold BoPost at this
    rwa [← hcod, ← hkc] at this
  have HCa : Hid (∀ W, Below w.heap.size w W → Calls Tryd.prog 17 #[.int .i64 v] W fun e w' => e = .returned (.int .i64 (cv : Int)) ∧ w' = W) := fun W hb => by
    rw [hcv]
    exact class_g v hvI w W HT.out hb
  have HCb : Hid (∀ W, Calls Tryd.prog 18 #[.int .i64 v] W fun e w' => e = .returned (.int .i64 (cv : Int)) ∧ w' = W) := fun W => by
    rw [hcv]
    exact rclass_any v hvI W
  have HSz : Hid (∀ W, Below w.heap.size w W → Calls Tryd.prog 19 #[.int .i64 v] W fun e w' => e = .returned (.int .i64 (kc : Int)) ∧ Grown W w') := fun W hb => by
    rw [hkc, hcl]
    exact Size_any v hvI W (HT.out.below hb)
  have HV := Hid.mk9 hv
  have HN := Hid.mk9 hn
  have HU := Hid.mk9 hu
  have HNI := Hid.mk9 hnI
  have HL0 := Hid.mk9 hl0
  have HL1 := Hid.mk9 hl1
  have HN9 : Hid (n1 ≤ 2400 ∧ (k0 : Int) ≤ 2400 ∧ kc = cod.length ∧ L.length = k0) := ⟨hll1.2.1, by omega, hkc, hLk⟩
  clear hll hll1 hL hLk hpk hnd hk9 hP hJ hput hjoin hcod hcl hcv hkc hl0 hl1 hM hT h0 h1 hu hvI hnI
  have HB1 := Hid.mk9 (below_alloc w (.cells #[.slice a0 len0 cap0, .int .i64 (k0 : Int)] 24))
  have HX1 := Hid.mk9 (B2.new w 24 (.slice a0 len0 cap0) (.int .i64 (k0 : Int)))
  have HB2 := Hid.mk9 (below2 HB1.out (below_alloc _ (.cells #[.slice a1 len1 cap1, .int .i64 n1] 24)))
  have HX2 := Hid.mk9 (HX1.out.below (below_alloc _ (.cells #[.slice a1 len1 cap1, .int .i64 n1] 24)))
  have HY2 := Hid.mk9 (B2.new (w.alloc (.cells #[.slice a0 len0 cap0, .int .i64 (k0 : Int)] 24)) 24 (.slice a1 len1 cap1) (.int .i64 n1))
  have HB3 := Hid.mk9 (below2 HB2.out (below_alloc _ (.cells #[.int .u64 (u : Int), .int .u64 b2] 26)))
  have HX3 := Hid.mk9 (HX2.out.below (below_alloc _ (.cells #[.int .u64 (u : Int), .int .u64 b2] 26)))
  have HY3 := Hid.mk9 (HY2.out.below (below_alloc _ (.cells #[.int .u64 (u : Int), .int .u64 b2] 26)))
  have HZ3 := Hid.mk9 (B2.new ((w.alloc (.cells #[.slice a0 len0 cap0, .int .i64 (k0 : Int)] 24)).alloc (.cells #[.slice a1 len1 cap1, .int .i64 n1] 24)) 26 (.int .u64 (u : Int)) (.int .u64 b2))
  rw [show (w.alloc (.cells #[.slice a0 len0 cap0, .int .i64 (k0 : Int)] 24)).heap.size = w.heap.size + 1 from by simp] at HY3
  rw [show ((w.alloc (.cells #[.slice a0 len0 cap0, .int .i64 (k0 : Int)] 24)).alloc (.cells #[.slice a1 len1 cap1, .int .i64 n1] 24)).heap.size = w.heap.size + 1 + 1 from by simp] at HZ3
  clear HB1 HX1 HB2 HX2 HY2
  go_enter Tryd.func3, Tryd.ntmps3
  go_upto_region 1 with fail
  generalize ((w.alloc (.cells #[.slice a0 len0 cap0, .int .i64 (k0 : Int)] 24)).alloc (.cells #[.slice a1 len1 cap1, .int .i64 n1] 24)).alloc (.cells #[.int .u64 (u : Int), .int .u64 b2] 26) = w3 at *
  obtain ⟨X, hX⟩ : ∃ X, w.heap.size = X := ⟨_, rfl⟩
  rw [hX] at HX3 HY3 HZ3 ⊢
  clear hX
  obtain ⟨Y, hY⟩ : ∃ Y, X + 1 = Y := ⟨_, rfl⟩
  rw [hY] at HY3 HZ3 ⊢
  obtain ⟨Z, hZ⟩ : ∃ Z, Y + 1 = Z := ⟨_, rfl⟩
  rw [hZ] at HZ3 ⊢
  clear hY hZ
  obtain ⟨p0, p1⟩ := HZ3.out.cells
  have hnn := HN.out
  go_region
  clear p0 p1 HZ3
  have HB := Hid.mk9 (below2 HB3.out (below_drew w3))
  have HX := Hid.mk9 (HX3.out.below (below_drew w3))
  have HY := Hid.mk9 (HY3.out.below (below_drew w3))
  clear HB3 HX3 HY3
  generalize w3.drew = w4 at *
  obtain ⟨p0, p1⟩ := HX.out.cells
  clear hnn HN
  go_upto_region 4 with (first | (have := HL0.out; clear this; go_at_call 8; refine (light_any a0 len0 cap0 (k0 : Int) z0 _ (HR0.out.below HB.out)).mono ?_; rintro e w7 ⟨rfl, hg7⟩; rw [HL0.out]; replace HB := Hid.mk9 (below2 HB.out (grown_below hg7)); replace HX := Hid.mk9 (HX.out.below (grown_below hg7)); replace HY := Hid.mk9 (HY.out.below (grown_below hg7)); clear HL0 hg7 p0 p1; obtain ⟨p0, p1⟩ := HY.out.cells) | (go_at_call 8; refine (light_any a1 len1 cap1 n1 z1 _ (HR1.out.below HB.out)).mono ?_; rintro e w7 ⟨rfl, hg7⟩; rw [HL1.out]; replace HB := Hid.mk9 (below2 HB.out (grown_below hg7)); replace HX := Hid.mk9 (HX.out.below (grown_below hg7)); replace HY := Hid.mk9 (HY.out.below (grown_below hg7)); clear HL1 hg7 p0 p1))
  obtain ⟨p0, p1⟩ := HX.out.cells
  go_upto_region 5 with (go_at_call 10; refine (HPut.out _ HB.out).mono ?_; rintro e w7 ⟨hb7, a3, ln3, c3, k3, rfl, hk3, hy3, hl3⟩; replace HB := Hid.mk9 (below2 HB.out hb7); replace HX := Hid.mk9 (HX.out.below hb7); replace HY := Hid.mk9 (HY.out.below hb7); have HY3 := Hid.mk9 hy3; have HZ3 : Hid (k3 = l3.length ∧ ln3 = need k3) := ⟨hk3, hl3⟩; clear hk3 hy3 hl3 hb7; clear HPut)
  have HBX := Hid.mk9 (below_alloc w7 (.cells #[.slice a3 ln3 c3, .int .i64 (k3 : Int)] 24))
  have HA := Hid.mk9 (B2.new w7 24 (.slice a3 ln3 c3) (.int .i64 (k3 : Int)))
  replace HB := Hid.mk9 (below2 HB.out HBX.out)
  replace HX := Hid.mk9 (HX.out.below HBX.out)
  replace HY := Hid.mk9 (HY.out.below HBX.out)
  replace HY3 := Hid.mk9 (HY3.out.below HBX.out)
  clear HBX p0 p1
  generalize w7.alloc (.cells #[.slice a3 ln3 c3, .int .i64 (k3 : Int)] 24) = w3 at *
  generalize w7.heap.size = A at *
  obtain ⟨p0, p1⟩ := HX.out.cells
  have hv := HV.out
  go_upto_region 6 with (go_at_call 11; refine (HNu.out _ HB.out).mono ?_; rintro e w7 ⟨hb7, a5, ln5, c5, k5, rfl, hk5, hy5, hl5⟩; replace HB := Hid.mk9 (below2 HB.out hb7); replace HX := Hid.mk9 (HX.out.below hb7); replace HY := Hid.mk9 (HY.out.below hb7); replace HA := Hid.mk9 (HA.out.below hb7); replace HY3 := Hid.mk9 (HY3.out.below hb7); have HY5 := Hid.mk9 hy5; have HZ5 : Hid (k5 = (L ++ cod).length ∧ ln5 = need k5) := ⟨hk5, hl5⟩; clear hk5 hy5 hl5 hb7; clear HNu)
  have HBX := Hid.mk9 (below_alloc w7 (.cells #[.slice a5 ln5 c5, .int .i64 (k5 : Int)] 24))
  have HB5 := Hid.mk9 (B2.new w7 24 (.slice a5 ln5 c5) (.int .i64 (k5 : Int)))
  replace HB := Hid.mk9 (below2 HB.out HBX.out)
  replace HX := Hid.mk9 (HX.out.below HBX.out)
  replace HY := Hid.mk9 (HY.out.below HBX.out)
  replace HA := Hid.mk9 (HA.out.below HBX.out)
  replace HY3 := Hid.mk9 (HY3.out.below HBX.out)
  replace HY5 := Hid.mk9 (HY5.out.below HBX.out)
  clear HBX p0 p1
  generalize w7.alloc (.cells #[.slice a5 ln5 c5, .int .i64 (k5 : Int)] 24) = w5 at *
  generalize w7.heap.size = B at *
  clear hv
  obtain ⟨p0, p1⟩ := HX.out.cells
  obtain ⟨q0, q1⟩ := HY.out.cells
  go_upto_region 7 with (go_at_call 12; refine (HJo.out _ HB.out).mono ?_; rintro e w7 ⟨hb7, a6, ln6, c6, k6, rfl, hk6, hy6, hl6⟩; replace HB := Hid.mk9 (below2 HB.out hb7); replace HX := Hid.mk9 (HX.out.below hb7); replace HY := Hid.mk9 (HY.out.below hb7); replace HA := Hid.mk9 (HA.out.below hb7); replace HY3 := Hid.mk9 (HY3.out.below hb7); replace HB5 := Hid.mk9 (HB5.out.below hb7); replace HY5 := Hid.mk9 (HY5.out.below hb7); have HY6 := Hid.mk9 hy6; have HZ6 : Hid (k6 = l6.length ∧ ln6 = need k6) := ⟨hk6, hl6⟩; clear hk6 hy6 hl6 hb7; clear HJo q0 q1)
  have HBX := Hid.mk9 (below_alloc w7 (.cells #[.slice a6 ln6 c6, .int .i64 (k6 : Int)] 24))
  have HC := Hid.mk9 (B2.new w7 24 (.slice a6 ln6 c6) (.int .i64 (k6 : Int)))
  replace HB := Hid.mk9 (below2 HB.out HBX.out)
  replace HX := Hid.mk9 (HX.out.below HBX.out)
  replace HY := Hid.mk9 (HY.out.below HBX.out)
  replace HA := Hid.mk9 (HA.out.below HBX.out)
  replace HY3 := Hid.mk9 (HY3.out.below HBX.out)
  replace HB5 := Hid.mk9 (HB5.out.below HBX.out)
  replace HY5 := Hid.mk9 (HY5.out.below HBX.out)
  replace HY6 := Hid.mk9 (HY6.out.below HBX.out)
  clear HBX p0 p1
  generalize w7.alloc (.cells #[.slice a6 ln6 c6, .int .i64 (k6 : Int)] 24) = w6 at *
  generalize w7.heap.size = C at *
  obtain ⟨p0, p1⟩ := HX.out.cells
  have hv := HV.out
  go_upto_region 11 with (first | (have := HMy.out; clear this; go_at_call 13; refine (rmay_any a0 len0 cap0 (k0 : Int) z0 _ (HR0.out.below HB.out) HN9.out.2.1).mono ?_; rintro e w7 ⟨rfl, hg7⟩; rw [HMy.out]; replace HB := Hid.mk9 (below2 HB.out (grown_below hg7)); replace HX := Hid.mk9 (HX.out.below (grown_below hg7)); replace HY := Hid.mk9 (HY.out.below (grown_below hg7)); replace HA := Hid.mk9 (HA.out.below (grown_below hg7)); replace HY3 := Hid.mk9 (HY3.out.below (grown_below hg7)); replace HB5 := Hid.mk9 (HB5.out.below (grown_below hg7)); replace HY5 := Hid.mk9 (HY5.out.below (grown_below hg7)); replace HC := Hid.mk9 (HC.out.below (grown_below hg7)); replace HY6 := Hid.mk9 (HY6.out.below (grown_below hg7)); clear HMy hg7 p0 p1; obtain ⟨p0, p1⟩ := HX.out.cells) | (go_at_call 15; refine (HLi.out _ HB.out).mono ?_; rintro e w7 ⟨hb7, aw, cw, rfl, hlw⟩; replace HB := Hid.mk9 (below2 HB.out hb7); replace HX := Hid.mk9 (HX.out.below hb7); replace HY := Hid.mk9 (HY.out.below hb7); replace HA := Hid.mk9 (HA.out.below hb7); replace HY3 := Hid.mk9 (HY3.out.below hb7); replace HB5 := Hid.mk9 (HB5.out.below hb7); replace HY5 := Hid.mk9 (HY5.out.below hb7); replace HC := Hid.mk9 (HC.out.below hb7); replace HY6 := Hid.mk9 (HY6.out.below hb7); have HLW := Hid.mk9 hlw; clear HLi hb7 hlw p0 p1) | (go_at_call 16; refine (HCd.out _).mono ?_; rintro e w7 ⟨hb7, ac, cc, rfl, hlc⟩; replace HB := Hid.mk9 (below2 HB.out hb7); replace HX := Hid.mk9 (HX.out.below hb7); replace HY := Hid.mk9 (HY.out.below hb7); replace HA := Hid.mk9 (HA.out.below hb7); replace HY3 := Hid.mk9 (HY3.out.below hb7); replace HB5 := Hid.mk9 (HB5.out.below hb7); replace HY5 := Hid.mk9 (HY5.out.below hb7); replace HC := Hid.mk9 (HC.out.below hb7); replace HY6 := Hid.mk9 (HY6.out.below hb7); replace HLW := Hid.mk9 (HLW.out.below hb7); have HCW := Hid.mk9 hlc; clear HCd hb7 hlc))
  clear hv
  go_wp2_with fail
  refine puts_11 _ _ _ _ _ _ _ _ _ _ _ _ _ _ _ _ _ _ _ _ _ _ _ _ _ _ _ _ _ _ _ _ _ _ _ _ _ _ _ _ _ _ _ _ _ _ _ _ _ _ _ _ _ _ _ _ _ _ _ _ _ _ _ _ _ _ _ _ _ _ _ _ _ _ _ _ _ _ _ _ _ _ _ _ _ _ _ _ _ _ _ _ _ _ _ _ _ _ _ _ _ _ _ _ _ _ _ _ _ _ _ _ _ _ _ _ _ _ _ _ _ _ _ _ _ _ _ _ _ _ _ _ _ _ _ _ _ _ _ _ _ _ _ _ _ _ _ _ _ _ B ln5 c5 k5 k0 cw kc cc cv (u : Int) v a5 aw ac L cod w7 _ HB5.out HLW.out HCW.out HV.out HY5.out HZ5.out.2 (by have h1 := HZ5.out.1; have h2 := HN9.out; unfold Hid; rw [h1, List.length_append, h2.2.2.2, h2.2.2.1]) (by have := HN9.out.2.1; exact this) hkc9 (by have h1 := HZ5.out.1; have h2 := HN9.out; rw [h1, List.length_append, h2.2.2.2, ← h2.2.2.1]; push_cast; omega) (fun W hb => HCa.out W (below2 HB.out hb)) HCb.out (fun W hb => HSz.out W (below2 HB.out hb)) (fun u75 u76 u77 u78 u79 u80 u81 u82 u83 u84 u85 u86 u87 u88 u89 u90 u91 u92 u93 u94 u95 u96 u97 u98 u99 wC hbC => ?_)
  clear HCW HCa HCb HSz HB5 HY5 HZ5
  replace HB := Hid.mk9 (below2 HB.out hbC)
  replace HX := Hid.mk9 (HX.out.below hbC)
  replace HY := Hid.mk9 (HY.out.below hbC)
  replace HA := Hid.mk9 (HA.out.below hbC)
  replace HY3 := Hid.mk9 (HY3.out.below hbC)
  replace HC := Hid.mk9 (HC.out.below hbC)
  replace HY6 := Hid.mk9 (HY6.out.below hbC)
  replace HLW := Hid.mk9 (HLW.out.below hbC)
  clear hbC
  rcases HJJ.out with ⟨hM1, rfl, rfl⟩ | ⟨hM1, k1, hk1, hpk1, hnd1, rfl, rfl⟩
  · have HMn := Hid.mk9 (mayR_no hM1)
    clear hM1 HJJ
    obtain ⟨q0, q1⟩ := HY.out.cells
    go_upto_region 18 with (first | (have := HMn.out; clear this; go_at_call 13; refine (rmay_any a1 len1 cap1 n1 z1 _ (HR1.out.below HB.out) HN9.out.1).mono ?_; rintro e w7 ⟨rfl, hg7⟩; rw [HMn.out]; replace HB := Hid.mk9 (below2 HB.out (grown_below hg7)); replace HX := Hid.mk9 (HX.out.below (grown_below hg7)); replace HY := Hid.mk9 (HY.out.below (grown_below hg7)); replace HA := Hid.mk9 (HA.out.below (grown_below hg7)); replace HY3 := Hid.mk9 (HY3.out.below (grown_below hg7)); replace HC := Hid.mk9 (HC.out.below (grown_below hg7)); replace HY6 := Hid.mk9 (HY6.out.below (grown_below hg7)); replace HLW := Hid.mk9 (HLW.out.below (grown_below hg7)); clear HMn hg7 q0 q1; obtain ⟨p0, p1⟩ := HC.out.cells) | (go_at_call 14; refine (told_nil _ _ _ _ _ HY6.out HZ6.out.2 HZ6.out.1).mono ?_; rintro e w7 ⟨rfl, hb7⟩; replace HB := Hid.mk9 (below2 HB.out hb7); replace HX := Hid.mk9 (HX.out.below hb7); replace HY := Hid.mk9 (HY.out.below hb7); replace HA := Hid.mk9 (HA.out.below hb7); replace HY3 := Hid.mk9 (HY3.out.below hb7); replace HC := Hid.mk9 (HC.out.below hb7); replace HY6 := Hid.mk9 (HY6.out.below hb7); replace HLW := Hid.mk9 (HLW.out.below hb7); clear hb7))
    try clear p0 p1
    clear HC HY6 HZ6
    rcases HPP.out with ⟨hw, hu0, rfl, rfl⟩ | ⟨hbad, rfl, rfl⟩
    · obtain ⟨h0, h9⟩ := isWordP_yes hw
      obtain ⟨m, rfl⟩ : ∃ m : Nat, n = (m : Int) := ⟨n.toNat, by omega⟩
      rw [Int.toNat_natCast] at hu0 HY3 HZ3
      have HKK : Hid (k3 = k0 + m) := by
        have h1 := HZ3.out.1
        have h2 := HN9.out.2.2.2
        rw [List.length_append, low_len] at h1
        unfold Hid
        omega
      have d1 : decide ((m : Int) < 0) = false := decide_eq_false (by omega)
      have d2 : decide (64 < (m : Int)) = false := decide_eq_false (by omega)
      have hm : (m : Int) ≤ 64 := h9
      have e3 : (u : Int) / 2 ^ m = 0 := by
        have : (u : Int) / 2 ^ m = ((u / 2 ^ m : Nat) : Int) := by rw [Int.natCast_ediv, Int.natCast_pow]; rfl
        rw [this, show u / 2 ^ m = 0 from hu0]
        rfl
      by_cases h64 : m = 64
      · have d3 : decide ((m : Int) < 64) = false := decide_eq_false (by omega)
        clear hw hu0 h0 h9 h64
        go_wp2_with fail
        refine puts_20 _ _ _ _ _ _ _ _ _ _ _ _ _ _ _ _ _ _ _ _ _ _ _ _ _ _ _ _ _ _ _ _ _ _ _ _ _ _ _ _ _ _ _ _ _ _ _ _ _ _ _ _ _ _ _ _ _ _ _ _ _ _ _ _ _ _ _ _ _ _ _ _ _ _ _ _ _ _ _ _ _ _ _ _ _ _ _ _ _ _ _ _ _ _ _ _ _ _ _ _ _ _ _ _ _ _ _ _ _ _ _ _ _ _ _ _ _ _ _ _ _ _ _ _ _ _ _ _ _ _ _ _ _ _ _ _ _ _ _ _ _ _ _ _ _ _ _ _ _ _ A ln3 c3 k3 k0 cw u m a3 aw L _ _ HA.out HLW.out HY3.out HZ3.out.2 HKK.out HN9.out.2.1 (by have h9 : (m : Int) ≤ 64 := hm; unfold Hid; omega) hm HU.out (HT.out.below HB.out) (by have h1 := HKK.out; have h2 := HN9.out.2.1; omega) (fun u142 u143 u144 u145 u146 u147 u148 u149 u150 u151 u152 u153 u154 wC hbC => ?_)
        replace HB := Hid.mk9 (below2 HB.out hbC)
        clear hbC
        go_wp2_with fail
        go_ret
        exact ⟨rfl, HB.out⟩
      · have d3 : decide ((m : Int) < 64) = true := decide_eq_true (by omega)
        clear hw hu0 h0 h9 h64
        go_wp2_with fail
        refine puts_20 _ _ _ _ _ _ _ _ _ _ _ _ _ _ _ _ _ _ _ _ _ _ _ _ _ _ _ _ _ _ _ _ _ _ _ _ _ _ _ _ _ _ _ _ _ _ _ _ _ _ _ _ _ _ _ _ _ _ _ _ _ _ _ _ _ _ _ _ _ _ _ _ _ _ _ _ _ _ _ _ _ _ _ _ _ _ _ _ _ _ _ _ _ _ _ _ _ _ _ _ _ _ _ _ _ _ _ _ _ _ _ _ _ _ _ _ _ _ _ _ _ _ _ _ _ _ _ _ _ _ _ _ _ _ _ _ _ _ _ _ _ _ _ _ _ _ _ _ _ _ A ln3 c3 k3 k0 cw u m a3 aw L _ _ HA.out HLW.out HY3.out HZ3.out.2 HKK.out HN9.out.2.1 (by have h9 : (m : Int) ≤ 64 := hm; unfold Hid; omega) hm HU.out (HT.out.below HB.out) (by have h1 := HKK.out; have h2 := HN9.out.2.1; omega) (fun u142 u143 u144 u145 u146 u147 u148 u149 u150 u151 u152 u153 u154 wC hbC => ?_)
        replace HB := Hid.mk9 (below2 HB.out hbC)
        clear hbC
        go_wp2_with fail
        go_ret
        exact ⟨rfl, HB.out⟩
    · have HKK : Hid (k3 = k0 ∧ (k3 : Int) ≤ 20000) := ⟨by have h1 := HZ3.out.1; have h2 := HN9.out.2.2.2; omega, by have h1 := HZ3.out.1; have h2 := HN9.out; omega⟩
      by_cases a1 : n < 0
      · have d1 : decide (n < 0) = true := decide_eq_true a1
        clear hbad a1
        clear HPP
        obtain ⟨p0, p1⟩ := HA.out.cells
        go_wp2_with (first | (go_at_call 14; refine (told_yes2 _ _ _ _ _ _ _ _ _ _ HY3.out HZ3.out.2 HLW.out HKK.out.1 HKK.out.2).mono ?_; rintro e w7 ⟨rfl, hb7⟩; replace HB := Hid.mk9 (below2 HB.out hb7); replace HX := Hid.mk9 (HX.out.below hb7); replace HY := Hid.mk9 (HY.out.below hb7); replace HA := Hid.mk9 (HA.out.below hb7); replace HY3 := Hid.mk9 (HY3.out.below hb7); replace HLW := Hid.mk9 (HLW.out.below hb7); clear hb7) | (go_at_call 9; refine (awake_any _ (HT.out.below HB.out)).mono ?_; rintro e w7 ⟨rfl, hb7⟩; replace HB := Hid.mk9 (below2 HB.out hb7); replace HX := Hid.mk9 (HX.out.below hb7); replace HY := Hid.mk9 (HY.out.below hb7); clear hb7))
        go_ret
        exact ⟨rfl, HB.out⟩
      · have d1 : decide (n < 0) = false := decide_eq_false a1
        by_cases a2 : 64 < n
        · have d2 : decide (64 < n) = true := decide_eq_true a2
          clear hbad a1 a2
          clear HPP
          obtain ⟨p0, p1⟩ := HA.out.cells
          go_wp2_with (first | (go_at_call 14; refine (told_yes2 _ _ _ _ _ _ _ _ _ _ HY3.out HZ3.out.2 HLW.out HKK.out.1 HKK.out.2).mono ?_; rintro e w7 ⟨rfl, hb7⟩; replace HB := Hid.mk9 (below2 HB.out hb7); replace HX := Hid.mk9 (HX.out.below hb7); replace HY := Hid.mk9 (HY.out.below hb7); replace HA := Hid.mk9 (HA.out.below hb7); replace HY3 := Hid.mk9 (HY3.out.below hb7); replace HLW := Hid.mk9 (HLW.out.below hb7); clear hb7) | (go_at_call 9; refine (awake_any _ (HT.out.below HB.out)).mono ?_; rintro e w7 ⟨rfl, hb7⟩; replace HB := Hid.mk9 (below2 HB.out hb7); replace HX := Hid.mk9 (HX.out.below hb7); replace HY := Hid.mk9 (HY.out.below hb7); clear hb7))
          go_ret
          exact ⟨rfl, HB.out⟩
        · have d2 : decide (64 < n) = false := decide_eq_false a2
          obtain ⟨m, rfl⟩ : ∃ m : Nat, n = (m : Int) := ⟨n.toNat, by omega⟩
          have hu2 : u / 2 ^ m ≠ 0 := by
            rcases hbad with h | h
            · unfold isWordP at h
              simp at h
              omega
            · simpa using h
          have h64 : m ≠ 64 := by
            rintro rfl
            have := HU.out
            unfold inU at this
            exact hu2 (Nat.div_eq_of_lt (by omega))
          have hm : (m : Int) ≤ 64 := by omega
          have d3 : decide ((m : Int) < 64) = true := decide_eq_true (by omega)
          have e3 : (u : Int) / 2 ^ m = ((u / 2 ^ m : Nat) : Int) := by rw [Int.natCast_ediv, Int.natCast_pow]; rfl
          have e4 : (((u / 2 ^ m : Nat) : Int) != 0) = true := by rw [bne_iff_ne]; omega
          generalize u / 2 ^ m = q at *
          clear hbad hu2 a1 a2 h64
          clear HPP
          obtain ⟨p0, p1⟩ := HA.out.cells
          go_wp2_with (first | (go_at_call 14; refine (told_yes2 _ _ _ _ _ _ _ _ _ _ HY3.out HZ3.out.2 HLW.out HKK.out.1 HKK.out.2).mono ?_; rintro e w7 ⟨rfl, hb7⟩; replace HB := Hid.mk9 (below2 HB.out hb7); replace HX := Hid.mk9 (HX.out.below hb7); replace HY := Hid.mk9 (HY.out.below hb7); replace HA := Hid.mk9 (HA.out.below hb7); replace HY3 := Hid.mk9 (HY3.out.below hb7); replace HLW := Hid.mk9 (HLW.out.below hb7); clear hb7) | (go_at_call 9; refine (awake_any _ (HT.out.below HB.out)).mono ?_; rintro e w7 ⟨rfl, hb7⟩; replace HB := Hid.mk9 (below2 HB.out hb7); replace HX := Hid.mk9 (HX.out.below hb7); replace HY := Hid.mk9 (HY.out.below hb7); clear hb7))
          go_ret
          exact ⟨rfl, HB.out⟩
  · subst hk1
    have HMn := Hid.mk9 (mayR_yes hM1)
    obtain ⟨L2, hL2⟩ : ∃ L2, L2 = unpack z1 k1 := ⟨_, rfl⟩
    rw [← hL2] at hpk1 HY6 HZ6
    have hl2 : L2.length = k1 := by rw [hL2]; exact unpack_len _ _
    have HP1 : Hid (z1 = pack L2 len1 ∧ len1 = need k1 ∧ L2.length = k1) := ⟨by rw [← HR1.out.1]; exact hpk1, by rw [← HR1.out.1]; exact hnd1, hl2⟩
    have HLi : Hid (∀ W, Below w.heap.size w W → Calls Tryd.prog 15 #[.agg #[.slice a1 len1 cap1, .int .i64 (k1 : Int)]] W fun e w' => BoPost L2 W e w') := fun W hW => list_any a1 len1 cap1 k1 L2 W (by have := HR1.out.below hW; rwa [HP1.out.1] at this) HP1.out.2.2 HP1.out.2.1 (by have := HN9.out.1; omega)
    clear hM1 HJJ hpk1 hnd1 hL2 hl2
    obtain ⟨q0, q1⟩ := HY.out.cells
    go_wp2_with (have := HMn.out; clear this; go_at_call 13; refine (rmay_any a1 len1 cap1 (k1 : Int) z1 _ (HR1.out.below HB.out) HN9.out.1).mono ?_; rintro e w7 ⟨rfl, hg7⟩; rw [HMn.out]; replace HB := Hid.mk9 (below2 HB.out (grown_below hg7)); replace HX := Hid.mk9 (HX.out.below (grown_below hg7)); replace HY := Hid.mk9 (HY.out.below (grown_below hg7)); replace HA := Hid.mk9 (HA.out.below (grown_below hg7)); replace HY3 := Hid.mk9 (HY3.out.below (grown_below hg7)); replace HC := Hid.mk9 (HC.out.below (grown_below hg7)); replace HY6 := Hid.mk9 (HY6.out.below (grown_below hg7)); replace HLW := Hid.mk9 (HLW.out.below (grown_below hg7)); clear HMn hg7 q0 q1; obtain ⟨p0, p1⟩ := HC.out.cells)
    try clear p0 p1
    refine puts_16 _ _ _ _ _ _ _ _ _ _ _ _ _ _ _ _ _ _ _ _ _ _ _ _ _ _ _ _ _ _ _ _ _ _ _ _ _ _ _ _ _ _ _ _ _ _ _ _ _ _ _ _ _ _ _ _ _ _ _ _ _ _ _ _ _ _ _ _ _ _ _ _ _ _ _ _ _ _ _ _ _ _ _ _ _ _ _ _ _ _ _ _ _ _ _ _ _ _ _ _ _ _ _ _ _ _ _ _ _ _ _ _ _ _ _ _ _ _ _ _ _ _ _ _ _ _ _ _ _ _ _ _ _ _ _ _ _ _ _ _ _ _ _ _ _ _ _ _ _ _ _ Y C ln6 c6 k6 k0 cw len1 cap1 (k1 : Int) a6 aw a1 L L2 w7 _ HC.out HY.out HLW.out HY6.out HZ6.out.2 (by have h1 := HZ6.out.1; have h2 := HN9.out; unfold Hid; rw [h1, List.length_append, h2.2.2.2]) (by have := HN9.out.2.1; exact this) (by have := HP1.out.2.2; have := HN9.out.1; omega) (by have h1 := HZ6.out.1; have h2 := HN9.out; have h3 := HP1.out.2.2; rw [h1, List.length_append, h2.2.2.2, h3]; push_cast; omega) (fun W hb => HLi.out W (below2 HB.out hb)) (fun u108 u109 u110 u111 u112 u113 u114 u115 u116 wC hbC => ?_)
    replace HB := Hid.mk9 (below2 HB.out hbC)
    replace HX := Hid.mk9 (HX.out.below hbC)
    replace HY := Hid.mk9 (HY.out.below hbC)
    replace HA := Hid.mk9 (HA.out.below hbC)
    replace HY3 := Hid.mk9 (HY3.out.below hbC)
    replace HLW := Hid.mk9 (HLW.out.below hbC)
    clear hbC HC HY6 HZ6 HLi HP1
    go_upto_region 18 with fail
    rcases HPP.out with ⟨hw, hu0, rfl, rfl⟩ | ⟨hbad, rfl, rfl⟩
    · obtain ⟨h0, h9⟩ := isWordP_yes hw
      obtain ⟨m, rfl⟩ : ∃ m : Nat, n = (m : Int) := ⟨n.toNat, by omega⟩
      rw [Int.toNat_natCast] at hu0 HY3 HZ3
      have HKK : Hid (k3 = k0 + m) := by
        have h1 := HZ3.out.1
        have h2 := HN9.out.2.2.2
        rw [List.length_append, low_len] at h1
        unfold Hid
        omega
      have d1 : decide ((m : Int) < 0) = false := decide_eq_false (by omega)
      have d2 : decide (64 < (m : Int)) = false := decide_eq_false (by omega)
      have hm : (m : Int) ≤ 64 := h9
      have e3 : (u : Int) / 2 ^ m = 0 := by
        have : (u : Int) / 2 ^ m = ((u / 2 ^ m : Nat) : Int) := by rw [Int.natCast_ediv, Int.natCast_pow]; rfl
        rw [this, show u / 2 ^ m = 0 from hu0]
        rfl
      by_cases h64 : m = 64
      · have d3 : decide ((m : Int) < 64) = false := decide_eq_false (by omega)
        clear hw hu0 h0 h9 h64
        go_wp2_with fail
        refine puts_20 _ _ _ _ _ _ _ _ _ _ _ _ _ _ _ _ _ _ _ _ _ _ _ _ _ _ _ _ _ _ _ _ _ _ _ _ _ _ _ _ _ _ _ _ _ _ _ _ _ _ _ _ _ _ _ _ _ _ _ _ _ _ _ _ _ _ _ _ _ _ _ _ _ _ _ _ _ _ _ _ _ _ _ _ _ _ _ _ _ _ _ _ _ _ _ _ _ _ _ _ _ _ _ _ _ _ _ _ _ _ _ _ _ _ _ _ _ _ _ _ _ _ _ _ _ _ _ _ _ _ _ _ _ _ _ _ _ _ _ _ _ _ _ _ _ _ _ _ _ _ A ln3 c3 k3 k0 cw u m a3 aw L _ _ HA.out HLW.out HY3.out HZ3.out.2 HKK.out HN9.out.2.1 (by have h9 : (m : Int) ≤ 64 := hm; unfold Hid; omega) hm HU.out (HT.out.below HB.out) (by have h1 := HKK.out; have h2 := HN9.out.2.1; omega) (fun u142 u143 u144 u145 u146 u147 u148 u149 u150 u151 u152 u153 u154 wC hbC => ?_)
        replace HB := Hid.mk9 (below2 HB.out hbC)
        clear hbC
        go_wp2_with fail
        go_ret
        exact ⟨rfl, HB.out⟩
      · have d3 : decide ((m : Int) < 64) = true := decide_eq_true (by omega)
        clear hw hu0 h0 h9 h64
        go_wp2_with fail
        refine puts_20 _ _ _ _ _ _ _ _ _ _ _ _ _ _ _ _ _ _ _ _ _ _ _ _ _ _ _ _ _ _ _ _ _ _ _ _ _ _ _ _ _ _ _ _ _ _ _ _ _ _ _ _ _ _ _ _ _ _ _ _ _ _ _ _ _ _ _ _ _ _ _ _ _ _ _ _ _ _ _ _ _ _ _ _ _ _ _ _ _ _ _ _ _ _ _ _ _ _ _ _ _ _ _ _ _ _ _ _ _ _ _ _ _ _ _ _ _ _ _ _ _ _ _ _ _ _ _ _ _ _ _ _ _ _ _ _ _ _ _ _ _ _ _ _ _ _ _ _ _ _ A ln3 c3 k3 k0 cw u m a3 aw L _ _ HA.out HLW.out HY3.out HZ3.out.2 HKK.out HN9.out.2.1 (by have h9 : (m : Int) ≤ 64 := hm; unfold Hid; omega) hm HU.out (HT.out.below HB.out) (by have h1 := HKK.out; have h2 := HN9.out.2.1; omega) (fun u142 u143 u144 u145 u146 u147 u148 u149 u150 u151 u152 u153 u154 wC hbC => ?_)
        replace HB := Hid.mk9 (below2 HB.out hbC)
        clear hbC
        go_wp2_with fail
        go_ret
        exact ⟨rfl, HB.out⟩
    · have HKK : Hid (k3 = k0 ∧ (k3 : Int) ≤ 20000) := ⟨by have h1 := HZ3.out.1; have h2 := HN9.out.2.2.2; omega, by have h1 := HZ3.out.1; have h2 := HN9.out; omega⟩
      by_cases a1 : n < 0
      · have d1 : decide (n < 0) = true := decide_eq_true a1
        clear hbad a1
        clear HPP
        obtain ⟨p0, p1⟩ := HA.out.cells
        go_wp2_with (first | (go_at_call 14; refine (told_yes2 _ _ _ _ _ _ _ _ _ _ HY3.out HZ3.out.2 HLW.out HKK.out.1 HKK.out.2).mono ?_; rintro e w7 ⟨rfl, hb7⟩; replace HB := Hid.mk9 (below2 HB.out hb7); replace HX := Hid.mk9 (HX.out.below hb7); replace HY := Hid.mk9 (HY.out.below hb7); replace HA := Hid.mk9 (HA.out.below hb7); replace HY3 := Hid.mk9 (HY3.out.below hb7); replace HLW := Hid.mk9 (HLW.out.below hb7); clear hb7) | (go_at_call 9; refine (awake_any _ (HT.out.below HB.out)).mono ?_; rintro e w7 ⟨rfl, hb7⟩; replace HB := Hid.mk9 (below2 HB.out hb7); replace HX := Hid.mk9 (HX.out.below hb7); replace HY := Hid.mk9 (HY.out.below hb7); clear hb7))
        go_ret
        exact ⟨rfl, HB.out⟩
      · have d1 : decide (n < 0) = false := decide_eq_false a1
        by_cases a2 : 64 < n
        · have d2 : decide (64 < n) = true := decide_eq_true a2
          clear hbad a1 a2
          clear HPP
          obtain ⟨p0, p1⟩ := HA.out.cells
          go_wp2_with (first | (go_at_call 14; refine (told_yes2 _ _ _ _ _ _ _ _ _ _ HY3.out HZ3.out.2 HLW.out HKK.out.1 HKK.out.2).mono ?_; rintro e w7 ⟨rfl, hb7⟩; replace HB := Hid.mk9 (below2 HB.out hb7); replace HX := Hid.mk9 (HX.out.below hb7); replace HY := Hid.mk9 (HY.out.below hb7); replace HA := Hid.mk9 (HA.out.below hb7); replace HY3 := Hid.mk9 (HY3.out.below hb7); replace HLW := Hid.mk9 (HLW.out.below hb7); clear hb7) | (go_at_call 9; refine (awake_any _ (HT.out.below HB.out)).mono ?_; rintro e w7 ⟨rfl, hb7⟩; replace HB := Hid.mk9 (below2 HB.out hb7); replace HX := Hid.mk9 (HX.out.below hb7); replace HY := Hid.mk9 (HY.out.below hb7); clear hb7))
          go_ret
          exact ⟨rfl, HB.out⟩
        · have d2 : decide (64 < n) = false := decide_eq_false a2
          obtain ⟨m, rfl⟩ : ∃ m : Nat, n = (m : Int) := ⟨n.toNat, by omega⟩
          have hu2 : u / 2 ^ m ≠ 0 := by
            rcases hbad with h | h
            · unfold isWordP at h
              simp at h
              omega
            · simpa using h
          have h64 : m ≠ 64 := by
            rintro rfl
            have := HU.out
            unfold inU at this
            exact hu2 (Nat.div_eq_of_lt (by omega))
          have hm : (m : Int) ≤ 64 := by omega
          have d3 : decide ((m : Int) < 64) = true := decide_eq_true (by omega)
          have e3 : (u : Int) / 2 ^ m = ((u / 2 ^ m : Nat) : Int) := by rw [Int.natCast_ediv, Int.natCast_pow]; rfl
          have e4 : (((u / 2 ^ m : Nat) : Int) != 0) = true := by rw [bne_iff_ne]; omega
          generalize u / 2 ^ m = q at *
          clear hbad hu2 a1 a2 h64
          clear HPP
          obtain ⟨p0, p1⟩ := HA.out.cells
          go_wp2_with (first | (go_at_call 14; refine (told_yes2 _ _ _ _ _ _ _ _ _ _ HY3.out HZ3.out.2 HLW.out HKK.out.1 HKK.out.2).mono ?_; rintro e w7 ⟨rfl, hb7⟩; replace HB := Hid.mk9 (below2 HB.out hb7); replace HX := Hid.mk9 (HX.out.below hb7); replace HY := Hid.mk9 (HY.out.below hb7); replace HA := Hid.mk9 (HA.out.below hb7); replace HY3 := Hid.mk9 (HY3.out.below hb7); replace HLW := Hid.mk9 (HLW.out.below hb7); clear hb7) | (go_at_call 9; refine (awake_any _ (HT.out.below HB.out)).mono ?_; rintro e w7 ⟨rfl, hb7⟩; replace HB := Hid.mk9 (below2 HB.out hb7); replace HX := Hid.mk9 (HX.out.below hb7); replace HY := Hid.mk9 (HY.out.below hb7); clear hb7))
          go_ret
          exact ⟨rfl, HB.out⟩
end Go.Proofs.YtjdgcbdpeooogaaDoor.Bi
