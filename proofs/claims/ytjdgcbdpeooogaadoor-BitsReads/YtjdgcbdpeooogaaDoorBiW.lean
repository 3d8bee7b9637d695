/-
  The answer Number.
-/
import Derived.Test.YtjdgcbdpeooogaaDoorBiV
namespace Go.Proofs.YtjdgcbdpeooogaaDoor.Bi
open Go.ChangeShapes Go.WideShapes Go.ChangeAt Go.RowKit
set_option maxHeartbeats 1000000 in
set_option maxRecDepth 60000 in
theorem rnumber_any (a : Option Addr) (len cap at' : Nat) (L : List Bool) (w : World) (h : BoAt w a len cap (L.drop at')) (hL : at' + len = L.length) (h9 : len ≤ 100000) :
    Calls Tryd.prog 25 #[.slice a len cap] w fun e w' => Below w.heap.size w w' ∧ ((∃ (v : Int) (k : Nat), e = .returned (.tuple #[.int .i64 v, .int .i64 (k : Int)]) ∧ NumIs L at' v k ∧ 0 < k) ∨ (e = .returned (.tuple #[.int .i64 0, .int .i64 0]) ∧ ∀ v k, ¬ NumIs L at' v k)) := by
  have HB := Hid.mk9 (below_alloc w (.cells #[.int .i64 0, .int .i64 7, .int .i64 12, .int .i64 20, .int .i64 64] 3))
  have HW : Hid (Ro (w.alloc (.cells #[.int .i64 0, .int .i64 7, .int .i64 12, .int .i64 20, .int .i64 64] 3)) w.heap.size 3 [.int .i64 0, .int .i64 7, .int .i64 12, .int .i64 20, .int .i64 64]) := Ro.new w 3 [.int .i64 0, .int .i64 7, .int .i64 12, .int .i64 20, .int .i64 64]
  have HR := Hid.mk9 (h.below HB.out)
  have HLL := Hid.mk9 hL
  have l9 : (len : Int) ≤ 100000 := by omega
  clear h hL h9
  go_enter Tryd.func25, Tryd.ntmps25
  go_upto_region 2 with fail
  generalize w.alloc (.cells #[.int .i64 0, .int .i64 7, .int .i64 12, .int .i64 20, .int .i64 64] 3) = w1 at *
  obtain ⟨G, hG⟩ : ∃ G, G = w.heap.size := ⟨_, rfl⟩
  rw [← hG] at HW
  rw [show (.slice (some ⟨w.heap.size, 0, none⟩) 5 5 : Value) = .slice (some ⟨G, 0, none⟩) 5 5 by rw [hG]]
  clear hG
  go_wp2_with fail
  go_loopw [5] (fun i wr => ∃ c : Nat, i = .int .i64 (c : Int) ∧ Hid (c ≤ 4 ∧ c ≤ len ∧ ∀ j, j < c → bt L (at' + j) = 1) ∧ Hid (wr = w1)) (fun i _ => 5 - (intOf i).toNat)
  case atStart => exact ⟨0, rfl, ⟨by omega, by omega, fun j hj => by omega⟩, rfl⟩
  case round =>
    obtain ⟨c, rfl, hc, hw⟩ := hrel
    obtain rfl := hw.out
    clear hw
    have hc4 := hc.out.1
    have hcl := hc.out.2.1
    by_cases h4 : c = 4
    · have HLd : Hid (Lead L at' c) := ⟨hc4, by have := HLL.out; omega, hc.out.2.2, .inl h4⟩
      subst h4
      have hz : (((4 : Nat) : Int)) = 4 := rfl
      rw [hz]
      clear hz hc hc4
      obtain ⟨q, hq⟩ : ∃ q, q = hdT 4 := ⟨_, rfl⟩
      obtain ⟨wd, hwd⟩ : ∃ wd, wd = wdT 4 := ⟨_, rfl⟩
      obtain ⟨s, hs⟩ : ∃ s, s = szT 4 := ⟨_, rfl⟩
      have e2 : (q : Int) + (wd : Int) = (s : Int) := by rw [hq, hwd, hs]; unfold szT; omega
      have HQ : Hid (q = hdT 4 ∧ wd = wdT 4 ∧ s = szT 4) := ⟨hq, hwd, hs⟩
      clear e2
      have hq4 : q = 4 := hq
      have hw4 : wd = 64 := hwd
      have hs4 : s = 68 := hs
      subst hq4 hw4 hs4
      have hwc : wr.cell? ⟨G, 4, none⟩ = some (.int .i64 64) := HW.out.cell rfl
      clear hq hwd hs
      by_cases hf : 68 ≤ len
      rotate_left
      · have e4 : (len : Int) < (68 : Int) := by omega
        have HNo : Hid (∀ v k, ¬ NumIs L at' v k) := HLd.out.short (by have h1 := HLL.out; have h2 := HQ.out.2.2; omega)
        go_wp2_with fail
        go_ret2
        exact ⟨HB.out, .inr ⟨rfl, HNo.out⟩⟩
      have e4 : (68 : Int) ≤ (len : Int) := by omega
      obtain ⟨b, off, rfl, -⟩ := HR.out.at (i := 0) (by omega)
      have hcap := HR.out.2.1
      have hcm := HR.out.2.2.1
      unfold maxLen at hcm
      have e5 : (len : Int) ≤ (cap : Int) := by omega
      have e6 : (cap : Int) ≤ 9223372036854775807 := by omega
      have e7 : (4 : Int) ≤ (68 : Int) := by omega
      have e8 : (68 : Int) - (4 : Int) = (64 : Int) := by omega
      obtain ⟨u, hu⟩ : ∃ u, u = val (bt L) (at' + 4) 64 := ⟨_, rfl⟩
      have huv : valL (((L.drop at').drop 4).take 64) = u := by rw [hu, List.drop_drop]; exact (val_piece (by have := HLL.out; omega)).symm
      have huI : inU u := by rw [hu]; exact val_inU (by omega)
      have HNum := Hid.mk9 (HLd.out.num (u := u) (by rw [← HQ.out.2.2]; have := HLL.out; omega) (by rw [← HQ.out.1, ← HQ.out.2.1]; exact hu))
      obtain ⟨v, hv⟩ : ∃ v, v = u / 2 := ⟨_, rfl⟩
      have f1 : (u : Int) / 2 = (v : Int) := by omega
      have f2 : IntKind.i64.wrap (v : Int) = (v : Int) := by unfold inU at huI; simp [IntKind.wrap, IntKind.bits, IntKind.signed]; omega
      have f3 : (v : Int) ≤ 9223372036854775807 := by unfold inU at huI; omega
      have hwlt : G < wr.heap.size := HW.out.lt
      have xg := cell_grown (a := ⟨G, 4, none⟩) hwlt hwc
      obtain ⟨d, hd⟩ : ∃ d, d = clsU u := ⟨_, rfl⟩
      have HCl : Hid (∀ W, Calls Tryd.prog 18 #[.int .i64 (gatherN u)] W fun e w' => e = .returned (.int .i64 (d : Int)) ∧ w' = W) := fun W => by
        have := rclass_any (gatherN u) (gather_in huI) W
        rwa [fold_gather, ← hd] at this
      have HD := Hid.mk9 hd
      have hsz : 0 < 68 := by omega
      have HSp := Hid.mk9 hsz
      have HV : Hid (Calls Tryd.prog 23 #[.slice (some ⟨b, off + 4, none⟩) (68 - 4 : Nat) (cap - 4)] wr fun e w' => e = .returned (.int .u64 (u : Int)) ∧ w' = wr) := by
        obtain ⟨b2, off2, h5⟩ := HR.out.sub (k := 4) (n := 64) (by omega)
        rw [show (68 - 4 : Nat) = 64 by omega, ← huv]
        rcases h5 with ⟨e5, h6⟩ | h6
        · injection e5 with e5
          injection e5 with e6 e7
          subst e6 e7
          exact value_any _ _ _ _ wr h6 (by omega)
        · refine value_any _ _ _ _ wr ⟨?_, ?_, ?_, .inl h6⟩ (by omega)
          · rw [boV_len]; simp; omega
          · omega
          · unfold maxLen; omega
      by_cases hodd : u % 2 = 1
      · have hg : gatherN u = -1 - (v : Int) := by unfold gatherN; rw [if_pos hodd, hv]
        rw [hg] at HCl HNum
        have f4 : (u : Int) % 2 = 1 := by omega
        clear hcap hcm hf hcl huv huI hd hsz hwlt hu hg
        by_cases hdc : d = 4
        · have HY := Hid.mk9 (HNum.out.1 (by rw [← HD.out]; exact hdc))
          have f5 : ((d : Int) != (4 : Int)) = false := by rw [bne_eq_false_iff_eq]; omega
          clear hdc hodd hv
          go_wp2_with (first | (go_at_call 23; refine HV.out.mono ?_; rintro e w9 ⟨rfl, hw9⟩; obtain rfl := hw9.symm) | (go_at_call 18; refine (HCl.out _).mono ?_; rintro e w9 ⟨rfl, hw9⟩; obtain rfl := hw9.symm))
          refine wp_region_QW mixed5 (by kernel_rfl) ?_
          repeat (refine QW_step (fun K hK => ?_); go_simp; first | (refine hK _ ?_; clear hK K) | (apply Exists.intro; refine ⟨fun _ => ?_, hK _ ?_⟩; fail; clear hK K))
          refine QW_nil ?_
          intro _ hw9
          obtain ⟨⟨nq, osq⟩, hw8⟩ := hw9
          subst hw8
          go_wp2_with fail
          go_ret2
          exact ⟨below2 HB.out (below_grow _ _ _), .inl ⟨_, 68, rfl, by rw [HQ.out.2.2]; exact HY.out, HSp.out⟩⟩
        · have HNo := Hid.mk9 (HNum.out.2 (by rw [← HD.out]; exact hdc))
          have f5 : ((d : Int) != (4 : Int)) = true := by rw [bne_iff_ne]; omega
          clear hdc hodd hv
          go_wp2_with (first | (go_at_call 23; refine HV.out.mono ?_; rintro e w9 ⟨rfl, hw9⟩; obtain rfl := hw9.symm) | (go_at_call 18; refine (HCl.out _).mono ?_; rintro e w9 ⟨rfl, hw9⟩; obtain rfl := hw9.symm))
          go_ret2
          exact ⟨HB.out, .inr ⟨rfl, HNo.out⟩⟩
      · have hg : gatherN u = (v : Int) := by unfold gatherN; rw [if_neg hodd, hv]
        rw [hg] at HCl HNum
        have f4 : (u : Int) % 2 = 0 := by omega
        clear hcap hcm hf hcl huv huI hd hsz hwlt hu hg
        by_cases hdc : d = 4
        · have HY := Hid.mk9 (HNum.out.1 (by rw [← HD.out]; exact hdc))
          have f5 : ((d : Int) != (4 : Int)) = false := by rw [bne_eq_false_iff_eq]; omega
          clear hdc hodd hv
          go_wp2_with (first | (go_at_call 23; refine HV.out.mono ?_; rintro e w9 ⟨rfl, hw9⟩; obtain rfl := hw9.symm) | (go_at_call 18; refine (HCl.out _).mono ?_; rintro e w9 ⟨rfl, hw9⟩; obtain rfl := hw9.symm))
          refine wp_region_QW mixed5 (by kernel_rfl) ?_
          repeat (refine QW_step (fun K hK => ?_); go_simp; first | (refine hK _ ?_; clear hK K) | (apply Exists.intro; refine ⟨fun _ => ?_, hK _ ?_⟩; fail; clear hK K))
          refine QW_nil ?_
          intro _ hw9
          obtain ⟨⟨nq, osq⟩, hw8⟩ := hw9
          subst hw8
          go_wp2_with fail
          go_ret2
          exact ⟨below2 HB.out (below_grow _ _ _), .inl ⟨_, 68, rfl, by rw [HQ.out.2.2]; exact HY.out, HSp.out⟩⟩
        · have HNo := Hid.mk9 (HNum.out.2 (by rw [← HD.out]; exact hdc))
          have f5 : ((d : Int) != (4 : Int)) = true := by rw [bne_iff_ne]; omega
          clear hdc hodd hv
          go_wp2_with (first | (go_at_call 23; refine HV.out.mono ?_; rintro e w9 ⟨rfl, hw9⟩; obtain rfl := hw9.symm) | (go_at_call 18; refine (HCl.out _).mono ?_; rintro e w9 ⟨rfl, hw9⟩; obtain rfl := hw9.symm))
          go_ret2
          exact ⟨HB.out, .inr ⟨rfl, HNo.out⟩⟩
    have c4 : (c : Int) < 4 := by omega
    have hq1 := hd_low c (by omega)
    by_cases hl : c < len
    · have c5 : (c : Int) < (len : Int) := by omega
      obtain ⟨b, off, rfl, hx⟩ := HR.out.at hl
      have hbt : (L.drop at').getD c false = L.getD (at' + c) false := by simp
      rw [hbt] at hx
      cases hbb : L.getD (at' + c) false with
      | true =>
        rw [hbb] at hx
        have HN : Hid (c + 1 ≤ 4 ∧ c + 1 ≤ len ∧ ∀ j, j < c + 1 → bt L (at' + j) = 1) := ⟨by omega, by omega, fun j hj => by
          by_cases e : j = c
          · subst e; unfold bt; rw [hbb]; rfl
          · exact hc.out.2.2 j (by omega)⟩
        clear hbb hbt hl h4 hc hc4 hcl hq1
        go_wp2_with fail
        exact ⟨⟨c + 1, by go_num, HN.out, trivial⟩, by simp [intOf]; omega⟩
      | false =>
        rw [hbb] at hx
        have HLd : Hid (Lead L at' c) := ⟨hc4, by have := HLL.out; omega, hc.out.2.2, .inr (.inr (by unfold bt; rw [hbb]; rfl))⟩
        clear hbb hbt hc
        obtain ⟨q, hq⟩ : ∃ q, q = hdT c := ⟨_, rfl⟩
        obtain ⟨wd, hwd⟩ : ∃ wd, wd = wdT c := ⟨_, rfl⟩
        obtain ⟨s, hs⟩ : ∃ s, s = szT c := ⟨_, rfl⟩
        have e2 : (q : Int) + (wd : Int) = (s : Int) := by rw [hq, hwd, hs]; unfold szT; omega
        have HQ : Hid (q = hdT c ∧ wd = wdT c ∧ s = szT c) := ⟨hq, hwd, hs⟩
        have e1 : (c : Int) + 1 = (q : Int) := by omega
        have e3 : ((c : Int) == 4) = false := by rw [beq_eq_false_iff_ne]; omega
        have c9 : (c : Int) < 5 := by omega
        have hwc : wr.cell? ⟨G, c, none⟩ = some (.int .i64 (wd : Int)) := by
          have h5 : [Value.int .i64 0, .int .i64 7, .int .i64 12, .int .i64 20, .int .i64 64][c]? = some (.int .i64 (wd : Int)) := by
            rw [hwd]
            rcases c with _ | _ | _ | _ | c <;> first | rfl | omega
          exact HW.out.cell h5
        have q9 : (q : Int) ≤ 4 := by omega
        have w9 : (wd : Int) ≤ 64 := by rw [hwd]; have := wdT_small (c := c) (by omega); omega
        have s9 : (s : Int) ≤ 100 := by omega
        have e10 : IntKind.i64.wrap (s : Int) = (s : Int) := by simp [IntKind.wrap, IntKind.bits, IntKind.signed]; omega
        clear hq hwd hs hq1
        by_cases hf : s ≤ len
        rotate_left
        · have e4 : (len : Int) < (s : Int) := by omega
          have HNo : Hid (∀ v k, ¬ NumIs L at' v k) := HLd.out.short (by have h1 := HLL.out; have h2 := HQ.out.2.2; omega)
          go_wp2_with fail
          go_ret2
          exact ⟨HB.out, .inr ⟨rfl, HNo.out⟩⟩
        have e4 : (s : Int) ≤ (len : Int) := by omega
        have hcap := HR.out.2.1
        have hcm := HR.out.2.2.1
        unfold maxLen at hcm
        have e5 : (len : Int) ≤ (cap : Int) := by omega
        have e6 : (cap : Int) ≤ 9223372036854775807 := by omega
        have e7 : (q : Int) ≤ (s : Int) := by omega
        have e8 : (s : Int) - (q : Int) = (wd : Int) := by omega
        obtain ⟨u, hu⟩ : ∃ u, u = val (bt L) (at' + q) wd := ⟨_, rfl⟩
        have huv : valL (((L.drop at').drop q).take wd) = u := by rw [hu, List.drop_drop]; exact (val_piece (by have := HLL.out; omega)).symm
        have huI : inU u := by rw [hu]; exact val_inU (by omega)
        have HNum := Hid.mk9 (HLd.out.num (u := u) (by rw [← HQ.out.2.2]; have := HLL.out; omega) (by rw [← HQ.out.1, ← HQ.out.2.1]; exact hu))
        obtain ⟨v, hv⟩ : ∃ v, v = u / 2 := ⟨_, rfl⟩
        have f1 : (u : Int) / 2 = (v : Int) := by omega
        have f2 : IntKind.i64.wrap (v : Int) = (v : Int) := by unfold inU at huI; simp [IntKind.wrap, IntKind.bits, IntKind.signed]; omega
        have f3 : (v : Int) ≤ 9223372036854775807 := by unfold inU at huI; omega
        have hwlt : G < wr.heap.size := HW.out.lt
        have xg := cell_grown (a := ⟨G, c, none⟩) hwlt hwc
        obtain ⟨d, hd⟩ : ∃ d, d = clsU u := ⟨_, rfl⟩
        have HCl : Hid (∀ W, Calls Tryd.prog 18 #[.int .i64 (gatherN u)] W fun e w' => e = .returned (.int .i64 (d : Int)) ∧ w' = W) := fun W => by
          have := rclass_any (gatherN u) (gather_in huI) W
          rwa [fold_gather, ← hd] at this
        have HD := Hid.mk9 hd
        have hsz : 0 < s := by omega
        have HSp := Hid.mk9 hsz
        by_cases hcq : cap = q
        · have HV : Hid (∀ (x : Option Addr) (m cp : Nat), m = 0 → (cp : Int) ≤ 9223372036854775807 → Calls Tryd.prog 23 #[.slice x m cp] wr fun e w' => e = .returned (.int .u64 (u : Int)) ∧ w' = wr) := fun x m cp hm hcp => by
            subst hm
            have hz : u = 0 := by rw [← huv, show wd = 0 by omega, List.take_zero]; rfl
            rw [hz]
            exact value_any x 0 cp [] wr ⟨rfl, Nat.zero_le _, by unfold maxLen; omega, .inl rfl⟩ (by decide)
          by_cases hodd : u % 2 = 1
          · have hg : gatherN u = -1 - (v : Int) := by unfold gatherN; rw [if_pos hodd, hv]
            rw [hg] at HCl HNum
            have f4 : (u : Int) % 2 = 1 := by omega
            clear hcap hcm hf hc4 hcl h4 hl huv huI hd hsz hwlt hu hg
            by_cases hdc : d = c
            · have HY := Hid.mk9 (HNum.out.1 (by rw [← HD.out]; exact hdc))
              have f5 : ((d : Int) != (c : Int)) = false := by rw [bne_eq_false_iff_eq]; omega
              clear hdc hodd hv
              go_wp2_with (first | (go_at_call 23; refine (HV.out _ _ _ (by omega) (by omega)).mono ?_; rintro e w9 ⟨rfl, hw9⟩; obtain rfl := hw9.symm) | (go_at_call 18; refine (HCl.out _).mono ?_; rintro e w9 ⟨rfl, hw9⟩; obtain rfl := hw9.symm))
              refine wp_region_QW mixed5 (by kernel_rfl) ?_
              repeat (refine QW_step (fun K hK => ?_); go_simp; first | (refine hK _ ?_; clear hK K) | (apply Exists.intro; refine ⟨fun _ => ?_, hK _ ?_⟩; fail; clear hK K))
              refine QW_nil ?_
              intro _ hw9
              obtain ⟨⟨nq, osq⟩, hw8⟩ := hw9
              subst hw8
              go_wp2_with fail
              go_ret2
              exact ⟨below2 HB.out (below_grow _ _ _), .inl ⟨_, s, rfl, by rw [HQ.out.2.2]; exact HY.out, HSp.out⟩⟩
            · have HNo := Hid.mk9 (HNum.out.2 (by rw [← HD.out]; exact hdc))
              have f5 : ((d : Int) != (c : Int)) = true := by rw [bne_iff_ne]; omega
              clear hdc hodd hv
              go_wp2_with (first | (go_at_call 23; refine (HV.out _ _ _ (by omega) (by omega)).mono ?_; rintro e w9 ⟨rfl, hw9⟩; obtain rfl := hw9.symm) | (go_at_call 18; refine (HCl.out _).mono ?_; rintro e w9 ⟨rfl, hw9⟩; obtain rfl := hw9.symm))
              go_ret2
              exact ⟨HB.out, .inr ⟨rfl, HNo.out⟩⟩
          · have hg : gatherN u = (v : Int) := by unfold gatherN; rw [if_neg hodd, hv]
            rw [hg] at HCl HNum
            have f4 : (u : Int) % 2 = 0 := by omega
            clear hcap hcm hf hc4 hcl h4 hl huv huI hd hsz hwlt hu hg
            by_cases hdc : d = c
            · have HY := Hid.mk9 (HNum.out.1 (by rw [← HD.out]; exact hdc))
              have f5 : ((d : Int) != (c : Int)) = false := by rw [bne_eq_false_iff_eq]; omega
              clear hdc hodd hv
              go_wp2_with (first | (go_at_call 23; refine (HV.out _ _ _ (by omega) (by omega)).mono ?_; rintro e w9 ⟨rfl, hw9⟩; obtain rfl := hw9.symm) | (go_at_call 18; refine (HCl.out _).mono ?_; rintro e w9 ⟨rfl, hw9⟩; obtain rfl := hw9.symm))
              refine wp_region_QW mixed5 (by kernel_rfl) ?_
              repeat (refine QW_step (fun K hK => ?_); go_simp; first | (refine hK _ ?_; clear hK K) | (apply Exists.intro; refine ⟨fun _ => ?_, hK _ ?_⟩; fail; clear hK K))
              refine QW_nil ?_
              intro _ hw9
              obtain ⟨⟨nq, osq⟩, hw8⟩ := hw9
              subst hw8
              go_wp2_with fail
              go_ret2
              exact ⟨below2 HB.out (below_grow _ _ _), .inl ⟨_, s, rfl, by rw [HQ.out.2.2]; exact HY.out, HSp.out⟩⟩
            · have HNo := Hid.mk9 (HNum.out.2 (by rw [← HD.out]; exact hdc))
              have f5 : ((d : Int) != (c : Int)) = true := by rw [bne_iff_ne]; omega
              clear hdc hodd hv
              go_wp2_with (first | (go_at_call 23; refine (HV.out _ _ _ (by omega) (by omega)).mono ?_; rintro e w9 ⟨rfl, hw9⟩; obtain rfl := hw9.symm) | (go_at_call 18; refine (HCl.out _).mono ?_; rintro e w9 ⟨rfl, hw9⟩; obtain rfl := hw9.symm))
              go_ret2
              exact ⟨HB.out, .inr ⟨rfl, HNo.out⟩⟩
        · have HV : Hid (Calls Tryd.prog 23 #[.slice (some ⟨b, off + q, none⟩) (s - q : Nat) (cap - q)] wr fun e w' => e = .returned (.int .u64 (u : Int)) ∧ w' = wr) := by
            obtain ⟨b2, off2, h5⟩ := HR.out.sub (k := q) (n := wd) (by omega)
            rw [show (s - q : Nat) = wd by omega, ← huv]
            rcases h5 with ⟨e5, h6⟩ | h6
            · injection e5 with e5
              injection e5 with e6 e7
              subst e6 e7
              exact value_any _ _ _ _ wr h6 (by omega)
            · refine value_any _ _ _ _ wr ⟨?_, ?_, ?_, .inl h6⟩ (by omega)
              · rw [boV_len]; simp; omega
              · omega
              · unfold maxLen; omega
          by_cases hodd : u % 2 = 1
          · have hg : gatherN u = -1 - (v : Int) := by unfold gatherN; rw [if_pos hodd, hv]
            rw [hg] at HCl HNum
            have f4 : (u : Int) % 2 = 1 := by omega
            clear hcap hcm hf hc4 hcl h4 hl huv huI hd hsz hwlt hu hg
            by_cases hdc : d = c
            · have HY := Hid.mk9 (HNum.out.1 (by rw [← HD.out]; exact hdc))
              have f5 : ((d : Int) != (c : Int)) = false := by rw [bne_eq_false_iff_eq]; omega
              clear hdc hodd hv
              go_wp2_with (first | (go_at_call 23; refine HV.out.mono ?_; rintro e w9 ⟨rfl, hw9⟩; obtain rfl := hw9.symm) | (go_at_call 18; refine (HCl.out _).mono ?_; rintro e w9 ⟨rfl, hw9⟩; obtain rfl := hw9.symm))
              refine wp_region_QW mixed5 (by kernel_rfl) ?_
              repeat (refine QW_step (fun K hK => ?_); go_simp; first | (refine hK _ ?_; clear hK K) | (apply Exists.intro; refine ⟨fun _ => ?_, hK _ ?_⟩; fail; clear hK K))
              refine QW_nil ?_
              intro _ hw9
              obtain ⟨⟨nq, osq⟩, hw8⟩ := hw9
              subst hw8
              go_wp2_with fail
              go_ret2
              exact ⟨below2 HB.out (below_grow _ _ _), .inl ⟨_, s, rfl, by rw [HQ.out.2.2]; exact HY.out, HSp.out⟩⟩
            · have HNo := Hid.mk9 (HNum.out.2 (by rw [← HD.out]; exact hdc))
              have f5 : ((d : Int) != (c : Int)) = true := by rw [bne_iff_ne]; omega
              clear hdc hodd hv
              go_wp2_with (first | (go_at_call 23; refine HV.out.mono ?_; rintro e w9 ⟨rfl, hw9⟩; obtain rfl := hw9.symm) | (go_at_call 18; refine (HCl.out _).mono ?_; rintro e w9 ⟨rfl, hw9⟩; obtain rfl := hw9.symm))
              go_ret2
              exact ⟨HB.out, .inr ⟨rfl, HNo.out⟩⟩
          · have hg : gatherN u = (v : Int) := by unfold gatherN; rw [if_neg hodd, hv]
            rw [hg] at HCl HNum
            have f4 : (u : Int) % 2 = 0 := by omega
            clear hcap hcm hf hc4 hcl h4 hl huv huI hd hsz hwlt hu hg
            by_cases hdc : d = c
            · have HY := Hid.mk9 (HNum.out.1 (by rw [← HD.out]; exact hdc))
              have f5 : ((d : Int) != (c : Int)) = false := by rw [bne_eq_false_iff_eq]; omega
              clear hdc hodd hv
              go_wp2_with (first | (go_at_call 23; refine HV.out.mono ?_; rintro e w9 ⟨rfl, hw9⟩; obtain rfl := hw9.symm) | (go_at_call 18; refine (HCl.out _).mono ?_; rintro e w9 ⟨rfl, hw9⟩; obtain rfl := hw9.symm))
              refine wp_region_QW mixed5 (by kernel_rfl) ?_
              repeat (refine QW_step (fun K hK => ?_); go_simp; first | (refine hK _ ?_; clear hK K) | (apply Exists.intro; refine ⟨fun _ => ?_, hK _ ?_⟩; fail; clear hK K))
              refine QW_nil ?_
              intro _ hw9
              obtain ⟨⟨nq, osq⟩, hw8⟩ := hw9
              subst hw8
              go_wp2_with fail
              go_ret2
              exact ⟨below2 HB.out (below_grow _ _ _), .inl ⟨_, s, rfl, by rw [HQ.out.2.2]; exact HY.out, HSp.out⟩⟩
            · have HNo := Hid.mk9 (HNum.out.2 (by rw [← HD.out]; exact hdc))
              have f5 : ((d : Int) != (c : Int)) = true := by rw [bne_iff_ne]; omega
              clear hdc hodd hv
              go_wp2_with (first | (go_at_call 23; refine HV.out.mono ?_; rintro e w9 ⟨rfl, hw9⟩; obtain rfl := hw9.symm) | (go_at_call 18; refine (HCl.out _).mono ?_; rintro e w9 ⟨rfl, hw9⟩; obtain rfl := hw9.symm))
              go_ret2
              exact ⟨HB.out, .inr ⟨rfl, HNo.out⟩⟩
    · have c5 : (len : Int) ≤ (c : Int) := by omega
      have HLd : Hid (Lead L at' c) := ⟨hc4, by have := HLL.out; omega, hc.out.2.2, .inr (.inl (by have := HLL.out; omega))⟩
      obtain ⟨q, hq⟩ : ∃ q, q = hdT c := ⟨_, rfl⟩
      obtain ⟨wd, hwd⟩ : ∃ wd, wd = wdT c := ⟨_, rfl⟩
      obtain ⟨s, hs⟩ : ∃ s, s = szT c := ⟨_, rfl⟩
      have e2 : (q : Int) + (wd : Int) = (s : Int) := by rw [hq, hwd, hs]; unfold szT; omega
      have HQ : Hid (q = hdT c ∧ wd = wdT c ∧ s = szT c) := ⟨hq, hwd, hs⟩
      have e1 : (c : Int) + 1 = (q : Int) := by omega
      have e3 : ((c : Int) == 4) = false := by rw [beq_eq_false_iff_ne]; omega
      have c9 : (c : Int) < 5 := by omega
      have hwc : wr.cell? ⟨G, c, none⟩ = some (.int .i64 (wd : Int)) := by
        have h5 : [Value.int .i64 0, .int .i64 7, .int .i64 12, .int .i64 20, .int .i64 64][c]? = some (.int .i64 (wd : Int)) := by
          rw [hwd]
          rcases c with _ | _ | _ | _ | c <;> first | rfl | omega
        exact HW.out.cell h5
      have q9 : (q : Int) ≤ 4 := by omega
      have w9 : (wd : Int) ≤ 64 := by rw [hwd]; have := wdT_small (c := c) (by omega); omega
      have s9 : (s : Int) ≤ 100 := by omega
      have e10 : IntKind.i64.wrap (s : Int) = (s : Int) := by simp [IntKind.wrap, IntKind.bits, IntKind.signed]; omega
      clear hq hwd hs hq1
      have e4 : (len : Int) < (s : Int) := by omega
      have HNo : Hid (∀ v k, ¬ NumIs L at' v k) := HLd.out.short (by have h1 := HLL.out; have h2 := HQ.out.2.2; omega)
      go_wp2_with fail
      go_ret2
      exact ⟨HB.out, .inr ⟨rfl, HNo.out⟩⟩
end Go.Proofs.YtjdgcbdpeooogaaDoor.Bi
