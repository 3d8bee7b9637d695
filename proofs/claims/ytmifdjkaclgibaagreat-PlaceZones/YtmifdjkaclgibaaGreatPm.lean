/-
  The law PlaceZones.
-/
import Derived.Test.YtmifdjkaclgibaaGreatPk
import Derived.Test.YtmifdjkaclgibaaGreatPu
import Derived.Test.YtmifdjkaclgibaaGreatDrO
namespace Go.Proofs.YtmifdjkaclgibaaGreat.Tp
open Go.ChangeShapes Go.WideShapes Go.ChangeAt Go.RowKit
set_option maxHeartbeats 8000000 in
set_option maxRecDepth 60000 in
theorem placeZones_any (a : Option Addr) (len cap : Nat) (ls : List Nd) (g size : Int) (w : World) (h : NdsAt w a len cap ls) : Calls Tryz.prog 3 #[.slice a len cap, .int .i64 g, .int .i64 size] w fun e w' => e = .returned (.bool true) ∧ Below w.heap.size w w' := by
  have HL : Hid (NdsAt w a len cap ls) := h
  have HAW : Hid (∀ W : World, Calls Tryz.prog 5 #[] W fun e w' => TruePost W e w') := awake_any
  have HOF : Hid (Calls Tryz.prog 4 #[.slice a len cap, .int .i64 g, .int .i64 size] w fun e w' => OfPost ls g size w e w') := of_any a len cap ls g size w h
  have HRO : Hid (∀ W, Below w.heap.size w W → Calls Tryz.prog 7 #[.slice a len cap, .int .i64 g, .int .i64 size] W fun e w' => OfPost ls g size W e w') := fun W hb => refOf_any a len cap ls g size W (h.below hb)
  have HMY : Hid (∀ W, Below w.heap.size w W → Calls Tryz.prog 8 #[.slice a len cap] W fun e w' => BoolPost (MayN ls) W e w') := fun W hb => refMay_any a len cap ls W (h.below hb)
  have H1O : Hid (∀ W : World, Calls Tryz.prog 7 #[.slice (some ⟨W.heap.size, 0, none⟩) 1 1, .int .i64 g, .int .i64 size] (W.alloc (.cells #[.int .i64 1, .int .i64 1, .int .i64 1, .int .i64 1, .bool false, .bool true] 28)) fun e w' => OfPost one1 g size (W.alloc (.cells #[.int .i64 1, .int .i64 1, .int .i64 1, .int .i64 1, .bool false, .bool true] 28)) e w') := fun W => refOf_any _ 1 1 one1 g size _ (one1_at W)
  clear h
  go_enter Tryz.func3, Tryz.ntmps3
  go_wp2_with fail
  refine HOF.out.mono ?_
  rintro e w2 ⟨hb2, aa, ca, oa, rfl, hIa, hOa⟩
  have HIA : Hid (IntsAt w2 aa oa) := hIa
  have HOA : Hid (OfIs ls g size oa) := hOa
  have h3a : oa.length ≤ 3 := ofIs_len hOa
  have h3I : (oa.length : Int) ≤ 3 := by omega
  clear hIa hOa HOF
  by_cases h40 : 40 < len
  · have h40' : (40 : Int) < (len : Int) := by omega
    go_wp2_with (go_at_call 5; refine (HAW.out _).mono ?_; rintro e w3 ⟨rfl, hb3⟩)
    go_ret
    exact ⟨rfl, below2 hb2 hb3⟩
  have h40' : (len : Int) ≤ 40 := by omega
  have h40d : decide ((40 : Int) < (len : Int)) = false := by simp; omega
  go_wp2_with fail
  refine (HRO.out w2 hb2).mono ?_
  rintro e w3 ⟨hb3, ab, cb, ob, rfl, hIb, hOb⟩
  obtain rfl : oa = ob := ofIs_det HOA.out hOb
  have HEQ : Hid (Calls Tryz.prog 6 #[.slice aa oa.length ca, .slice ab oa.length cb] w3 fun e w' => e = .returned (.bool true) ∧ Below w3.heap.size w3 w') := Dr.ints_any aa ab oa oa ca cb w3 (HIA.out.below hb3) hIb (by omega) (by omega) rfl
  have hb03 := below2 hb2 hb3
  clear hIb hOb HRO
  go_wp2_with fail
  refine HEQ.out.mono ?_
  rintro e w4 ⟨rfl, hb4⟩
  have hb04 := below2 hb03 hb4
  have HIA4 : Hid (IntsAt w4 aa oa) := HIA.out.below (below2 hb3 hb4)
  clear HEQ HIA hb3 hb4 hb2 hb03
  go_wp2_with fail
  refine (H1O.out w4).mono ?_
  rintro e w5 ⟨hb5, a1, c1, o1, rfl, -, hO1⟩
  obtain ⟨hl1, hl0⟩ := one1_len hO1
  have hb05 : Below w.heap.size w w5 := below2 hb04 (below2 (below_alloc _ _) hb5)
  have HIA5 : Hid (IntsAt w5 aa oa) := HIA4.out.below (below2 (below_alloc _ _) hb5)
  clear hO1 H1O HIA4 hb5 hb04
  by_cases hr : (0 ≤ g ∧ g ≤ 7) ∧ 1 ≤ size ∧ size ≤ 3
  · have hn1 := hl1 hr
    clear hl1 hl0
    generalize o1.length = k1 at *
    subst hn1
    have HM5 : Hid (Calls Tryz.prog 8 #[.slice a len cap] w5 fun e w' => BoolPost (MayN ls) w5 e w') := HMY.out w5 hb05
    go_wp2_with fail
    refine HM5.out.mono ?_
    rintro e w6 ⟨hb6, q, rfl, hq⟩
    have hb06 := below2 hb05 hb6
    cases q with
    | false =>
      have ho : oa = [] := ofIs_none HOA.out (fun hh => absurd (hq.2 hh.1.1) (by decide))
      subst ho
      clear hq
      go_wp2_with (go_at_call 5; refine (HAW.out _).mono ?_; rintro e w7 ⟨rfl, hb7⟩)
      go_ret
      exact ⟨rfl, below2 hb06 hb7⟩
    | true =>
      have HM : Hid (MayN ls) := hq.1 rfl
      clear hq HM5 HMY
      obtain ⟨n, rfl⟩ : ∃ n : Nat, size = (n : Int) := ⟨size.toNat, by omega⟩
      have HR : Hid ((0 ≤ g ∧ g ≤ 7) ∧ 1 ≤ (n : Int) ∧ (n : Int) ≤ 3) := hr
      have hoe : oa = ofP ls g n := ofIs_some HOA.out ⟨⟨HM.out, hr.1⟩, hr.2⟩
      obtain ⟨⟨Z, hZ⟩, hlen⟩ := zones_plain HM.out g n
      rw [← hoe] at hZ hlen
      have HZ : Hid (ZonesIs ls oa Z) := hZ
      have HLEN : Hid (oa.length = min n (Dr.heavy (zonesOf ls)).length) := hlen
      have hnI : (n : Int) ≤ 3 := hr.2.2
      have HZN : Hid (Calls Tryz.prog 9 #[.slice a len cap] w6 fun e w' => ChPost (zonesOf ls) w6 e w') := refZones_any a len cap ls w6 (HL.out.below hb06) HM.out
      have HIA6 : Hid (IntsAt w6 aa oa) := HIA5.out.below hb6
      have HZL : Hid ((zonesOf ls).length ≤ 12) := Nat.le_trans (sumF_len _ ls) HM.out.1
      clear hZ hlen hoe hr HIA5 hb6 HOA
      go_wp2_with fail
      refine HZN.out.mono ?_
      rintro e w7 ⟨hb7, az, cz, rfl, hcz⟩
      have HCZ : Hid (ChsAt w7 az (zonesOf ls).length cz (zonesOf ls)) := hcz
      have hb07 := below2 hb06 hb7
      have HIA7 : Hid (IntsAt w7 aa oa) := HIA6.out.below hb7
      clear hcz HZN HIA6 hb7 hb06
      have HC0 : Hid (cntZ (zonesOf ls) 0 = 0) := rfl
      have HCA : Hid (cntZ (zonesOf ls) (zonesOf ls).length = (Dr.heavy (zonesOf ls)).length) := cnt_all _
      have HCL : Hid (∀ i, cntZ (zonesOf ls) i ≤ (Dr.heavy (zonesOf ls)).length) := cnt_le _
      have HCY : Hid (∀ i, i < (zonesOf ls).length → 0 < ((zonesOf ls).getD i ch0).2 → cntZ (zonesOf ls) (i + 1) = cntZ (zonesOf ls) i + 1) := fun i h1 h2 => cnt_yes h1 h2
      have HCN : Hid (∀ i, i < (zonesOf ls).length → ¬ 0 < ((zonesOf ls).getD i ch0).2 → cntZ (zonesOf ls) (i + 1) = cntZ (zonesOf ls) i) := fun i h1 h2 => cnt_no h1 h2
      generalize (Dr.heavy (zonesOf ls)).length = hv at *
      generalize zonesOf ls = ZL at *
      generalize cntZ ZL = cn at *
      have hzI : (ZL.length : Int) ≤ 12 := by have := HZL.out; omega
      generalize hlz : ZL.length = lz at *
      have HLZ : Hid (ZL.length = lz) := hlz
      clear hlz
      go_wp2_with fail
      go_loopw [8, 10] (fun x8 x10 wr => ∃ i : Nat, i ≤ lz ∧ x10 = .int .i64 i ∧ x8 = .int .i64 ((cn i : Nat) : Int) ∧ Hid (cn i ≤ n) ∧ wr = w7) (fun _ x10 _ => lz - (intOf x10).toNat)
      case atStart => exact ⟨0, Nat.zero_le _, rfl, by rw [HC0.out]; rfl, by unfold Hid; rw [HC0.out]; exact Nat.zero_le _, rfl⟩
      case round =>
        obtain ⟨i, hi, rfl, rfl, hcn, hw7⟩ := hrel
        subst hw7
        obtain ⟨W7, hW7⟩ : ∃ W7, W7 = wr := ⟨_, rfl⟩
        subst hW7
        have hi0 : (0 : Int) ≤ (i : Int) := by omega
        by_cases hgo : i < lz ∧ cn i < n
        · obtain ⟨hgo1, hgo2⟩ := hgo
          have hi1 : (i : Int) < (lz : Int) := by omega
          have hi2 : ((cn i : Nat) : Int) < (n : Int) := by omega
          obtain ⟨bz, oz, rfl, hbz, hcell⟩ := HCZ.out.some (by omega)
          obtain ⟨-, e1⟩ := hcell i hgo1
          have HY := HCY.out i hgo1
          have HN := HCN.out i hgo1
          have hcn2 : cn i + 1 ≤ n := hgo2
          clear hcell hcn HCY HCN
          generalize (ZL.getD i ch0).2 = wz at *
          by_cases hwz : 0 < wz
          · have hn2 := HY hwz
            have HN2 : Hid (cn (i + 1) = cn i + 1) := hn2
            have HC2 : Hid (cn (i + 1) ≤ n) := by unfold Hid; rw [hn2]; exact hcn2
            have dw : decide (0 < wz) = true := by simpa using hwz
            clear HY HN hn2
            generalize cn i = c at *
            go_wp2_with fail
            exact ⟨⟨i + 1, by omega, by go_num, by rw [HN2.out]; go_num, HC2, trivial⟩, by simp [intOf]; omega⟩
          · have hn2 := HN (by omega)
            have HN2 : Hid (cn (i + 1) = cn i) := hn2
            have HC2 : Hid (cn (i + 1) ≤ n) := by unfold Hid; rw [hn2]; omega
            have dw : decide (0 < wz) = false := by simpa using hwz
            clear HY HN hn2
            generalize cn i = c at *
            go_wp2_with fail
            exact ⟨⟨i + 1, by omega, by go_num, by rw [HN2.out], HC2, trivial⟩, by simp [intOf]; omega⟩
        · have hwant : cn i = oa.length := by
            have h1 := HLEN.out
            have h2 := HCA.out
            have h3 := HCL.out i
            have h4 := hcn.out
            by_cases hil : i < lz
            · have : ¬ cn i < n := fun hh => hgo ⟨hil, hh⟩
              omega
            · obtain rfl : i = lz := by omega
              omega
          have hdd : (decide ((i : Int) < (lz : Int)) = false ∧ decide (i < lz) = false) ∨ ((i : Int) < (lz : Int) ∧ decide (((cn i : Nat) : Int) < (n : Int)) = false ∧ decide (cn i < n) = false) := by
            by_cases hil : i < lz
            · right
              have : ¬ cn i < n := fun hh => hgo ⟨hil, hh⟩
              refine ⟨by omega, ?_, ?_⟩
              · simp; omega
              · simp; omega
            · left
              refine ⟨?_, ?_⟩
              · simp; omega
              · simp; omega
          have HAP : Hid (∀ W, Below W7.heap.size W7 W → Calls Tryz.prog 11 #[.slice a len cap, .slice aa oa.length ca] W fun e w' => TruePost W e w') := fun W hb => refApart_yes a len cap ls aa ca oa Z W ((HL.out.below hb07).below hb) (HIA7.out.below hb) (by omega) HZ.out
          rw [hwant] at hdd
          rw [hwant]
          clear hgo hwant hcn HCY HCN HCA HCL HLEN HC0
          rcases hdd with ⟨d1, d2⟩ | ⟨d1, d2, d3⟩
          all_goals
            go_wp2_with fail
            go_loopw [11] (fun x11 wq => ∃ t : Nat, t ≤ oa.length ∧ x11 = .int .i64 t ∧ Below W7.heap.size W7 wq) (fun x11 _ => oa.length - (intOf x11).toNat)
            case atStart => exact ⟨0, Nat.zero_le _, rfl, Below.refl _ _⟩
            case round =>
              obtain ⟨t, ht, rfl, hbq⟩ := hrel
              have hbw : Below w.heap.size w wr := below2 hb07 hbq
              by_cases hlt : t < oa.length
              · have ht1 : (t : Int) < (oa.length : Int) := by omega
                have ht0 : (0 : Int) ≤ (t : Int) := by omega
                rcases HIA7.out.below hbq with h0 | ⟨p, rfl, hp, hci⟩
                · rw [h0] at hlt; simp at hlt
                have c0 := hci t hlt
                obtain ⟨x, hf, -, hxi, hxw⟩ := HZ.out.2.2 t hlt
                obtain ⟨n1, n2, n3, n4, n5, n6⟩ := x
                have hxi' : n6 = true := hxi
                subst hxi'
                have hxw' : (0 : Int) < n4 := hxw
                have dw : (n4 == 0) = false := by simp; omega
                have HFD : Hid (Calls Tryz.prog 10 #[.slice a len cap, .int .i64 (oa.getD t 0)] wr fun e w' => e = .returned (.tuple #[.agg #[.int .i64 n1, .int .i64 n2, .int .i64 n3, .int .i64 n4, .bool n5, .bool true], .bool true]) ∧ Below wr.heap.size wr w') := (refFind_any _ len cap ls _ wr (HL.out.below hbw)).mono fun _ _ ⟨hb, he⟩ => ⟨by rw [he, hf]; rfl, hb⟩
                clear hf hxi hxw hci hxw'
                generalize oa.getD t 0 = it at *
                go_wp2_with fail
                refine HFD.out.mono ?_
                rintro e w11 ⟨rfl, hb11⟩
                have hbx : Below W7.heap.size W7 (w11.alloc (.cells #[.int .i64 n1, .int .i64 n2, .int .i64 n3, .int .i64 n4, .bool n5, .bool true] 28)) := below2 hbq (below2 hb11 (below_alloc _ _))
                clear HFD c0
                go_wp2_with fail
                exact ⟨⟨t + 1, by omega, by go_num, hbx⟩, by simp [intOf]; omega⟩
              · obtain rfl : t = oa.length := by omega
                go_wp2_with (first
                  | (go_at_call 11; refine (HAP.out _ hbq).mono ?_; rintro e w12 ⟨rfl, hb12⟩)
                  | (go_at_call 5; refine (HAW.out _).mono ?_; rintro e w13 ⟨rfl, hb13⟩))
                go_ret
                exact ⟨rfl, below2 hbw (below2 hb12 hb13)⟩
  · have hn1 := hl0 hr
    clear hl1 hl0
    generalize o1.length = k1 at *
    subst hn1
    have ho : oa = [] := ofIs_none HOA.out (fun hh => hr ⟨hh.1.2, hh.2⟩)
    subst ho
    clear hr
    go_wp2_with (go_at_call 5; refine (HAW.out _).mono ?_; rintro e w7 ⟨rfl, hb7⟩)
    go_ret
    exact ⟨rfl, below2 hb05 hb7⟩
end Go.Proofs.YtmifdjkaclgibaaGreat.Tp
