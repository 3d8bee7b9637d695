/-
  TopoSums is true.
-/
import Derived.Test.YtdjfhfpgfobkgaaQ
import Derived.Test.YtdjfhfpgfobkgaaAw
import Derived.Test.YtdjfhfpgfobkgaaD
namespace Go.Proofs.Ytdjfhfpgfobkgaa
open Go.ChangeShapes Go.WideShapes Go.ChangeAt Go.RowKit
theorem ch_mem {l : List Ch} {k : Nat} (h : k < l.length) : l.getD k ch0 ∈ l := by
  rw [show l.getD k ch0 = l[k] by simp [h]]
  exact List.getElem_mem h
set_option maxHeartbeats 4000000 in
set_option maxRecDepth 60000 in
theorem topoSums_any (a : Option Addr) (len cap : Nat) (ls : List Nd) (w : World) (h : NdsAt w a len cap ls) :
    Calls Try.prog 4 #[.slice a len cap] w fun e w' => TruePost w e w' := by
  by_cases h40 : (40 : Int) < (len : Int)
  · clear h
    go_enter Try.func4, Try.ntmps4
    go_wp2_with fail
    refine (awake_any _).mono ?_
    rintro e w2 ⟨rfl, hb2⟩
    go_wp2_with fail
    go_ret
    exact ⟨rfl, hb2⟩
  have hd40 : decide ((40 : Int) < (len : Int)) = false := decide_eq_false h40
  by_cases hM : MayN ls
  rotate_left
  · have HC : Hid (Calls Try.prog 8 #[.slice a len cap] w fun e w' => e = .returned (.bool false) ∧ Below w.heap.size w w') := refMay_no h hM
    clear h hM
    go_enter Try.func4, Try.ntmps4
    go_wp2_with fail
    refine HC.out.mono ?_
    rintro e w2 ⟨rfl, hb2⟩
    go_wp2_with fail
    refine (awake_any _).mono ?_
    rintro e w3 ⟨rfl, hb3⟩
    go_wp2_with fail
    go_ret
    exact ⟨rfl, below2 hb2 hb3⟩
  have HC : Hid (Calls Try.prog 8 #[.slice a len cap] w fun e w' => e = .returned (.bool true) ∧ Below w.heap.size w w') := refMay_yes h hM
  have HM : Hid (MayN ls) := hM
  have HL : Hid (NdsAt w a len cap ls) := h
  have HLEN : Hid (ls.length = len) := h.1
  clear h hM
  go_enter Try.func4, Try.ntmps4
  go_wp2_with fail
  refine HC.out.mono ?_
  rintro e w2 ⟨rfl, hb2⟩
  clear HC
  go_wp2_with fail
  refine (leaves_any a len cap ls 0 0 w2 (HL.out.below hb2)).mono ?_
  rintro e w3 ⟨hb3, aL, cL, out, rfl, hcO, h12, hI⟩
  obtain ⟨hlen, hsum, hok⟩ := sums_leaves HM.out hI
  have HOK : Hid (WOK out) := hok
  have HSUM : Hid (sumC out = wsum ls) := hsum
  have HNL : Hid (out.length = len) := hlen.trans HLEN.out
  have HCO : Hid (ChsAt w3 aL out.length cL out) := hcO
  have hb23 : Below w.heap.size w w3 := below2 hb2 hb3
  clear hI hok hsum hlen hcO hb2 hb3
  obtain ⟨n, hn⟩ : ∃ n, n = out.length := ⟨_, rfl⟩
  have HN : Hid (n = out.length) := hn
  have h12' : (n : Int) ≤ 12 := by omega
  rw [← hn] at HCO HNL
  rw [← hn]
  clear hn h12
  go_wp2_with fail
  go_loopw [3, 5] (fun s i wr => ∃ (k : Nat) (S : Int), k ≤ n ∧ i = .int .i64 k ∧ s = .int .i64 S ∧ Hid (S = sumC (out.take k)) ∧ 0 ≤ S ∧ S ≤ 800000 ∧ Below w3.heap.size w3 wr) (fun _ i _ => n - (intOf i).toNat)
  case atStart => exact ⟨0, 0, Nat.zero_le _, rfl, rfl, rfl, by omega, by omega, Below.refl _ _⟩
  case round =>
    obtain ⟨k, S, hk, rfl, rfl, hT, hS0, hS1, hbel⟩ := hrel
    by_cases hlt : k < n
    · obtain ⟨b, off, rfl, hbs, hcell⟩ := (HCO.out.below hbel).some (by omega)
      obtain ⟨e0, e1⟩ := hcell k hlt
      have hk1 : (k : Int) < (n : Int) := by omega
      have hk0 : (0 : Int) ≤ (k : Int) := by omega
      clear hcell
      have HT := sumC_take (l := out) (k := k) (by have := HN.out; omega)
      have hx := HOK.out (out.getD k ch0) (ch_mem (by have := HN.out; omega))
      have hBD := (sumC_bd HOK.out (k + 1))
      rw [← hT.out] at HT
      generalize out.getD k ch0 = x at *
      obtain ⟨x1, x2⟩ := x
      simp only at e0 e1 hx HT
      have HY : Hid (S + x2 = sumC (out.take (k + 1))) := HT.symm
      have hb0 : 0 ≤ S + x2 := by omega
      have hb1 : S + x2 ≤ 800000 := by
        have := HY.out
        have := hBD.2
        omega
      have hx0 := hx.1
      have hx1 := hx.2
      clear HT hT hx hBD
      go_wp2_with fail
      exact ⟨⟨k + 1, S + x2, by omega, by go_num, rfl, HY, hb0, hb1, hbel⟩, by simp [intOf]; omega⟩
    · obtain rfl : k = n := by omega
      have HS : Hid (S = wsum ls) := by
        show _ = _
        rw [hT.out, ← HSUM.out, List.take_of_length_le (by have := HN.out; omega)]
      have hb4 : Below w.heap.size w wr := below2 hb23 hbel
      clear hT hbel hb23 HSUM HOK HCO
      go_wp2_with fail
      refine (zones_any a len cap ls wr (HL.out.below hb4)).mono ?_
      rintro e w5 ⟨hb5, aZ, cZ, Z, rfl, hcZ, hZ12, hIZ⟩
      obtain ⟨hok, hsz, hzr⟩ := sums_zones HM.out hIZ
      have HOKZ : Hid (WOK Z) := hok
      have HSZ : Hid (S < 65536 → sumC Z = S) := fun hh => by
        have e := HS.out
        rw [e] at hh ⊢
        exact hsz hh
      have HZR : Hid (∀ c ∈ Z, ∀ R, WeighIs rackF c.1 0 ls R → WOK R ∧ (c.2 < 65536 → sumC R = c.2) ∧ c.2 ≤ sumC R) := hzr
      have HCZ : Hid (ChsAt w5 aZ Z.length cZ Z) := hcZ
      have hb45 : Below w.heap.size w w5 := below2 hb4 hb5
      clear hIZ hok hsz hzr hcZ hb4 hb5 HS
      obtain ⟨nz, hnz⟩ : ∃ n, n = Z.length := ⟨_, rfl⟩
      have HNZ : Hid (nz = Z.length) := hnz
      have hz12' : (nz : Int) ≤ 12 := by omega
      rw [← hnz] at HCZ
      rw [← hnz]
      clear hnz hZ12
      go_wp2_with fail
      go_loopw [6, 8] (fun s i wr => ∃ (k : Nat) (T : Int), k ≤ nz ∧ i = .int .i64 k ∧ s = .int .i64 T ∧ Hid (T = sumC (Z.take k)) ∧ 0 ≤ T ∧ T ≤ 800000 ∧ Below w5.heap.size w5 wr) (fun _ i _ => nz - (intOf i).toNat)
      case atStart => exact ⟨0, 0, Nat.zero_le _, rfl, rfl, rfl, by omega, by omega, Below.refl _ _⟩
      case round =>
        obtain ⟨j, T, hj, rfl, rfl, hTZ, hT0, hT1, hbz⟩ := hrel
        by_cases hjl : j < nz
        · obtain ⟨bz, oz, rfl, hbzs, hcz⟩ := (HCZ.out.below hbz).some (by omega)
          obtain ⟨z0, z1⟩ := hcz j hjl
          have hj1 : (j : Int) < (nz : Int) := by omega
          have hj0 : (0 : Int) ≤ (j : Int) := by omega
          clear hcz
          have hTT := sumC_take (l := Z) (k := j) (by have := HNZ.out; omega)
          have hy := HOKZ.out (Z.getD j ch0) (ch_mem (by have := HNZ.out; omega))
          have hzz := HZR.out (Z.getD j ch0) (ch_mem (by have := HNZ.out; omega))
          have hBD := (sumC_bd HOKZ.out (j + 1))
          rw [← hTZ.out] at hTT
          generalize Z.getD j ch0 = y at *
          obtain ⟨y1, y2⟩ := y
          simp only at z0 z1 hy hTT hzz
          have HYZ : Hid (T + y2 = sumC (Z.take (j + 1))) := hTT.symm
          have hu0 : 0 ≤ T + y2 := by omega
          have hu1 : T + y2 ≤ 800000 := by
            have := HYZ.out
            have := hBD.2
            omega
          have hy0 := hy.1
          have hy1 := hy.2
          have HZZ : Hid (∀ R, WeighIs rackF y1 0 ls R → WOK R ∧ (y2 < 65536 → sumC R = y2) ∧ y2 ≤ sumC R) := hzz
          have hbr : Below w.heap.size w wr := below2 hb45 hbz
          clear hTT hTZ hy hBD hzz
          go_wp2_with fail
          refine (racks_any a len cap ls y1 wr (HL.out.below hbr)).mono ?_
          rintro e w6 ⟨hb6, aR, cR, R, rfl, hcR, hR12, hIR⟩
          obtain ⟨hokR, hR1, hR2⟩ := HZZ.out R hIR
          have HOKR : Hid (WOK R) := hokR
          have HR1 : Hid (y2 < 65536 → sumC R = y2) := hR1
          have HR2 : Hid (y2 ≤ sumC R) := hR2
          have HCR : Hid (ChsAt w6 aR R.length cR R) := hcR
          have hb56 : Below w5.heap.size w5 w6 := below2 hbz hb6
          have z2 := (hb6.cell (p := ⟨bz, oz + j * 2 + 1, none⟩) hbzs).trans z1
          have hbz6 : bz < w6.heap.size := Nat.lt_of_lt_of_le hbzs hb6.size
          clear hIR hokR hR1 hR2 hcR HZZ hb6 hbz hbr z0 z1
          obtain ⟨nr, hnr⟩ : ∃ n, n = R.length := ⟨_, rfl⟩
          have HNR : Hid (nr = R.length) := hnr
          have hr12' : (nr : Int) ≤ 12 := by omega
          rw [← hnr] at HCR
          rw [← hnr]
          clear hnr hR12
          go_wp2_with fail
          go_loopw [10, 11] (fun s i wr => ∃ (k : Nat) (V : Int), k ≤ nr ∧ i = .int .i64 k ∧ s = .int .i64 V ∧ Hid (V = sumC (R.take k)) ∧ 0 ≤ V ∧ V ≤ 800000 ∧ Below w6.heap.size w6 wr) (fun _ i _ => nr - (intOf i).toNat)
          case atStart => exact ⟨0, 0, Nat.zero_le _, rfl, rfl, rfl, by omega, by omega, Below.refl _ _⟩
          case round =>
            obtain ⟨m, V, hm, rfl, rfl, hTR, hV0, hV1, hbm⟩ := hrel
            by_cases hml : m < nr
            · obtain ⟨br, or', rfl, hbrs, hcr⟩ := (HCR.out.below hbm).some (by omega)
              obtain ⟨r0, r1⟩ := hcr m hml
              have hm1 : (m : Int) < (nr : Int) := by omega
              have hm0 : (0 : Int) ≤ (m : Int) := by omega
              clear hcr
              have hTT := sumC_take (l := R) (k := m) (by have := HNR.out; omega)
              have hy := HOKR.out (R.getD m ch0) (ch_mem (by have := HNR.out; omega))
              have hBD := (sumC_bd HOKR.out (m + 1))
              rw [← hTR.out] at hTT
              generalize R.getD m ch0 = v at *
              obtain ⟨v1, v2⟩ := v
              simp only at r0 r1 hy hTT
              have HYR : Hid (V + v2 = sumC (R.take (m + 1))) := hTT.symm
              have hv0 : 0 ≤ V + v2 := by omega
              have hv1 : V + v2 ≤ 800000 := by
                have := HYR.out
                have := hBD.2
                omega
              have hw0 := hy.1
              have hw1 := hy.2
              clear hTT hTR hy hBD
              go_wp2_with fail
              exact ⟨⟨m + 1, V + v2, by omega, by go_num, rfl, HYR, hv0, hv1, hbm⟩, by simp [intOf]; omega⟩
            · obtain rfl : m = nr := by omega
              have hV : V = sumC R := by rw [hTR.out, List.take_of_length_le (by have := HNR.out; omega)]
              have hVge : y2 ≤ V := by rw [hV]; exact HR2.out
              have hVeq : y2 < 65536 → V = y2 := fun hh => by rw [hV]; exact HR1.out hh
              have z3 := (hbm.cell (p := ⟨bz, oz + j * 2 + 1, none⟩) hbz6).trans z2
              have hb57 : Below w5.heap.size w5 wr := below2 hb56 hbm
              have hlV : decide (V < y2) = false := by simp; omega
              clear hTR hV HR1 HR2 z2 hbm hb56 HOKR HCR
              by_cases hy65 : y2 < 65536
              · obtain rfl := hVeq hy65
                clear hVeq
                go_wp2_with fail
                exact ⟨⟨j + 1, T + V, by omega, by go_num, rfl, HYZ, hu0, hu1, hb57⟩, by simp [intOf]; omega⟩
              · have hd65 : decide (y2 < 65536) = false := decide_eq_false hy65
                clear hVeq
                go_wp2_with fail
                exact ⟨⟨j + 1, T + y2, by omega, by go_num, rfl, HYZ, hu0, hu1, hb57⟩, by simp [intOf]; omega⟩
        · obtain rfl : j = nz := by omega
          have hTZ2 : T = sumC Z := by rw [hTZ.out, List.take_of_length_le (by have := HNZ.out; omega)]
          have HTS : Hid (S < 65536 → T = S) := fun hh => by rw [hTZ2]; exact HSZ.out hh
          have hbw : Below w.heap.size w wr := below2 hb45 hbz
          have hkl : (k : Int) = (len : Int) := by have := HNL.out; omega
          clear hTZ hTZ2 HSZ HOKZ HZR HCZ hbz hb45
          have hkk : ((k : Int) == (len : Int)) = true := by simpa using hkl
          have hkn : k = len := HNL.out
          by_cases hS65 : S < 65536
          · obtain rfl := HTS.out hS65
            have hd65 : decide ((65536 : Int) ≤ T) = false := by simp; omega
            clear HTS
            go_wp2_with fail
            refine (awake_any _).mono ?_
            rintro e w9 ⟨rfl, hbA⟩
            go_wp2_with fail
            go_ret
            exact ⟨rfl, below2 hbw hbA⟩
          · have hd65 : decide ((65536 : Int) ≤ S) = true := by simp; omega
            clear HTS
            go_wp2_with fail
            refine (awake_any _).mono ?_
            rintro e w9 ⟨rfl, hbA⟩
            go_wp2_with fail
            go_ret
            exact ⟨rfl, below2 hbw hbA⟩
end Go.Proofs.Ytdjfhfpgfobkgaa
