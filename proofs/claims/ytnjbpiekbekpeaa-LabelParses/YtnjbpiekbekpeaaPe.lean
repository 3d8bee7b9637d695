/-
  The contract of the answer's Parse.
-/
import Derived.Test.YtnjbpiekbekpeaaRl
import Derived.Test.YtnjbpiekbekpeaaRm
namespace Go.Proofs.Ytnjbpiekbekpeaa
open Go.ChangeShapes Go.WideShapes Go.ChangeAt Go.RowKit
theorem list125 : ([125] : List UInt8) = (⟨#[125]⟩ : ByteArray).toList := by decide +kernel
set_option maxHeartbeats 16000000 in
set_option maxRecDepth 60000 in
theorem refParse_any (s : ByteArray) (w : World) (HS : Hid (s.size ≤ 2000)) : Calls Try.prog 16 #[.string s] w fun e w' => RefParsePost w s e w' := by
  have hs2 : (s.size : Int) ≤ 2000 := by have := HS.out; omega
  obtain ⟨i0, hi, hz0, hz1, hz2⟩ := info_parts info46
  go_enter Try.func16, Try.ntmps16
  go_wp2_with fail
  refine (until_any s 0 123 _ (by have := HS.out; unfold maxLen; omega) (Nat.zero_le _)).mono ?_
  rintro e w1 ⟨rfl, k0, rfl, hU0⟩
  have hk0 : k0 ≤ s.size := hU0.2.1
  have HR0 : Hid (refP (sg s) = (labP 4 [] ((sg s).drop k0)).map fun ls => (s.extract 0 k0, ls)) := refP_at hU0
  have hk0' : (k0 : Int) ≤ (s.size : Int) := by omega
  clear hU0
  go_wp2_with fail
  go_loopw [4, 6, 7, 8, 9] (fun t4 t6 t7 t8 t9 wr => ∃ (p f : Nat) (lv : Value) (acc : List Lab), p ≤ s.size ∧ t4 = .int .i64 (p : Int) ∧ acc.length + f = 4 ∧ Hid (labP f acc ((sg s).drop p) = labP 4 [] ((sg s).drop k0)) ∧ Hid (∀ x ∈ acc, x.1.size ≤ 2000 ∧ x.2.size ≤ 2000) ∧ Hid (PW w (s.extract 0 k0) lv acc wr)) (fun t4 _ _ _ _ _ => s.size - (intOf t4).toNat)
  case atStart =>
    refine ⟨k0, 4, .slice none 0 0, [], hk0, rfl, rfl, rfl, fun x hx => by simp at hx, ?_⟩
    exact ⟨(below_alloc w _).alloc (by simp) _, by simp, ⟨by simp, by simp, by simp, by simp⟩, ⟨by simp, by simp, by simp⟩, World.ownsRow_nil _ _ _ _⟩
  case round =>
    obtain ⟨p, f, lv, acc, hp, rfl, hf, hI, hF, hW⟩ := hrel
    obtain ⟨a, cap, rfl, hLA⟩ := labs_own hW.out.2.2.2.2
    obtain ⟨hb, hsz, ⟨y0, y1, z0, z1⟩, ⟨x0, x1, xf⟩, -⟩ := hW.out
    have HB : Hid (Below w.heap.size w wr) := hb
    have HA0 : Hid (∀ x, a = some x → ∃ g, x = ⟨g, 0, none⟩ ∧ w.heap.size + 2 ≤ g) := own_at0 hW.out.2.2.2.2
    have HA1 : Hid (a = none → acc.length = 0 ∧ cap = 0) := own_none hW.out.2.2.2.2
    by_cases hlt : p < s.size
    · have hp1 : (p : Int) < (s.size : Int) := by omega
      go_wp2_with fail
      refine (until_any s (p + 1) 61 _ (by have := HS.out; unfold maxLen; omega) (by omega)).mono ?_
      rintro e w1 ⟨rfl, k1, rfl, hU1⟩
      have hk1 : k1 ≤ s.size := hU1.2.1
      have hpk : p + 1 ≤ k1 := hU1.1
      have HD : Hid ((sg s).drop p = s[p] :: (sg s).drop (p + 1)) := drop_at s p hlt
      have HNO : Hid (lab1 ((sg s).drop (p + 1)) = none → refP (sg s) = none) := fun h => by rw [HR0.out, ← hI.out, HD.out, labP_none h]; rfl
      by_cases hq : k1 + 1 < s.size
      · have hq' : (k1 : Int) + 1 < (s.size : Int) := by omega
        have h256 := (s[k1 + 1]).toNat_lt
        by_cases h34 : s[k1 + 1] = 34
        · have hn34 : ((s[k1 + 1].toNat : Int) != 34) = false := by rw [h34]; rfl
          by_cases h4 : acc.length = 4
          · have h4' : ((acc.length : Int) == 4) = true := by rw [h4]; rfl
            have HN : Hid (refP (sg s) = none) := by
              show _ = _
              obtain rfl : f = 0 := by omega
              rw [HR0.out, ← hI.out, HD.out, labP_zero]; rfl
            clear HNO HD hI hF hW hLA h34
            go_wp2_with fail
            try simp only [Exit.inBlock, Exit.then]
            refine bodyPost_ret (ret_pair rfl _ _ w.heap.size _ _ rfl (two_set y0 y1 _ _).1 (two_set y0 y1 _ _).2) rfl ?_
            refine refPost_no ((HB.out.setCell (Nat.le_refl _) _).setCell (Nat.le_refl _) _) (fun nm ls h => by rw [HN.out] at h; cases h)
          · have h4' : ((acc.length : Int) == 4) = false := by simp; omega
            obtain ⟨f, rfl⟩ : ∃ g, f = g + 1 := ⟨f - 1, by omega⟩
            have HL1 : Hid (lab1 ((sg s).drop (p + 1)) = endP (s.extract (p + 1) k1) (valP ((sg s).drop (k1 + 2)))) := lab1_at hU1 hq h34
            have HN1 : Hid (∀ x l, lab1 ((sg s).drop (p + 1)) = some (x, l) → labP f (insP acc x) l = labP 4 [] ((sg s).drop k0)) := fun x l h => by rw [← hI.out, HD.out, labP_some h]
            have HNS : Hid ((s.extract (p + 1) k1).size ≤ 2000) := by show _ ≤ _; have := HS.out; rw [ByteArray.size_extract]; omega
            have hkk : (p : Int) + 1 ≤ (k1 : Int) := by omega
            have hkk2 : (k1 : Int) ≤ (s.size : Int) := by omega
            clear HD hI h34 hU1
            have HB1 : Below w1.heap.size w1 (w1.alloc (.cells #[.string (s.extract (p + 1) k1), .string ⟨#[]⟩] 46)) := below_alloc _ _
            go_wp2_with fail
            go_loopw [4] (fun t4 wr2 => ∃ (q : Nat) (v : ByteArray), k1 + 2 ≤ q ∧ q ≤ s.size ∧ t4 = .int .i64 (q : Int) ∧ Hid (preP v (valP ((sg s).drop q)) = valP ((sg s).drop (k1 + 2))) ∧ Hid (v.size ≤ q) ∧ Hid (BoxL w1 (s.extract (p + 1) k1) v wr2)) (fun t4 _ => s.size - (intOf t4).toNat)
            case atStart =>
              refine ⟨k1 + 2, ⟨#[]⟩, Nat.le_refl _, by omega, by go_num, ?_, Nat.zero_le _, ⟨⟨HB1, by simp⟩, by simp, by simp, by simp⟩⟩
              show _ = _
              rw [preP_zero]
            case round =>
              obtain ⟨q, v, hq1, hq2, rfl, hV, hvs, hBX⟩ := hrel
              have hW2 : Hid (PW w (s.extract 0 k0) (.slice a acc.length cap) acc wr) := hW.out.below hBX.out.1.1
              clear y0 y1 z0 z1 x0 x1 xf hb hsz
              obtain ⟨hb2, hsz2, ⟨y0, y1, z0, z1⟩, ⟨x0, x1, xf⟩, -⟩ := hW2.out
              obtain ⟨⟨-, hszL⟩, c0, c1, cf⟩ := hBX.out
              have HB2 : Hid (Below w.heap.size w wr) := hb2
              have HNV : Hid (valP ((sg s).drop (k1 + 2)) = none → refP (sg s) = none) := fun h => HNO.out (by rw [HL1.out, h]; rfl)
              have hvq : (v.size : Int) ≤ 2000 := by have := hvs.out; have := HS.out; omega
              clear hb2 hn34 h4' h256
              by_cases hqs : q < s.size
              · have hqs' : (q : Int) < (s.size : Int) := by omega
                have h256q := (s[q]).toNat_lt
                have hj0 : (0 : Int) ≤ (q : Int) := by omega
                by_cases e34 : s[q] = 34
                · have d34 : ((s[q].toNat : Int) != 34) = false := by rw [e34]; rfl
                  have HV1 : Hid (valP ((sg s).drop (k1 + 2)) = some (sg v, (sg s).drop (q + 1))) := by show _ = _; rw [← hV.out, preP_mark s v q hqs e34]
                  have HNE : Hid (endP (s.extract (p + 1) k1) (some (sg v, (sg s).drop (q + 1))) = none → refP (sg s) = none) := fun h => HNO.out (by rw [HL1.out, HV1.out, h])
                  have HYES : Hid (∀ x l, endP (s.extract (p + 1) k1) (some (sg v, (sg s).drop (q + 1))) = some (x, l) → labP f (insP acc x) l = labP 4 [] ((sg s).drop k0)) := fun x l h => HN1.out x l (by rw [HL1.out, HV1.out, h])
                  clear hV e34 HNV HL1 HN1 HV1 HNO
                  by_cases hq3 : q + 1 < s.size
                  · have hq3' : (q : Int) + 1 < (s.size : Int) := by omega
                    have h256r := (s[q + 1]).toNat_lt
                    by_cases c44 : s[q + 1] = 44
                    · have f44 : ((s[q + 1].toNat : Int) != 44) = false := by rw [c44]; rfl
                      have f125 : ((s[q + 1].toNat : Int) == 125) = false := by rw [c44]; rfl
                      have HNX : Hid (labP f (insP acc (s.extract (p + 1) k1, v)) ((sg s).drop (q + 1)) = labP 4 [] ((sg s).drop k0)) := HYES.out _ _ (endP_44 s _ v (q + 1) hq3 c44)
                      clear HYES HNE c44
                      go_wp2_with fail
                      obtain ⟨w2, hw2⟩ : ∃ x, x = wr := ⟨_, rfl⟩
                      subst hw2
                      generalize hN : s.extract (p + 1) k1 = n at *
                      clear hN y0 y1 z0 z1 x0 x1 xf hsz2 c0 c1 cf d34 f44 h256q h256r
                      go_loopw [9] (fun t9 wr3 => ∃ k : Nat, k ≤ acc.length ∧ t9 = .int .i64 (k : Int) ∧ Hid (∀ i, i < k → ltB (acc.getD i lab0).1 n = true) ∧ Hid (Below w2.heap.size w2 wr3)) (fun t9 _ => acc.length - (intOf t9).toNat)
                      case atStart => exact ⟨0, Nat.zero_le _, rfl, (fun i hi => absurd hi (Nat.not_lt_zero _)), Below.refl _ _⟩
                      case round =>
                        obtain ⟨k, hk, rfl, hK, hB3⟩ := hrel
                        have hW3 : Hid (PW w (s.extract 0 k0) (.slice a acc.length cap) acc wr) := hW2.out.below hB3.out
                        have hBX3 : Hid (BoxL w1 n v wr) := hBX.out.below hB3.out
                        have hL3 : Hid (LabsAt wr a acc.length cap acc) := (hLA.below hBX.out.1.1).below hB3.out
                        obtain ⟨-, hsz3, -, ⟨x0, x1, xf⟩, -⟩ := hW3.out
                        obtain ⟨⟨-, hszL3⟩, c0, c1, cf⟩ := hBX3.out
                        have hk0' : (0 : Int) ≤ (k : Int) := by omega
                        have HF2 : Hid (∀ x ∈ insP acc (n, v), x.1.size ≤ 2000 ∧ x.2.size ≤ 2000) := fun x hx => by
                          rcases List.mem_append.1 ((insP_perm acc (n, v)).subset hx) with h | h
                          · exact hF.out x h
                          · simp at h
                            subst h
                            exact ⟨HNS.out, by have := hvs.out; have := HS.out; simp only; omega⟩
                        by_cases hkl : k < acc.length
                        · have hkl' : (k : Int) < (acc.length : Int) := by omega
                          have hkd : decide (k < acc.length) = true := by simpa using hkl
                          obtain ⟨g, off, rfl, hcell⟩ := hL3.out.some (by omega)
                          have e0 := (hcell k hkl).1
                          clear hcell
                          cases hc : ltB (acc.getD k lab0).1 n with
                          | true =>
                            have HK2 : Hid (∀ i, i < k + 1 → ltB (acc.getD i lab0).1 n = true) := fun i hi => by
                              rcases Nat.lt_succ_iff_lt_or_eq.1 hi with h | rfl
                              · exact hK.out i h
                              · exact hc
                            have hc2 : Op.bytesLess (acc.getD k lab0).1.toList n.toList = true := hc
                            clear hK hc
                            generalize (acc.getD k lab0).1 = y at *
                            go_wp2_with fail
                            go_quiet (fail)
                            go_wp2_with fail
                            exact ⟨⟨k + 1, by omega, by go_num, HK2, hB3.out.trans ((below_drewN _ _).mono hB3.out.size)⟩, by simp [intOf]; omega⟩
                          | false =>
                            have HIN : Hid (∀ v, insP acc (n, v) = acc.take k ++ [(n, v)] ++ acc.drop k) := fun v => insP_at acc (n, v) k hk hK.out (fun _ => hc)
                            have hc2 : Op.bytesLess (acc.getD k lab0).1.toList n.toList = false := hc
                            clear hK hc
                            generalize (acc.getD k lab0).1 = y at *
                            go_wp2_with fail
                            go_quiet (fail)
                            go_wp2_with fail
                            obtain ⟨g', hg', hgB⟩ := HA0.out _ rfl
                            obtain ⟨rfl, rfl⟩ : g = g' ∧ off = 0 := by simpa using hg'
                            clear hg' e0 hc2
                            have hB4 : Below wr.heap.size wr (wr.drewN nq) := below_drewN _ _
                            have hW4 : Hid (PW w (s.extract 0 k0) (.slice (some ⟨g, 0, none⟩) acc.length cap) acc (wr.drewN nq)) := hW3.out.below hB4
                            have hBX4 : Hid (BoxL w1 n v (wr.drewN nq)) := hBX3.out.below hB4
                            clear hL3 hLA hW hW2 hW3 hBX hBX3 hB3 hB4 x0 x1 xf c0 c1 cf HB1 hszL3 hsz3 HB2
                            generalize wr.drewN nq = w4 at *
                            obtain ⟨-, hsz4, -, ⟨-, x1, xf⟩, hown4⟩ := hW4.out
                            obtain ⟨⟨-, hszL4⟩, c0, c1, -⟩ := hBX4.out
                            refine put_some _ _ _ _ _ _ _ _ _ _ _ _ _ _ _ _ _ _ _ _ _ _ _ _ _ _ _ _ _ _ _ _ _ _ _ _ _ _ _ _ _ _ _ _ _ _ _ _ _ _ _ _ _ _ _ _ _ _ _ _ _ _ _ _ _ _ _ _ _ _ _ _ _ _ _ _ _ _ _ _ _ _ _ _ _ _ _ _ _ _ _ _ _ _ _ _ _ _ _ _ _ _ _ _ _ _ _ _ _ _ _ _ _ _ _ _ _ _ _ _ _ _ _ _ _ _ _ _ _ _ _ _ _ _ _ _ _ _ _ _ _ _ _ _ _ _ _ _ _ _ _ _ _ _ _ (w.heap.size + 1) w1.heap.size g cap k (w.heap.size + 2) acc n v w4 _ x1 xf (by omega) c0 c1 hszL4 hown4 hk (by omega) (fun u132 u133 u134 u135 u136 u137 u138 u139 u140 u141 u142 u143 u144 u145 u146 wC gC capC hbC hownC => ?_)
                            have HPW : Hid (PW w (s.extract 0 k0) (.slice (some ⟨gC, 0, none⟩) (k + 1 + (acc.length - k)) capC) (insP acc (n, v)) (wC.setCell ⟨w.heap.size + 1, 1, none⟩ (.slice (some ⟨gC, 0, none⟩) (k + 1 + (acc.length - k)) capC))) := by
                              refine (hW4.out.below hbC).store ?_
                              have hl : (acc.take k ++ [(n, v)] ++ acc.drop k).length = k + 1 + (acc.length - k) := by simp; omega
                              rw [HIN.out v, hl]
                              exact own_mono hownC (by omega)
                            generalize wC.setCell ⟨w.heap.size + 1, 1, none⟩ (.slice (some ⟨gC, 0, none⟩) (k + 1 + (acc.length - k)) capC) = w9 at *
                            generalize (Value.slice (some ⟨gC, 0, none⟩) (k + 1 + (acc.length - k)) capC) = lv9 at *
                            clear hbC hownC x1 xf c0 c1 hown4 hW4 hBX4 HIN
                            go_wp2_with fail
                            exact ⟨⟨q + 1, f, lv9, _, by omega, by go_num, by rw [insP_length]; omega, HNX, HF2, HPW⟩, by simp [intOf]; omega⟩
                        · have hkl' : ¬ (k : Int) < (acc.length : Int) := by omega
                          have hkd : decide (k < acc.length) = false := by simpa using hkl
                          have hkd' : decide ((k : Int) < (acc.length : Int)) = false := by simp; omega
                          have HIN : Hid (∀ v, insP acc (n, v) = acc.take k ++ [(n, v)] ++ acc.drop k) := fun v => insP_at acc (n, v) k hk hK.out (fun h => absurd h hkl)
                          clear hK
                          go_wp2_with fail
                          go_quiet (fail)
                          go_wp2_with fail
                          cases a with
                          | none =>
                            obtain ⟨hal, rfl⟩ := HA1.out rfl
                            obtain rfl : acc = [] := List.length_eq_zero_iff.1 hal
                            obtain rfl : k = 0 := by simp at hk; omega
                            have hB4 : Below wr.heap.size wr (wr.drewN nq) := below_drewN _ _
                            have hW4 : Hid (PW w (s.extract 0 k0) (.slice none 0 0) [] (wr.drewN nq)) := hW3.out.below hB4
                            have hBX4 : Hid (BoxL w1 n v (wr.drewN nq)) := hBX3.out.below hB4
                            clear hL3 hLA hW hW2 hW3 hBX hBX3 hB3 hB4 x0 x1 xf c0 c1 cf HB1 hszL3 hsz3 HB2
                            generalize wr.drewN nq = w4 at *
                            obtain ⟨-, hsz4, -, ⟨-, x1, xf⟩, hown4⟩ := hW4.out
                            obtain ⟨⟨-, hszL4⟩, c0, c1, -⟩ := hBX4.out
                            refine put_none _ _ _ _ _ _ _ _ _ _ _ _ _ _ _ _ _ _ _ _ _ _ _ _ _ _ _ _ _ _ _ _ _ _ _ _ _ _ _ _ _ _ _ _ _ _ _ _ _ _ _ _ _ _ _ _ _ _ _ _ _ _ _ _ _ _ _ _ _ _ _ _ _ _ _ _ _ _ _ _ _ _ _ _ _ _ _ _ _ _ _ _ _ _ _ _ _ _ _ _ _ _ _ _ _ _ _ _ _ _ _ _ _ _ _ _ _ _ _ _ _ _ _ _ _ _ _ _ _ _ _ _ _ _ _ _ _ _ _ _ _ _ _ _ _ _ _ _ _ _ _ _ _ _ _ (w.heap.size + 1) w1.heap.size n v w4 _ x1 xf (by omega) c0 c1 hszL4 (fun u132 u133 u134 u135 u136 u137 u138 u139 u140 u141 u142 u143 u144 u145 u146 wC gC capC hbC hownC => ?_)
                            have HPW : Hid (PW w (s.extract 0 k0) (.slice (some ⟨gC, 0, none⟩) 1 capC) (insP [] (n, v)) (wC.setCell ⟨w.heap.size + 1, 1, none⟩ (.slice (some ⟨gC, 0, none⟩) 1 capC))) := by
                              refine (hW4.out.below hbC).store ?_
                              exact own_mono hownC (by omega)
                            generalize wC.setCell ⟨w.heap.size + 1, 1, none⟩ (.slice (some ⟨gC, 0, none⟩) 1 capC) = w9 at *
                            generalize (Value.slice (some ⟨gC, 0, none⟩) 1 capC) = lv9 at *
                            clear hbC hownC x1 xf c0 c1 hown4 hW4 hBX4 HIN
                            go_wp2_with fail
                            exact ⟨⟨q + 1, f, lv9, _, by omega, by go_num, by rw [insP_length]; omega, HNX, HF2, HPW⟩, by simp [intOf]; omega⟩
                          | some x =>
                            obtain ⟨g, rfl, hgB⟩ := HA0.out _ rfl
                            have hB4 : Below wr.heap.size wr (wr.drewN nq) := below_drewN _ _
                            have hW4 : Hid (PW w (s.extract 0 k0) (.slice (some ⟨g, 0, none⟩) acc.length cap) acc (wr.drewN nq)) := hW3.out.below hB4
                            have hBX4 : Hid (BoxL w1 n v (wr.drewN nq)) := hBX3.out.below hB4
                            clear hL3 hLA hW hW2 hW3 hBX hBX3 hB3 hB4 x0 x1 xf c0 c1 cf HB1 hszL3 hsz3 HB2
                            generalize wr.drewN nq = w4 at *
                            obtain ⟨-, hsz4, -, ⟨-, x1, xf⟩, hown4⟩ := hW4.out
                            obtain ⟨⟨-, hszL4⟩, c0, c1, -⟩ := hBX4.out
                            refine put_some _ _ _ _ _ _ _ _ _ _ _ _ _ _ _ _ _ _ _ _ _ _ _ _ _ _ _ _ _ _ _ _ _ _ _ _ _ _ _ _ _ _ _ _ _ _ _ _ _ _ _ _ _ _ _ _ _ _ _ _ _ _ _ _ _ _ _ _ _ _ _ _ _ _ _ _ _ _ _ _ _ _ _ _ _ _ _ _ _ _ _ _ _ _ _ _ _ _ _ _ _ _ _ _ _ _ _ _ _ _ _ _ _ _ _ _ _ _ _ _ _ _ _ _ _ _ _ _ _ _ _ _ _ _ _ _ _ _ _ _ _ _ _ _ _ _ _ _ _ _ _ _ _ _ _ (w.heap.size + 1) w1.heap.size g cap k (w.heap.size + 2) acc n v w4 _ x1 xf (by omega) c0 c1 hszL4 hown4 hk (by omega) (fun u132 u133 u134 u135 u136 u137 u138 u139 u140 u141 u142 u143 u144 u145 u146 wC gC capC hbC hownC => ?_)
                            have HPW : Hid (PW w (s.extract 0 k0) (.slice (some ⟨gC, 0, none⟩) (k + 1 + (acc.length - k)) capC) (insP acc (n, v)) (wC.setCell ⟨w.heap.size + 1, 1, none⟩ (.slice (some ⟨gC, 0, none⟩) (k + 1 + (acc.length - k)) capC))) := by
                              refine (hW4.out.below hbC).store ?_
                              have hl : (acc.take k ++ [(n, v)] ++ acc.drop k).length = k + 1 + (acc.length - k) := by simp; omega
                              rw [HIN.out v, hl]
                              exact own_mono hownC (by omega)
                            generalize wC.setCell ⟨w.heap.size + 1, 1, none⟩ (.slice (some ⟨gC, 0, none⟩) (k + 1 + (acc.length - k)) capC) = w9 at *
                            generalize (Value.slice (some ⟨gC, 0, none⟩) (k + 1 + (acc.length - k)) capC) = lv9 at *
                            clear hbC hownC x1 xf c0 c1 hown4 hW4 hBX4 HIN
                            go_wp2_with fail
                            exact ⟨⟨q + 1, f, lv9, _, by omega, by go_num, by rw [insP_length]; omega, HNX, HF2, HPW⟩, by simp [intOf]; omega⟩
                    · have f44 : ((s[q + 1].toNat : Int) != 44) = true := by
                        have : ¬ s[q + 1].toNat = 44 := fun e => c44 (UInt8.toNat_inj.1 e)
                        simp; omega
                      by_cases c125 : s.extract (q + 1) s.size = ⟨#[125]⟩
                      · have fne : (!(s.extract (q + 1) s.size).toList == [125]) = false := by rw [list125, eqB, c125]; simp
                        have h125 := endP_125 s (s.extract (p + 1) k1) v (q + 1) hq3 c125
                        have f125 : ((s[q + 1].toNat : Int) == 125) = true := by rw [h125.1]; rfl
                        have HNX : Hid (labP f (insP acc (s.extract (p + 1) k1, v)) ((sg s).drop s.size) = labP 4 [] ((sg s).drop k0)) := by
                          show _ = _
                          rw [drop_end s s.size (by omega)]; exact HYES.out _ _ h125.2
                        clear HYES HNE c44 h125 c125
                        go_wp2_with fail
                        obtain ⟨w2, hw2⟩ : ∃ x, x = wr := ⟨_, rfl⟩
                        subst hw2
                        generalize hN : s.extract (p + 1) k1 = n at *
                        clear hN y0 y1 z0 z1 x0 x1 xf hsz2 c0 c1 cf d34 f44 h256q h256r
                        go_loopw [9] (fun t9 wr3 => ∃ k : Nat, k ≤ acc.length ∧ t9 = .int .i64 (k : Int) ∧ Hid (∀ i, i < k → ltB (acc.getD i lab0).1 n = true) ∧ Hid (Below w2.heap.size w2 wr3)) (fun t9 _ => acc.length - (intOf t9).toNat)
                        case atStart => exact ⟨0, Nat.zero_le _, rfl, (fun i hi => absurd hi (Nat.not_lt_zero _)), Below.refl _ _⟩
                        case round =>
                          obtain ⟨k, hk, rfl, hK, hB3⟩ := hrel
                          have hW3 : Hid (PW w (s.extract 0 k0) (.slice a acc.length cap) acc wr) := hW2.out.below hB3.out
                          have hBX3 : Hid (BoxL w1 n v wr) := hBX.out.below hB3.out
                          have hL3 : Hid (LabsAt wr a acc.length cap acc) := (hLA.below hBX.out.1.1).below hB3.out
                          obtain ⟨-, hsz3, -, ⟨x0, x1, xf⟩, -⟩ := hW3.out
                          obtain ⟨⟨-, hszL3⟩, c0, c1, cf⟩ := hBX3.out
                          have hk0' : (0 : Int) ≤ (k : Int) := by omega
                          have HF2 : Hid (∀ x ∈ insP acc (n, v), x.1.size ≤ 2000 ∧ x.2.size ≤ 2000) := fun x hx => by
                            rcases List.mem_append.1 ((insP_perm acc (n, v)).subset hx) with h | h
                            · exact hF.out x h
                            · simp at h
                              subst h
                              exact ⟨HNS.out, by have := hvs.out; have := HS.out; simp only; omega⟩
                          by_cases hkl : k < acc.length
                          · have hkl' : (k : Int) < (acc.length : Int) := by omega
                            have hkd : decide (k < acc.length) = true := by simpa using hkl
                            obtain ⟨g, off, rfl, hcell⟩ := hL3.out.some (by omega)
                            have e0 := (hcell k hkl).1
                            clear hcell
                            cases hc : ltB (acc.getD k lab0).1 n with
                            | true =>
                              have HK2 : Hid (∀ i, i < k + 1 → ltB (acc.getD i lab0).1 n = true) := fun i hi => by
                                rcases Nat.lt_succ_iff_lt_or_eq.1 hi with h | rfl
                                · exact hK.out i h
                                · exact hc
                              have hc2 : Op.bytesLess (acc.getD k lab0).1.toList n.toList = true := hc
                              clear hK hc
                              generalize (acc.getD k lab0).1 = y at *
                              go_wp2_with fail
                              go_quiet (fail)
                              go_wp2_with fail
                              exact ⟨⟨k + 1, by omega, by go_num, HK2, hB3.out.trans ((below_drewN _ _).mono hB3.out.size)⟩, by simp [intOf]; omega⟩
                            | false =>
                              have HIN : Hid (∀ v, insP acc (n, v) = acc.take k ++ [(n, v)] ++ acc.drop k) := fun v => insP_at acc (n, v) k hk hK.out (fun _ => hc)
                              have hc2 : Op.bytesLess (acc.getD k lab0).1.toList n.toList = false := hc
                              clear hK hc
                              generalize (acc.getD k lab0).1 = y at *
                              go_wp2_with fail
                              go_quiet (fail)
                              go_wp2_with fail
                              obtain ⟨g', hg', hgB⟩ := HA0.out _ rfl
                              obtain ⟨rfl, rfl⟩ : g = g' ∧ off = 0 := by simpa using hg'
                              clear hg' e0 hc2
                              have hB4 : Below wr.heap.size wr (wr.drewN nq) := below_drewN _ _
                              have hW4 : Hid (PW w (s.extract 0 k0) (.slice (some ⟨g, 0, none⟩) acc.length cap) acc (wr.drewN nq)) := hW3.out.below hB4
                              have hBX4 : Hid (BoxL w1 n v (wr.drewN nq)) := hBX3.out.below hB4
                              clear hL3 hLA hW hW2 hW3 hBX hBX3 hB3 hB4 x0 x1 xf c0 c1 cf HB1 hszL3 hsz3 HB2
                              generalize wr.drewN nq = w4 at *
                              obtain ⟨-, hsz4, -, ⟨-, x1, xf⟩, hown4⟩ := hW4.out
                              obtain ⟨⟨-, hszL4⟩, c0, c1, -⟩ := hBX4.out
                              refine put_some _ _ _ _ _ _ _ _ _ _ _ _ _ _ _ _ _ _ _ _ _ _ _ _ _ _ _ _ _ _ _ _ _ _ _ _ _ _ _ _ _ _ _ _ _ _ _ _ _ _ _ _ _ _ _ _ _ _ _ _ _ _ _ _ _ _ _ _ _ _ _ _ _ _ _ _ _ _ _ _ _ _ _ _ _ _ _ _ _ _ _ _ _ _ _ _ _ _ _ _ _ _ _ _ _ _ _ _ _ _ _ _ _ _ _ _ _ _ _ _ _ _ _ _ _ _ _ _ _ _ _ _ _ _ _ _ _ _ _ _ _ _ _ _ _ _ _ _ _ _ _ _ _ _ _ (w.heap.size + 1) w1.heap.size g cap k (w.heap.size + 2) acc n v w4 _ x1 xf (by omega) c0 c1 hszL4 hown4 hk (by omega) (fun u132 u133 u134 u135 u136 u137 u138 u139 u140 u141 u142 u143 u144 u145 u146 wC gC capC hbC hownC => ?_)
                              have HPW : Hid (PW w (s.extract 0 k0) (.slice (some ⟨gC, 0, none⟩) (k + 1 + (acc.length - k)) capC) (insP acc (n, v)) (wC.setCell ⟨w.heap.size + 1, 1, none⟩ (.slice (some ⟨gC, 0, none⟩) (k + 1 + (acc.length - k)) capC))) := by
                                refine (hW4.out.below hbC).store ?_
                                have hl : (acc.take k ++ [(n, v)] ++ acc.drop k).length = k + 1 + (acc.length - k) := by simp; omega
                                rw [HIN.out v, hl]
                                exact own_mono hownC (by omega)
                              generalize wC.setCell ⟨w.heap.size + 1, 1, none⟩ (.slice (some ⟨gC, 0, none⟩) (k + 1 + (acc.length - k)) capC) = w9 at *
                              generalize (Value.slice (some ⟨gC, 0, none⟩) (k + 1 + (acc.length - k)) capC) = lv9 at *
                              clear hbC hownC x1 xf c0 c1 hown4 hW4 hBX4 HIN
                              go_wp2_with fail
                              exact ⟨⟨s.size, f, lv9, _, by omega, by go_num, by rw [insP_length]; omega, HNX, HF2, HPW⟩, by simp [intOf]; omega⟩
                          · have hkl' : ¬ (k : Int) < (acc.length : Int) := by omega
                            have hkd : decide (k < acc.length) = false := by simpa using hkl
                            have hkd' : decide ((k : Int) < (acc.length : Int)) = false := by simp; omega
                            have HIN : Hid (∀ v, insP acc (n, v) = acc.take k ++ [(n, v)] ++ acc.drop k) := fun v => insP_at acc (n, v) k hk hK.out (fun h => absurd h hkl)
                            clear hK
                            go_wp2_with fail
                            go_quiet (fail)
                            go_wp2_with fail
                            cases a with
                            | none =>
                              obtain ⟨hal, rfl⟩ := HA1.out rfl
                              obtain rfl : acc = [] := List.length_eq_zero_iff.1 hal
                              obtain rfl : k = 0 := by simp at hk; omega
                              have hB4 : Below wr.heap.size wr (wr.drewN nq) := below_drewN _ _
                              have hW4 : Hid (PW w (s.extract 0 k0) (.slice none 0 0) [] (wr.drewN nq)) := hW3.out.below hB4
                              have hBX4 : Hid (BoxL w1 n v (wr.drewN nq)) := hBX3.out.below hB4
                              clear hL3 hLA hW hW2 hW3 hBX hBX3 hB3 hB4 x0 x1 xf c0 c1 cf HB1 hszL3 hsz3 HB2
                              generalize wr.drewN nq = w4 at *
                              obtain ⟨-, hsz4, -, ⟨-, x1, xf⟩, hown4⟩ := hW4.out
                              obtain ⟨⟨-, hszL4⟩, c0, c1, -⟩ := hBX4.out
                              refine put_none _ _ _ _ _ _ _ _ _ _ _ _ _ _ _ _ _ _ _ _ _ _ _ _ _ _ _ _ _ _ _ _ _ _ _ _ _ _ _ _ _ _ _ _ _ _ _ _ _ _ _ _ _ _ _ _ _ _ _ _ _ _ _ _ _ _ _ _ _ _ _ _ _ _ _ _ _ _ _ _ _ _ _ _ _ _ _ _ _ _ _ _ _ _ _ _ _ _ _ _ _ _ _ _ _ _ _ _ _ _ _ _ _ _ _ _ _ _ _ _ _ _ _ _ _ _ _ _ _ _ _ _ _ _ _ _ _ _ _ _ _ _ _ _ _ _ _ _ _ _ _ _ _ _ _ (w.heap.size + 1) w1.heap.size n v w4 _ x1 xf (by omega) c0 c1 hszL4 (fun u132 u133 u134 u135 u136 u137 u138 u139 u140 u141 u142 u143 u144 u145 u146 wC gC capC hbC hownC => ?_)
                              have HPW : Hid (PW w (s.extract 0 k0) (.slice (some ⟨gC, 0, none⟩) 1 capC) (insP [] (n, v)) (wC.setCell ⟨w.heap.size + 1, 1, none⟩ (.slice (some ⟨gC, 0, none⟩) 1 capC))) := by
                                refine (hW4.out.below hbC).store ?_
                                exact own_mono hownC (by omega)
                              generalize wC.setCell ⟨w.heap.size + 1, 1, none⟩ (.slice (some ⟨gC, 0, none⟩) 1 capC) = w9 at *
                              generalize (Value.slice (some ⟨gC, 0, none⟩) 1 capC) = lv9 at *
                              clear hbC hownC x1 xf c0 c1 hown4 hW4 hBX4 HIN
                              go_wp2_with fail
                              exact ⟨⟨s.size, f, lv9, _, by omega, by go_num, by rw [insP_length]; omega, HNX, HF2, HPW⟩, by simp [intOf]; omega⟩
                            | some x =>
                              obtain ⟨g, rfl, hgB⟩ := HA0.out _ rfl
                              have hB4 : Below wr.heap.size wr (wr.drewN nq) := below_drewN _ _
                              have hW4 : Hid (PW w (s.extract 0 k0) (.slice (some ⟨g, 0, none⟩) acc.length cap) acc (wr.drewN nq)) := hW3.out.below hB4
                              have hBX4 : Hid (BoxL w1 n v (wr.drewN nq)) := hBX3.out.below hB4
                              clear hL3 hLA hW hW2 hW3 hBX hBX3 hB3 hB4 x0 x1 xf c0 c1 cf HB1 hszL3 hsz3 HB2
                              generalize wr.drewN nq = w4 at *
                              obtain ⟨-, hsz4, -, ⟨-, x1, xf⟩, hown4⟩ := hW4.out
                              obtain ⟨⟨-, hszL4⟩, c0, c1, -⟩ := hBX4.out
                              refine put_some _ _ _ _ _ _ _ _ _ _ _ _ _ _ _ _ _ _ _ _ _ _ _ _ _ _ _ _ _ _ _ _ _ _ _ _ _ _ _ _ _ _ _ _ _ _ _ _ _ _ _ _ _ _ _ _ _ _ _ _ _ _ _ _ _ _ _ _ _ _ _ _ _ _ _ _ _ _ _ _ _ _ _ _ _ _ _ _ _ _ _ _ _ _ _ _ _ _ _ _ _ _ _ _ _ _ _ _ _ _ _ _ _ _ _ _ _ _ _ _ _ _ _ _ _ _ _ _ _ _ _ _ _ _ _ _ _ _ _ _ _ _ _ _ _ _ _ _ _ _ _ _ _ _ _ (w.heap.size + 1) w1.heap.size g cap k (w.heap.size + 2) acc n v w4 _ x1 xf (by omega) c0 c1 hszL4 hown4 hk (by omega) (fun u132 u133 u134 u135 u136 u137 u138 u139 u140 u141 u142 u143 u144 u145 u146 wC gC capC hbC hownC => ?_)
                              have HPW : Hid (PW w (s.extract 0 k0) (.slice (some ⟨gC, 0, none⟩) (k + 1 + (acc.length - k)) capC) (insP acc (n, v)) (wC.setCell ⟨w.heap.size + 1, 1, none⟩ (.slice (some ⟨gC, 0, none⟩) (k + 1 + (acc.length - k)) capC))) := by
                                refine (hW4.out.below hbC).store ?_
                                have hl : (acc.take k ++ [(n, v)] ++ acc.drop k).length = k + 1 + (acc.length - k) := by simp; omega
                                rw [HIN.out v, hl]
                                exact own_mono hownC (by omega)
                              generalize wC.setCell ⟨w.heap.size + 1, 1, none⟩ (.slice (some ⟨gC, 0, none⟩) (k + 1 + (acc.length - k)) capC) = w9 at *
                              generalize (Value.slice (some ⟨gC, 0, none⟩) (k + 1 + (acc.length - k)) capC) = lv9 at *
                              clear hbC hownC x1 xf c0 c1 hown4 hW4 hBX4 HIN
                              go_wp2_with fail
                              exact ⟨⟨s.size, f, lv9, _, by omega, by go_num, by rw [insP_length]; omega, HNX, HF2, HPW⟩, by simp [intOf]; omega⟩
                      · have fne : (!(s.extract (q + 1) s.size).toList == [125]) = true := by rw [list125, eqB]; simp [c125]
                        have HN : Hid (refP (sg s) = none) := HNE.out (endP_no s _ v (q + 1) (fun _ => ⟨c44, c125⟩))
                        clear HYES HNE c44 c125
                        go_wp2_with fail
                        try simp only [Exit.inBlock, Exit.then]
                        refine bodyPost_ret (ret_pair rfl _ _ w.heap.size _ _ rfl (two_set y0 y1 _ _).1 (two_set y0 y1 _ _).2) rfl ?_
                        refine refPost_no ((HB2.out.setCell (Nat.le_refl _) _).setCell (Nat.le_refl _) _) (fun nm ls h => by rw [HN.out] at h; cases h)
                  · have hq3' : ¬ (q : Int) + 1 < (s.size : Int) := by omega
                    have HN : Hid (refP (sg s) = none) := HNE.out (endP_no s _ v (q + 1) (fun h => absurd h hq3))
                    clear HYES HNE
                    go_wp2_with fail
                    try simp only [Exit.inBlock, Exit.then]
                    refine bodyPost_ret (ret_pair rfl _ _ w.heap.size _ _ rfl (two_set y0 y1 _ _).1 (two_set y0 y1 _ _).2) rfl ?_
                    refine refPost_no ((HB2.out.setCell (Nat.le_refl _) _).setCell (Nat.le_refl _) _) (fun nm ls h => by rw [HN.out] at h; cases h)
                · have d34 : ((s[q].toNat : Int) != 34) = true := by
                    have : ¬ s[q].toNat = 34 := fun e => e34 (UInt8.toNat_inj.1 e)
                    simp; omega
                  by_cases e92 : s[q] = 92
                  · have d92 : ((s[q].toNat : Int) == 92) = true := by rw [e92]; rfl
                    by_cases hq3 : q + 1 < s.size
                    · have hq3' : (q : Int) + 1 < (s.size : Int) := by omega
                      have hE : ((q : Int) + 1 == (s.size : Int)) = false := by simp; omega
                      have h256r := (s[q + 1]).toNat_lt
                      by_cases c34 : s[q + 1] = 34
                      · have f34 : ((s[q + 1].toNat : Int) != 34) = false := by rw [c34]; rfl
                        have HV2 : Hid (preP (v ++ s.extract (q + 1) (q + 2)) (valP ((sg s).drop (q + 2))) = valP ((sg s).drop (k1 + 2))) := by
                          show _ = _
                          rw [← preP_esc s v q hqs e92 hq3 (.inl c34)]; exact hV.out
                        have hes : (s.extract (q + 1) (q + 2)).size = 1 := by rw [← sg_length, sg_sign s (q + 1) hq3]; rfl
                        have hj1 : (q : Int) + 1 + 1 ≤ (s.size : Int) := by omega
                        have hj2 : (0 : Int) ≤ (q : Int) + 1 := by omega
                        have hwr : IntKind.i64.wrap ((q : Int) + 1 + 1) = (q : Int) + 1 + 1 := by simp [IntKind.wrap, IntKind.bits, IntKind.signed]; omega
                        clear hV e34 e92 HNV HL1 HN1 HNO c34
                        go_wp2_with fail
                        go_region
                        go_wp2_with fail
                        exact ⟨⟨q + 2, _, by omega, by omega, by go_num, HV2, (by show _ ≤ _; have := hvs.out; rw [ByteArray.size_append, hes]; omega), hBX.out.set _⟩, by simp [intOf]; omega⟩
                      · have f34 : ((s[q + 1].toNat : Int) != 34) = true := by
                          have : ¬ s[q + 1].toNat = 34 := fun e => c34 (UInt8.toNat_inj.1 e)
                          simp; omega
                        by_cases c92 : s[q + 1] = 92
                        · have f92 : ((s[q + 1].toNat : Int) != 92) = false := by rw [c92]; rfl
                          have HV2 : Hid (preP (v ++ s.extract (q + 1) (q + 2)) (valP ((sg s).drop (q + 2))) = valP ((sg s).drop (k1 + 2))) := by
                            show _ = _
                            rw [← preP_esc s v q hqs e92 hq3 (.inr c92)]; exact hV.out
                          have hes : (s.extract (q + 1) (q + 2)).size = 1 := by rw [← sg_length, sg_sign s (q + 1) hq3]; rfl
                          have hj1 : (q : Int) + 1 + 1 ≤ (s.size : Int) := by omega
                          have hj2 : (0 : Int) ≤ (q : Int) + 1 := by omega
                          have hwr : IntKind.i64.wrap ((q : Int) + 1 + 1) = (q : Int) + 1 + 1 := by simp [IntKind.wrap, IntKind.bits, IntKind.signed]; omega
                          clear hV e34 e92 HNV HL1 HN1 HNO c34 c92
                          go_wp2_with fail
                          go_region
                          go_wp2_with fail
                          exact ⟨⟨q + 2, _, by omega, by omega, by go_num, HV2, (by show _ ≤ _; have := hvs.out; rw [ByteArray.size_append, hes]; omega), hBX.out.set _⟩, by simp [intOf]; omega⟩
                        · have f92 : ((s[q + 1].toNat : Int) != 92) = true := by
                            have : ¬ s[q + 1].toNat = 92 := fun e => c92 (UInt8.toNat_inj.1 e)
                            simp; omega
                          have HN : Hid (refP (sg s) = none) := HNV.out (by rw [← hV.out, preP_esc_no s v q hqs e92 (fun _ h => h.elim c34 c92)])
                          clear HNV hV HL1 HN1 HNO c34 c92 e34 e92
                          go_wp2_with fail
                          try simp only [Exit.inBlock, Exit.then]
                          refine bodyPost_ret (ret_pair rfl _ _ w.heap.size _ _ rfl (two_set y0 y1 _ _).1 (two_set y0 y1 _ _).2) rfl ?_
                          refine refPost_no ((HB2.out.setCell (Nat.le_refl _) _).setCell (Nat.le_refl _) _) (fun nm ls h => by rw [HN.out] at h; cases h)
                    · have hE : ((q : Int) + 1 == (s.size : Int)) = true := by simp; omega
                      have HN : Hid (refP (sg s) = none) := HNV.out (by rw [← hV.out, preP_esc_no s v q hqs e92 (fun h => absurd h hq3)])
                      clear HNV hV HL1 HN1 HNO e34 e92
                      go_wp2_with fail
                      try simp only [Exit.inBlock, Exit.then]
                      refine bodyPost_ret (ret_pair rfl _ _ w.heap.size _ _ rfl (two_set y0 y1 _ _).1 (two_set y0 y1 _ _).2) rfl ?_
                      refine refPost_no ((HB2.out.setCell (Nat.le_refl _) _).setCell (Nat.le_refl _) _) (fun nm ls h => by rw [HN.out] at h; cases h)
                  · have d92 : ((s[q].toNat : Int) == 92) = false := by
                      have : ¬ s[q].toNat = 92 := fun e => e92 (UInt8.toNat_inj.1 e)
                      simp; omega
                    have HV2 : Hid (preP (v ++ s.extract q (q + 1)) (valP ((sg s).drop (q + 1))) = valP ((sg s).drop (k1 + 2))) := by
                      show _ = _
                      rw [← preP_plain s v q hqs e34 e92]; exact hV.out
                    have hes : (s.extract q (q + 1)).size = 1 := by rw [← sg_length, sg_sign s q hqs]; rfl
                    have hj1 : (q : Int) + 1 ≤ (s.size : Int) := by omega
                    have hwr : IntKind.i64.wrap ((q : Int) + 1) = (q : Int) + 1 := by simp [IntKind.wrap, IntKind.bits, IntKind.signed]; omega
                    clear hV e34 e92 HNV HL1 HN1 HNO
                    go_wp2_with fail
                    go_region
                    go_wp2_with fail
                    exact ⟨⟨q + 1, _, by omega, by omega, by go_num, HV2, (by show _ ≤ _; have := hvs.out; rw [ByteArray.size_append, hes]; omega), hBX.out.set _⟩, by simp [intOf]; omega⟩
              · have hqs' : ¬ (q : Int) < (s.size : Int) := by omega
                have HN : Hid (refP (sg s) = none) := HNV.out (by rw [← hV.out, preP_end s v q hqs])
                clear HNV hV HL1 HN1 HNO
                go_wp2_with fail
                try simp only [Exit.inBlock, Exit.then]
                refine bodyPost_ret (ret_pair rfl _ _ w.heap.size _ _ rfl (two_set y0 y1 _ _).1 (two_set y0 y1 _ _).2) rfl ?_
                refine refPost_no ((HB2.out.setCell (Nat.le_refl _) _).setCell (Nat.le_refl _) _) (fun nm ls h => by rw [HN.out] at h; cases h)
        · have hn34 : ((s[k1 + 1].toNat : Int) != 34) = true := by
            have : ¬ s[k1 + 1].toNat = 34 := fun e => h34 (UInt8.toNat_inj.1 e)
            simp; omega
          have HN : Hid (refP (sg s) = none) := HNO.out (lab1_no hU1 (fun h => h34))
          clear HNO HD hI hF hW hLA h34
          go_wp2_with fail
          try simp only [Exit.inBlock, Exit.then]
          refine bodyPost_ret (ret_pair rfl _ _ w.heap.size _ _ rfl (two_set y0 y1 _ _).1 (two_set y0 y1 _ _).2) rfl ?_
          refine refPost_no ((HB.out.setCell (Nat.le_refl _) _).setCell (Nat.le_refl _) _) (fun nm ls h => by rw [HN.out] at h; cases h)
      · have hq' : ¬ (k1 : Int) + 1 < (s.size : Int) := by omega
        have HN : Hid (refP (sg s) = none) := HNO.out (lab1_no hU1 (fun h => absurd h hq))
        clear HNO HD hI hF hW hLA
        go_wp2_with fail
        try simp only [Exit.inBlock, Exit.then]
        refine bodyPost_ret (ret_pair rfl _ _ w.heap.size _ _ rfl (two_set y0 y1 _ _).1 (two_set y0 y1 _ _).2) rfl ?_
        refine refPost_no ((HB.out.setCell (Nat.le_refl _) _).setCell (Nat.le_refl _) _) (fun nm ls h => by rw [HN.out] at h; cases h)
    · have hp1 : ¬ (p : Int) < (s.size : Int) := by omega
      have HN : Hid (refP (sg s) = some (s.extract 0 k0, acc)) := by
        show _ = _
        rw [HR0.out, ← hI.out, drop_end s p hlt, labP_nil]; rfl
      have HSER : Hid (SerAt wr (.agg #[.string (s.extract 0 k0), .slice a acc.length cap]) (s.extract 0 k0) acc) := by
        refine ⟨a, _, cap, rfl, hLA, ?_, fun x hx => ?_⟩
        · have := HS.out; unfold maxLen; rw [ByteArray.size_extract]; omega
        · have := hF.out x hx; unfold maxLen; omega
      have HLOW : Hid (∀ x, a = some x → w.heap.size + 2 ≤ x.block) := fun x hx => by subst hx; exact (hW.out.2.2.2.2.lt x.block rfl).1
      clear hI hF hW hLA HR0
      go_wp2_with fail
      refine (refMay_any _ (s.extract 0 k0) acc _ HSER.out).mono ?_
      rintro e w2 ⟨hb2, q, rfl, hq⟩
      have hbw := below2 HB.out hb2
      have l0 : w.heap.size < wr.heap.size := by omega
      have y0' := (hb2.cell (p := ⟨w.heap.size, 0, none⟩) l0).trans y0
      have y1' := (hb2.cell (p := ⟨w.heap.size, 1, none⟩) l0).trans y1
      have z0' := (hb2.frozen (p := ⟨w.heap.size, 0, none⟩) l0).trans z0
      have z1' := (hb2.frozen (p := ⟨w.heap.size, 1, none⟩) l0).trans z1
      have l1 : w.heap.size + 1 < wr.heap.size := by omega
      have x0' := (hb2.cell (p := ⟨w.heap.size + 1, 0, none⟩) l1).trans x0
      have x1' := (hb2.cell (p := ⟨w.heap.size + 1, 1, none⟩) l1).trans x1
      have HQ : Hid (q = true ↔ MayS (s.extract 0 k0) acc) := hq
      have HSER2 := HSER.out.below hb2
      have HS2 : Hid (SerAt w2 (.agg #[.string (s.extract 0 k0), .slice a acc.length cap]) (s.extract 0 k0) acc) := HSER2
      clear y0 y1 z0 z1 x0 x1 hb2 hq HSER HSER2 hb
      cases q with
      | false =>
        have HM : Hid (¬ MayS (s.extract 0 k0) acc) := fun hM => absurd (HQ.out.2 hM) (by decide)
        clear HQ
        go_wp2_with fail
        try simp only [Exit.inBlock, Exit.then]
        refine bodyPost_ret (ret_pair rfl _ _ w.heap.size _ _ rfl (two_set y0' y1' _ _).1 (two_set y0' y1' _ _).2) rfl ?_
        refine refPost_no ((hbw.setCell (Nat.le_refl _) _).setCell (Nat.le_refl _) _) (fun nm ls h hM => ?_)
        rw [HN.out] at h
        obtain ⟨rfl, rfl⟩ := Prod.mk.inj (Option.some.inj h)
        exact HM.out hM
      | true =>
        have HM : Hid (MayS (s.extract 0 k0) acc) := HQ.out.1 rfl
        clear HQ
        go_wp2_with fail
        try simp only [Exit.inBlock, Exit.then]
        refine bodyPost_ret (ret_pair rfl _ _ w.heap.size _ _ rfl (two_set y0' y1' _ _).1 (two_set y0' y1' _ _).2) rfl ?_
        exact refPost_yes ((hbw.setCell (Nat.le_refl _) _).setCell (Nat.le_refl _) _) HN.out HM.out (ser_set HS2.out rfl (fun x hx => by have := HLOW.out x hx; omega) _ _ _ _)
end Go.Proofs.Ytnjbpiekbekpeaa
