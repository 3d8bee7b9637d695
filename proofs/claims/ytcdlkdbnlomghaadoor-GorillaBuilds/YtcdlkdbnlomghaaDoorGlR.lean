/-
  The answer's Bits.
-/
import Derived.Test.YtcdlkdbnlomghaaDoorGlR0
namespace Go.Proofs.YtcdlkdbnlomghaaDoor.Gl
open Go.ChangeShapes Go.WideShapes Go.ChangeAt Go.RowKit
open Go.Proofs.YtcdlkdbnlomghaaDoor.Bi
open Go.Proofs.YtcdlkdbnlomghaaDoor.Fr (RowAt cellsI cellsI_get)
open Go.Proofs.YtcdlkdbnlomghaaDoor.Bk (rT rV)
theorem nums_pair {w : World} {a : Option Addr} {len cap i : Nat} {ls : List Bk.Sm} (h : RowAt w a len cap (cellsI (Bk.numsS ls))) (hi : i < ls.length) :
    ∃ b off p q, a = some ⟨b, off, none⟩ ∧ p = 2 * i + 1 ∧ q = 2 * i + 2 ∧ p < len ∧ q < len ∧ w.cell? ⟨b, off + p, none⟩ = some (.int .i64 (Bk.tell (Bk.tS ls) i)) ∧ w.cell? ⟨b, off + q, none⟩ = some (.int .i64 (Bk.tell (Bk.vS ls) i)) := by
  have hR : (Bk.numsS ls).length = len := by simpa [Fr.cellsI] using h.1
  have hl : (Bk.numsS ls).length = 2 * ls.length + 1 := Bk.numsK_length _ _
  have hg := ((Bk.numsS_iff _ _).1 (rfl : Bk.numsS ls = Bk.numsS ls)).2.2 i hi
  obtain ⟨b, off, e, hc⟩ := h.some (by omega)
  refine ⟨b, off, 2 * i + 1, 2 * i + 2, e, rfl, rfl, by omega, by omega, ?_, ?_⟩
  · have := hc (2 * i + 1) (by omega); rwa [cellsI_get _ (2 * i + 1) (by omega), hg.1] at this
  · have := hc (2 * i + 2) (by omega); rwa [cellsI_get _ (2 * i + 2) (by omega), hg.2] at this
/-- in the midst of the answer's Bits -/
structure RfIn (T V : Nat → Int) (n : Nat) (w0 : World) (i lf : Nat) (b : Bool) (l : List Bool) (v : Value) (wr : World) : Prop where
  bel : Below w0.heap.size w0 wr
  own : wr.ownsRow w0.heap.size 4 1 v l.length (boV l)
  bd : Bd T V n (i + lf) b l
  st : ∀ j, j < lf → Still T V n (i + j)
  no : b = true → ¬ Still T V n (i + lf)
  le : (l.length : Int) ≤ 140 * ((i : Int) + (lf : Int))
  lf9 : lf ≤ 15
set_option maxHeartbeats 9000000 in
set_option maxRecDepth 60000 in
theorem refBits_any (a : Option Addr) (n cap : Nat) (ls : List Bk.Sm) (L : List Bool) (w : World) (h : Bk.SmsAt w a n cap ls) (hM : Bk.MayS ls) (hL : Told (Bk.tell (Bk.tS ls)) (Bk.tell (Bk.vS ls)) ls.length L) :
    Calls Tryd.prog 37 #[.slice a n cap] w fun e w' => BoPost L w e w' := by
  have HNu := Hid.mk9 (Bk.refNums_any a n cap ls w h hM)
  have hl : ls.length = n := h.1
  have hn9 : n ≤ 64 := by have := hM.1; omega
  have hn9I : (n : Int) ≤ 64 := by omega
  have HI := Hid.mk9 (may_in2 hM n)
  have HTo := Hid.mk9 hL
  have HLl := Hid.mk9 hl
  clear h hM hL
  go_enter Tryd.func37, Tryd.ntmps37
  go_upto_region 2 with (go_at_call 60; refine HNu.out.mono ?_; rintro e w2 ⟨hb2, v2, rfl, ho2⟩; obtain ⟨g, c, rfl, hnc, _⟩ := own_slice ho2 (by omega); obtain ⟨nl, hnl⟩ : ∃ nl, nl = 2 * ls.length + 1 := ⟨_, rfl⟩; rw [← hnl] at ho2 hnc ⊢; have HNl := Hid.mk9 hnl; have HB2 := Hid.mk9 hb2; have HO2 := Hid.mk9 ho2; clear hb2 ho2 hnl HNu)
  have HNr : Hid (RowAt w2 (some ⟨g, 0, none⟩) nl c (cellsI (Bk.numsS ls))) := by
    obtain ⟨a9, c9, e9, hr, _⟩ := Fr.RowAt.of_own HO2.out
    injection e9 with q1 q2 q3
    subst q1 q3
    exact hr
  have hnl9 : (nl : Int) ≤ 129 := by have := HNl.out; omega
  have HO0 : Hid ((w2.alloc (.cells #[] 4)).ownsRow w2.heap.size 4 1 (.slice (some ⟨w2.heap.size, 0, none⟩) 0 0) 0 (boV [])) := own_none w2 _ (Nat.le_refl _)
  have HB0 := Hid.mk9 (below_alloc w2 (.cells #[] 4))
  have HG2 : Hid (g < w2.heap.size) := World.block_lt_of_cell? w2 ⟨g, 0 + 0, none⟩ (by
    have h1 := HNr.out.some (show 0 < nl by have := HNl.out; omega)
    obtain ⟨b, off, e, hc⟩ := h1
    injection e with e
    injection e with e1 e2
    subst e1 e2
    have hlen : (Bk.numsS ls).length = nl := by simpa [Fr.cellsI] using HNr.out.1
    exact (hc 0 (by have := HNl.out; omega)).trans (cellsI_get _ 0 (by rw [hlen]; have := HNl.out; omega)))
  go_upto_region 5 with fail
  generalize w2.alloc (.cells #[] 4) = w1 at *
  generalize (Value.slice (some ⟨w2.heap.size, 0, none⟩) 0 0) = v1 at *
  go_loopw [4, 5, 6] (fun v x y wr => ∃ (u : Value) (i lf : Nat) (b : Bool) (l : List Bool), u = v ∧ (i : Int) ≤ (n : Int) ∧ x = .int .i64 (lf : Int) ∧ y = .int .i64 (i : Int) ∧ Hid (RfIn (Bk.tell (Bk.tS ls)) (Bk.tell (Bk.vS ls)) n w2 i lf b l u wr)) (fun _ _ y _ => n - (intOf y).toNat)
  case atStart => exact ⟨_, 0, 0, false, [], rfl, by omega, rfl, rfl, HB0.out, HO0.out, .zero, fun j hj => absurd hj (Nat.not_lt_zero _), (fun h => by cases h), by simp, by omega⟩
  case round =>
    obtain ⟨v, i, lf, b, l, rfl, hi, rfl, rfl, HR⟩ := hrel
    clear HO0 HB0
    by_cases hlt : (i : Int) < (n : Int)
    · obtain ⟨b9, off9, p, q, e9, hp, hq, hp1, hq1, c0, c1⟩ := nums_pair (HNr.out.below HR.out.bel) (show i < ls.length by rw [HLl.out]; omega)
      injection e9 with e9
      injection e9 with e9 e8
      subst e9 e8
      obtain ⟨p0, hp0⟩ : ∃ p0, p0 = 2 * i := ⟨_, rfl⟩
      have P1 : IntKind.i64.wrap (2 * (i : Int)) = (p0 : Int) := by rw [IntKind.wrap_i64]; omega
      have P2 : IntKind.i64.wrap (1 + (p0 : Int)) = (p : Int) := by rw [IntKind.wrap_i64]; omega
      have P3 : IntKind.i64.wrap (2 + (p0 : Int)) = (q : Int) := by rw [IntKind.wrap_i64]; omega
      have P4 : (p : Int) < (nl : Int) := by omega
      have P5 : (q : Int) < (nl : Int) := by omega
      have P6 : p < nl := by omega
      have P7 : q < nl := by omega
      have hgl : g < wr.heap.size := Nat.lt_of_lt_of_le HG2.out HR.out.bel.size
      rw [Nat.zero_add] at c0 c1
      have y0 := cell_grown (a := ⟨g, p, none⟩) hgl c0
      have y1 := cell_grown (a := ⟨g, q, none⟩) hgl c1
      clear hp hq hp1 hq1 hp0 c0 c1
      go_upto_region 7 with fail
      refine wp_region_QW mixed5 (by kernel_rfl) ?_
      repeat (refine QW_step (fun K hK => ?_); go_simp; first | (refine hK _ ?_; clear hK K) | (apply Exists.intro; refine ⟨fun _ => ?_, hK _ ?_⟩; fail; clear hK K))
      refine QW_nil ?_
      intro _ hw9
      obtain ⟨⟨nq, osq⟩, hw8⟩ := hw9
      subst hw8
      have HB3 := Hid.mk9 (below2 HR.out.bel (below_grow wr nq osq))
      have HO := Hid.mk9 (own_below HR.out.own (below_grow wr nq osq))
      clear y0 y1 P1 P2 P3 P4 P5 P6 P7 hgl
      generalize Go.Sort.grow (wr.drewN nq) osq = w3 at *
      obtain ⟨m, hm⟩ : ∃ m, m = l.length := ⟨_, rfl⟩
      have HLm := Hid.mk9 hm
      rw [← hm] at HO
      clear hm
      have hStI : Still (Bk.tell (Bk.tS ls)) (Bk.tell (Bk.vS ls)) n i ↔ (2 ≤ i ∧ Bk.tell (Bk.tS ls) i = 0 ∧ Bk.tell (Bk.vS ls) i = 0) := ⟨fun s => ⟨s.1, s.2.2.1, s.2.2.2⟩, fun s => ⟨s.1, by omega, s.2.1, s.2.2⟩⟩
      have HStI := Hid.mk9 hStI
      clear hStI
      by_cases h2 : i < 2
      · have h2I : (i : Int) < 2 := by omega
        have hns : Hid (¬ Still (Bk.tell (Bk.tS ls)) (Bk.tell (Bk.vS ls)) n i) := fun s => by have := s.1; omega
        clear h2
        have HCa : Hid (∀ W, Calls Tryd.prog 61 #[.int .i64 (Bk.tell (Bk.tS ls) i)] W fun e w' => BoPost (coded (Bk.tell (Bk.tS ls) i)) W e w') := fun W => coded_any (Bk.tell (Bk.tS ls) i) (HI.out i (by omega)).1 W
        have HCb : Hid (∀ W, Calls Tryd.prog 61 #[.int .i64 (Bk.tell (Bk.vS ls) i)] W fun e w' => BoPost (coded (Bk.tell (Bk.vS ls) i)) W e w') := fun W => coded_any (Bk.tell (Bk.vS ls) i) (HI.out i (by omega)).2 W
        have z1 := sz_le (Bk.tell (Bk.tS ls) i)
        have z2 := sz_le (Bk.tell (Bk.vS ls) i)
        have l1 : (coded (Bk.tell (Bk.tS ls) i)).length ≤ 68 := by rw [coded_len]; exact z1
        have l2 : (coded (Bk.tell (Bk.vS ls) i)).length ≤ 68 := by rw [coded_len]; exact z2
        obtain ⟨m1, hm1⟩ : ∃ m1, m1 = (coded (Bk.tell (Bk.tS ls) i)).length := ⟨_, rfl⟩
        obtain ⟨m2, hm2⟩ : ∃ m2, m2 = (coded (Bk.tell (Bk.vS ls) i)).length := ⟨_, rfl⟩
        have hmI : (m : Int) ≤ 11000 := by have := HR.out.le; have := HR.out.lf9; have := HLm.out; omega
        have hm1I : (m1 : Int) ≤ 68 := by omega
        have hm2I : (m2 : Int) ≤ 68 := by omega
        have HM12 : Hid (m1 = (coded (Bk.tell (Bk.tS ls) i)).length ∧ m2 = (coded (Bk.tell (Bk.vS ls) i)).length) := ⟨hm1, hm2⟩
        have H1a : Hid (m1 = (coded (Bk.tell (Bk.tS ls) i)).length) := hm1
        have H2a : Hid (m2 = (coded (Bk.tell (Bk.vS ls) i)).length) := hm2
        have HB9 := Hid.mk9 HB3.out
        have HO9 := Hid.mk9 HO.out
        clear z1 z2 hm1 hm2 l1 l2
        go_upto_region 9 with fail
        refine ref_9 _ _ _ _ _ _ _ _ _ _ _ _ _ _ _ _ _ _ _ _ _ _ _ _ _ _ _ _ _ _ _ _ _ _ _ _ _ _ _ _ _ _ _ _ _ _ _ _ _ _ _ _ _ _ _ _ _ _ _ _ _ _ _ _ _ _ _ _ _ _ _ _ _ _ _ _ _ _ _ _ _ _ _ _ _ _ _ _ _ _ _ _ _ _ _ v m m1 _ l w2 w3 _ HB9 HO9 (by omega) H1a hm1I HCa (fun _ _ _ _ v5 w5 hb5 ho5 => ?_)
        have HB5 := Hid.mk9 hb5
        have HO5 := Hid.mk9 ho5
        clear hb5 ho5
        go_upto_region 10 with fail
        refine ref_10 _ _ _ _ _ _ _ _ _ _ _ _ _ _ _ _ _ _ _ _ _ _ _ _ _ _ _ _ _ _ _ _ _ _ _ _ _ _ _ _ _ _ _ _ _ _ _ _ _ _ _ _ _ _ _ _ _ _ _ _ _ _ _ _ _ _ _ _ _ _ _ _ _ _ _ _ _ _ _ _ _ _ _ _ _ _ _ _ _ _ _ _ _ _ _ v5 (m + m1) m2 _ _ w2 w5 _ HB5 HO5 (by omega) H2a hm2I HCb (fun _ _ _ _ v7 w7 hb7 ho7 => ?_)
        have HB7 := Hid.mk9 hb7
        have HO7 := Hid.mk9 ho7
        clear hb7 ho7
        go_wp2_with fail
        have hlf0 : lf = 0 := by
          rcases Nat.eq_zero_or_pos lf with h | h
          · exact h
          · exact absurd (HR.out.st 0 h) hns.out
        subst hlf0
        have HI9 : RfIn (Bk.tell (Bk.tS ls)) (Bk.tell (Bk.vS ls)) n w2 (i + 1) 0 false (l ++ cd (Bk.tell (Bk.tS ls)) (Bk.tell (Bk.vS ls)) i) v7 w7 := by
          refine ⟨HB7.out, ?_, .one HR.out.bd (by omega) hns.out, fun j hj => absurd hj (Nat.not_lt_zero _), (fun h => by cases h), ?_, by omega⟩
          · have ho := HO7.out
            rw [List.append_assoc] at ho
            unfold cd
            rw [List.length_append, List.length_append, ← HM12.out.1, ← HM12.out.2, ← HLm.out, ← Nat.add_assoc]
            exact ho
          · unfold cd
            have := HR.out.le
            rw [List.length_append, List.length_append, ← HM12.out.1, ← HM12.out.2]
            omega
        exact ⟨⟨_, i + 1, 0, false, _, rfl, by omega, by simp, by simp, HI9⟩, by simp [intOf]; omega⟩
      · have h2I : ¬ (i : Int) < 2 := by omega
        by_cases ht : Bk.tell (Bk.tS ls) i = 0
        · by_cases hv : Bk.tell (Bk.vS ls) i = 0
          · have hst : Hid (Still (Bk.tell (Bk.tS ls)) (Bk.tell (Bk.vS ls)) n i) := HStI.out.2 ⟨by omega, ht, hv⟩
            by_cases hlf : lf = 0
            · subst hlf
              generalize m = M at *
              have HSt0 : Hid (∀ j, j < i - i → Still (Bk.tell (Bk.tS ls)) (Bk.tell (Bk.vS ls)) n (i + j)) := fun j hj => absurd hj (by omega)
              clear HStI
              go_upto_region 14 with fail
              go_loopw [9] (fun x wx => ∃ k : Nat, i ≤ k ∧ k ≤ i + 16 ∧ k ≤ n ∧ x = .int .i64 (k : Int) ∧ Hid (∀ j, j < k - i → Still (Bk.tell (Bk.tS ls)) (Bk.tell (Bk.vS ls)) n (i + j)) ∧ w3 = wx) (fun x _ => 200 - (intOf x).toNat)
              case atStart => exact ⟨i, Nat.le_refl _, by omega, by omega, rfl, HSt0, rfl⟩
              case round =>
                obtain ⟨k, hk0, hk3, hk2, rfl, HSt, rfl⟩ := hrel
                clear HSt0
                by_cases hk1 : k < n
                · obtain ⟨b9, off9, p, q, e9, hp, hq, hp1, hq1, c0, c1⟩ := nums_pair (HNr.out.below HB3.out) (show k < ls.length by rw [HLl.out]; exact hk1)
                  injection e9 with e9
                  injection e9 with e9 e8
                  subst e9 e8
                  rw [Nat.zero_add] at c0 c1
                  have hkI : (k : Int) < (n : Int) := by omega
                  obtain ⟨p0, hp0⟩ : ∃ p0, p0 = 2 * k := ⟨_, rfl⟩
                  have P1 : 2 * (k : Int) = (p0 : Int) := by omega
                  have P2 : 1 + (p0 : Int) = (p : Int) := by omega
                  have P3 : 2 + (p0 : Int) = (q : Int) := by omega
                  have P4 : (p : Int) < (nl : Int) := by omega
                  have P5 : (q : Int) < (nl : Int) := by omega
                  have P6 : (i : Int) + 16 ≤ 100 := by omega
                  have hStk : Still (Bk.tell (Bk.tS ls)) (Bk.tell (Bk.vS ls)) n k ↔ (Bk.tell (Bk.tS ls) k = 0 ∧ Bk.tell (Bk.vS ls) k = 0) := ⟨fun s => ⟨s.2.2.1, s.2.2.2⟩, fun s => ⟨by omega, hk1, s.1, s.2⟩⟩
                  have HStk := Hid.mk9 hStk
                  clear hp hq hp1 hq1 hp0 hStk
                  by_cases ht : Bk.tell (Bk.tS ls) k = 0
                  · by_cases hv : Bk.tell (Bk.vS ls) k = 0
                    · rw [ht] at c0
                      rw [hv] at c1
                      have hS9 : Hid (Still (Bk.tell (Bk.tS ls)) (Bk.tell (Bk.vS ls)) n k) := HStk.out.2 ⟨ht, hv⟩
                      clear ht hv
                      by_cases h16 : (k : Int) < (i : Int) + 16
                      · go_wp2_with fail
                        refine ⟨⟨k + 1, by omega, by omega, by omega, by simp, fun j hj => ?_, trivial⟩, by simp [intOf]; omega⟩
                        by_cases e : j = k - i
                        · rw [e, show i + (k - i) = k by omega]; exact hS9.out
                        · exact HSt.out j (by omega)
                      · have HEx : Hid (k < i + 16 → ¬ Still (Bk.tell (Bk.tS ls)) (Bk.tell (Bk.vS ls)) n k) := fun h => absurd h (by omega)
                        have hk16 : k ≤ i + 16 := hk3
                        have h16' : ¬ (k : Int) < (i : Int) + 16 := h16
                        go_upto_region 16 with fail
                        clear c0 c1 P1 P2 P3 P4 P5
                        obtain ⟨r, hr⟩ : ∃ r, r = k - i := ⟨_, rfl⟩
                        have hr0 : k ≠ i := fun e => HEx.out (by omega) (by rw [e]; exact hst.out)
                        obtain ⟨m, hm⟩ : ∃ m, m = r - 1 := ⟨_, rfl⟩
                        have P1 : (k : Int) - (i : Int) = (r : Int) := by omega
                        have P2 : (r : Int) - 1 = (m : Int) := by omega
                        have P3 : IntKind.u64.wrap (m : Int) = (m : Int) := by simp [IntKind.wrap, IntKind.bits, IntKind.signed]; omega
                        have P4 : (m : Int) ≤ 15 := by omega
                        have P5 : (r : Int) ≤ 16 := by omega
                        have hlI : (M : Int) ≤ 11000 := by have := HR.out.le; have := HLm.out; omega
                        have HRM : Hid (r = k - i ∧ m = r - 1 ∧ k ≠ i) := ⟨hr, hm, hr0⟩
                        clear hr hm hr0
                        go_upto_region 17 with fail
                        refine ref_17 _ _ _ _ _ _ _ _ _ _ _ _ _ _ _ _ _ _ _ _ _ _ _ _ _ _ _ _ _ _ _ _ _ _ _ _ _ _ _ _ _ _ _ _ _ _ _ _ _ _ _ _ _ _ _ _ _ _ _ _ _ _ _ _ _ _ _ _ _ _ _ _ _ _ _ _ _ _ _ _ _ _ _ _ _ _ _ _ _ _ _ _ _ _ _ _ v M l w2 w3 _ HB3 HO (by omega) (fun _ _ _ v5 w5 hb5 ho5 => ?_)
                        have HB5 := Hid.mk9 hb5
                        have HO5 := Hid.mk9 ho5
                        clear hb5 ho5
                        go_upto_region 18 with fail
                        refine ref_18 _ _ _ _ _ _ _ _ _ _ _ _ _ _ _ _ _ _ _ _ _ _ _ _ _ _ _ _ _ _ _ _ _ _ _ _ _ _ _ _ _ _ _ _ _ _ _ _ _ _ _ _ _ _ _ _ _ _ _ _ _ _ _ _ _ _ _ _ _ _ _ _ _ _ _ _ _ _ _ _ _ _ _ _ _ _ _ _ _ _ _ _ _ _ _ v5 (M + 2) m _ w2 w5 _ HB5 HO5 (by omega) P4 P3 (fun _ _ _ _ _ v7 w7 hb7 ho7 => ?_)
                        have HB7 := Hid.mk9 hb7
                        have HO7 := Hid.mk9 ho7
                        clear hb7 ho7
                        go_wp2_with fail
                        have hstA : ∀ j, j < r → Still (Bk.tell (Bk.tS ls)) (Bk.tell (Bk.vS ls)) n (i + j) := fun j hj => HSt.out j (by have := HRM.out.1; omega)
                        have hcd : cd (Bk.tell (Bk.tS ls)) (Bk.tell (Bk.vS ls)) i = [false, false] := by
                          unfold cd
                          rw [hst.out.2.2.1, hst.out.2.2.2]
                          decide
                        have heb : b = false := by
                          cases b with
                          | false => rfl
                          | true => exact absurd hst.out (by have := HR.out.no rfl; rwa [Nat.add_zero] at this)
                        have HI9 : RfIn (Bk.tell (Bk.tS ls)) (Bk.tell (Bk.vS ls)) n w2 (i + 1) m (decide (r < 16)) (l ++ (cd (Bk.tell (Bk.tS ls)) (Bk.tell (Bk.vS ls)) i ++ low (r - 1) 4)) v7 w7 := by
                          have hbd := HR.out.bd
                          have hm9 := HRM.out
                          rw [Nat.add_zero, heb] at hbd
                          refine ⟨HB7.out, ?_, ?_, fun j hj => ?_, fun h => ?_, ?_, by omega⟩
                          · have ho := HO7.out
                            rw [List.append_assoc, hm9.2.1] at ho
                            rw [hcd, List.length_append, List.length_append, low_len, ← HLm.out]
                            exact ho
                          · rw [show i + 1 + m = i + r by omega]
                            exact .run hbd (by omega) (by omega) hstA
                          · rw [show i + 1 + j = i + (j + 1) by omega]
                            exact hstA (j + 1) (by omega)
                          · rw [show i + 1 + m = k by omega]
                            exact HEx.out (by have := of_decide_eq_true h; omega)
                          · have := HR.out.le
                            rw [hcd, List.length_append, List.length_append, low_len]
                            simp
                            omega
                        exact ⟨⟨_, i + 1, m, decide (r < 16), _, rfl, by omega, by simp, by simp, HI9⟩, by simp [intOf]; omega⟩
                    · rw [ht] at c0
                      have HEx : Hid (k < i + 16 → ¬ Still (Bk.tell (Bk.tS ls)) (Bk.tell (Bk.vS ls)) n k) := fun _ s => hv s.2.2.2
                      generalize Bk.tell (Bk.vS ls) k = vv at c1 hv
                      have hv2 : (vv == 0) = false := by rw [beq_eq_false_iff_ne]; exact hv
                      go_upto_region 16 with fail
                      clear c0 c1 P1 P2 P3 P4 P5 hv hv2
                      obtain ⟨r, hr⟩ : ∃ r, r = k - i := ⟨_, rfl⟩
                      have hr0 : k ≠ i := fun e => HEx.out (by omega) (by rw [e]; exact hst.out)
                      obtain ⟨m, hm⟩ : ∃ m, m = r - 1 := ⟨_, rfl⟩
                      have P1 : (k : Int) - (i : Int) = (r : Int) := by omega
                      have P2 : (r : Int) - 1 = (m : Int) := by omega
                      have P3 : IntKind.u64.wrap (m : Int) = (m : Int) := by simp [IntKind.wrap, IntKind.bits, IntKind.signed]; omega
                      have P4 : (m : Int) ≤ 15 := by omega
                      have P5 : (r : Int) ≤ 16 := by omega
                      have hlI : (M : Int) ≤ 11000 := by have := HR.out.le; have := HLm.out; omega
                      have HRM : Hid (r = k - i ∧ m = r - 1 ∧ k ≠ i) := ⟨hr, hm, hr0⟩
                      clear hr hm hr0
                      go_upto_region 17 with fail
                      refine ref_17 _ _ _ _ _ _ _ _ _ _ _ _ _ _ _ _ _ _ _ _ _ _ _ _ _ _ _ _ _ _ _ _ _ _ _ _ _ _ _ _ _ _ _ _ _ _ _ _ _ _ _ _ _ _ _ _ _ _ _ _ _ _ _ _ _ _ _ _ _ _ _ _ _ _ _ _ _ _ _ _ _ _ _ _ _ _ _ _ _ _ _ _ _ _ _ _ v M l w2 w3 _ HB3 HO (by omega) (fun _ _ _ v5 w5 hb5 ho5 => ?_)
                      have HB5 := Hid.mk9 hb5
                      have HO5 := Hid.mk9 ho5
                      clear hb5 ho5
                      go_upto_region 18 with fail
                      refine ref_18 _ _ _ _ _ _ _ _ _ _ _ _ _ _ _ _ _ _ _ _ _ _ _ _ _ _ _ _ _ _ _ _ _ _ _ _ _ _ _ _ _ _ _ _ _ _ _ _ _ _ _ _ _ _ _ _ _ _ _ _ _ _ _ _ _ _ _ _ _ _ _ _ _ _ _ _ _ _ _ _ _ _ _ _ _ _ _ _ _ _ _ _ _ _ _ v5 (M + 2) m _ w2 w5 _ HB5 HO5 (by omega) P4 P3 (fun _ _ _ _ _ v7 w7 hb7 ho7 => ?_)
                      have HB7 := Hid.mk9 hb7
                      have HO7 := Hid.mk9 ho7
                      clear hb7 ho7
                      go_wp2_with fail
                      have hstA : ∀ j, j < r → Still (Bk.tell (Bk.tS ls)) (Bk.tell (Bk.vS ls)) n (i + j) := fun j hj => HSt.out j (by have := HRM.out.1; omega)
                      have hcd : cd (Bk.tell (Bk.tS ls)) (Bk.tell (Bk.vS ls)) i = [false, false] := by
                        unfold cd
                        rw [hst.out.2.2.1, hst.out.2.2.2]
                        decide
                      have heb : b = false := by
                        cases b with
                        | false => rfl
                        | true => exact absurd hst.out (by have := HR.out.no rfl; rwa [Nat.add_zero] at this)
                      have HI9 : RfIn (Bk.tell (Bk.tS ls)) (Bk.tell (Bk.vS ls)) n w2 (i + 1) m (decide (r < 16)) (l ++ (cd (Bk.tell (Bk.tS ls)) (Bk.tell (Bk.vS ls)) i ++ low (r - 1) 4)) v7 w7 := by
                        have hbd := HR.out.bd
                        have hm9 := HRM.out
                        rw [Nat.add_zero, heb] at hbd
                        refine ⟨HB7.out, ?_, ?_, fun j hj => ?_, fun h => ?_, ?_, by omega⟩
                        · have ho := HO7.out
                          rw [List.append_assoc, hm9.2.1] at ho
                          rw [hcd, List.length_append, List.length_append, low_len, ← HLm.out]
                          exact ho
                        · rw [show i + 1 + m = i + r by omega]
                          exact .run hbd (by omega) (by omega) hstA
                        · rw [show i + 1 + j = i + (j + 1) by omega]
                          exact hstA (j + 1) (by omega)
                        · rw [show i + 1 + m = k by omega]
                          exact HEx.out (by have := of_decide_eq_true h; omega)
                        · have := HR.out.le
                          rw [hcd, List.length_append, List.length_append, low_len]
                          simp
                          omega
                      exact ⟨⟨_, i + 1, m, decide (r < 16), _, rfl, by omega, by simp, by simp, HI9⟩, by simp [intOf]; omega⟩
                  · have HEx : Hid (k < i + 16 → ¬ Still (Bk.tell (Bk.tS ls)) (Bk.tell (Bk.vS ls)) n k) := fun _ s => ht s.2.2.1
                    generalize Bk.tell (Bk.tS ls) k = tt at c0 ht
                    have ht2 : (tt == 0) = false := by rw [beq_eq_false_iff_ne]; exact ht
                    go_upto_region 16 with fail
                    clear c0 c1 P1 P2 P3 P4 P5 ht ht2
                    obtain ⟨r, hr⟩ : ∃ r, r = k - i := ⟨_, rfl⟩
                    have hr0 : k ≠ i := fun e => HEx.out (by omega) (by rw [e]; exact hst.out)
                    obtain ⟨m, hm⟩ : ∃ m, m = r - 1 := ⟨_, rfl⟩
                    have P1 : (k : Int) - (i : Int) = (r : Int) := by omega
                    have P2 : (r : Int) - 1 = (m : Int) := by omega
                    have P3 : IntKind.u64.wrap (m : Int) = (m : Int) := by simp [IntKind.wrap, IntKind.bits, IntKind.signed]; omega
                    have P4 : (m : Int) ≤ 15 := by omega
                    have P5 : (r : Int) ≤ 16 := by omega
                    have hlI : (M : Int) ≤ 11000 := by have := HR.out.le; have := HLm.out; omega
                    have HRM : Hid (r = k - i ∧ m = r - 1 ∧ k ≠ i) := ⟨hr, hm, hr0⟩
                    clear hr hm hr0
                    go_upto_region 17 with fail
                    refine ref_17 _ _ _ _ _ _ _ _ _ _ _ _ _ _ _ _ _ _ _ _ _ _ _ _ _ _ _ _ _ _ _ _ _ _ _ _ _ _ _ _ _ _ _ _ _ _ _ _ _ _ _ _ _ _ _ _ _ _ _ _ _ _ _ _ _ _ _ _ _ _ _ _ _ _ _ _ _ _ _ _ _ _ _ _ _ _ _ _ _ _ _ _ _ _ _ _ v M l w2 w3 _ HB3 HO (by omega) (fun _ _ _ v5 w5 hb5 ho5 => ?_)
                    have HB5 := Hid.mk9 hb5
                    have HO5 := Hid.mk9 ho5
                    clear hb5 ho5
                    go_upto_region 18 with fail
                    refine ref_18 _ _ _ _ _ _ _ _ _ _ _ _ _ _ _ _ _ _ _ _ _ _ _ _ _ _ _ _ _ _ _ _ _ _ _ _ _ _ _ _ _ _ _ _ _ _ _ _ _ _ _ _ _ _ _ _ _ _ _ _ _ _ _ _ _ _ _ _ _ _ _ _ _ _ _ _ _ _ _ _ _ _ _ _ _ _ _ _ _ _ _ _ _ _ _ v5 (M + 2) m _ w2 w5 _ HB5 HO5 (by omega) P4 P3 (fun _ _ _ _ _ v7 w7 hb7 ho7 => ?_)
                    have HB7 := Hid.mk9 hb7
                    have HO7 := Hid.mk9 ho7
                    clear hb7 ho7
                    go_wp2_with fail
                    have hstA : ∀ j, j < r → Still (Bk.tell (Bk.tS ls)) (Bk.tell (Bk.vS ls)) n (i + j) := fun j hj => HSt.out j (by have := HRM.out.1; omega)
                    have hcd : cd (Bk.tell (Bk.tS ls)) (Bk.tell (Bk.vS ls)) i = [false, false] := by
                      unfold cd
                      rw [hst.out.2.2.1, hst.out.2.2.2]
                      decide
                    have heb : b = false := by
                      cases b with
                      | false => rfl
                      | true => exact absurd hst.out (by have := HR.out.no rfl; rwa [Nat.add_zero] at this)
                    have HI9 : RfIn (Bk.tell (Bk.tS ls)) (Bk.tell (Bk.vS ls)) n w2 (i + 1) m (decide (r < 16)) (l ++ (cd (Bk.tell (Bk.tS ls)) (Bk.tell (Bk.vS ls)) i ++ low (r - 1) 4)) v7 w7 := by
                      have hbd := HR.out.bd
                      have hm9 := HRM.out
                      rw [Nat.add_zero, heb] at hbd
                      refine ⟨HB7.out, ?_, ?_, fun j hj => ?_, fun h => ?_, ?_, by omega⟩
                      · have ho := HO7.out
                        rw [List.append_assoc, hm9.2.1] at ho
                        rw [hcd, List.length_append, List.length_append, low_len, ← HLm.out]
                        exact ho
                      · rw [show i + 1 + m = i + r by omega]
                        exact .run hbd (by omega) (by omega) hstA
                      · rw [show i + 1 + j = i + (j + 1) by omega]
                        exact hstA (j + 1) (by omega)
                      · rw [show i + 1 + m = k by omega]
                        exact HEx.out (by have := of_decide_eq_true h; omega)
                      · have := HR.out.le
                        rw [hcd, List.length_append, List.length_append, low_len]
                        simp
                        omega
                    exact ⟨⟨_, i + 1, m, decide (r < 16), _, rfl, by omega, by simp, by simp, HI9⟩, by simp [intOf]; omega⟩
                · have hkI : ¬ (k : Int) < (n : Int) := by omega
                  have HEx : Hid (k < i + 16 → ¬ Still (Bk.tell (Bk.tS ls)) (Bk.tell (Bk.vS ls)) n k) := fun _ s => hk1 s.2.1
                  go_upto_region 16 with fail
                  obtain ⟨r, hr⟩ : ∃ r, r = k - i := ⟨_, rfl⟩
                  have hr0 : k ≠ i := fun e => HEx.out (by omega) (by rw [e]; exact hst.out)
                  obtain ⟨m, hm⟩ : ∃ m, m = r - 1 := ⟨_, rfl⟩
                  have P1 : (k : Int) - (i : Int) = (r : Int) := by omega
                  have P2 : (r : Int) - 1 = (m : Int) := by omega
                  have P3 : IntKind.u64.wrap (m : Int) = (m : Int) := by simp [IntKind.wrap, IntKind.bits, IntKind.signed]; omega
                  have P4 : (m : Int) ≤ 15 := by omega
                  have P5 : (r : Int) ≤ 16 := by omega
                  have hlI : (M : Int) ≤ 11000 := by have := HR.out.le; have := HLm.out; omega
                  have HRM : Hid (r = k - i ∧ m = r - 1 ∧ k ≠ i) := ⟨hr, hm, hr0⟩
                  clear hr hm hr0
                  go_upto_region 17 with fail
                  refine ref_17 _ _ _ _ _ _ _ _ _ _ _ _ _ _ _ _ _ _ _ _ _ _ _ _ _ _ _ _ _ _ _ _ _ _ _ _ _ _ _ _ _ _ _ _ _ _ _ _ _ _ _ _ _ _ _ _ _ _ _ _ _ _ _ _ _ _ _ _ _ _ _ _ _ _ _ _ _ _ _ _ _ _ _ _ _ _ _ _ _ _ _ _ _ _ _ _ v M l w2 w3 _ HB3 HO (by omega) (fun _ _ _ v5 w5 hb5 ho5 => ?_)
                  have HB5 := Hid.mk9 hb5
                  have HO5 := Hid.mk9 ho5
                  clear hb5 ho5
                  go_upto_region 18 with fail
                  refine ref_18 _ _ _ _ _ _ _ _ _ _ _ _ _ _ _ _ _ _ _ _ _ _ _ _ _ _ _ _ _ _ _ _ _ _ _ _ _ _ _ _ _ _ _ _ _ _ _ _ _ _ _ _ _ _ _ _ _ _ _ _ _ _ _ _ _ _ _ _ _ _ _ _ _ _ _ _ _ _ _ _ _ _ _ _ _ _ _ _ _ _ _ _ _ _ _ v5 (M + 2) m _ w2 w5 _ HB5 HO5 (by omega) P4 P3 (fun _ _ _ _ _ v7 w7 hb7 ho7 => ?_)
                  have HB7 := Hid.mk9 hb7
                  have HO7 := Hid.mk9 ho7
                  clear hb7 ho7
                  go_wp2_with fail
                  have hstA : ∀ j, j < r → Still (Bk.tell (Bk.tS ls)) (Bk.tell (Bk.vS ls)) n (i + j) := fun j hj => HSt.out j (by have := HRM.out.1; omega)
                  have hcd : cd (Bk.tell (Bk.tS ls)) (Bk.tell (Bk.vS ls)) i = [false, false] := by
                    unfold cd
                    rw [hst.out.2.2.1, hst.out.2.2.2]
                    decide
                  have heb : b = false := by
                    cases b with
                    | false => rfl
                    | true => exact absurd hst.out (by have := HR.out.no rfl; rwa [Nat.add_zero] at this)
                  have HI9 : RfIn (Bk.tell (Bk.tS ls)) (Bk.tell (Bk.vS ls)) n w2 (i + 1) m (decide (r < 16)) (l ++ (cd (Bk.tell (Bk.tS ls)) (Bk.tell (Bk.vS ls)) i ++ low (r - 1) 4)) v7 w7 := by
                    have hbd := HR.out.bd
                    have hm9 := HRM.out
                    rw [Nat.add_zero, heb] at hbd
                    refine ⟨HB7.out, ?_, ?_, fun j hj => ?_, fun h => ?_, ?_, by omega⟩
                    · have ho := HO7.out
                      rw [List.append_assoc, hm9.2.1] at ho
                      rw [hcd, List.length_append, List.length_append, low_len, ← HLm.out]
                      exact ho
                    · rw [show i + 1 + m = i + r by omega]
                      exact .run hbd (by omega) (by omega) hstA
                    · rw [show i + 1 + j = i + (j + 1) by omega]
                      exact hstA (j + 1) (by omega)
                    · rw [show i + 1 + m = k by omega]
                      exact HEx.out (by have := of_decide_eq_true h; omega)
                    · have := HR.out.le
                      rw [hcd, List.length_append, List.length_append, low_len]
                      simp
                      omega
                  exact ⟨⟨_, i + 1, m, decide (r < 16), _, rfl, by omega, by simp, by simp, HI9⟩, by simp [intOf]; omega⟩
            · obtain ⟨f, rfl⟩ : ∃ f, lf = f + 1 := ⟨lf - 1, by omega⟩
              have q1 : (0 : Int) < ((f + 1 : Nat) : Int) := by omega
              have q2 : (f : Int) ≤ 15 := by have := HR.out.lf9; omega
              have HI9 : RfIn (Bk.tell (Bk.tS ls)) (Bk.tell (Bk.vS ls)) n w2 (i + 1) f b l v w3 := by
                have hR := HR.out
                refine ⟨HB3.out, by rw [← HLm.out]; exact HO.out, ?_, fun j hj => ?_, ?_, ?_, by have := hR.lf9; omega⟩
                · rw [show i + 1 + f = i + (f + 1) by omega]; exact hR.bd
                · rw [show i + 1 + j = i + (j + 1) by omega]; exact hR.st (j + 1) (by omega)
                · rw [show i + 1 + f = i + (f + 1) by omega]; exact hR.no
                · have := hR.le; omega
              go_wp2_with fail
              exact ⟨⟨_, i + 1, f, b, l, rfl, by omega, by simp <;> omega, by simp, HI9⟩, by simp [intOf]; omega⟩
          · have hv2 : (Bk.tell (Bk.vS ls) i == 0) = false := by rw [beq_eq_false_iff_ne]; exact hv
            have hns : Hid (¬ Still (Bk.tell (Bk.tS ls)) (Bk.tell (Bk.vS ls)) n i) := fun s => hv (HStI.out.1 s).2.2
            have HCa : Hid (∀ W, Calls Tryd.prog 61 #[.int .i64 (Bk.tell (Bk.tS ls) i)] W fun e w' => BoPost (coded (Bk.tell (Bk.tS ls) i)) W e w') := fun W => coded_any (Bk.tell (Bk.tS ls) i) (HI.out i (by omega)).1 W
            have HCb : Hid (∀ W, Calls Tryd.prog 61 #[.int .i64 (Bk.tell (Bk.vS ls) i)] W fun e w' => BoPost (coded (Bk.tell (Bk.vS ls) i)) W e w') := fun W => coded_any (Bk.tell (Bk.vS ls) i) (HI.out i (by omega)).2 W
            have z1 := sz_le (Bk.tell (Bk.tS ls) i)
            have z2 := sz_le (Bk.tell (Bk.vS ls) i)
            have l1 : (coded (Bk.tell (Bk.tS ls) i)).length ≤ 68 := by rw [coded_len]; exact z1
            have l2 : (coded (Bk.tell (Bk.vS ls) i)).length ≤ 68 := by rw [coded_len]; exact z2
            obtain ⟨m1, hm1⟩ : ∃ m1, m1 = (coded (Bk.tell (Bk.tS ls) i)).length := ⟨_, rfl⟩
            obtain ⟨m2, hm2⟩ : ∃ m2, m2 = (coded (Bk.tell (Bk.vS ls) i)).length := ⟨_, rfl⟩
            have hmI : (m : Int) ≤ 11000 := by have := HR.out.le; have := HR.out.lf9; have := HLm.out; omega
            have hm1I : (m1 : Int) ≤ 68 := by omega
            have hm2I : (m2 : Int) ≤ 68 := by omega
            have HM12 : Hid (m1 = (coded (Bk.tell (Bk.tS ls) i)).length ∧ m2 = (coded (Bk.tell (Bk.vS ls) i)).length) := ⟨hm1, hm2⟩
            have H1a : Hid (m1 = (coded (Bk.tell (Bk.tS ls) i)).length) := hm1
            have H2a : Hid (m2 = (coded (Bk.tell (Bk.vS ls) i)).length) := hm2
            have HB9 := Hid.mk9 HB3.out
            have HO9 := Hid.mk9 HO.out
            clear z1 z2 hm1 hm2 l1 l2
            go_upto_region 9 with fail
            refine ref_9 _ _ _ _ _ _ _ _ _ _ _ _ _ _ _ _ _ _ _ _ _ _ _ _ _ _ _ _ _ _ _ _ _ _ _ _ _ _ _ _ _ _ _ _ _ _ _ _ _ _ _ _ _ _ _ _ _ _ _ _ _ _ _ _ _ _ _ _ _ _ _ _ _ _ _ _ _ _ _ _ _ _ _ _ _ _ _ _ _ _ _ _ _ _ _ v m m1 _ l w2 w3 _ HB9 HO9 (by omega) H1a hm1I HCa (fun _ _ _ _ v5 w5 hb5 ho5 => ?_)
            have HB5 := Hid.mk9 hb5
            have HO5 := Hid.mk9 ho5
            clear hb5 ho5
            go_upto_region 10 with fail
            refine ref_10 _ _ _ _ _ _ _ _ _ _ _ _ _ _ _ _ _ _ _ _ _ _ _ _ _ _ _ _ _ _ _ _ _ _ _ _ _ _ _ _ _ _ _ _ _ _ _ _ _ _ _ _ _ _ _ _ _ _ _ _ _ _ _ _ _ _ _ _ _ _ _ _ _ _ _ _ _ _ _ _ _ _ _ _ _ _ _ _ _ _ _ _ _ _ _ v5 (m + m1) m2 _ _ w2 w5 _ HB5 HO5 (by omega) H2a hm2I HCb (fun _ _ _ _ v7 w7 hb7 ho7 => ?_)
            have HB7 := Hid.mk9 hb7
            have HO7 := Hid.mk9 ho7
            clear hb7 ho7
            go_wp2_with fail
            have hlf0 : lf = 0 := by
              rcases Nat.eq_zero_or_pos lf with h | h
              · exact h
              · exact absurd (HR.out.st 0 h) hns.out
            subst hlf0
            have HI9 : RfIn (Bk.tell (Bk.tS ls)) (Bk.tell (Bk.vS ls)) n w2 (i + 1) 0 false (l ++ cd (Bk.tell (Bk.tS ls)) (Bk.tell (Bk.vS ls)) i) v7 w7 := by
              refine ⟨HB7.out, ?_, .one HR.out.bd (by omega) hns.out, fun j hj => absurd hj (Nat.not_lt_zero _), (fun h => by cases h), ?_, by omega⟩
              · have ho := HO7.out
                rw [List.append_assoc] at ho
                unfold cd
                rw [List.length_append, List.length_append, ← HM12.out.1, ← HM12.out.2, ← HLm.out, ← Nat.add_assoc]
                exact ho
              · unfold cd
                have := HR.out.le
                rw [List.length_append, List.length_append, ← HM12.out.1, ← HM12.out.2]
                omega
            exact ⟨⟨_, i + 1, 0, false, _, rfl, by omega, by simp, by simp, HI9⟩, by simp [intOf]; omega⟩
        · have ht2 : (Bk.tell (Bk.tS ls) i == 0) = false := by rw [beq_eq_false_iff_ne]; exact ht
          have hns : Hid (¬ Still (Bk.tell (Bk.tS ls)) (Bk.tell (Bk.vS ls)) n i) := fun s => ht (HStI.out.1 s).2.1
          have HCa : Hid (∀ W, Calls Tryd.prog 61 #[.int .i64 (Bk.tell (Bk.tS ls) i)] W fun e w' => BoPost (coded (Bk.tell (Bk.tS ls) i)) W e w') := fun W => coded_any (Bk.tell (Bk.tS ls) i) (HI.out i (by omega)).1 W
          have HCb : Hid (∀ W, Calls Tryd.prog 61 #[.int .i64 (Bk.tell (Bk.vS ls) i)] W fun e w' => BoPost (coded (Bk.tell (Bk.vS ls) i)) W e w') := fun W => coded_any (Bk.tell (Bk.vS ls) i) (HI.out i (by omega)).2 W
          have z1 := sz_le (Bk.tell (Bk.tS ls) i)
          have z2 := sz_le (Bk.tell (Bk.vS ls) i)
          have l1 : (coded (Bk.tell (Bk.tS ls) i)).length ≤ 68 := by rw [coded_len]; exact z1
          have l2 : (coded (Bk.tell (Bk.vS ls) i)).length ≤ 68 := by rw [coded_len]; exact z2
          obtain ⟨m1, hm1⟩ : ∃ m1, m1 = (coded (Bk.tell (Bk.tS ls) i)).length := ⟨_, rfl⟩
          obtain ⟨m2, hm2⟩ : ∃ m2, m2 = (coded (Bk.tell (Bk.vS ls) i)).length := ⟨_, rfl⟩
          have hmI : (m : Int) ≤ 11000 := by have := HR.out.le; have := HR.out.lf9; have := HLm.out; omega
          have hm1I : (m1 : Int) ≤ 68 := by omega
          have hm2I : (m2 : Int) ≤ 68 := by omega
          have HM12 : Hid (m1 = (coded (Bk.tell (Bk.tS ls) i)).length ∧ m2 = (coded (Bk.tell (Bk.vS ls) i)).length) := ⟨hm1, hm2⟩
          have H1a : Hid (m1 = (coded (Bk.tell (Bk.tS ls) i)).length) := hm1
          have H2a : Hid (m2 = (coded (Bk.tell (Bk.vS ls) i)).length) := hm2
          have HB9 := Hid.mk9 HB3.out
          have HO9 := Hid.mk9 HO.out
          clear z1 z2 hm1 hm2 l1 l2
          go_upto_region 9 with fail
          refine ref_9 _ _ _ _ _ _ _ _ _ _ _ _ _ _ _ _ _ _ _ _ _ _ _ _ _ _ _ _ _ _ _ _ _ _ _ _ _ _ _ _ _ _ _ _ _ _ _ _ _ _ _ _ _ _ _ _ _ _ _ _ _ _ _ _ _ _ _ _ _ _ _ _ _ _ _ _ _ _ _ _ _ _ _ _ _ _ _ _ _ _ _ _ _ _ _ v m m1 _ l w2 w3 _ HB9 HO9 (by omega) H1a hm1I HCa (fun _ _ _ _ v5 w5 hb5 ho5 => ?_)
          have HB5 := Hid.mk9 hb5
          have HO5 := Hid.mk9 ho5
          clear hb5 ho5
          go_upto_region 10 with fail
          refine ref_10 _ _ _ _ _ _ _ _ _ _ _ _ _ _ _ _ _ _ _ _ _ _ _ _ _ _ _ _ _ _ _ _ _ _ _ _ _ _ _ _ _ _ _ _ _ _ _ _ _ _ _ _ _ _ _ _ _ _ _ _ _ _ _ _ _ _ _ _ _ _ _ _ _ _ _ _ _ _ _ _ _ _ _ _ _ _ _ _ _ _ _ _ _ _ _ v5 (m + m1) m2 _ _ w2 w5 _ HB5 HO5 (by omega) H2a hm2I HCb (fun _ _ _ _ v7 w7 hb7 ho7 => ?_)
          have HB7 := Hid.mk9 hb7
          have HO7 := Hid.mk9 ho7
          clear hb7 ho7
          go_wp2_with fail
          have hlf0 : lf = 0 := by
            rcases Nat.eq_zero_or_pos lf with h | h
            · exact h
            · exact absurd (HR.out.st 0 h) hns.out
          subst hlf0
          have HI9 : RfIn (Bk.tell (Bk.tS ls)) (Bk.tell (Bk.vS ls)) n w2 (i + 1) 0 false (l ++ cd (Bk.tell (Bk.tS ls)) (Bk.tell (Bk.vS ls)) i) v7 w7 := by
            refine ⟨HB7.out, ?_, .one HR.out.bd (by omega) hns.out, fun j hj => absurd hj (Nat.not_lt_zero _), (fun h => by cases h), ?_, by omega⟩
            · have ho := HO7.out
              rw [List.append_assoc] at ho
              unfold cd
              rw [List.length_append, List.length_append, ← HM12.out.1, ← HM12.out.2, ← HLm.out, ← Nat.add_assoc]
              exact ho
            · unfold cd
              have := HR.out.le
              rw [List.length_append, List.length_append, ← HM12.out.1, ← HM12.out.2]
              omega
          exact ⟨⟨_, i + 1, 0, false, _, rfl, by omega, by simp, by simp, HI9⟩, by simp [intOf]; omega⟩
    · obtain rfl : i = n := by omega
      have hlf0 : lf = 0 := by
        rcases Nat.eq_zero_or_pos lf with h | h
        · exact h
        · exact absurd (HR.out.st 0 h).2.1 (by omega)
      subst hlf0
      have hLe : l = L := told_one (bd_told HR.out.bd HI.out) (by have := HTo.out; rwa [HLl.out] at this)
      have HP : Hid (BoPost L w (.returned v) wr) := by
        refine BoPost.of_own (below2 HB2.out HR.out.bel) (own_base HR.out.own HB2.out.size) ?_ |> fun q => by rw [← hLe]; exact q
        rfl
      clear hLe
      go_wp2_with fail
      go_ret
      exact HP.out
end Go.Proofs.YtcdlkdbnlomghaaDoor.Gl
