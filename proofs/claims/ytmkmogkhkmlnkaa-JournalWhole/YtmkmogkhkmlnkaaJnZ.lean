/-
  The law JournalWhole.
-/
import Derived.Test.YtmkmogkhkmlnkaaJnYr
import Derived.Deep.CutBlock
import Derived.Deep.LoopGhost
namespace Go.Proofs.Ytmkmogkhkmlnkaa.Dm
open Go.ChangeShapes Go.WideShapes Go.ChangeAt Go.RowKit
set_option maxHeartbeats 16000000 in
set_option maxRecDepth 100000 in
theorem journalWhole_any (u : Nat) (hu : (u : Int) ≤ 255) (a1 : Option Addr) (n1 k1 : Nat) (L : List A10) (a2 : Option Addr) (n2 k2 : Nat) (C : List A9) (w : World) (hL : ActsAt w a1 n1 k1 L) (hC : Acts9At w a2 n2 k2 C) :
    Calls Try.prog 3 #[.int .u8 (u : Int), .slice a1 n1 k1, .slice a2 n2 k2] w fun e w' => TruePost w w' e := by
  obtain ⟨i0, hi, hz0, hz1, hz2⟩ := info_parts infoL
  obtain ⟨r, hr, e1⟩ : ∃ r : Nat, r < 16 ∧ (u : Int).tmod 16 = (r : Int) := ⟨u % 16, by omega, by rw [Int.tmod_eq_emod_of_nonneg (by omega)]; omega⟩
  have hm1 := Nat.le_trans hL.2.1 hL.2.2.1
  have hm2 := Nat.le_trans hC.2.1 hC.2.2.1
  unfold maxLen at hm1 hm2
  have HL : Hid (ActsAt w a1 n1 k1 L) := hL
  have HC : Hid (Acts9At w a2 n2 k2 C) := hC
  have HN : Calls Try.prog 5 #[.int .i64 (8 + 2 * (r : Int))] w fun e w' => NewPost (8 + 2 * r) w w' e := by
    have := new_any (8 + 2 * r) (by omega) (by omega) (by rw [Int.tmod_eq_emod_of_nonneg (by omega)]; omega) w
    rwa [show ((8 + 2 * r : Nat) : Int) = 8 + 2 * (r : Int) by omega] at this
  clear hL hC
  go_enter Try.func3, Try.ntmps3
  go_upto_region 2 with (go_at_call 5; refine HN.mono ?_; rintro e w1 ⟨a, s, k, rfl, hD, hb1⟩)
  have HO := open_zero w1 hD (by omega) (by omega)
  have HB1 : Hid (Below w.heap.size w w1) := hb1
  clear hD hb1 HN
  generalize hn0 : 8 + 2 * r = n at *
  have hn8 : 8 ≤ n := by omega
  have hn40 : n ≤ 40 := by omega
  go_upto_region 3 with (go_at_call 6; refine HO.mono ?_; rintro e w2 ⟨j, rfl, H2⟩)
  have HB2 : Hid (Below w.heap.size w w2) := HB1.out.trans H2.out.1.1
  have HLI := light10_any a1 n1 k1 L w2 (HL.out.below HB2.out)
  have HJ2 : Hid (JS w.heap.size j a s k n false 1 30 [] [] false w2) := H2.out.2.weak
  clear HO H2 HB1
  go_wp2_with fail
  refine HLI.mono ?_
  rintro e w3 ⟨hb3, ql, rfl, hql⟩
  have HB3 : Hid (Below w.heap.size w w3) := below2 HB2.out hb3
  cases ql
  · clear HLI hql HJ2
    go_wp2_with (go_at_call 8; refine (awakeJ_any _).mono ?_; rintro e w4 ⟨rfl, hb4⟩)
    go_ret
    exact ⟨rfl, below2 HB3.out hb4⟩
  · have HLG : Hid (∀ i, i < n1 → i < 60 → LightA (L.getD i a10z)) := hql rfl
    have HJ3 := HJ2.out.below hb3
    have hB3 := HB3.out.size
    have HST : Hid (LS w j a s k n 0 false (.slice (some ⟨w3.heap.size + 1, 0, none⟩) 1 1) ((w3.alloc (.cells #[] 38)).alloc (.cells #[.slice (some ⟨w3.heap.size, 0, none⟩) 0 0] 33))) := by
      have hm := may_one (N := w.heap.size) (w := w3.alloc (.cells #[] 38)) (by rw [size_alloc]; omega) (rec_nil (N := w.heap.size) (w := w3) hB3)
      rw [size_alloc] at hm
      exact ⟨[[]], [], [], hm, List.mem_singleton.2 rfl, Nat.le_refl _, (HJ3.below (below_alloc _ _)).below (below_alloc _ _), below2 HB3.out (below2 (below_alloc _ _) (below_alloc _ _))⟩
    clear HLI hql HJ2 HJ3 hb3 HB2 HB3 hB3
    go_upto_block 0 with fail
    go_cut [11, 12, 13] from 55 to 118 (fun v i b wx => Hid (∃ q, LS w j a s k n 30 q v wx))
    case first =>
      go_wp2_with fail
      go_loopg [11, 12] 30 (fun g v i wx => ∃ t : Nat, t ≤ n1 ∧ t ≤ 30 ∧ g = 30 - t ∧ i = .int .i64 (t : Int) ∧ Hid (∃ q, LS w j a s k n t q v wx))
      case atStart => exact ⟨0, Nat.zero_le _, Nat.zero_le _, rfl, rfl, false, HST.out⟩
      case round =>
        obtain ⟨t, ht1, ht2, rfl, rfl, HI⟩ := hrel
        by_cases hlt : t < n1 ∧ t < 30
        · obtain ⟨hl1, hl2⟩ := hlt
          obtain ⟨q, M, R, cur, hM, hR, hMl, hJ, hb⟩ := HI.out
          rcases (HL.out.below hb).2.2.2 with h0 | ⟨ab, ao, rfl, hc⟩
          · omega
          obtain ⟨c0, c1, c2, c3, c4, c5, c6, c7, c8, ⟨e0, e1', e2, e3, e4, e5, e6, e7, e8⟩, hV⟩ := hc t hl1
          have hk0 : (0 : Int) ≤ (t : Int) := by omega
          have hk1 : (t : Int) < (n1 : Int) := by omega
          have hk2 : (t : Int) < 30 := by omega
          have HLX : Hid (LightA (L.getD t a10z)) := HLG.out t hl1 (by omega)
          generalize L.getD t a10z = X at *
          obtain ⟨rfl, hd, ⟨la, ln, lc, rfl, hdr⟩, pp, ⟨i4, i5, rfl, rfl⟩, rfl, hn1, hn2, ⟨ba, bl, bc, rfl⟩, pa, pl, pc, rfl, -⟩ := hV
          have hd2 := hd
          obtain ⟨x1, m1, y1, x2, m2, y2, ex, -⟩ := hd2
          simp at ex
          obtain ⟨rfl, rfl⟩ := ex
          obtain ⟨W5, hW5⟩ : ∃ W5, W5 = wr.alloc (.cells #[.int .i64 X.d, .slice x1 m1 y1, .slice x2 m2 y2, .slice la ln lc, .int .i64 i4, .int .i64 i5, .int .i64 X.n, .slice ba bl bc, .slice pa pl pc] 44) := ⟨_, rfl⟩
          have hb5 : Below wr.heap.size wr W5 := by rw [hW5]; exact below_alloc _ _
          have hx5 : W5.heap[wr.heap.size]? = some (.cells #[.int .i64 X.d, .slice x1 m1 y1, .slice x2 m2 y2, .slice la ln lc, .int .i64 i4, .int .i64 i5, .int .i64 X.n, .slice ba bl bc, .slice pa pl pc] 44 (0, 0)) := by rw [hW5]; exact heap_alloc_new _ _
          have hJ5 := hJ.below hb5
          have hM5 := hM.below hb5
          have hbw5 : Below w.heap.size w W5 := hb.trans (below_low hb5 hJ.low)
          have hd5 := hd.below hb5
          have hdr5 := hdr.below hb5
          have HW5 : Hid (W5 = wr.alloc (.cells #[.int .i64 X.d, .slice x1 m1 y1, .slice x2 m2 y2, .slice la ln lc, .int .i64 i4, .int .i64 i5, .int .i64 X.n, .slice ba bl bc, .slice pa pl pc] 44)) := hW5
          have HG := gone_js W5 hJ5
          have HJ5 : Hid (JS w.heap.size j a s k n false (t + 1) (50 * t + 30) R cur q W5) := hJ5
          have HM5 : Hid (MayAt w.heap.size W5 u11 M) := hM5
          have HBw5 : Hid (Below w.heap.size w W5) := hbw5
          have HRM : Hid (R ∈ M) := hR
          have HML : Hid (M.length ≤ t + 1) := hMl
          clear hc hd hdr hW5 hb5 hJ hM hb hJ5 hM5 hbw5 hR HI hMl
          go_upto_region 10 with fail
          rw [← HW5.out]
          have f0 : W5.cell? ⟨wr.heap.size, 0, none⟩ = some (.int .i64 X.d) := by rw [cell_of_heap hx5]; rfl
          have f1 : W5.cell? ⟨wr.heap.size, 1, none⟩ = some (.slice x1 m1 y1) := by rw [cell_of_heap hx5]; rfl
          have f2 : W5.cell? ⟨wr.heap.size, 2, none⟩ = some (.slice x2 m2 y2) := by rw [cell_of_heap hx5]; rfl
          have f3 : W5.cell? ⟨wr.heap.size, 3, none⟩ = some (.slice la ln lc) := by rw [cell_of_heap hx5]; rfl
          have f6 : W5.cell? ⟨wr.heap.size, 6, none⟩ = some (.int .i64 X.n) := by rw [cell_of_heap hx5]; rfl
          clear hx5 HW5 e0 e1' e2 e3 e4 e5 e6 e7 e8
          generalize wr.heap.size = bx at *
          cases q
          · have HSAME : Hid (∃ q, LS w j a s k n (t + 1) q u11 W5) := ⟨false, M, R, cur, HM5.out, HRM.out, by have := HML.out; omega, HJ5.out.up (by omega) (by omega), HBw5.out⟩
            by_cases d0 : X.d = 0
            · have HA := append_js W5 HJ5.out (by omega) (by omega) _ X.x hd5 (by have := HLX.out.1; omega)
              have b0 : (X.d == 0) = true := by simpa using d0
              clear hd5 hdr5 HSAME d0
              go_wp2_with (first | (go_at_call 9; refine HG.mono ?_; rintro e g1 ⟨rfl, rfl⟩) | (go_at_call 10; refine HA.mono ?_; rintro e w6 ⟨cc, rfl, H6⟩))
              have HFIN : Hid (∃ q, LS w j a s k n (t + 1) q u11 w6) := by
                obtain ⟨k6, ⟨cur6, q6, -, -, hJ6⟩, -⟩ := H6.out
                exact ⟨q6, M, R, cur6, HM5.out.kj k6.2, HRM.out, by have := HML.out; omega, hJ6.up (by omega) (by omega), HBw5.out.trans k6.1⟩
              go_roundg (30 - (t + 1))
              case measure => omega
              case rel => exact ⟨t + 1, by omega, by omega, rfl, by go_num, HFIN⟩
            · have b0 : (X.d == 0) = false := by simpa using d0
              by_cases d1 : X.d = 1
              · have b1 : (X.d == 1) = true := by simpa using d1
                have HS := sync_js W5 HJ5.out (by omega) (by omega)
                clear hd5 hdr5 HSAME d0 d1
                go_upto_region 16 with (first | (go_at_call 9; refine HG.mono ?_; rintro e g1 ⟨rfl, rfl⟩) | (go_at_call 11; refine HS.mono ?_; rintro e w6 ⟨rfl, H6⟩))
                obtain ⟨k6, hout⟩ := H6.out
                have HM6 : Hid (MayAt w.heap.size w6 u11 M) := HM5.out.kj k6.2
                have HBw6 : Hid (Below w.heap.size w w6) := HBw5.out.trans k6.1
                clear H6 HS k6 HG HM5 HBw5 HJ5
                rcases hout with ⟨-, hJ6⟩ | hJ6
                · have HJ6 : Hid (JS w.heap.size j a s k n false (t + 1) (50 * t + 30 + 1) R cur true w6) := hJ6
                  clear hJ6
                  have HR6 := records_js w6 HJ6.out (by omega)
                  have HLW6 : Hid (w.heap.size ≤ w6.heap.size) := HJ6.out.low
                  obtain ⟨vs, hvo, hvl, hvr⟩ := HM6.out
                  obtain ⟨mp, mc, rfl, -⟩ := own_len hvo
                  have HVO : Hid (w6.ownsRow w.heap.size 33 1 (.slice mp M.length mc) M.length vs) := hvo
                  have HVR : Hid (∀ (i : Nat) (x : Value), vs[i]? = some x → ∃ m, M[i]? = some m ∧ RecAt w.heap.size w6 x m) := hvr
                  have HVL : Hid (vs.length = M.length) := hvl
                  clear hvo hvr hvl HM6
                  go_upto_region 17 with (first
                    | (go_at_call 12; refine HR6.mono ?_; rintro e w7 ⟨v7, rfl, hrec7, hb7⟩; obtain ⟨p7, c7, rfl, -⟩ := hrec7.drow; have HREC7 : Hid (RecAt w.heap.size w7 (.slice p7 cur.length c7) cur) := hrec7.low HLW6.out; have HB7 : Hid (Below w6.heap.size w6 w7) := hb7; have HW7 : Hid (w.heap.size ≤ w7.heap.size) := Nat.le_trans HLW6.out hb7.size; clear hrec7 hb7)
                    | (at_builtin; refine wpList_append_own _ rfl (.tmp 83) (.tmp 86) 34 rfl w.heap.size 33 i0 (.slice none 0 0) 1 24 Try.underlying34 hi hz0 hz1 hz2 rfl (by decide) _ _ _ rfl (own_of HVO.out (fun g hg => (below2 HB7.out (below_alloc _ _)).block g (HVO.out.lt g hg).2)) ⟨w7.heap.size, 0, none⟩ 1 1 [.slice p7 cur.length c7] rfl rfl (cells_lit w7 [.slice p7 cur.length c7] 33) (by intro u hu; simp at hu; subst hu; rfl) (by have := HML.out; unfold maxLen; omega) (by have := HML.out; omega) (by have := HW7.out; rw [World.size_alloc]; omega) ?_; intro v9 w9 hown9 hgr9 _; obtain ⟨p9, c9, rfl, -⟩ := own_len hown9; have HOWN9 : Hid (w9.ownsRow w.heap.size 33 1 (.slice p9 (M.length + 1) c9) (M.length + 1) (vs ++ [.slice p7 cur.length c7])) := hown9; have HGR9 : Hid ((w7.alloc (.cells #[.slice p7 cur.length c7] 33)).grownBy w9 (Value.slice mp M.length mc).ownBlock) := hgr9; clear hown9 hgr9))
                  have hvo8 : (w7.alloc (.cells #[.slice p7 cur.length c7] 33)).ownsRow w.heap.size 33 1 (.slice mp M.length mc) M.length vs := own_of HVO.out (fun g hg => (below2 HB7.out (below_alloc _ _)).block g (HVO.out.lt g hg).2)
                  have hkr := kr_grown HGR9.out (fun g hg => own_T hvo8 hg)
                  have hkw := kw_grown HGR9.out (fun g hg => own_T hvo8 hg)
                  have hM9 : MayAt w.heap.size w9 (.slice p9 (M.length + 1) c9) (M ++ [cur]) := MayAt.snoc (w := w7.alloc (.cells #[.slice p7 cur.length c7] 33)) (v := .bool true) HVL.out (fun i x hx => by obtain ⟨m, h1, h2⟩ := HVR.out i x hx; exact ⟨m, h1, h2.below (below2 HB7.out (below_alloc _ _))⟩) HOWN9.out hkr (HREC7.out.below (below_alloc _ _)) rfl
                  have hJ9 : JS w.heap.size j a s k n false (t + 1) (50 * t + 30 + 1) R cur true w9 := (HJ6.out.below (below2 HB7.out (below_alloc _ _))).kw hkw
                  have hb9 : Below w.heap.size w w9 := by
                    have h8 : Below w.heap.size w (w7.alloc (.cells #[.slice p7 cur.length c7] 33)) := HBw6.out.trans (below_low (below2 HB7.out (below_alloc _ _)) HLW6.out)
                    exact h8.trans (below_grown HGR9.out (fun g hg => (hvo8.lt g hg).1) h8.size)
                  have HG9 := gone_js w9 hJ9
                  have HFIN : Hid (∃ q, LS w j a s k n (t + 1) q (.slice p9 (M.length + 1) c9) w9) := ⟨true, M ++ [cur], R, cur, hM9, List.mem_append_left _ HRM.out, by rw [List.length_append, List.length_singleton]; have := HML.out; omega, hJ9.up (by omega) (by omega), hb9⟩
                  clear hM9 hJ9 hb9 hkr hkw hvo8 HVO HVR HVL HOWN9 HGR9 HREC7 HB7 HW7 HR6 HJ6 HBw6 HLW6
                  go_wp2_with (go_at_call 9; refine HG9.mono ?_; rintro e g2 ⟨rfl, rfl⟩)
                  go_roundg (30 - (t + 1))
                  case measure => omega
                  case rel => exact ⟨t + 1, by omega, by omega, rfl, by go_num, HFIN⟩
                · have HJ6 : Hid (JS w.heap.size j a s k n false (t + 1) (50 * t + 30 + 1) cur cur false w6) := hJ6
                  clear hJ6
                  have HR6 := records_js w6 HJ6.out (by omega)
                  have HLW6 : Hid (w.heap.size ≤ w6.heap.size) := HJ6.out.low
                  obtain ⟨vs, hvo, hvl, hvr⟩ := HM6.out
                  obtain ⟨mp, mc, rfl, -⟩ := own_len hvo
                  have HVO : Hid (w6.ownsRow w.heap.size 33 1 (.slice mp M.length mc) M.length vs) := hvo
                  have HVR : Hid (∀ (i : Nat) (x : Value), vs[i]? = some x → ∃ m, M[i]? = some m ∧ RecAt w.heap.size w6 x m) := hvr
                  have HVL : Hid (vs.length = M.length) := hvl
                  clear hvo hvr hvl HM6
                  go_upto_region 17 with (first
                    | (go_at_call 12; refine HR6.mono ?_; rintro e w7 ⟨v7, rfl, hrec7, hb7⟩; obtain ⟨p7, c7, rfl, -⟩ := hrec7.drow; have HREC7 : Hid (RecAt w.heap.size w7 (.slice p7 cur.length c7) cur) := hrec7.low HLW6.out; have HB7 : Hid (Below w6.heap.size w6 w7) := hb7; have HW7 : Hid (w.heap.size ≤ w7.heap.size) := Nat.le_trans HLW6.out hb7.size; clear hrec7 hb7)
                    | (at_builtin; refine wpList_append_own _ rfl (.tmp 83) (.tmp 86) 34 rfl w.heap.size 33 i0 (.slice none 0 0) 1 24 Try.underlying34 hi hz0 hz1 hz2 rfl (by decide) _ _ _ rfl (own_of HVO.out (fun g hg => (below2 HB7.out (below_alloc _ _)).block g (HVO.out.lt g hg).2)) ⟨w7.heap.size, 0, none⟩ 1 1 [.slice p7 cur.length c7] rfl rfl (cells_lit w7 [.slice p7 cur.length c7] 33) (by intro u hu; simp at hu; subst hu; rfl) (by have := HML.out; unfold maxLen; omega) (by have := HML.out; omega) (by have := HW7.out; rw [World.size_alloc]; omega) ?_; intro v9 w9 hown9 hgr9 _; obtain ⟨p9, c9, rfl, -⟩ := own_len hown9; have HOWN9 : Hid (w9.ownsRow w.heap.size 33 1 (.slice p9 (M.length + 1) c9) (M.length + 1) (vs ++ [.slice p7 cur.length c7])) := hown9; have HGR9 : Hid ((w7.alloc (.cells #[.slice p7 cur.length c7] 33)).grownBy w9 (Value.slice mp M.length mc).ownBlock) := hgr9; clear hown9 hgr9))
                  have hvo8 : (w7.alloc (.cells #[.slice p7 cur.length c7] 33)).ownsRow w.heap.size 33 1 (.slice mp M.length mc) M.length vs := own_of HVO.out (fun g hg => (below2 HB7.out (below_alloc _ _)).block g (HVO.out.lt g hg).2)
                  have hkr := kr_grown HGR9.out (fun g hg => own_T hvo8 hg)
                  have hkw := kw_grown HGR9.out (fun g hg => own_T hvo8 hg)
                  have hM9 : MayAt w.heap.size w9 (.slice p9 (M.length + 1) c9) (M ++ [cur]) := MayAt.snoc (w := w7.alloc (.cells #[.slice p7 cur.length c7] 33)) (v := .bool true) HVL.out (fun i x hx => by obtain ⟨m, h1, h2⟩ := HVR.out i x hx; exact ⟨m, h1, h2.below (below2 HB7.out (below_alloc _ _))⟩) HOWN9.out hkr (HREC7.out.below (below_alloc _ _)) rfl
                  have hJ9 : JS w.heap.size j a s k n false (t + 1) (50 * t + 30 + 1) cur cur false w9 := (HJ6.out.below (below2 HB7.out (below_alloc _ _))).kw hkw
                  have hb9 : Below w.heap.size w w9 := by
                    have h8 : Below w.heap.size w (w7.alloc (.cells #[.slice p7 cur.length c7] 33)) := HBw6.out.trans (below_low (below2 HB7.out (below_alloc _ _)) HLW6.out)
                    exact h8.trans (below_grown HGR9.out (fun g hg => (hvo8.lt g hg).1) h8.size)
                  have HG9 := gone_js w9 hJ9
                  have HJ9 : Hid (JS w.heap.size j a s k n false (t + 1) (50 * t + 30 + 1) cur cur false w9) := hJ9
                  have HB9 : Hid (Below w.heap.size w w9) := hb9
                  have HR9 := records_js w9 hJ9 (by omega)
                  have HLW9 : Hid (w.heap.size ≤ w9.heap.size) := hJ9.low
                  clear hM9 hJ9 hb9 hkr hkw hvo8 HVO HVR HVL HOWN9 HGR9 HREC7 HB7 HW7 HR6 HJ6 HBw6 HLW6
                  go_wp2_with (first
                    | (go_at_call 9; refine HG9.mono ?_; rintro e g2 ⟨rfl, rfl⟩)
                    | (go_at_call 12; refine HR9.mono ?_; rintro e h2 ⟨v2, rfl, hrec2, hb2⟩; obtain ⟨p2, c2, rfl, -⟩ := hrec2.drow; have HREC2 : Hid (RecAt w.heap.size h2 (.slice p2 cur.length c2) cur) := hrec2.low HLW9.out; have HBh2 : Hid (Below g2.heap.size g2 h2) := hb2; clear hrec2 hb2))
                  have HFIN : Hid (∃ q, LS w j a s k n (t + 1) q (.slice (some ⟨h2.heap.size, 0, none⟩) 1 1) (h2.alloc (.cells #[.slice p2 cur.length c2] 33))) := ⟨false, [cur], cur, cur, may_one (Nat.le_trans HLW9.out HBh2.out.size) HREC2.out, List.mem_singleton.2 rfl, by simp, (HJ9.out.below (below2 HBh2.out (below_alloc _ _))).up (by omega) (by omega), HB9.out.trans (below_low (below2 HBh2.out (below_alloc _ _)) HLW9.out)⟩
                  go_roundg (30 - (t + 1))
                  case measure => omega
                  case rel => exact ⟨t + 1, by omega, by omega, rfl, by go_num, HFIN⟩
              · have b1 : (X.d == 1) = false := by simpa using d1
                by_cases d3 : X.d = 3
                · have b3 : (X.d == 3) = true := by simpa using d3
                  have HAN := anew_js W5 HJ5.out (by omega) (by omega) la ln lc X.l hdr5 (by have := HLX.out.2.1; have := hdr5.1; omega) (fun d hd => by have := HLX.out.2.2 d hd; omega)
                  clear hd5 hdr5 d0 d1 d3
                  go_wp2_with (go_at_call 9; refine HG.mono ?_; rintro e g1 ⟨rfl, rfl⟩)
                  refine HAN.mono ?_
                  rintro e w6 ⟨cc, rfl, H6⟩
                  obtain ⟨k6, hout⟩ := H6.out
                  have HM6 : Hid (MayAt w.heap.size w6 u11 M) := HM5.out.kj k6.2
                  have HBw6 : Hid (Below w.heap.size w w6) := HBw5.out.trans k6.1
                  clear H6 HAN k6 HG HM5 HBw5 HJ5
                  rcases hout with ⟨rfl, hJ6 | hJ6⟩ | ⟨hcc, hJ6⟩
                  · have HJ6 : Hid (JS w.heap.size j a s k n false (t + 1 + 1) (50 * t + 30 + 21) R X.l true w6) := hJ6
                    clear hJ6 HSAME
                    have HR6 := records_js w6 HJ6.out (by omega)
                    have HLW6 : Hid (w.heap.size ≤ w6.heap.size) := HJ6.out.low
                    obtain ⟨vs, hvo, hvl, hvr⟩ := HM6.out
                    obtain ⟨mp, mc, rfl, -⟩ := own_len hvo
                    have HVO : Hid (w6.ownsRow w.heap.size 33 1 (.slice mp M.length mc) M.length vs) := hvo
                    have HVR : Hid (∀ (i : Nat) (x : Value), vs[i]? = some x → ∃ m, M[i]? = some m ∧ RecAt w.heap.size w6 x m) := hvr
                    have HVL : Hid (vs.length = M.length) := hvl
                    clear hvo hvr hvl HM6
                    go_upto_region 22 with (first
                      | (go_at_call 12; refine HR6.mono ?_; rintro e w7 ⟨v7, rfl, hrec7, hb7⟩; obtain ⟨p7, c7, rfl, -⟩ := hrec7.drow; have HREC7 : Hid (RecAt w.heap.size w7 (.slice p7 X.l.length c7) X.l) := hrec7.low HLW6.out; have HB7 : Hid (Below w6.heap.size w6 w7) := hb7; have HW7 : Hid (w.heap.size ≤ w7.heap.size) := Nat.le_trans HLW6.out hb7.size; clear hrec7 hb7)
                      | (at_builtin; refine wpList_append_own _ rfl (.tmp 101) (.tmp 104) 34 rfl w.heap.size 33 i0 (.slice none 0 0) 1 24 Try.underlying34 hi hz0 hz1 hz2 rfl (by decide) _ _ _ rfl (own_of HVO.out (fun g hg => (below2 HB7.out (below_alloc _ _)).block g (HVO.out.lt g hg).2)) ⟨w7.heap.size, 0, none⟩ 1 1 [.slice p7 X.l.length c7] rfl rfl (cells_lit w7 [.slice p7 X.l.length c7] 33) (by intro u hu; simp at hu; subst hu; rfl) (by have := HML.out; unfold maxLen; omega) (by have := HML.out; omega) (by have := HW7.out; rw [World.size_alloc]; omega) ?_; intro v9 w9 hown9 hgr9 _; obtain ⟨p9, c9, rfl, -⟩ := own_len hown9; have HOWN9 : Hid (w9.ownsRow w.heap.size 33 1 (.slice p9 (M.length + 1) c9) (M.length + 1) (vs ++ [.slice p7 X.l.length c7])) := hown9; have HGR9 : Hid ((w7.alloc (.cells #[.slice p7 X.l.length c7] 33)).grownBy w9 (Value.slice mp M.length mc).ownBlock) := hgr9; clear hown9 hgr9))
                    have hvo8 : (w7.alloc (.cells #[.slice p7 X.l.length c7] 33)).ownsRow w.heap.size 33 1 (.slice mp M.length mc) M.length vs := own_of HVO.out (fun g hg => (below2 HB7.out (below_alloc _ _)).block g (HVO.out.lt g hg).2)
                    have hkr := kr_grown HGR9.out (fun g hg => own_T hvo8 hg)
                    have hkw := kw_grown HGR9.out (fun g hg => own_T hvo8 hg)
                    have hM9 : MayAt w.heap.size w9 (.slice p9 (M.length + 1) c9) (M ++ [X.l]) := MayAt.snoc (w := w7.alloc (.cells #[.slice p7 X.l.length c7] 33)) (v := .bool true) HVL.out (fun i x hx => by obtain ⟨m, h1, h2⟩ := HVR.out i x hx; exact ⟨m, h1, h2.below (below2 HB7.out (below_alloc _ _))⟩) HOWN9.out hkr (HREC7.out.below (below_alloc _ _)) rfl
                    have hJ9 : JS w.heap.size j a s k n false (t + 1 + 1) (50 * t + 30 + 21) R X.l true w9 := (HJ6.out.below (below2 HB7.out (below_alloc _ _))).kw hkw
                    have hb9 : Below w.heap.size w w9 := by
                      have h8 : Below w.heap.size w (w7.alloc (.cells #[.slice p7 X.l.length c7] 33)) := HBw6.out.trans (below_low (below2 HB7.out (below_alloc _ _)) HLW6.out)
                      exact h8.trans (below_grown HGR9.out (fun g hg => (hvo8.lt g hg).1) h8.size)
                    have HG9 := gone_js w9 hJ9
                    have HFIN : Hid (∃ q, LS w j a s k n (t + 1) q (.slice p9 (M.length + 1) c9) w9) := ⟨true, M ++ [X.l], R, X.l, hM9, List.mem_append_left _ HRM.out, by rw [List.length_append, List.length_singleton]; have := HML.out; omega, hJ9.up (by omega) (by omega), hb9⟩
                    clear hM9 hJ9 hb9 hkr hkw hvo8 HVO HVR HVL HOWN9 HGR9 HREC7 HB7 HW7 HR6 HJ6 HBw6 HLW6
                    go_wp2_with (go_at_call 9; refine HG9.mono ?_; rintro e g2 ⟨rfl, rfl⟩)
                    go_roundg (30 - (t + 1))
                    case measure => omega
                    case rel => exact ⟨t + 1, by omega, by omega, rfl, by go_num, HFIN⟩
                  · have HJ6 : Hid (JS w.heap.size j a s k n false (t + 1 + 1) (50 * t + 30 + 21) X.l X.l false w6) := hJ6
                    clear hJ6 HSAME
                    have HR6 := records_js w6 HJ6.out (by omega)
                    have HLW6 : Hid (w.heap.size ≤ w6.heap.size) := HJ6.out.low
                    obtain ⟨vs, hvo, hvl, hvr⟩ := HM6.out
                    obtain ⟨mp, mc, rfl, -⟩ := own_len hvo
                    have HVO : Hid (w6.ownsRow w.heap.size 33 1 (.slice mp M.length mc) M.length vs) := hvo
                    have HVR : Hid (∀ (i : Nat) (x : Value), vs[i]? = some x → ∃ m, M[i]? = some m ∧ RecAt w.heap.size w6 x m) := hvr
                    have HVL : Hid (vs.length = M.length) := hvl
                    clear hvo hvr hvl HM6
                    go_upto_region 22 with (first
                      | (go_at_call 12; refine HR6.mono ?_; rintro e w7 ⟨v7, rfl, hrec7, hb7⟩; obtain ⟨p7, c7, rfl, -⟩ := hrec7.drow; have HREC7 : Hid (RecAt w.heap.size w7 (.slice p7 X.l.length c7) X.l) := hrec7.low HLW6.out; have HB7 : Hid (Below w6.heap.size w6 w7) := hb7; have HW7 : Hid (w.heap.size ≤ w7.heap.size) := Nat.le_trans HLW6.out hb7.size; clear hrec7 hb7)
                      | (at_builtin; refine wpList_append_own _ rfl (.tmp 101) (.tmp 104) 34 rfl w.heap.size 33 i0 (.slice none 0 0) 1 24 Try.underlying34 hi hz0 hz1 hz2 rfl (by decide) _ _ _ rfl (own_of HVO.out (fun g hg => (below2 HB7.out (below_alloc _ _)).block g (HVO.out.lt g hg).2)) ⟨w7.heap.size, 0, none⟩ 1 1 [.slice p7 X.l.length c7] rfl rfl (cells_lit w7 [.slice p7 X.l.length c7] 33) (by intro u hu; simp at hu; subst hu; rfl) (by have := HML.out; unfold maxLen; omega) (by have := HML.out; omega) (by have := HW7.out; rw [World.size_alloc]; omega) ?_; intro v9 w9 hown9 hgr9 _; obtain ⟨p9, c9, rfl, -⟩ := own_len hown9; have HOWN9 : Hid (w9.ownsRow w.heap.size 33 1 (.slice p9 (M.length + 1) c9) (M.length + 1) (vs ++ [.slice p7 X.l.length c7])) := hown9; have HGR9 : Hid ((w7.alloc (.cells #[.slice p7 X.l.length c7] 33)).grownBy w9 (Value.slice mp M.length mc).ownBlock) := hgr9; clear hown9 hgr9))
                    have hvo8 : (w7.alloc (.cells #[.slice p7 X.l.length c7] 33)).ownsRow w.heap.size 33 1 (.slice mp M.length mc) M.length vs := own_of HVO.out (fun g hg => (below2 HB7.out (below_alloc _ _)).block g (HVO.out.lt g hg).2)
                    have hkr := kr_grown HGR9.out (fun g hg => own_T hvo8 hg)
                    have hkw := kw_grown HGR9.out (fun g hg => own_T hvo8 hg)
                    have hM9 : MayAt w.heap.size w9 (.slice p9 (M.length + 1) c9) (M ++ [X.l]) := MayAt.snoc (w := w7.alloc (.cells #[.slice p7 X.l.length c7] 33)) (v := .bool true) HVL.out (fun i x hx => by obtain ⟨m, h1, h2⟩ := HVR.out i x hx; exact ⟨m, h1, h2.below (below2 HB7.out (below_alloc _ _))⟩) HOWN9.out hkr (HREC7.out.below (below_alloc _ _)) rfl
                    have hJ9 : JS w.heap.size j a s k n false (t + 1 + 1) (50 * t + 30 + 21) X.l X.l false w9 := (HJ6.out.below (below2 HB7.out (below_alloc _ _))).kw hkw
                    have hb9 : Below w.heap.size w w9 := by
                      have h8 : Below w.heap.size w (w7.alloc (.cells #[.slice p7 X.l.length c7] 33)) := HBw6.out.trans (below_low (below2 HB7.out (below_alloc _ _)) HLW6.out)
                      exact h8.trans (below_grown HGR9.out (fun g hg => (hvo8.lt g hg).1) h8.size)
                    have HG9 := gone_js w9 hJ9
                    have HJ9 : Hid (JS w.heap.size j a s k n false (t + 1 + 1) (50 * t + 30 + 21) X.l X.l false w9) := hJ9
                    have HB9 : Hid (Below w.heap.size w w9) := hb9
                    have HR9 := records_js w9 hJ9 (by omega)
                    have HLW9 : Hid (w.heap.size ≤ w9.heap.size) := hJ9.low
                    clear hM9 hJ9 hb9 hkr hkw hvo8 HVO HVR HVL HOWN9 HGR9 HREC7 HB7 HW7 HR6 HJ6 HBw6 HLW6
                    go_wp2_with (first
                      | (go_at_call 9; refine HG9.mono ?_; rintro e g2 ⟨rfl, rfl⟩)
                      | (go_at_call 12; refine HR9.mono ?_; rintro e h2 ⟨v2, rfl, hrec2, hb2⟩; obtain ⟨p2, c2, rfl, -⟩ := hrec2.drow; have HREC2 : Hid (RecAt w.heap.size h2 (.slice p2 X.l.length c2) X.l) := hrec2.low HLW9.out; have HBh2 : Hid (Below g2.heap.size g2 h2) := hb2; clear hrec2 hb2))
                    have HFIN : Hid (∃ q, LS w j a s k n (t + 1) q (.slice (some ⟨h2.heap.size, 0, none⟩) 1 1) (h2.alloc (.cells #[.slice p2 X.l.length c2] 33))) := ⟨false, [X.l], X.l, X.l, may_one (Nat.le_trans HLW9.out HBh2.out.size) HREC2.out, List.mem_singleton.2 rfl, by simp, (HJ9.out.below (below2 HBh2.out (below_alloc _ _))).up (by omega) (by omega), HB9.out.trans (below_low (below2 HBh2.out (below_alloc _ _)) HLW9.out)⟩
                    go_roundg (30 - (t + 1))
                    case measure => omega
                    case rel => exact ⟨t + 1, by omega, by omega, rfl, by go_num, HFIN⟩
                  · have hcb : ((cc : Int) == 0) = false := by simp; omega
                    have HFIN : Hid (∃ q, LS w j a s k n (t + 1) q u11 w6) := ⟨false, M, R, cur, HM6.out, HRM.out, by have := HML.out; omega, hJ6.up (by omega) (by omega), HBw6.out⟩
                    clear hJ6 hcc
                    go_wp2
                    go_roundg (30 - (t + 1))
                    case measure => omega
                    case rel => exact ⟨t + 1, by omega, by omega, rfl, by go_num, HFIN⟩
                · have b3 : (X.d == 3) = false := by simpa using d3
                  by_cases d4 : X.d = 4
                  · have b4 : (X.d == 4) = true := by simpa using d4
                    have HAR := arm_js W5 HJ5.out X.n hn1
                    clear hd5 hdr5 HSAME d0 d1 d3 d4
                    go_wp2_with (first | (go_at_call 9; refine HG.mono ?_; rintro e g1 ⟨rfl, rfl⟩) | (go_at_call 14; refine HAR.mono ?_; rintro e w6 ⟨rfl, H6⟩))
                    have HFIN : Hid (∃ q, LS w j a s k n (t + 1) q u11 w6) := ⟨false, M, R, cur, HM5.out.kj H6.out.1.2, HRM.out, by have := HML.out; omega, H6.out.2.up (by omega) (by omega), HBw5.out.trans H6.out.1.1⟩
                    go_roundg (30 - (t + 1))
                    case measure => omega
                    case rel => exact ⟨t + 1, by omega, by omega, rfl, by go_num, HFIN⟩
                  · have b4 : (X.d == 4) = false := by simpa using d4
                    clear hd5 hdr5 d0 d1 d3 d4
                    go_wp2_with (go_at_call 9; refine HG.mono ?_; rintro e g1 ⟨rfl, rfl⟩)
                    go_roundg (30 - (t + 1))
                    case measure => omega
                    case rel => exact ⟨t + 1, by omega, by omega, rfl, by go_num, HSAME⟩
          · have HX : Hid (∃ q, LS w j a s k n 30 q u11 W5) := ⟨true, M, R, cur, HM5.out, HRM.out, by have := HML.out; omega, HJ5.out.up (by omega) (by omega), HBw5.out⟩
            clear hd5 hdr5
            go_wp2_with (go_at_call 9; refine HG.mono ?_; rintro e g1 ⟨rfl, rfl⟩)
            go_meet
            exact HX
        · have HX : Hid (∃ q, LS w j a s k n 30 q u11 wr) := by
            obtain ⟨q, M, R, cur, hM, hR, hMl, hJ, hb⟩ := HI.out
            exact ⟨q, M, R, cur, hM, hR, by omega, hJ.up (A' := 30 + 1) (P' := 50 * 30 + 30) (by omega) (by omega), hb⟩
          have hex : t = n1 ∨ (t < n1 ∧ ¬ (t : Int) < 30) := by omega
          clear hlt HI
          rcases hex with rfl | ⟨h1, h2⟩
          · have hnl : ¬ (t : Int) < (t : Int) := by omega
            go_wp2
            go_meet
            exact HX
          · have h1' : (t : Int) < (n1 : Int) := by omega
            go_wp2
            go_meet
            exact HX
    case rest =>
      obtain ⟨q0, M, R, cur0, hM0, hR0, hMl0, hJ0, hb0⟩ := hcut.out
      have hRM : R ∈ M := hR0
      obtain ⟨mp, mc, rfl, -⟩ : ∃ mp mc, u11 = .slice mp M.length mc ∧ True := by
        obtain ⟨vs, hvo, -⟩ := hM0
        obtain ⟨mp, mc, e, -⟩ := own_len hvo
        exact ⟨mp, mc, e, trivial⟩
      obtain ⟨hwa, hws, hwk⟩ : w.heap.size ≤ a ∧ w.heap.size ≤ s ∧ w.heap.size ≤ k := by
        obtain ⟨D, J, pv, fv, b, g, h1, -⟩ := hJ0
        exact ⟨h1.d.ba, h1.d.bs, h1.d.bk⟩
      have HS0 : Hid (MayAt w.heap.size wc (.slice mp M.length mc) M ∧ DS w.heap.size a s k n false 31 1530 R false wc ∧ Below w.heap.size w wc) := ⟨hM0, hJ0.ds, hb0⟩
      have HRM : Hid (R ∈ M) := hRM
      have HML : Hid (M.length ≤ 31) := hMl0
      have HWA : Hid (w.heap.size ≤ a ∧ w.heap.size ≤ s ∧ w.heap.size ≤ k) := ⟨hwa, hws, hwk⟩
      clear hM0 hR0 hMl0 hJ0 hb0 hcut hRM HST hwa hws hwk HLG HL
      go_wp2_with fail
      go_loopg [14] 5 (fun g i wx => ∃ t : Nat, t ≤ 4 ∧ g = 5 - t ∧ i = .int .i64 (t : Int) ∧ Hid (MayAt w.heap.size wx (.slice mp M.length mc) M ∧ DS w.heap.size a s k n false (31 + 2 * t) (1530 + 50 * t) R false wx ∧ Below w.heap.size w wx))
      case atStart => exact ⟨0, Nat.zero_le _, rfl, rfl, HS0⟩
      case round =>
        obtain ⟨t, ht4, rfl, rfl, HI⟩ := hrel
        by_cases hlt : t ≤ n2 ∧ t < 4
        · obtain ⟨hl1, hl2⟩ := hlt
          have hk0 : (0 : Int) ≤ (t : Int) := by omega
          have hk1 : (t : Int) ≤ (n2 : Int) := by omega
          have hk2 : (t : Int) < 4 := by omega
          go_upto_if 132 with fail
          go_cut [] from 119 to 190 (fun wx => Hid (MayAt w.heap.size wx (.slice mp M.length mc) M ∧ DS w.heap.size a s k n false (31 + 2 * t) (1530 + 50 * t) R true wx ∧ Below w.heap.size w wx))
          case first =>
            obtain ⟨hM, hD, hb⟩ := HI.out
            have HM : Hid (MayAt w.heap.size wr (.slice mp M.length mc) M) := hM
            have HB : Hid (Below w.heap.size w wr) := hb
            clear HI
            by_cases htn : t < n2
            · have hk3 : (t : Int) < (n2 : Int) := by omega
              rcases HC.out.2.2.2 with h0 | ⟨b9, o9, rfl, hc⟩
              · omega
              obtain ⟨c0, c1, c2, c3, c4, ⟨e0, e1', e2, e3, e4⟩, -, rfl, hn1, hn2, -, pa, pl, pc, rfl, hBo⟩ := hc t htn
              have g2 := cell_below e2 hb
              have g4 := cell_below e4 hb
              have HE2 : Hid (∀ w', Below w.heap.size w w' → w'.cell? ⟨b9, o9 + t * 5 + 2, none⟩ = some (.int .i64 (C.getD t a9z).n)) := fun w' hb' => cell_below e2 hb'
              have hpl : pl ≤ 9223372036854775807 := by have := Nat.le_trans hBo.lc hBo.cm; unfold maxLen at this; omega
              have HCR := crash_ds wr hD pa pc (C.getD t a9z).pat pl hBo.eq (hBo.pat hb (Nat.le_refl _) HWA.out.1 HWA.out.2.1 HWA.out.2.2) (by omega)
              generalize (C.getD t a9z).n = N9 at *
              clear hc e0 e1' e2 e3 e4 hBo hM hD hb
              by_cases hp : (60 : Int) < (pl : Int)
              · clear HCR
                go_wp2_with (go_at_call 8; refine (awakeJ_any _).mono ?_; rintro e w4 ⟨rfl, hb4⟩)
                go_ret
                exact ⟨rfl, below2 HB.out hb4⟩
              · go_upto_region 33 with (go_at_call 15; refine HCR.mono ?_; rintro e w6 ⟨rfl, H6⟩)
                have HB6 : Hid (Below w.heap.size w w6) := HB.out.trans H6.out.1.1
                have HM6 : Hid (MayAt w.heap.size w6 (.slice mp M.length mc) M) := HM.out.kj H6.out.1.2
                clear HCR g2 g4
                by_cases ht0 : t = 0
                · have hz0 : ¬ (0 : Int) < (t : Int) := by omega
                  have HX : Hid (MayAt w.heap.size w6 (.slice mp M.length mc) M ∧ DS w.heap.size a s k n false (31 + 2 * t) (1530 + 50 * t) R true w6 ∧ Below w.heap.size w w6) := ⟨HM6.out, H6.out.2, HB6.out⟩
                  clear ht0
                  go_wp2
                  go_meet
                  exact HX
                · have hz0 : (0 : Int) < (t : Int) := by omega
                  have g6 := HE2.out w6 HB6.out
                  have htm : N9.tmod 12 ≤ 9223372036854775807 := by
                    have := Int.tmod_lt_of_pos N9 (b := 12) (by decide)
                    omega
                  have HAR := arm_ds w6 H6.out.2 (N9.tmod 12) htm
                  clear ht0 H6
                  go_wp2_with (go_at_call 14; refine HAR.mono ?_; rintro e w7 ⟨rfl, H7⟩)
                  have HX : Hid (MayAt w.heap.size w7 (.slice mp M.length mc) M ∧ DS w.heap.size a s k n false (31 + 2 * t) (1530 + 50 * t) R true w7 ∧ Below w.heap.size w w7) := ⟨HM6.out.kj H7.out.1.2, H7.out.2, HB6.out.trans H7.out.1.1⟩
                  go_meet
                  exact HX
            · have hk3 : ¬ (t : Int) < (n2 : Int) := by omega
              have HCR := crash_ds wr hD none 0 [] 0 rfl (pat_none _ _ _ _ _) (by decide)
              clear hM hD hb
              go_wp2_with (go_at_call 15; refine HCR.mono ?_; rintro e w6 ⟨rfl, H6⟩)
              have HX : Hid (MayAt w.heap.size w6 (.slice mp M.length mc) M ∧ DS w.heap.size a s k n false (31 + 2 * t) (1530 + 50 * t) R true w6 ∧ Below w.heap.size w w6) := ⟨HM.out.kj H6.out.1.2, H6.out.2, HB.out.trans H6.out.1.1⟩
              go_meet
              exact HX
          case rest =>
            obtain ⟨hM, hD, hb⟩ := hcut.out
            have HO := open_ds wc hD (by omega) (by omega)
            have HM : Hid (MayAt w.heap.size wc (.slice mp M.length mc) M) := hM
            have HB : Hid (Below w.heap.size w wc) := hb
            clear hM hD hb hcut HI
            go_upto_region 39 with (go_at_call 6; refine HO.mono ?_; rintro e w6 ⟨j6, rfl, H6⟩)
            obtain ⟨k6, q6, -, hJ6⟩ := H6.out
            have HG := gone_js w6 hJ6
            have HM6 : Hid (MayAt w.heap.size w6 (.slice mp M.length mc) M) := HM.out.kj k6.2
            have HB6 : Hid (Below w.heap.size w w6) := HB.out.trans k6.1
            have HJ6 : Hid (JS w.heap.size j6 a s k n false (31 + 2 * t + 1) (1530 + 50 * t + 21) R R q6 w6) := hJ6
            have HFD : Hid (∀ w', Below w6.heap.size w6 w' → MayAt w.heap.size w' (.slice mp M.length mc) M ∧ DS w.heap.size a s k n false (31 + 2 * (t + 1)) (1530 + 50 * (t + 1)) R false w' ∧ Below w.heap.size w w') := fun w' hb' => ⟨HM6.out.below hb', ((HJ6.out.below hb').up (by omega) (by omega)).ds, HB6.out.trans (below_low hb' HJ6.out.low)⟩
            clear HO H6 k6 hJ6 HM HB
            cases q6
            · have HR6 : Hid (∀ w', Below w6.heap.size w6 w' → Calls Try.prog 12 #[.pointer (some ⟨j6, 0, none⟩)] w' fun e w'' => ∃ p c, e = .returned (.slice p R.length c) ∧ Hid (Fr.DRow w'' p R.length c R ∧ Below w'.heap.size w' w'')) := fun w' hb' => by
                refine (records_js w' (HJ6.out.below hb') (by omega)).mono ?_
                rintro e w'' ⟨v, rfl, h1, h2⟩
                obtain ⟨p, c, rfl, hd⟩ := h1.drow
                exact ⟨p, c, rfl, hd, h2⟩
              go_wp2_with (go_at_call 9; refine HG.mono ?_; rintro e g1 ⟨rfl, rfl⟩)
              go_loopg [17, 18] (M.length + 1) (fun g f m wx => ∃ (i : Nat) (fb : Bool), i ≤ M.length ∧ g = M.length + 1 - i ∧ m = .int .i64 (i : Int) ∧ f = .bool fb ∧ Below g1.heap.size g1 wx ∧ Hid (∀ l, l < i → M[l]? = some R → fb = true))
              case atStart => exact ⟨0, false, Nat.zero_le _, rfl, rfl, rfl, Below.refl _ _, fun l hl => absurd hl (Nat.not_lt_zero _)⟩
              case round =>
                obtain ⟨i, fb, hi, rfl, rfl, rfl, hbx, HF⟩ := hrel
                have hMl : M.length ≤ 31 := HML.out
                by_cases hil : i < M.length
                · obtain ⟨vs, hvo, hvl, hvr⟩ := HM6.out.below hbx
                  obtain ⟨x, hx⟩ : ∃ x, vs[i]? = some x := ⟨vs[i]'(by omega), List.getElem?_eq_getElem (by omega)⟩
                  obtain ⟨m, hm, hrec⟩ := hvr i x hx
                  obtain ⟨xp, xc, rfl, hdm⟩ := hrec.drow
                  obtain ⟨gg, rfl⟩ : ∃ gg, mp = some ⟨gg, 0, none⟩ := by
                    rcases hvo.2 with ⟨e, h0⟩ | ⟨g3, cap3, cur3, e, -⟩
                    · omega
                    · injection e with e1 e2 e3
                      exact ⟨g3, e1⟩
                  have hcell : wr.cell? ⟨gg, i, none⟩ = some (.slice xp m.length xc) := (hvo.cellAt i (by omega)).trans hx
                  have hgl : gg < wr.heap.size := World.block_lt_of_cell? wr ⟨gg, i, none⟩ hcell
                  have hi0 : (0 : Int) ≤ (i : Int) := by omega
                  have hi1 : (i : Int) < ((M.length : Nat) : Int) := by omega
                  have HNX : Hid (∀ f2 : Bool, (fb = true → f2 = true) → (m = R → f2 = true) → ∀ l, l < i + 1 → M[l]? = some R → f2 = true) := fun f2 h1 h2 l hl hml => by
                    by_cases e : l = i
                    · subst e
                      rw [hm] at hml
                      exact h2 (Option.some.inj hml)
                    · exact h1 (HF.out l (by omega) hml)
                  have HK : Hid (∀ w', Below wr.heap.size wr w' → w'.cell? ⟨gg, i, none⟩ = some (.slice xp m.length xc) ∧ Below wr.heap.size wr w') := fun w' hb' => ⟨(hb'.cell (p := ⟨gg, i, none⟩) hgl).trans hcell, hb'⟩
                  have HRC : Hid (∀ w', Below wr.heap.size wr w' → Calls Try.prog 12 #[.pointer (some ⟨j6, 0, none⟩)] w' fun e w'' => ∃ p c, e = .returned (.slice p R.length c) ∧ Hid (Fr.DRow w'' p R.length c R ∧ Below w'.heap.size w' w'')) := fun w' hb' => HR6.out w' (below2 hbx hb')
                  have HLI : Hid (∀ w' p c, Below wr.heap.size wr w' → Fr.DRow w' p R.length c R → Calls Try.prog 16 #[.slice xp m.length xc, .slice p R.length c] w' fun e w'' => Fr.ListPost w' m R e w'') := fun w' p c hb' hd' => Fr.list_any _ _ _ _ _ _ m R w' (hdm.below hb') hd'
                  have HBX : Hid (Below g1.heap.size g1 wr) := hbx
                  clear hvo hvr hvl hx hm hrec hdm HF hbx
                  cases fb
                  · go_wp2_with fail
                    refine whole_f _ _ _ _ _ _ _ _ _ _ _ _ _ _ _ _ _ _ _ _ _ _ _ _ _ _ _ _ _ _ _ _ _ _ _ _ _ _ _ _ _ _ _ _ _ _ _ _ _ _ _ _ _ _ _ _ _ _ _ _ _ _ _ _ _ _ _ _ _ _ _ _ _ _ _ _ _ _ _ _ _ _ _ _ _ _ _ _ _ _ _ _ _ _ _ _ _ _ _ _ _ _ _ _ _ _ _ _ _ _ _ _ _ _ _ _ _ _ _ _ _ _ _ _ _ _ _ _ _ _ _ _ _ _ _ _ _ _ _ _ _ _ _ _ _ _ _ _ _ _ _ _ _ _ _ _ _ _ _ _ _ _ _ _ _ _ _ _ _ _ _ _ _ _ _ _ _ _ _ _ _ _ _ _ _ _ _ _ gg M.length mc j6 i xp m.length xc m R wr _ hcell hi1 HRC HLI ?_
                    intro r179 r180 r181 r182 r183 r184 r185 r186 r187 r188 q8 w8 hq8 hb8
                    dsimp only
                    have HB8 : Hid (Below g1.heap.size g1 w8) := below2 HBX.out hb8
                    have HN8 : Hid (∀ l, l < i + 1 → M[l]? = some R → q8 = true) := HNX.out q8 (fun h => absurd h (by decide)) (fun h => hq8.2 h)
                    clear HK HRC HLI HNX hb8 hq8
                    go_wp2
                    go_roundg (M.length + 1 - (i + 1))
                    case measure => omega
                    case rel => exact ⟨i + 1, q8, by omega, rfl, by go_num, rfl, HB8.out, HN8⟩
                  · go_wp2_with fail
                    refine whole_t _ _ _ _ _ _ _ _ _ _ _ _ _ _ _ _ _ _ _ _ _ _ _ _ _ _ _ _ _ _ _ _ _ _ _ _ _ _ _ _ _ _ _ _ _ _ _ _ _ _ _ _ _ _ _ _ _ _ _ _ _ _ _ _ _ _ _ _ _ _ _ _ _ _ _ _ _ _ _ _ _ _ _ _ _ _ _ _ _ _ _ _ _ _ _ _ _ _ _ _ _ _ _ _ _ _ _ _ _ _ _ _ _ _ _ _ _ _ _ _ _ _ _ _ _ _ _ _ _ _ _ _ _ _ _ _ _ _ _ _ _ _ _ _ _ _ _ _ _ _ _ _ _ _ _ _ _ _ _ _ _ _ _ _ _ _ _ _ _ _ _ _ _ _ _ _ _ _ _ _ _ _ _ _ _ _ _ _ gg M.length mc j6 i wr _ ?_
                    intro r179 r180 r181 r182 r183 r184 r185 r186 r187 r188 w8 hb8
                    dsimp only
                    have HB8 : Hid (Below g1.heap.size g1 w8) := below2 HBX.out hb8
                    clear HK HRC HLI HNX
                    go_wp2
                    go_roundg (M.length + 1 - (i + 1))
                    case measure => omega
                    case rel => exact ⟨i + 1, true, by omega, rfl, by go_num, rfl, HB8.out, fun _ _ _ => rfl⟩
                · obtain rfl : i = M.length := by omega
                  have hfb : fb = true := by
                    obtain ⟨l, hl, e⟩ := List.getElem_of_mem HRM.out
                    exact HF.out l hl (by rw [List.getElem?_eq_getElem hl, e])
                  subst hfb
                  have hnl : ¬ ((M.length : Nat) : Int) < ((M.length : Nat) : Int) := by omega
                  have HX := HFD.out wr hbx
                  have HX2 : Hid (MayAt w.heap.size wr (.slice mp M.length mc) M ∧ DS w.heap.size a s k n false (31 + 2 * (t + 1)) (1530 + 50 * (t + 1)) R false wr ∧ Below w.heap.size w wr) := HX
                  clear HX HF HR6
                  go_wp2
                  go_roundg (5 - (t + 1))
                  case measure => omega
                  case rel => exact ⟨t + 1, by omega, rfl, by go_num, HX2⟩
            · have HX : Hid (MayAt w.heap.size w6 (.slice mp M.length mc) M ∧ DS w.heap.size a s k n false (31 + 2 * (t + 1)) (1530 + 50 * (t + 1)) R false w6 ∧ Below w.heap.size w w6) := HFD.out w6 (Below.refl _ _)
              clear HFD
              go_wp2_with (go_at_call 9; refine HG.mono ?_; rintro e g1 ⟨rfl, rfl⟩)
              go_roundg (5 - (t + 1))
              case measure => omega
              case rel => exact ⟨t + 1, by omega, rfl, by go_num, HX⟩
        · have hex : ¬ (t : Int) ≤ (n2 : Int) ∨ ((t : Int) ≤ (n2 : Int) ∧ ¬ (t : Int) < 4) := by omega
          have HB : Hid (Below w.heap.size w wr) := HI.out.2.2
          clear hlt HI
          rcases hex with h1 | ⟨h1, h2⟩
          · go_wp2_with (go_at_call 8; refine (awakeJ_any _).mono ?_; rintro e w4 ⟨rfl, hb4⟩)
            go_ret
            exact ⟨rfl, below2 HB.out hb4⟩
          · go_wp2_with (go_at_call 8; refine (awakeJ_any _).mono ?_; rintro e w4 ⟨rfl, hb4⟩)
            go_ret
            exact ⟨rfl, below2 HB.out hb4⟩
end Go.Proofs.Ytmkmogkhkmlnkaa.Dm
