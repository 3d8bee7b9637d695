/-
  The contract of Pick.
-/
import Derived.Test.YtejhmacbbdnlbaaAcV
namespace Go.Proofs.Ytejhmacbbdnlbaa.Ac
open Go.ChangeShapes Go.WideShapes Go.ChangeAt Go.RowKit
def PickPost (H : List (List Acd)) (w : World) (e : Ending) (w' : World) : Prop := Below w.heap.size w w' ∧ ∃ (best : List Acd) (a : Option Addr) (c : Nat), Bst H best ∧ e = .returned (.slice a best.length c) ∧ OwnA w' w.heap.size (.slice a best.length c) (best.map fixA)
theorem bst_mem {H : List (List Acd)} {best : List Acd} (h : Bst H best) {i : Nat} (hi : i < best.length) : ∃ t ∈ H, best.getD i acd0 ∈ t ∧ i < t.length := by
  obtain ⟨⟨t, ht, h1, h2⟩, -⟩ := h.2 i hi
  exact ⟨t, ht, by rw [← h2]; exact mem_getD h1, h1⟩
theorem bst_len {H : List (List Acd)} {best : List Acd} (h : Bst H best) (hs : ∀ t ∈ H, Slim t) : best.length ≤ 300 := by
  by_cases h0 : best.length = 0
  · omega
  · obtain ⟨t, ht, -, h2⟩ := bst_mem h (i := best.length - 1) (by omega)
    have := (hs t ht).1
    omega
theorem take_last {H : List (List Acd)} {j : Nat} (hj : j < H.length) : H.take j ++ [(H.getD j []).take (H.getD j []).length] = H.take (j + 1) := by
  rw [List.take_length, List.take_add_one, List.getElem?_eq_getElem hj, List.getD_eq_getElem?_getD, List.getElem?_eq_getElem hj]
  rfl
theorem slim_take {H : List (List Acd)} (hs : ∀ t ∈ H, Slim t) (j q : Nat) (hj : j < H.length) : ∀ t ∈ H.take j ++ [(H.getD j []).take q], Slim t := fun t ht => by
  rcases List.mem_append.1 ht with ht | ht
  · exact hs t (List.mem_of_mem_take ht)
  · obtain rfl : t = (H.getD j []).take q := by simpa using ht
    have hm : H.getD j [] ∈ H := by
      rw [List.getD_eq_getElem?_getD, List.getElem?_eq_getElem hj]
      exact List.getElem_mem hj
    obtain ⟨h1, h2⟩ := hs _ hm
    exact ⟨by rw [List.length_take]; omega, fun x hx => h2 x (List.mem_of_mem_take hx)⟩
set_option maxHeartbeats 4000000 in
set_option maxRecDepth 60000 in
theorem pick_any (a : Option Addr) (n cap : Nat) (H : List (List Acd)) (w : World) (h : LisAt w a n cap H) (hs : ∀ t ∈ H, Slim t) : Calls Try.prog 18 #[.slice a n cap] w fun e w' => PickPost H w e w' := by
  have hnm : n ≤ maxLen := Nat.le_trans h.2.1 h.2.2.1
  unfold maxLen at hnm
  have HH := Hid.mk9 h
  have HN := Hid.mk9 h.1
  have HS := Hid.mk9 hs
  clear h hs
  go_enter Try.func18, Try.ntmps18
  go_wp2_with fail
  go_loopw [3, 12] (fun bv i wr => ∃ (j m : Nat) (a' : Option Addr) (c' : Nat), bv = .slice a' m c' ∧ i = .int .i64 (j : Int) ∧ j ≤ n ∧ Hid (∃ best, best.length = m ∧ Bst (H.take j) best ∧ OwnB w wr (.slice a' m c') best ∧ Below w.heap.size w wr)) (fun _ i _ => n - (intOf i).toNat)
  case atStart => exact ⟨0, 0, none, 0, rfl, rfl, Nat.zero_le _, Hid.mk9 ⟨[], rfl, bst_nil, ⟨[], rfl, own_nothing w w.heap.size 49 8, by simp⟩, Below.refl _ _⟩⟩
  case round =>
    obtain ⟨j, m, a1, c1, rfl, rfl, hj, hR⟩ := hrel
    by_cases hlt : j < n
    · have hj1 : (j : Int) < (n : Int) := by omega
      have hj0 : (0 : Int) ≤ (j : Int) := by omega
      obtain ⟨b, off, rfl, at0, lt, ct, hat, hcell⟩ := HH.out.at hlt
      obtain ⟨best0, hb0, hbst0, ho0, hw0⟩ := hR.out
      have x0 := hcell wr hw0
      have hjH : j < H.length := by rw [HN.out]; exact hlt
      obtain ⟨T, hT⟩ : ∃ T, H.getD j [] = T := ⟨_, rfl⟩
      rw [hT] at hat
      have HT := Hid.mk9 hT
      have HAT := Hid.mk9 hat
      have hlm : lt ≤ maxLen := Nat.le_trans hat.2.1 hat.2.2.1
      unfold maxLen at hlm
      have HR0 : Hid (∃ best, best.length = m ∧ Bst (H.take j ++ [T.take 0]) best ∧ OwnB w wr (.slice a1 m c1) best ∧ Below w.heap.size w wr) := Hid.mk9 ⟨best0, hb0, bst_next hbst0, ho0, hw0⟩
      have HJH := Hid.mk9 hjH
      have HSl : Hid (∀ q, ∀ t ∈ H.take j ++ [T.take q], Slim t) := Hid.mk9 fun q => by rw [← hT]; exact slim_take HS.out j q hjH
      clear hR hb0 hbst0 ho0 hw0 hcell hat hT hjH
      go_wp2_with fail
      go_loopw [3, 18] (fun bv i wq => ∃ (q m : Nat) (a' : Option Addr) (c' : Nat), bv = .slice a' m c' ∧ i = .int .i64 (q : Int) ∧ q ≤ lt ∧ Hid (∃ best, best.length = m ∧ Bst (H.take j ++ [T.take q]) best ∧ OwnB w wq (.slice a' m c') best ∧ Below w.heap.size w wq)) (fun _ i _ => lt - (intOf i).toNat)
      case atStart => exact ⟨0, m, a1, c1, rfl, rfl, Nat.zero_le _, HR0⟩
      case round =>
        obtain ⟨k, m, a2, c2, rfl, rfl, hk, hQ⟩ := hrel
        by_cases hkt : k < lt
        · have hk1 : (k : Int) < (lt : Int) := by omega
          have hk0 : (0 : Int) ≤ (k : Int) := by omega
          obtain ⟨best, hbl, hbst, hob, hwb⟩ := hQ.out
          obtain ⟨b3, off3, e3, c, hc, hrc, hxc⟩ := HAT.out.cel hkt
          subst e3
          obtain ⟨x0, x1, x2, x3, x4, x5, x6, x7⟩ := hxc _ hwb
          have hm300 : (m : Int) ≤ 300 := by have := bst_len hbst (HSl.out k); omega
          have hkT : k < T.length := by rw [HAT.out.1]; exact hkt
          have hkm : k ≤ m := by
            have := hbst.1 (T.take k) (by simp)
            rw [List.length_take] at this
            omega
          have HC := Hid.mk9 hc
          have HRC := Hid.mk9 hrc
          have HBL := Hid.mk9 hbl
          have HBS := Hid.mk9 hbst
          have HKT := Hid.mk9 hkT
          clear hQ hc hrc hxc hkT
          go_upto_region 8 with fail
          have hba := below_alloc wr (.cells #[.int .i64 c.x.b, .int .i64 c.x.d.k, .int .i64 c.x.d.id, .int .i64 c.x.d.zn, .int .i64 c.x.d.rk, .int .i64 c.x.d.wt, .int .i64 c.x.d.g, .slice c.a c.l c.c] 49)
          have HOs := Hid.mk9 (hob.below hba)
          have HWs := Hid.mk9 (below2 hwb hba)
          have HXs := Hid.mk9 (B8.new wr 49 (.int .i64 c.x.b) (.int .i64 c.x.d.k) (.int .i64 c.x.d.id) (.int .i64 c.x.d.zn) (.int .i64 c.x.d.rk) (.int .i64 c.x.d.wt) (.int .i64 c.x.d.g) (.slice c.a c.l c.c))
          clear x0 x1 x2 x3 x4 x5 x6 x7 hba hob hwb hbl hbst
          generalize wr.alloc (.cells #[.int .i64 c.x.b, .int .i64 c.x.d.k, .int .i64 c.x.d.id, .int .i64 c.x.d.zn, .int .i64 c.x.d.rk, .int .i64 c.x.d.wt, .int .i64 c.x.d.g, .slice c.a c.l c.c] 49) = ws at *
          obtain ⟨Y, hY⟩ : ∃ Y, wr.heap.size = Y := ⟨_, rfl⟩
          rw [hY] at HXs ⊢
          clear hY
          by_cases hkm2 : k = m
          · have ekm : ((k : Int) == (m : Int)) = true := by rw [beq_iff_eq]; omega
            have HKM := Hid.mk9 hkm2
            obtain ⟨y0, y1, y2, y3, y4, y5, y6, y7⟩ := HXs.out.cells
            have hba := below_alloc ws (.cells #[.int .i64 c.x.b, .int .i64 c.x.d.k, .int .i64 c.x.d.id, .int .i64 c.x.d.zn, .int .i64 c.x.d.rk, .int .i64 c.x.d.wt, .int .i64 c.x.d.g, .slice c.a c.l c.c] 49)
            have HOz := Hid.mk9 (HOs.out.below hba)
            have HWz := Hid.mk9 (below2 HWs.out hba)
            have HCz := Hid.mk9 (cel_new ws c)
            clear hba hkm2
            go_wp2_with (at_builtin; refine append_acdB (w0 := w) rfl _ _ rfl (.slice a2 m c2) best rfl HOz.out HWz.out ws.heap.size c rfl HCz.out HRC.out (by rw [HBL.out]; omega) ?_; rw [HBL.out]; intro a8 c8 w8 ho8 hb8 hk8; have HO8 := Hid.mk9 ho8; have HB8 := Hid.mk9 hb8; clear ho8 hb8 hk8 y0 y1 y2 y3 y4 y5 y6 y7)
            refine ⟨⟨k + 1, m + 1, a8, c8, rfl, by go_num, by omega, Hid.mk9 ⟨best ++ [c.x], by rw [List.length_append, HBL.out]; rfl, ?_, HO8.out, HB8.out⟩⟩, by simp [intOf]; omega⟩
            rw [← HC.out]
            exact bst_app HBS.out HKT.out (by rw [HBL.out]; exact HKM.out)
          · have ekm : ((k : Int) == (m : Int)) = false := by rw [beq_eq_false_iff_ne]; omega
            have hkm3 : k < m := by omega
            have hkm4 : (k : Int) < (m : Int) := by omega
            obtain ⟨g, cg, ev, hBg, -, c9, hc9, hx9, hf9, -, -⟩ := HOs.out.part.at (i := k) (by rw [HBL.out]; exact hkm3)
            have ev1 := congrArg (fun v => match v with | .slice a _ _ => a | _ => none) ev
            simp only at ev1
            subst ev1
            have HC9 := Hid.mk9 hc9
            have HX9 := Hid.mk9 hx9
            have HBg := Hid.mk9 hBg
            clear ev hkm2 hc9 hx9 hf9 hBg
            go_upto_region 10 with fail
            refine pick_10 _ _ _ _ _ _ _ _ _ _ _ _ _ _ _ _ _ _ _ _ _ _ _ _ _ _ _ _ _ _ _ _ _ _ _ _ _ _ _ _ _ _ _ _ _ _ _ _ _ _ _ _ _ _ _ _ _ _ _ _ _ _ _ _ _ Y g m c2 k c.x.b c9.x.b ws _ hkm4 (Hid.mk9 HXs.out.cells.1) (Hid.mk9 HX9.out.1) (Hid.mk9 fun u31 u32 u33 u34 u35 u36 u37 wt hbt => ?_)
            have HOt := Hid.mk9 (HOs.out.below hbt)
            have HWt := Hid.mk9 (below2 HWs.out hbt)
            have HXt := Hid.mk9 (HXs.out.below hbt)
            clear hbt HOs HWs HXs HX9
            by_cases hgt : c9.x.b < c.x.b
            · have egt : decide (c9.x.b < c.x.b) = true := decide_eq_true hgt
              rw [egt]
              have HGT := Hid.mk9 hgt
              obtain ⟨g9, cg9, ev, -, -, c10, -, ⟨x0, x1, x2, x3, x4, x5, x6, x7⟩, ⟨f0, f1, f2, f3, f4, f5, f6, f7⟩, -, -⟩ := HOt.out.part.at (i := k) (by rw [HBL.out]; exact hkm3)
              simp at ev
              obtain ⟨e1, -⟩ := ev
              subst e1
              obtain ⟨y0, y1, y2, y3, y4, y5, y6, y7⟩ := HXt.out.cells
              have hst := HOt.out.set8 HBL.out hkm3 c HRC.out
              have HO8 := Hid.mk9 hst.1
              have HB8 : Hid (Below w.heap.size w ((((((((wt.setCell ⟨g, k * 8, none⟩ (.int .i64 c.x.b)).setCell ⟨g, k * 8 + 1, none⟩ (.int .i64 c.x.d.k)).setCell ⟨g, k * 8 + 2, none⟩ (.int .i64 c.x.d.id)).setCell ⟨g, k * 8 + 3, none⟩ (.int .i64 c.x.d.zn)).setCell ⟨g, k * 8 + 4, none⟩ (.int .i64 c.x.d.rk)).setCell ⟨g, k * 8 + 5, none⟩ (.int .i64 c.x.d.wt)).setCell ⟨g, k * 8 + 6, none⟩ (.int .i64 c.x.d.g)).setCell ⟨g, k * 8 + 7, none⟩ (.slice c.a c.l c.c))) := Hid.mk9 (HWt.out.grown hst.2 HWt.out.size (fun k' hk' => by injection hk' with hk'; subst hk'; exact HBg.out))
              clear hst hgt egt
              go_wp2_with fail
              refine ⟨⟨k + 1, m, some ⟨g, 0, none⟩, c2, rfl, by go_num, by omega, Hid.mk9 ⟨best.set k c.x, by rw [List.length_set, HBL.out], ?_, HO8.out, HB8.out⟩⟩, by simp [intOf]; omega⟩
              rw [← HC.out]
              exact bst_set HBS.out HKT.out (by rw [HBL.out]; exact hkm3) (by rw [HC.out, HC9.out]; exact HGT.out)
            · have egt : decide (c9.x.b < c.x.b) = false := decide_eq_false hgt
              rw [egt]
              have HGT := Hid.mk9 hgt
              clear hgt egt
              go_wp2_with fail
              refine ⟨⟨k + 1, m, some ⟨g, 0, none⟩, c2, rfl, by go_num, by omega, Hid.mk9 ⟨best, HBL.out, ?_, HOt.out, HWt.out⟩⟩, by simp [intOf]; omega⟩
              exact bst_not HBS.out HKT.out (by rw [HBL.out]; exact hkm3) (by rw [HC.out, HC9.out]; have := HGT.out; omega)
        · obtain rfl : k = lt := by omega
          obtain ⟨best, hbl, hbst, hob, hwb⟩ := hQ.out
          have hnext : Bst (H.take (j + 1)) best := by
            have := take_last HJH.out
            rw [HT.out] at this
            rw [← this, HAT.out.1]
            exact hbst
          have HF := Hid.mk9 (show ∃ best : List Acd, best.length = m ∧ Bst (H.take (j + 1)) best ∧ OwnB w wr (.slice a2 m c2) best ∧ Below w.heap.size w wr from ⟨best, hbl, hnext, hob, hwb⟩)
          clear hQ hbl hbst hob hwb hnext
          go_wp2_with fail
          exact ⟨⟨j + 1, m, a2, c2, rfl, by go_num, by omega, HF⟩, by simp [intOf]; omega⟩
    · obtain rfl : j = n := by omega
      obtain ⟨best, hbl, hbst, hob, hwb⟩ := hR.out
      rw [List.take_of_length_le (by rw [HN.out]; exact Nat.le_refl _)] at hbst
      have hm300 : (m : Int) ≤ 300 := by have := bst_len hbst HS.out; omega
      have HBL := Hid.mk9 hbl
      have HBS := Hid.mk9 hbst
      have HP0 : Hid (∃ ls', ls'.length = m ∧ (∀ i, i < m → ls'.getD i acd0 = if i < 0 then fixA (best.getD i acd0) else best.getD i acd0) ∧ PartA w wr w.heap.size (.slice a1 m c1) ls' 0 ∧ Below w.heap.size w wr) := Hid.mk9 ⟨best, hbl, fun i _ => by rw [if_neg (Nat.not_lt_zero i)], hob.part, hwb⟩
      have HSB : Hid (∀ i, i < m → (best.getD i acd0).d.ns.length ≤ 20) := Hid.mk9 fun i hi => by
        obtain ⟨u, hu, hm', -⟩ := bst_mem hbst (i := i) (by rw [hbl]; exact hi)
        exact (HS.out u hu).2 _ hm'
      clear hR hbl hbst hob hwb
      go_wp2_with fail
      go_loopw [47] (fun i wq => ∃ k : Nat, k ≤ m ∧ i = .int .i64 (k : Int) ∧ Hid (∃ ls', ls'.length = m ∧ (∀ i, i < m → ls'.getD i acd0 = if i < k then fixA (best.getD i acd0) else best.getD i acd0) ∧ PartA w wq w.heap.size (.slice a1 m c1) ls' k ∧ Below w.heap.size w wq)) (fun i _ => m - (intOf i).toNat)
      case atStart => exact ⟨0, Nat.zero_le _, rfl, HP0⟩
      case round =>
        obtain ⟨k, hk, rfl, hQ⟩ := hrel
        by_cases hkm : k < m
        · have hk1 : (k : Int) < (m : Int) := by omega
          have hk0 : (0 : Int) ≤ (k : Int) := by omega
          obtain ⟨ls', hl', hls, hpa, hwq⟩ := hQ.out
          obtain ⟨g, cg, ev, hBg, -, c, hc, ⟨x0, x1, x2, x3, x4, x5, x6, x7⟩, ⟨f0, f1, f2, f3, f4, f5, f6, f7⟩, hrc, -⟩ := hpa.at (i := k) (by rw [hl']; exact hkm)
          have ev1 := congrArg (fun v => match v with | .slice a _ _ => a | _ => none) ev
          simp only at ev1
          subst ev1
          have hck : c.x = best.getD k acd0 := by rw [← hc, hls k hkm, if_neg (Nat.lt_irrefl k)]
          have HCK := Hid.mk9 hck
          have HCL := Hid.mk9 hc
          have HRC := Hid.mk9 (hrc (Nat.le_refl _))
          have HLS := Hid.mk9 hls
          have HLL := Hid.mk9 hl'
          have HBg := Hid.mk9 hBg
          have hn20 : (c.l : Int) ≤ 1000 := by
            have h1 := (hrc (Nat.le_refl _)).1
            have h2 := HSB.out k hkm
            rw [← hck] at h2
            omega
          clear hQ ev hck hc hrc hls hl' hBg
          have hba := below_alloc wr (.cells #[.int .i64 c.x.b, .int .i64 c.x.d.k, .int .i64 c.x.d.id, .int .i64 c.x.d.zn, .int .i64 c.x.d.rk, .int .i64 c.x.d.wt, .int .i64 c.x.d.g, .slice c.a c.l c.c] 49)
          have HPs := Hid.mk9 (hpa.below hba)
          have HWs := Hid.mk9 (below2 hwq hba)
          have HXs := Hid.mk9 (B8.new wr 49 (.int .i64 c.x.b) (.int .i64 c.x.d.k) (.int .i64 c.x.d.id) (.int .i64 c.x.d.zn) (.int .i64 c.x.d.rk) (.int .i64 c.x.d.wt) (.int .i64 c.x.d.g) (.slice c.a c.l c.c))
          go_upto_region 17 with fail
          clear x0 x1 x2 x3 x4 x5 x6 x7 f0 f1 f2 f3 f4 f5 f6 f7 hba hpa hwq
          generalize wr.alloc (.cells #[.int .i64 c.x.b, .int .i64 c.x.d.k, .int .i64 c.x.d.id, .int .i64 c.x.d.zn, .int .i64 c.x.d.rk, .int .i64 c.x.d.wt, .int .i64 c.x.d.g, .slice c.a c.l c.c] 49) = ws at *
          obtain ⟨Y, hY⟩ : ∃ Y, wr.heap.size = Y := ⟨_, rfl⟩
          rw [hY] at HXs ⊢
          clear hY
          obtain ⟨y0, y1, y2, y3, y4, y5, y6, y7⟩ := HXs.out.cells
          have hnext : ∀ (ls2 : List Acd), ls2 = ls'.set k (fixA c.x) → ls2.length = m ∧ ∀ i, i < m → ls2.getD i acd0 = if i < k + 1 then fixA (best.getD i acd0) else best.getD i acd0 := fun ls2 e => by
            subst e
            refine ⟨by rw [List.length_set, HLL.out], fun i hi => ?_⟩
            rw [getD_set (by rw [HLL.out]; exact hkm), HCK.out]
            by_cases e : i = k
            · subst e; rw [if_pos rfl, if_pos (Nat.lt_succ_self i)]
            · rw [if_neg e, HLS.out i hi]
              by_cases e2 : i < k
              · rw [if_pos e2, if_pos (by omega)]
              · rw [if_neg e2, if_neg (by omega)]
          have HNX := Hid.mk9 hnext
          clear hnext
          by_cases hb0 : c.x.b = 0
          · have eb : (c.x.b == 0) = true := by rw [beq_iff_eq]; exact hb0
            have hfix : fixA c.x = acd0 := by unfold fixA; rw [if_pos hb0]
            have HFX := Hid.mk9 hfix
            obtain ⟨g9, cg9, ev, -, -, c10, -, ⟨x0, x1, x2, x3, x4, x5, x6, x7⟩, ⟨f0, f1, f2, f3, f4, f5, f6, f7⟩, -, -⟩ := HPs.out.at (i := k) (by rw [HLL.out]; exact hkm)
            simp at ev
            obtain ⟨e1, -⟩ := ev
            subst e1
            have HP8 : Hid (PartA w ((((((((ws.setCell ⟨g, k * 8, none⟩ (.int .i64 0)).setCell ⟨g, k * 8 + 1, none⟩ (.int .i64 0)).setCell ⟨g, k * 8 + 2, none⟩ (.int .i64 0)).setCell ⟨g, k * 8 + 3, none⟩ (.int .i64 0)).setCell ⟨g, k * 8 + 4, none⟩ (.int .i64 0)).setCell ⟨g, k * 8 + 5, none⟩ (.int .i64 0)).setCell ⟨g, k * 8 + 6, none⟩ (.int .i64 0)).setCell ⟨g, k * 8 + 7, none⟩ (.slice none 0 0)) w.heap.size (.slice (some ⟨g, 0, none⟩) m c1) (ls'.set k acd0) (k + 1)) := Hid.mk9 (HPs.out.set8 HLL.out hkm cel0 (own_nothing _ _ _ _))
            have HW8 : Hid (Below w.heap.size w ((((((((ws.setCell ⟨g, k * 8, none⟩ (.int .i64 0)).setCell ⟨g, k * 8 + 1, none⟩ (.int .i64 0)).setCell ⟨g, k * 8 + 2, none⟩ (.int .i64 0)).setCell ⟨g, k * 8 + 3, none⟩ (.int .i64 0)).setCell ⟨g, k * 8 + 4, none⟩ (.int .i64 0)).setCell ⟨g, k * 8 + 5, none⟩ (.int .i64 0)).setCell ⟨g, k * 8 + 6, none⟩ (.int .i64 0)).setCell ⟨g, k * 8 + 7, none⟩ (.slice none 0 0))) := Hid.mk9 (((((((((HWs.out.setCell (p := ⟨g, k * 8, none⟩) HBg.out (.int .i64 0)).setCell (p := ⟨g, k * 8 + 1, none⟩) HBg.out (.int .i64 0)).setCell (p := ⟨g, k * 8 + 2, none⟩) HBg.out (.int .i64 0)).setCell (p := ⟨g, k * 8 + 3, none⟩) HBg.out (.int .i64 0)).setCell (p := ⟨g, k * 8 + 4, none⟩) HBg.out (.int .i64 0)).setCell (p := ⟨g, k * 8 + 5, none⟩) HBg.out (.int .i64 0)).setCell (p := ⟨g, k * 8 + 6, none⟩) HBg.out (.int .i64 0)).setCell (p := ⟨g, k * 8 + 7, none⟩) HBg.out (.slice none 0 0)))
            clear hb0 hfix
            go_wp2_with fail
            exact ⟨⟨k + 1, by omega, by go_num, Hid.mk9 ⟨_, (HNX.out _ (by rw [HFX.out])).1, (HNX.out _ (by rw [HFX.out])).2, HP8.out, HW8.out⟩⟩, by simp [intOf]; omega⟩
          · have eb : (c.x.b == 0) = false := by simpa using hb0
            have hfix : ls' = ls'.set k (fixA c.x) := by
              have e1 : fixA c.x = ls'.getD k acd0 := by unfold fixA; rw [if_neg hb0, HCL.out]
              rw [e1, List.getD_eq_getElem?_getD, List.getElem?_eq_getElem (by rw [HLL.out]; exact hkm)]
              exact (List.set_getElem_self _).symm
            have HFX := Hid.mk9 hfix
            have HRs := Hid.mk9 (HRC.out.below HWs.out)
            clear hb0 hfix
            go_upto_region 20 with (go_at_call 23; refine (copyOf_any c.x.d c.a c.l c.c _ HRs.out hn20).mono ?_; rintro en w6 ⟨hb6, a6, c6, rfl, ho6⟩; have HP6 := Hid.mk9 (HPs.out.below hb6); have HW6 := Hid.mk9 (below2 HWs.out hb6); have HO6 := Hid.mk9 (own_base ho6 HWs.out.size); clear hb6 ho6 y0 y1 y2 y3 y4 y5 y6 y7; obtain ⟨g9, cap9, ev, -, hgs6, c9, hc9, ⟨x0, x1, x2, x3, x4, x5, x6, x7⟩, ⟨f0, f1, f2, f3, f4, f5, f6, f7⟩, -, -⟩ := HP6.out.at (i := k) (by rw [HLL.out]; exact hkm); simp at ev; obtain ⟨e1, -⟩ := ev; subst e1; have hgs7 := Hid.mk9 hgs6; clear hgs6; have HC9 := Hid.mk9 hc9; clear hc9)
            have HP7 : Hid (PartA w (((((((w6.setCell ⟨g, k * 8 + 1, none⟩ (.int .i64 c.x.d.k)).setCell ⟨g, k * 8 + 1 + 1, none⟩ (.int .i64 c.x.d.id)).setCell ⟨g, k * 8 + 1 + 2, none⟩ (.int .i64 c.x.d.zn)).setCell ⟨g, k * 8 + 1 + 3, none⟩ (.int .i64 c.x.d.rk)).setCell ⟨g, k * 8 + 1 + 4, none⟩ (.int .i64 c.x.d.wt)).setCell ⟨g, k * 8 + 1 + 5, none⟩ (.int .i64 c.x.d.g)).setCell ⟨g, k * 8 + 1 + 6, none⟩ (.slice a6 c.x.d.ns.length c6)) w.heap.size (.slice (some ⟨g, 0, none⟩) m c1) ls' (k + 1)) := Hid.mk9 (HP6.out.step7 HLL.out hkm ⟨c.x, a6, c.x.d.ns.length, c6⟩ HCL.out.symm HO6.out)
            have HW7 : Hid (Below w.heap.size w (((((((w6.setCell ⟨g, k * 8 + 1, none⟩ (.int .i64 c.x.d.k)).setCell ⟨g, k * 8 + 1 + 1, none⟩ (.int .i64 c.x.d.id)).setCell ⟨g, k * 8 + 1 + 2, none⟩ (.int .i64 c.x.d.zn)).setCell ⟨g, k * 8 + 1 + 3, none⟩ (.int .i64 c.x.d.rk)).setCell ⟨g, k * 8 + 1 + 4, none⟩ (.int .i64 c.x.d.wt)).setCell ⟨g, k * 8 + 1 + 5, none⟩ (.int .i64 c.x.d.g)).setCell ⟨g, k * 8 + 1 + 6, none⟩ (.slice a6 c.x.d.ns.length c6))) := Hid.mk9 ((((((((HW6.out.setCell (p := ⟨g, k * 8 + 1, none⟩) HBg.out (.int .i64 c.x.d.k)).setCell (p := ⟨g, k * 8 + 1 + 1, none⟩) HBg.out (.int .i64 c.x.d.id)).setCell (p := ⟨g, k * 8 + 1 + 2, none⟩) HBg.out (.int .i64 c.x.d.zn)).setCell (p := ⟨g, k * 8 + 1 + 3, none⟩) HBg.out (.int .i64 c.x.d.rk)).setCell (p := ⟨g, k * 8 + 1 + 4, none⟩) HBg.out (.int .i64 c.x.d.wt)).setCell (p := ⟨g, k * 8 + 1 + 5, none⟩) HBg.out (.int .i64 c.x.d.g)).setCell (p := ⟨g, k * 8 + 1 + 6, none⟩) HBg.out (.slice a6 c.x.d.ns.length c6)))
            clear x0 x1 x2 x3 x4 x5 x6 x7 f0 f1 f2 f3 f4 f5 f6 f7 hgs7 HC9
            generalize (((((((w6.setCell ⟨g, k * 8 + 1, none⟩ (.int .i64 c.x.d.k)).setCell ⟨g, k * 8 + 1 + 1, none⟩ (.int .i64 c.x.d.id)).setCell ⟨g, k * 8 + 1 + 2, none⟩ (.int .i64 c.x.d.zn)).setCell ⟨g, k * 8 + 1 + 3, none⟩ (.int .i64 c.x.d.rk)).setCell ⟨g, k * 8 + 1 + 4, none⟩ (.int .i64 c.x.d.wt)).setCell ⟨g, k * 8 + 1 + 5, none⟩ (.int .i64 c.x.d.g)).setCell ⟨g, k * 8 + 1 + 6, none⟩ (.slice a6 c.x.d.ns.length c6)) = w7 at *
            go_wp2_with fail
            exact ⟨⟨k + 1, by omega, by go_num, Hid.mk9 ⟨ls', (HNX.out _ HFX.out).1, (HNX.out _ HFX.out).2, HP7.out, HW7.out⟩⟩, by simp [intOf]; omega⟩
        · obtain rfl : k = m := by omega
          obtain ⟨ls', hl', hls, hpa, hwq⟩ := hQ.out
          have hmap : ls' = best.map fixA := by
            apply List.ext_getElem (by rw [List.length_map, hl', HBL.out])
            intro i h1 h2
            have := hls i (by omega)
            rw [if_pos (by omega)] at this
            rw [List.length_map] at h2
            simpa [h1, h2] using this
          subst hmap
          have HO := Hid.mk9 (hpa.done (by rw [hl']; exact Nat.le_refl _))
          have HW := Hid.mk9 hwq
          clear hQ hls hpa hwq hl'
          go_wp2_with fail
          go_ret
          obtain ⟨a9, c9, ev, -⟩ := HO.out.at
          simp only [Value.slice.injEq] at ev
          obtain ⟨rfl, hn9, rfl⟩ := ev
          rw [List.length_map] at hn9
          exact ⟨HW.out, best, _, _, HBS.out, by rw [hn9]; rfl, by have := HO.out; rw [hn9] at this; exact this⟩
end Go.Proofs.Ytejhmacbbdnlbaa.Ac
