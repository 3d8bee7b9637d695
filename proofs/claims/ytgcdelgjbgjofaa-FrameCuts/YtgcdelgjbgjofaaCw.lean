/-
  The contract of FrameCuts: whatever data, wherever cut, it returns true, and writes nothing that was there.
-/
import Derived.Test.YtgcdelgjbgjofaaCv
import Derived.Test.YtgcdelgjbgjofaaS
namespace Go.Proofs.Ytgcdelgjbgjofaa
open Go.ChangeShapes Go.WideShapes Go.ChangeAt Go.RowKit
theorem DRow.take {w : World} {a : Option Addr} {len cap : Nat} {ds : List Dat} (h : DRow w a len cap ds) (k : Nat) (hk : k ≤ len) : DRow w a k cap (ds.take k) := by
  refine ⟨by rw [List.length_take, h.1]; omega, Nat.le_trans hk h.2.1, h.2.2.1, ?_⟩
  by_cases h0 : k = 0
  · exact .inl h0
  · rcases h.2.2.2 with h1 | ⟨b, off, e, hc⟩
    · omega
    · refine .inr ⟨b, off, e, fun i hi => ?_⟩
      obtain ⟨x1, m1, k1, x2, m2, k2, c0, c1, hd⟩ := hc i (by omega)
      have e2 : (ds.take k).getD i ([], []) = ds.getD i ([], []) := by
        rw [List.getD_eq_getElem?_getD, List.getElem?_take_of_lt hi, List.getD_eq_getElem?_getD]
      rw [e2]
      exact ⟨x1, m1, k1, x2, m2, k2, c0, c1, hd⟩
theorem cellsI_snoc (l : List Int) (x : Int) : cellsI (l ++ [x]) = cellsI l ++ [.int .i64 x] := by simp [cellsI]
theorem datas_end {w w' : World} {ps : List (Value × Value)} {ks : List Dat} (h : Datas none w ps ks) (hb : Below w.heap.size w w') : Datas none w' ps ks := h.map fun _ _ hd => hd.below hb
theorem stab_arg {w : World} {v : Value} {d : Dat} (h : DataAt w v d.1 d.2) : DStab none w v d := by
  intro w' hk
  obtain ⟨a1, n1, c1, a2, n2, c2, rfl, h1, h2, h3, h4⟩ := h
  exact ⟨_, _, _, _, _, _, rfl, row_stab h1 fun x hx hlt => hk _ hlt (by simp), row_stab h2 fun x hx hlt => hk _ hlt (by simp), h3, h4⟩
/-- the three rows -/
def Three (B : Nat) (wr : World) (t5 t6 t7 : Value) (ps : List (Value × Value)) (ks : List Dat) : Prop :=
  wr.ownsRow B 5 1 t5 (flatD ks).length (cellsB (flatD ks)) ∧ wr.ownsRow B 3 1 t6 ks.length (cellsI (endsL ks)) ∧ wr.ownsRow B 29 2 t7 ks.length (flatP ps)
theorem Three.below {B : Nat} {wr wr' : World} {t5 t6 t7 : Value} {ps : List (Value × Value)} {ks : List Dat} (h : Three B wr t5 t6 t7 ps ks) (hb : Below wr.heap.size wr wr') : Three B wr' t5 t6 t7 ps ks :=
  ⟨own_below h.1 hb, own_below h.2.1 hb, own_below h.2.2 hb⟩
set_option maxHeartbeats 16000000 in
set_option maxRecDepth 60000 in
theorem frameCuts_any (a : Option Addr) (len cap : Nat) (ds : List Dat) (cut : Nat) (w : World) (h : DRow w a len cap ds) (hcut : (cut : Int) < 65536) :
    Calls Try.prog 7 #[.slice a len cap, .int .u16 (cut : Int)] w fun e w' => TruePost w e w' := by
  obtain ⟨i5, hi5, hz50, hz51, hz52⟩ := info_parts info5
  obtain ⟨i3, hi3, hz30, hz31, hz32⟩ := info_parts info3
  obtain ⟨i29, hi29, hz290, hz291, hz292⟩ := info_parts info29
  have hm : len ≤ maxLen := Nat.le_trans h.2.1 h.2.2.1
  unfold maxLen at hm
  have HD : Hid (DRow w a len cap ds) := h
  clear h
  have B0 : Below w.heap.size w (((w.alloc (.cells #[] 5)).alloc (.cells #[] 3)).alloc (.cells #[] 29)) := (((Below.refl _ _).alloc (Nat.le_refl _) _).alloc (by simp) _).alloc (by simp; omega) _
  have HT0 : Hid (Three w.heap.size (((w.alloc (.cells #[] 5)).alloc (.cells #[] 3)).alloc (.cells #[] 29)) (.slice (some ⟨w.heap.size, 0, none⟩) 0 0) (.slice (some ⟨w.heap.size + 1, 0, none⟩) 0 0) (.slice (some ⟨w.heap.size + 1 + 1, 0, none⟩) 0 0) [] []) := by
    have h1 := World.ownsRow_lit (base := w.heap.size) (size := 1) (e := 5) w #[] 0 (Nat.le_refl _) (Nat.zero_le _) (by simp)
    have h2 := World.ownsRow_lit (base := w.heap.size) (size := 1) (e := 3) (w.alloc (.cells #[] 5)) #[] 0 (by simp) (Nat.zero_le _) (by simp)
    have h3 := World.ownsRow_lit (base := w.heap.size) (size := 2) (e := 29) ((w.alloc (.cells #[] 5)).alloc (.cells #[] 3)) #[] 0 (by simp; omega) (Nat.zero_le _) (by simp)
    simp only [World.size_alloc] at h2 h3
    exact ⟨(h1.alloc _).alloc _, h2.alloc _, h3⟩
  go_enter Try.func7, Try.ntmps7
  go_wp2_with fail
  go_loopw [5, 6, 7, 8] (fun t5 t6 t7 t8 wr => ∃ (i : Nat) (ps : List (Value × Value)) (ks : List Dat), i ≤ len ∧ i ≤ 12 ∧ t8 = .int .i64 (i : Int) ∧ ks.length ≤ i ∧ Hid (∀ d ∈ ks, OkD d) ∧ Hid (Three w.heap.size wr t5 t6 t7 ps ks) ∧ Hid (Datas none w ps ks) ∧ Below w.heap.size w wr) (fun _ _ _ t8 _ => 12 - (intOf t8).toNat)
  case atStart => exact ⟨0, [], [], Nat.zero_le _, by omega, rfl, Nat.le_refl _, (fun d hd => by simp at hd), HT0, trivial, B0⟩
  case round =>
    obtain ⟨i, ps, ks, hil, hi12, rfl, hkl, hok, hown, hdat, hbel⟩ := hrel
    by_cases hlen : i < len
    · have g1 : (i : Int) < (len : Int) := by omega
      by_cases h12 : i < 12
      · have g2 : (i : Int) < 12 := by omega
        have g0 : (0 : Int) ≤ (i : Int) := by omega
        obtain ⟨b, off, rfl, hcell⟩ : ∃ b off, a = some ⟨b, off, none⟩ ∧ ∃ x1 m1 k1 x2 m2 k2, w.cell? ⟨b, off + i * 2, none⟩ = some (.slice x1 m1 k1) ∧ w.cell? ⟨b, off + i * 2 + 1, none⟩ = some (.slice x2 m2 k2) ∧ DataAt w (.agg #[.slice x1 m1 k1, .slice x2 m2 k2]) (ds.getD i ([], [])).1 (ds.getD i ([], [])).2 := by
          rcases HD.out.2.2.2 with h0 | ⟨b, off, e, hc⟩
          · omega
          · exact ⟨b, off, e, hc i hlen⟩
        obtain ⟨x1, m1, k1, x2, m2, k2, e0w, e1w, hdw⟩ := hcell
        generalize ds.getD i ([], []) = d at hdw
        have hblt : b < w.heap.size := World.block_lt_of_cell? w ⟨b, off + i * 2, none⟩ e0w
        have KE : Hid (∀ w', Below w.heap.size w w' → (w'.cell? ⟨b, off + i * 2, none⟩ = some (.slice x1 m1 k1) ∧ w'.cell? ⟨b, off + i * 2 + 1, none⟩ = some (.slice x2 m2 k2)) ∧ DataAt w' (.agg #[.slice x1 m1 k1, .slice x2 m2 k2]) d.1 d.2) := fun w' hb => ⟨⟨(hb.cell (p := ⟨b, off + i * 2, none⟩) hblt).trans e0w, (hb.cell (p := ⟨b, off + i * 2 + 1, none⟩) hblt).trans e1w⟩, hdw.below hb⟩
        have HST : Hid (DStab none w (.agg #[.slice x1 m1 k1, .slice x2 m2 k2]) d) := stab_arg hdw
        clear e0w e1w hdw hblt
        obtain ⟨⟨e0, e1⟩, hd⟩ := KE.out wr hbel
        have HDA : Hid (DataAt wr (.agg #[.slice x1 m1 k1, .slice x2 m2 k2]) d.1 d.2) := hd
        clear hd
        go_wp2_with fail
        refine (light_any _ _ _ _ HDA.out).mono ?_
        rintro e w1 ⟨hb1, q, rfl⟩
        have hB1 := below2 hbel hb1
        clear e0 e1 HDA
        cases q with
        | false =>
          go_wp2_with fail
          refine (awake_any _).mono ?_
          rintro e w5 ⟨rfl, hb5⟩
          have BE := below2 hB1 hb5
          clear hb5
          go_wp2
          go_ret
          exact ⟨rfl, BE⟩
        | true =>
          obtain ⟨⟨e0, e1⟩, hd⟩ := KE.out w1 hB1
          have HDA : Hid (DataAt w1 (.agg #[.slice x1 m1 k1, .slice x2 m2 k2]) d.1 d.2) := hd
          obtain ⟨L, hL⟩ : ∃ L, L = bytesL d.1 d.2 := ⟨_, rfl⟩
          have HL : Hid (L = bytesL d.1 d.2) := hL
          have HT1 : Hid (Three w.heap.size w1 u5 u6 u7 ps ks) := hown.out.below hb1
          clear hd hL hown hb1
          go_wp2_with fail
          refine (frame_any _ _ _ _ HDA.out L HL).mono ?_
          rintro e w2 ⟨hb2, hF⟩
          have hB2 := below2 hB1 hb2
          have HT2 : Hid (Three w.heap.size w2 u5 u6 u7 ps ks) := HT1.out.below hb2
          clear e0 e1 HDA HT1
          obtain ⟨⟨e0, e1⟩, hd⟩ := KE.out w2 hB2
          have HDA : Hid (DataAt w2 (.agg #[.slice x1 m1 k1, .slice x2 m2 k2]) d.1 d.2) := hd
          clear hd hB1
          rcases hF with ⟨v9, rfl, hown9, hle⟩ | ⟨rfl, hlong⟩
          · obtain ⟨a9, c9, rfl, hrow9, -⟩ := RowAt.of_own hown9
            have HR9 : Hid (RowAt w2 a9 (frameL L).length c9 (cellsB (frameL L))) := hrow9
            have HLE : Hid (L.length ≤ 4096) := hle
            have hdec : decide (L.length ≤ 4096) = true := by simpa using hle
            clear hrow9 hown9 hle
            generalize hn9 : (frameL L).length = n9 at *
            have HN9 : Hid ((frameL L).length = n9) := hn9
            clear hn9
            go_wp2_with fail
            refine (refMay_any _ _ _ _ HDA.out L HL).mono ?_
            rintro e w3 ⟨rfl, hb3⟩
            have hB3 := below2 hB2 hb3
            have HT3 : Hid (Three w.heap.size w3 u5 u6 u7 ps ks) := HT2.out.below hb3
            have HR93 : Hid (RowAt w3 a9 n9 c9 (cellsB (frameL L))) := HR9.out.below hb3
            clear e0 e1 HDA HT2 hb2 hb3 HR9 hB2
            go_wp2_with fail
            refine frames_eq _ _ _ _ _ _ _ _ _ _ _ _ _ _ _ _ _ _ _ _ _ _ _ _ _ _ _ _ _ _ _ _ _ _ _ _ _ _ _ _ _ _ _ _ _ _ _ _ _ _ _ _ _ _ _ _ _ _ _ _ _ _ _ _ _ _ _ _ _ _ _ _ _ _ _ _ _ _ _ _ _ _ _ _ _ _ _ _ _ _ _ _ _ _ _ _ _ _ _ _ _ _ _ _ _ _ _ _ _ _ b off len cap i n9 c9 m1 k1 m2 k2 a9 x1 x2 d.1 d.2 L w3 _ hlen (KE.out w3 hB3).1.1 (KE.out w3 hB3).1.2 (KE.out w3 hB3).2 HL HLE HR93.out (fun u51 u52 u53 u54 u55 u56 u57 u58 u59 u60 u61 u62 wC hbC => ?_)
            have hBC := below2 hB3 hbC
            have HTC : Hid (Three w.heap.size wC u5 u6 u7 ps ks) := HT3.out.below hbC
            have HRC : Hid (RowAt wC a9 n9 c9 (cellsB (frameL L))) := HR93.out.below hbC
            have HFL : Hid ((flatD ks).length ≤ 60000 ∧ n9 ≤ 5000 ∧ ks.length ≤ 12 ∧ 0 < n9) := by
              have h1 := flatD_le hok.out
              have h2 := frD_le (d := d) ⟨⟨HST.out.data.elim fun _ h => by obtain ⟨_, _, _, _, _, _, _, _, h3, h4⟩ := h; exact h3, HST.out.data.elim fun _ h => by obtain ⟨_, _, _, _, _, _, _, _, h3, h4⟩ := h; exact h4⟩, by rw [← HL.out]; exact HLE.out⟩
              have h3 := frD_pos d
              unfold frD at h2 h3
              rw [← HL.out, HN9.out] at h2 h3
              exact ⟨by omega, by omega, by omega, h3⟩
            clear hbC HR93 HT3 hB3
            obtain ⟨b9, o9, rfl, -⟩ := HRC.out.some (by have := HFL.out; omega)
            obtain ⟨hT5, hT6, hT7⟩ := HTC.out
            clear HTC
            go_wp2_with (at_builtin; refine wpList_append_own _ rfl (.tmp 64) (.tmp 65) 22 rfl w.heap.size 5 i5 (.int .u8 0) 1 1 Try.underlying22 hi5 hz50 hz51 hz52 rfl (by decide) _ _ _ rfl hT5 ⟨b9, o9, none⟩ n9 c9 (cellsB (frameL L)) rfl (by rw [cellsB_length, HN9.out, Nat.mul_one]) HRC.out.cells (one_cellsB _) (by have := HFL.out; unfold maxLen; omega) (by have := HFL.out; omega) hBC.size ?_)
            intro v5 w5 hown5 hgrow5 _
            have hB5 : Below w.heap.size w w5 := hBC.grown hgrow5 hBC.size (fun k hk => (hT5.lt k hk).1)
            have hT65 := hT6.kept hgrow5 (own_apart hT6 hT5 (by decide))
            have hT75 := hT7.kept hgrow5 (own_apart hT7 hT5 (by decide))
            obtain ⟨a5, c5, rfl, -, -⟩ := RowAt.of_own hown5
            generalize hN5 : (flatD ks).length + n9 = N5 at *
            have HN5 : Hid ((flatD ks).length + n9 = N5) := hN5
            have H5 : Hid (w5.ownsRow w.heap.size 5 1 (.slice a5 N5 c5) N5 (cellsB (flatD ks) ++ cellsB (frameL L))) := hown5
            clear hown5 hgrow5 hT5 hT6 hT7 hN5 HRC hBC
            have hs5 := hB5.size
            have hn5 : (N5 : Int) ≤ 70000 := by have h1 := HFL.out; have h2 := HN5.out; omega
            go_wp2_with (at_builtin; refine wpList_append_own _ rfl (.tmp 67) (.tmp 70) 26 rfl w.heap.size 3 i3 (.int .i64 0) 1 8 Try.underlying26 hi3 hz30 hz31 hz32 rfl (by decide) _ _ _ rfl (hT65.alloc _) ⟨w5.heap.size, 0, none⟩ 1 1 [.int .i64 (N5 : Int)] rfl rfl (cell_one_new _ _ _) (one_i64 _) (by have := HFL.out; unfold maxLen; omega) (by have := HFL.out; omega) (by simp; omega) ?_)
            intro v6 w6 hown6 hgrow6 _
            have hB6 : Below w.heap.size w w6 := (hB5.alloc hs5 _).grown hgrow6 (by simp; omega) (fun k hk => (hT65.lt k hk).1)
            have hT56 := (H5.out.alloc (.cells #[.int .i64 (N5 : Int)] 3)).kept hgrow6 (own_apart H5.out hT65 (by decide))
            have hT76 := (hT75.alloc (.cells #[.int .i64 (N5 : Int)] 3)).kept hgrow6 (own_apart hT75 hT65 (by decide))
            have HT56 : Hid (w6.ownsRow w.heap.size 5 1 (.slice a5 N5 c5) N5 (cellsB (flatD ks) ++ cellsB (frameL L))) := hT56
            clear hgrow6 hT65 hT75 H5 hT56 hB5 hs5
            have hs6 := hB6.size
            obtain ⟨⟨e0, e1⟩, -⟩ := KE.out w6 hB6
            go_wp2_with (at_builtin; refine wpList_append_own _ rfl (.tmp 72) (.tmp 77) 44 rfl w.heap.size 29 i29 (.agg #[.slice none 0 0, .slice none 0 0]) 2 48 Try.underlying44 hi29 hz290 hz291 hz292 rfl (by decide) _ _ _ rfl (hT76.alloc _) ⟨w6.heap.size, 0, none⟩ 1 1 [.slice x1 m1 k1, .slice x2 m2 k2] rfl rfl (cells_two _ _ _ _) (one_two _ _ _ _ _ _) (by have := HFL.out; unfold maxLen; omega) (by have := HFL.out; omega) (by simp; omega) ?_)
            intro v7 w7 hown7 hgrow7 _
            have hB7 : Below w.heap.size w w7 := (hB6.alloc hs6 _).grown hgrow7 (by simp; omega) (fun k hk => (hT76.lt k hk).1)
            have hT57 := (World.ownsRow.alloc HT56.out (.cells #[.slice x1 m1 k1, .slice x2 m2 k2] 29)).kept hgrow7 (own_apart HT56.out hT76 (by decide))
            have hT67 := (hown6.alloc (.cells #[.slice x1 m1 k1, .slice x2 m2 k2] 29)).kept hgrow7 (own_apart hown6 hT76 (by decide))
            have HFD : Hid ((flatD (ks ++ [d])).length = N5 ∧ flatD (ks ++ [d]) = flatD ks ++ frameL L) := by
              have h1 : flatD (ks ++ [d]) = flatD ks ++ frameL L := by rw [flatD_snoc, frD, ← HL.out]
              exact ⟨by rw [h1, List.length_append, HN9.out, HN5.out], h1⟩
            have HT7 : Hid (Three w.heap.size w7 (.slice a5 N5 c5) v6 v7 (ps ++ [(.slice x1 m1 k1, .slice x2 m2 k2)]) (ks ++ [d])) := by
              refine ⟨?_, ?_, ?_⟩
              · rw [HFD.out.1, HFD.out.2, cellsB_append]; exact hT57
              · rw [endsL_snoc, HFD.out.1, cellsI_snoc, List.length_append]; exact hT67
              · rw [flatP_snoc, List.length_append]; exact hown7
            have HOK2 : Hid (∀ e ∈ ks ++ [d], OkD e) := fun e he => by
              rcases List.mem_append.1 he with he | he
              · exact hok.out e he
              · rw [List.mem_singleton.1 he]
                exact ⟨⟨HST.out.data.elim fun _ h => by obtain ⟨_, _, _, _, _, _, _, _, h3, h4⟩ := h; exact h3, HST.out.data.elim fun _ h => by obtain ⟨_, _, _, _, _, _, _, _, h3, h4⟩ := h; exact h4⟩, by rw [← HL.out]; exact HLE.out⟩
            have HDT2 : Hid (Datas none w (ps ++ [(.slice x1 m1 k1, .slice x2 m2 k2)]) (ks ++ [d])) := Datas.snoc HST.out hdat.out
            clear hgrow7 hT76 hT57 hT67 hown6 hown7 HT56 hB6 e0 e1
            go_wp2_with fail
            exact ⟨⟨i + 1, _, ks ++ [d], by omega, by omega, by go_num, by simp; omega, HOK2, HT7, HDT2, hB7⟩, by simp [intOf]; omega⟩
          · have hdec : decide (L.length ≤ 4096) = false := by simp; omega
            go_wp2_with fail
            refine (refMay_any _ _ _ _ HDA.out L HL).mono ?_
            rintro e w3 ⟨rfl, hb3⟩
            have hB3 := below2 hB2 hb3
            have HT3 : Hid (Three w.heap.size w3 u5 u6 u7 ps ks) := HT2.out.below hb3
            clear e0 e1 HDA HT2 hb2 hb3 hlong
            go_wp2_with fail
            exact ⟨⟨i + 1, ps, ks, by omega, by omega, by go_num, by omega, hok, HT3, hdat, hB3⟩, by simp [intOf]; omega⟩
      · have g2 : ¬ (i : Int) < 12 := by omega
        have HFL : Hid ((flatD ks).length ≤ 60000 ∧ ks.length ≤ 12) := by have h1 := flatD_le hok.out; exact ⟨by omega, by omega⟩
        obtain ⟨hT5, hT6, hT7⟩ := hown.out
        obtain ⟨a5, c5, rfl, hrow5, -⟩ := RowAt.of_own hT5
        obtain ⟨a6, c6, rfl, hrow6, -⟩ := RowAt.of_own hT6
        obtain ⟨a7, c7, rfl, hdr7⟩ := own_drow hT7 (datas_end hdat.out hbel)
        have HR5 : Hid (RowAt wr a5 (flatD ks).length c5 (cellsB (flatD ks))) := hrow5
        have HR6 : Hid (RowAt wr a6 ks.length c6 (cellsI (endsL ks))) := hrow6
        have HDR7 : Hid (DRow wr a7 ks.length c7 ks) := hdr7
        have hc5 : ((flatD ks).length : Int) ≤ (c5 : Int) := by have := hrow5.2.1; omega
        have hc7 : (ks.length : Int) ≤ (c7 : Int) := by have := hdr7.2.1; omega
        have hk12 : (ks.length : Int) ≤ 12 := by have := HFL.out.2; omega
        clear hown hrow5 hrow6 hdr7 hT5 hT6 hT7 hdat
        generalize hN5 : (flatD ks).length = N5 at *
        have HN5 : Hid ((flatD ks).length = N5) := hN5
        clear hN5
        obtain ⟨to_, hto⟩ : ∃ t, t = cut % (N5 + 1) := ⟨_, rfl⟩
        have HTO : Hid (to_ ≤ N5 ∧ to_ ≤ 60000) := by
          have h1 : to_ < N5 + 1 := by rw [hto]; exact Nat.mod_lt _ (by omega)
          have h2 := HFL.out
          exact ⟨by omega, by omega⟩
        have hn5 : (N5 : Int) ≤ 60000 := by have := HFL.out.1; omega
        have r1 : (cut : Int) % ((N5 : Int) + 1) = (to_ : Int) := by rw [hto, Int.natCast_emod, Int.natCast_add]; rfl
        have r2 : (to_ : Int) ≤ (c5 : Int) := by have := HTO.out.1; omega
        have r3 : (0 : Int) ≤ (to_ : Int) := by omega
        have r4 : ((N5 : Int) + 1 == 0) = false := by simp; omega
        have r5 : (to_ : Int) ≤ 60000 := by have := HTO.out.2; omega
        have m5 : Option.map (fun x => Addr.add x 0) a5 = a5 := by
          cases a5 with
          | none => rfl
          | some x => simp [Addr.add]
        have f5 : (if c5 = 0 then a5 else Option.map (fun x => Addr.add x 0) a5) = a5 := by rw [m5]; split <;> rfl
        have m7 : Option.map (fun x => Addr.add x 0) a7 = a7 := by
          cases a7 with
          | none => rfl
          | some x => simp [Addr.add]
        have f7 : (if c7 = 0 then a7 else Option.map (fun x => Addr.add x 0) a7) = a7 := by rw [m7]; split <;> rfl
        have HRT : Hid (RowAt wr a5 to_ c5 (cellsB ((flatD ks).take to_))) := by
          have := HR5.out.take to_ HTO.out.1
          rw [cellsB_take] at this
          exact this
        have H60 : Hid (to_ ≤ 60000) := HTO.out.2
        clear hto
        go_wp2_with fail
        go_loop [12] (fun t12 => ∃ k : Nat, k ≤ ks.length ∧ t12 = .int .i64 (k : Int) ∧ Hid (endN ks k ≤ to_)) (fun t12 => ks.length - (intOf t12).toNat)
        case atStart => exact ⟨0, Nat.zero_le _, rfl, by show _ ≤ _; simp [endN, flatD]⟩
        case round =>
          obtain ⟨k, hk, rfl, hE⟩ := hrel
          have hk0 : (0 : Int) ≤ (k : Int) := by omega
          have hkc : (k : Int) ≤ (c7 : Int) := by omega
          by_cases hkl : k < ks.length
          · have hkl' : (k : Int) < (ks.length : Int) := by omega
            obtain ⟨b6, o6, rfl, hc6⟩ := HR6.out.some (by omega)
            have ec := hc6 k hkl
            rw [endsL_get ks k hkl] at ec
            clear hc6
            by_cases hle : endN ks (k + 1) ≤ to_
            · have HE2 : Hid (endN ks (k + 1) ≤ to_) := hle
              have hle' : ((endN ks (k + 1) : Nat) : Int) ≤ (to_ : Int) := by omega
              clear hle hE
              have HE3 : Hid (Hid (endN ks (k + 1) ≤ to_)) := HE2
              generalize hen : endN ks (k + 1) = en at hle' ec
              clear hen
              go_wp2_with fail
              go_round
              case rel => exact ⟨k + 1, by omega, by go_num, HE2⟩
              case measure => simp [intOf]; omega
            · have HCR : Hid (RowIs ((flatD ks).take to_) (ks.take k) (endN ks k)) := cut_row hok.out hk hE.out (fun _ => by omega) (by have := HTO.out.1; have := HN5.out; omega)
              have hle' : ¬ ((endN ks (k + 1) : Nat) : Int) ≤ (to_ : Int) := by omega
              clear hle hE
              generalize endN ks (k + 1) = en at *
              go_wp2_with fail
              refine (row_any _ _ _ ((flatD ks).take to_) _ HRT.out H60).mono ?_
              rintro e w1 ⟨hb1, v1, ps1, ds1, s1, rfl, hown1, hds1, hR1⟩
              obtain ⟨rfl, -⟩ := rowIs_fn hR1 HCR.out
              obtain ⟨a1, c1, rfl, hdr1⟩ := own_drow hown1 hds1
              have HD1 : Hid (DRow w1 a1 (ks.take k).length c1 (ks.take k)) := hdr1
              have HD7 : Hid (DRow w1 a7 k c7 (ks.take k)) := (HDR7.out.take k hk).below hb1
              have hB1 := below2 hbel hb1
              clear hown1 hds1 hR1 hdr1 hb1
              generalize (ks.take k).length = n1 at *
              go_wp2_with fail
              refine (list_any _ _ _ _ _ _ (ks.take k) (ks.take k) _ HD1.out HD7.out).mono ?_
              rintro e w2 ⟨hb2, q2, rfl, hq2⟩
              obtain rfl : q2 = true := hq2.2 rfl
              have hB2 := below2 hB1 hb2
              clear hq2 hb2
              go_wp2_with fail
              refine (awake_any _).mono ?_
              rintro e w3 ⟨rfl, hb3⟩
              have BE := below2 hB2 hb3
              clear hb3
              go_wp2
              go_ret
              exact ⟨rfl, BE⟩
          · have hkl' : ¬ (k : Int) < (ks.length : Int) := by omega
            have HCR : Hid (RowIs ((flatD ks).take to_) (ks.take k) (endN ks k)) := cut_row hok.out hk hE.out (fun h => absurd h hkl) (by have := HTO.out.1; have := HN5.out; omega)
            clear hE
            go_wp2_with fail
            refine (row_any _ _ _ ((flatD ks).take to_) _ HRT.out H60).mono ?_
            rintro e w1 ⟨hb1, v1, ps1, ds1, s1, rfl, hown1, hds1, hR1⟩
            obtain ⟨rfl, -⟩ := rowIs_fn hR1 HCR.out
            obtain ⟨a1, c1, rfl, hdr1⟩ := own_drow hown1 hds1
            have HD1 : Hid (DRow w1 a1 (ks.take k).length c1 (ks.take k)) := hdr1
            have HD7 : Hid (DRow w1 a7 k c7 (ks.take k)) := (HDR7.out.take k hk).below hb1
            have hB1 := below2 hbel hb1
            clear hown1 hds1 hR1 hdr1 hb1
            generalize (ks.take k).length = n1 at *
            go_wp2_with fail
            refine (list_any _ _ _ _ _ _ (ks.take k) (ks.take k) _ HD1.out HD7.out).mono ?_
            rintro e w2 ⟨hb2, q2, rfl, hq2⟩
            obtain rfl : q2 = true := hq2.2 rfl
            have hB2 := below2 hB1 hb2
            clear hq2 hb2
            go_wp2_with fail
            refine (awake_any _).mono ?_
            rintro e w3 ⟨rfl, hb3⟩
            have BE := below2 hB2 hb3
            clear hb3
            go_wp2
            go_ret
            exact ⟨rfl, BE⟩
    · have g1 : ¬ (i : Int) < (len : Int) := by omega
      have HFL : Hid ((flatD ks).length ≤ 60000 ∧ ks.length ≤ 12) := by have h1 := flatD_le hok.out; exact ⟨by omega, by omega⟩
      obtain ⟨hT5, hT6, hT7⟩ := hown.out
      obtain ⟨a5, c5, rfl, hrow5, -⟩ := RowAt.of_own hT5
      obtain ⟨a6, c6, rfl, hrow6, -⟩ := RowAt.of_own hT6
      obtain ⟨a7, c7, rfl, hdr7⟩ := own_drow hT7 (datas_end hdat.out hbel)
      have HR5 : Hid (RowAt wr a5 (flatD ks).length c5 (cellsB (flatD ks))) := hrow5
      have HR6 : Hid (RowAt wr a6 ks.length c6 (cellsI (endsL ks))) := hrow6
      have HDR7 : Hid (DRow wr a7 ks.length c7 ks) := hdr7
      have hc5 : ((flatD ks).length : Int) ≤ (c5 : Int) := by have := hrow5.2.1; omega
      have hc7 : (ks.length : Int) ≤ (c7 : Int) := by have := hdr7.2.1; omega
      have hk12 : (ks.length : Int) ≤ 12 := by have := HFL.out.2; omega
      clear hown hrow5 hrow6 hdr7 hT5 hT6 hT7 hdat
      generalize hN5 : (flatD ks).length = N5 at *
      have HN5 : Hid ((flatD ks).length = N5) := hN5
      clear hN5
      obtain ⟨to_, hto⟩ : ∃ t, t = cut % (N5 + 1) := ⟨_, rfl⟩
      have HTO : Hid (to_ ≤ N5 ∧ to_ ≤ 60000) := by
        have h1 : to_ < N5 + 1 := by rw [hto]; exact Nat.mod_lt _ (by omega)
        have h2 := HFL.out
        exact ⟨by omega, by omega⟩
      have hn5 : (N5 : Int) ≤ 60000 := by have := HFL.out.1; omega
      have r1 : (cut : Int) % ((N5 : Int) + 1) = (to_ : Int) := by rw [hto, Int.natCast_emod, Int.natCast_add]; rfl
      have r2 : (to_ : Int) ≤ (c5 : Int) := by have := HTO.out.1; omega
      have r3 : (0 : Int) ≤ (to_ : Int) := by omega
      have r4 : ((N5 : Int) + 1 == 0) = false := by simp; omega
      have r5 : (to_ : Int) ≤ 60000 := by have := HTO.out.2; omega
      have m5 : Option.map (fun x => Addr.add x 0) a5 = a5 := by
        cases a5 with
        | none => rfl
        | some x => simp [Addr.add]
      have f5 : (if c5 = 0 then a5 else Option.map (fun x => Addr.add x 0) a5) = a5 := by rw [m5]; split <;> rfl
      have m7 : Option.map (fun x => Addr.add x 0) a7 = a7 := by
        cases a7 with
        | none => rfl
        | some x => simp [Addr.add]
      have f7 : (if c7 = 0 then a7 else Option.map (fun x => Addr.add x 0) a7) = a7 := by rw [m7]; split <;> rfl
      have HRT : Hid (RowAt wr a5 to_ c5 (cellsB ((flatD ks).take to_))) := by
        have := HR5.out.take to_ HTO.out.1
        rw [cellsB_take] at this
        exact this
      have H60 : Hid (to_ ≤ 60000) := HTO.out.2
      clear hto
      go_wp2_with fail
      go_loop [12] (fun t12 => ∃ k : Nat, k ≤ ks.length ∧ t12 = .int .i64 (k : Int) ∧ Hid (endN ks k ≤ to_)) (fun t12 => ks.length - (intOf t12).toNat)
      case atStart => exact ⟨0, Nat.zero_le _, rfl, by show _ ≤ _; simp [endN, flatD]⟩
      case round =>
        obtain ⟨k, hk, rfl, hE⟩ := hrel
        have hk0 : (0 : Int) ≤ (k : Int) := by omega
        have hkc : (k : Int) ≤ (c7 : Int) := by omega
        by_cases hkl : k < ks.length
        · have hkl' : (k : Int) < (ks.length : Int) := by omega
          obtain ⟨b6, o6, rfl, hc6⟩ := HR6.out.some (by omega)
          have ec := hc6 k hkl
          rw [endsL_get ks k hkl] at ec
          clear hc6
          by_cases hle : endN ks (k + 1) ≤ to_
          · have HE2 : Hid (endN ks (k + 1) ≤ to_) := hle
            have hle' : ((endN ks (k + 1) : Nat) : Int) ≤ (to_ : Int) := by omega
            clear hle hE
            have HE3 : Hid (Hid (endN ks (k + 1) ≤ to_)) := HE2
            generalize hen : endN ks (k + 1) = en at hle' ec
            clear hen
            go_wp2_with fail
            go_round
            case rel => exact ⟨k + 1, by omega, by go_num, HE2⟩
            case measure => simp [intOf]; omega
          · have HCR : Hid (RowIs ((flatD ks).take to_) (ks.take k) (endN ks k)) := cut_row hok.out hk hE.out (fun _ => by omega) (by have := HTO.out.1; have := HN5.out; omega)
            have hle' : ¬ ((endN ks (k + 1) : Nat) : Int) ≤ (to_ : Int) := by omega
            clear hle hE
            generalize endN ks (k + 1) = en at *
            go_wp2_with fail
            refine (row_any _ _ _ ((flatD ks).take to_) _ HRT.out H60).mono ?_
            rintro e w1 ⟨hb1, v1, ps1, ds1, s1, rfl, hown1, hds1, hR1⟩
            obtain ⟨rfl, -⟩ := rowIs_fn hR1 HCR.out
            obtain ⟨a1, c1, rfl, hdr1⟩ := own_drow hown1 hds1
            have HD1 : Hid (DRow w1 a1 (ks.take k).length c1 (ks.take k)) := hdr1
            have HD7 : Hid (DRow w1 a7 k c7 (ks.take k)) := (HDR7.out.take k hk).below hb1
            have hB1 := below2 hbel hb1
            clear hown1 hds1 hR1 hdr1 hb1
            generalize (ks.take k).length = n1 at *
            go_wp2_with fail
            refine (list_any _ _ _ _ _ _ (ks.take k) (ks.take k) _ HD1.out HD7.out).mono ?_
            rintro e w2 ⟨hb2, q2, rfl, hq2⟩
            obtain rfl : q2 = true := hq2.2 rfl
            have hB2 := below2 hB1 hb2
            clear hq2 hb2
            go_wp2_with fail
            refine (awake_any _).mono ?_
            rintro e w3 ⟨rfl, hb3⟩
            have BE := below2 hB2 hb3
            clear hb3
            go_wp2
            go_ret
            exact ⟨rfl, BE⟩
        · have hkl' : ¬ (k : Int) < (ks.length : Int) := by omega
          have HCR : Hid (RowIs ((flatD ks).take to_) (ks.take k) (endN ks k)) := cut_row hok.out hk hE.out (fun h => absurd h hkl) (by have := HTO.out.1; have := HN5.out; omega)
          clear hE
          go_wp2_with fail
          refine (row_any _ _ _ ((flatD ks).take to_) _ HRT.out H60).mono ?_
          rintro e w1 ⟨hb1, v1, ps1, ds1, s1, rfl, hown1, hds1, hR1⟩
          obtain ⟨rfl, -⟩ := rowIs_fn hR1 HCR.out
          obtain ⟨a1, c1, rfl, hdr1⟩ := own_drow hown1 hds1
          have HD1 : Hid (DRow w1 a1 (ks.take k).length c1 (ks.take k)) := hdr1
          have HD7 : Hid (DRow w1 a7 k c7 (ks.take k)) := (HDR7.out.take k hk).below hb1
          have hB1 := below2 hbel hb1
          clear hown1 hds1 hR1 hdr1 hb1
          generalize (ks.take k).length = n1 at *
          go_wp2_with fail
          refine (list_any _ _ _ _ _ _ (ks.take k) (ks.take k) _ HD1.out HD7.out).mono ?_
          rintro e w2 ⟨hb2, q2, rfl, hq2⟩
          obtain rfl : q2 = true := hq2.2 rfl
          have hB2 := below2 hB1 hb2
          clear hq2 hb2
          go_wp2_with fail
          refine (awake_any _).mono ?_
          rintro e w3 ⟨rfl, hb3⟩
          have BE := below2 hB2 hb3
          clear hb3
          go_wp2
          go_ret
          exact ⟨rfl, BE⟩
end Go.Proofs.Ytgcdelgjbgjofaa
