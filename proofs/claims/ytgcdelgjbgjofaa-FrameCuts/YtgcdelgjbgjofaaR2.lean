/-
  The contract of the answer's Decode once more: what it makes is new.
-/
import Derived.Test.YtgcdelgjbgjofaaR
import Derived.Test.YtgcdelgjbgjofaaK2
namespace Go.Proofs.Ytgcdelgjbgjofaa
open Go.ChangeShapes Go.WideShapes Go.ChangeAt Go.RowKit
set_option maxHeartbeats 8000000 in
set_option maxRecDepth 60000 in
theorem refDecode2_any (a : Option Addr) (len cap : Nat) (l : List UInt8) (w : World) (h : RowAt w a len cap (cellsB l)) (h6 : Hid (len ≤ 6000)) :
    Calls Try.prog 22 #[.slice a len cap] w fun e w' => DecPostF w l e w' := by
  obtain ⟨i0, hi, hz0, hz1, hz2⟩ := info_parts info3
  obtain ⟨j0, hj, hy0, hy1, hy2⟩ := info_parts info9
  have hl : l.length = len := by simpa [cellsB] using h.1
  have hcap := h.2.1
  have hlow : ∀ x, 0 < len → a = some x → x.block < w.heap.size := by
    intro x h0 hx
    obtain ⟨b, off, e, hc⟩ := h.some h0
    rw [e] at hx
    obtain rfl := Option.some.inj hx
    have h1 := hc 0 h0
    rw [List.getElem?_eq_getElem (by rw [h.1]; exact h0)] at h1
    exact World.block_lt_of_cell? w ⟨b, off + 0, none⟩ h1
  have HR : Hid (RowAt w a len cap (cellsB l)) := h
  have h6' : ((len : Nat) : Int) ≤ 6000 := by have := h6.out; omega
  clear h hlow
  have B0 : Below w.heap.size w (w.alloc (.cells #[.slice none 0 0, .slice none 0 0] 29)) := (Below.refl _ _).alloc (Nat.le_refl _) _
  by_cases hbig : (4096 : Int) < (len : Int)
  · go_enter Try.func22, Try.ntmps22
    go_wp2
    go_returns
    exact dec_longF B0 (by omega)
  · go_enter Try.func22, Try.ntmps22
    go_wp2_with fail
    have HL4 : Hid (l.length ≤ 4096) := by show _ ≤ _; omega
    have B2 : Below w.heap.size w ((w.alloc (.cells #[.slice none 0 0, .slice none 0 0] 29)).alloc (.cells #[.slice none 0 0, .slice none 0 0] 29)) := ((Below.refl _ _).alloc (Nat.le_refl _) _).alloc (by simp) _
    generalize hw2 : (w.alloc (.cells #[.slice none 0 0, .slice none 0 0] 29)).alloc (.cells #[.slice none 0 0, .slice none 0 0] 29) = w2 at *
    obtain ⟨D, hD⟩ : ∃ D, D = w.heap.size + 1 := ⟨_, rfl⟩
    have hs2 : w.heap.size + 2 = w2.heap.size := by rw [← hw2]; simp
    have hDF : DF w2 D w2 (.slice none 0 0) (.slice none 0 0) := by
      refine ⟨BB.refl _ _ _, ⟨?_, ?_⟩, ?_, ?_⟩
      all_goals rw [← hw2, hD]; simp
    have KR : Hid (∀ wr, BB D w2.heap.size w2 wr → (wr.cell? ⟨w.heap.size, 0, none⟩ = some (.slice none 0 0) ∧ wr.cell? ⟨w.heap.size, 1, none⟩ = some (.slice none 0 0)) ∧ wr.frozen? ⟨w.heap.size, 0, none⟩ = false ∧ wr.frozen? ⟨w.heap.size, 1, none⟩ = false) := by
      intro wr hb
      have hblk := hb.block w.heap.size (by omega) (by omega)
      refine ⟨⟨(World.cell?_of_block hblk).trans ?_, (World.cell?_of_block hblk).trans ?_⟩, (World.frozen?_of_block hblk).trans ?_, (World.frozen?_of_block hblk).trans ?_⟩
      all_goals rw [← hw2]; simp
    have KL : Hid (∀ wr, BB D w2.heap.size w2 wr → Below w.heap.size w wr) := fun wr hb => B2.trans ((hb.below (by omega)).mono (by omega))
    have hDs : D < w2.heap.size := by omega
    clear hw2 B0
    subst hD
    refine (refLead_any _ _ _ l _ (HR.out.below B2)).mono ?_
    rintro e w3 ⟨rfl, n, k0, rfl, hL0⟩
    have hn64 := hL0.1
    have hk0 : k0 ≤ len := by have := hL0.2.1; omega
    have HI : Hid (Inv1 l n k0 k0 0 []) := inv1_start HL4.out hL0
    clear hL0
    go_wp2
    go_loopw [6, 7, 8] (fun k t i wr => ∃ (kN tN iN : Nat) (nums : List Int) (v : Value), k = .int .i64 (kN : Int) ∧ t = .int .i64 (tN : Int) ∧ i = .int .u64 (iN : Int) ∧ tN ≤ len ∧ iN ≤ n ∧ DF w3 (w.heap.size + 1) wr v (.slice none 0 0) ∧ wr.ownsRow w3.heap.size 3 1 v nums.length (cellsI nums) ∧ Hid (Inv1 l n kN tN iN nums ∧ nums.length ≤ tN + 1 ∧ (0 < kN → nums.length ≤ tN) ∧ ∀ x ∈ nums, Is64 x)) (fun _ _ i _ => n - (intOf i).toNat)
    case atStart =>
      exact ⟨k0, k0, 0, [], _, rfl, rfl, rfl, hk0, Nat.zero_le _, hDF, World.ownsRow_nil _ _ _ _, HI.out, by simp, by simp, by simp⟩
    case round =>
      obtain ⟨kN, tN, iN, nums, v, rfl, rfl, rfl, ht, hin, hDF', hown, hInv⟩ := hrel
      obtain ⟨hbb, ⟨g0, g1⟩, f0, f1⟩ := hDF'
      have HDF : Hid (DF w3 (w.heap.size + 1) wr v (.slice none 0 0)) := ⟨hbb, ⟨g0, g1⟩, f0, f1⟩
      have hbw := KL.out wr hbb
      have hsz := hbb.size
      by_cases hgo : 0 < kN ∧ iN < n
      · obtain ⟨hk1, hi1⟩ := hgo
        obtain ⟨a', hif, hrow⟩ := slice_from a len cap l tN ht
        have HR1 : Hid (RowAt wr a' (len - tN) (cap - tN) (cellsB (l.drop tN))) := hrow _ (HR.out.below hbw)
        clear hrow
        go_wp2_with fail
        refine (refLead_any _ _ _ _ _ HR1.out).mono ?_
        rintro e w4 ⟨rfl, u, m, rfl, hL⟩
        have hu64 := hL.1
        have hm : m ≤ len - tN := by have := hL.2.1; rw [List.length_drop, hl] at this; exact this
        obtain ⟨hI1, hI2, hI3, hI4⟩ := hInv.out
        have HNEW : Hid (Inv1 l n m (tN + m) (iN + 1) (nums ++ [numberZ u]) ∧ (nums ++ [numberZ u]).length ≤ tN + m + 1 ∧ (0 < m → (nums ++ [numberZ u]).length ≤ tN + m) ∧ ∀ x ∈ nums ++ [numberZ u], Is64 x) := by
          have h5 := hI3 hk1
          refine ⟨inv1_step hI1 hi1 hL, by rw [List.length_append]; simp; omega, fun _ => by rw [List.length_append]; simp; omega, ?_⟩
          intro x hx
          rcases List.mem_append.1 hx with hx | hx
          · exact hI4 x hx
          · rw [List.mem_singleton.1 hx]; exact numberZ_is hu64
        have HNL : Hid (nums.length ≤ 6000) := by show _ ≤ _; have := h6.out; omega
        clear hI1 hI2 hI3 hI4 hL
        by_cases hu2 : u % 2 = 0
        · have hz : numberZ u = ((u / 2 : Nat) : Int) := if_pos hu2
          have hz' : (u : Int) / 2 = numberZ u := by rw [hz]; omega
          have hpar : ((u : Int) % 2 == 1) = false := beq_eq_false_iff_ne.2 (by omega)
          clear hz
          generalize numberZ u = zu at *
          go_wp2_with (at_builtin; refine wpList_append_own _ rfl (.tmp 55) (.tmp 57) 26 rfl w3.heap.size 3 i0 (.int .i64 0) 1 8 Try.underlying26 hi hz0 hz1 hz2 rfl (by decide) _ _ _ rfl (hown.alloc _) ⟨w4.heap.size, 0, none⟩ 1 1 [.int .i64 (zu)] rfl rfl (cell_one_new _ _ _) (one_i64 _) (by have := HNL.out; unfold maxLen; omega) (by have := HNL.out; omega) (by simp; omega) ?_)
          intro v5 w5 hown5 hgrow _
          have hDF5 := (HDF.out.below hDs ((Below.refl _ _).alloc (Nat.le_refl _) (.cells #[.int .i64 zu] 3))).grown hDs hgrow (fun k hk => (hown.lt k hk).1)
          obtain ⟨g, cap5, rfl, hg, hg2, _⟩ := own_form hown5 (by omega)
          obtain ⟨hbb5, ⟨p0, p1⟩, q0, q1⟩ := hDF5
          have HDF5 : Hid (DF w3 (w.heap.size + 1) w5 v (.slice none 0 0)) := ⟨hbb5, ⟨p0, p1⟩, q0, q1⟩
          clear g0 g1 f0 f1 HDF hgrow
          go_wp2
          go_roundw
          case rel =>
            refine ⟨m, tN + m, iN + 1, nums ++ [zu], _, rfl, by go_num, by go_num, by omega, by omega, HDF5.out.set0 _, ?_, HNEW.out⟩
            rw [List.length_append, cellsI_append]
            exact own_setCell hown5 _ (by show w.heap.size + 1 < _; omega) _
          case measure => simp [intOf]; omega
        · have hz : numberZ u = -1 - ((u / 2 : Nat) : Int) := if_neg hu2
          have hz' : -1 - (u : Int) / 2 = numberZ u := by rw [hz]; omega
          have hpar : ((u : Int) % 2 == 1) = true := by rw [beq_iff_eq]; omega
          clear hz
          generalize numberZ u = zu at *
          go_wp2_with (at_builtin; refine wpList_append_own _ rfl (.tmp 55) (.tmp 57) 26 rfl w3.heap.size 3 i0 (.int .i64 0) 1 8 Try.underlying26 hi hz0 hz1 hz2 rfl (by decide) _ _ _ rfl (hown.alloc _) ⟨w4.heap.size, 0, none⟩ 1 1 [.int .i64 (zu)] rfl rfl (cell_one_new _ _ _) (one_i64 _) (by have := HNL.out; unfold maxLen; omega) (by have := HNL.out; omega) (by simp; omega) ?_)
          intro v5 w5 hown5 hgrow _
          have hDF5 := (HDF.out.below hDs ((Below.refl _ _).alloc (Nat.le_refl _) (.cells #[.int .i64 zu] 3))).grown hDs hgrow (fun k hk => (hown.lt k hk).1)
          obtain ⟨g, cap5, rfl, hg, hg2, _⟩ := own_form hown5 (by omega)
          obtain ⟨hbb5, ⟨p0, p1⟩, q0, q1⟩ := hDF5
          have HDF5 : Hid (DF w3 (w.heap.size + 1) w5 v (.slice none 0 0)) := ⟨hbb5, ⟨p0, p1⟩, q0, q1⟩
          clear g0 g1 f0 f1 HDF hgrow
          go_wp2
          go_roundw
          case rel =>
            refine ⟨m, tN + m, iN + 1, nums ++ [zu], _, rfl, by go_num, by go_num, by omega, by omega, HDF5.out.set0 _, ?_, HNEW.out⟩
            rw [List.length_append, cellsI_append]
            exact own_setCell hown5 _ (by show w.heap.size + 1 < _; omega) _
          case measure => simp [intOf]; omega
      · by_cases hkz : kN = 0
        · have HND : Hid (NoData l) := inv1_zero (by rw [← hkz]; exact hInv.out.1)
          obtain ⟨⟨r0, r1⟩, r2, r3⟩ := KR.out wr hbb
          clear hInv hown HDF g0 g1 f0 f1
          subst hkz
          go_wp2_with fail
          refine wp_loop_rounds 1 ?_
          rw [rounds_succ]
          go_wp2_with fail
          have hbd : BB (w.heap.size + 1) w3.heap.size w3 wr.drew := hbb.trans (BB.of_below (below_drew _) hsz)
          obtain ⟨⟨r0', r1'⟩, r2', r3'⟩ := KR.out _ hbd
          have hbw' := KL.out _ hbd
          go_region
          all_goals go_wp2
          all_goals try simp only [Exit.inBlock, Exit.then]
          all_goals refine bodyPost_ret (ret_pair rfl _ _ w.heap.size _ _ rfl (two_set r0' r1' _ _).1 (two_set r0' r1' _ _).2) rfl ?_
          all_goals exact dec_textF ((hbw'.setCell (Nat.le_refl _) _).setCell (Nat.le_refl _) _) HL4.out HND.out
        · have hk1 : 0 < kN := by omega
          obtain rfl : iN = n := by omega
          obtain ⟨a', hif, hrow⟩ := slice_from a len cap l tN ht
          have HR1 : Hid (RowAt wr a' (len - tN) (cap - tN) (cellsB (l.drop tN))) := hrow _ (HR.out.below hbw)
          clear hrow
          go_wp2_with fail
          refine (refLead_any _ _ _ _ _ HR1.out).mono ?_
          rintro e w4 ⟨rfl, n2, k2, rfl, hL⟩
          have hn2 := hL.1
          have hk2 : k2 ≤ len - tN := by have := hL.2.1; rw [List.length_drop, hl] at this; exact this
          obtain ⟨hI1, hI2, hI3, hI4⟩ := hInv.out
          have HI2 : Hid (Inv2 l nums n2 k2 (tN + k2) 0 []) := inv2_start HL4.out hI1 hL
          have HI4 : Hid (∀ x ∈ nums, Is64 x) := hI4
          obtain ⟨an, capn, rfl, hrown, hlown⟩ := RowAt.of_own hown
          have HRN : Hid (RowAt w4 an nums.length capn (cellsI nums) ∧ ∀ x, an = some x → x.block ≠ w.heap.size + 1) := ⟨hrown, fun x hx => by have := (hlown x hx).1; omega⟩
          have HAN : Hid (∀ x, an = some x → w.heap.size < x.block) := fun x hx => by have := (hlown x hx).1; omega
          have HDF4 : Hid (DF w4 (w.heap.size + 1) w4 (.slice an nums.length capn) (.slice none 0 0)) := ⟨BB.refl _ _ _, ⟨g0, g1⟩, f0, f1⟩
          have hDs4 : w.heap.size + 1 < w4.heap.size := by omega
          have KR4 : Hid (∀ wr, BB (w.heap.size + 1) w4.heap.size w4 wr → ((wr.cell? ⟨w.heap.size, 0, none⟩ = some (.slice none 0 0) ∧ wr.cell? ⟨w.heap.size, 1, none⟩ = some (.slice none 0 0)) ∧ wr.frozen? ⟨w.heap.size, 0, none⟩ = false ∧ wr.frozen? ⟨w.heap.size, 1, none⟩ = false) ∧ Below w.heap.size w wr ∧ RowAt wr a len cap (cellsB l) ∧ RowAt wr an nums.length capn (cellsI nums)) := fun wr hb => by
            have h1 := hbb.trans (hb.mono hsz)
            exact ⟨KR.out wr h1, KL.out wr h1, HR.out.below (KL.out wr h1), HRN.out.1.bb hb HRN.out.2⟩
          clear hL hI1 hI2 hI3 hI4 hown hrown hlown g0 g1 f0 f1 HDF hInv HI KR KL hbb hbw HR1 hif hgo hDF HRN
          go_wp2
          go_loopw [6, 7, 12] (fun k t i wr => ∃ (kN tN iN : Nat) (texts : List ByteArray) (v : Value), k = .int .i64 (kN : Int) ∧ t = .int .i64 (tN : Int) ∧ i = .int .u64 (iN : Int) ∧ tN ≤ len ∧ iN ≤ n2 ∧ DF w4 (w.heap.size + 1) wr (.slice an nums.length capn) v ∧ wr.ownsRow w4.heap.size 9 1 v texts.length (cellsT texts) ∧ Hid (Inv2 l nums n2 kN tN iN texts ∧ texts.length ≤ tN ∧ ∀ x ∈ texts, x.size ≤ maxLen)) (fun _ _ i _ => n2 - (intOf i).toNat)
          case atStart =>
            exact ⟨k2, tN + k2, 0, [], _, rfl, by go_num, rfl, by omega, Nat.zero_le _, HDF4.out, World.ownsRow_nil _ _ _ _, HI2.out, by simp, by simp⟩
          case round =>
            clear HI2 HDF4
            obtain ⟨kM, tM, iM, texts, v, rfl, rfl, rfl, ht', hin', hDF', hown, hInv⟩ := hrel
            obtain ⟨hbb, ⟨g0, g1⟩, f0, f1⟩ := hDF'
            have HDF : Hid (DF w4 (w.heap.size + 1) wr (.slice an nums.length capn) v) := ⟨hbb, ⟨g0, g1⟩, f0, f1⟩
            have hsz4 := hbb.size
            obtain ⟨HRR, hbw, hrl, hrn⟩ := KR4.out wr hbb
            have HRL : Hid (RowAt wr a len cap (cellsB l)) := hrl
            have HRN : Hid (RowAt wr an nums.length capn (cellsI nums)) := hrn
            clear hrl hrn
            by_cases hgo : 0 < kM ∧ iM < n2
            · obtain ⟨hk1, hi1⟩ := hgo
              obtain ⟨a', hif, hrow⟩ := slice_from a len cap l tM ht'
              have HR1 : Hid (RowAt wr a' (len - tM) (cap - tM) (cellsB (l.drop tM))) := hrow _ HRL.out
              clear hrow HRR
              go_wp2_with fail
              refine (refLead_any _ _ _ _ _ HR1.out).mono ?_
              rintro e w6 ⟨rfl, u, m, rfl, hL⟩
              have hu64 := hL.1
              have hm : m ≤ len - tM := by have := hL.2.1; rw [List.length_drop, hl] at this; exact this
              obtain ⟨hI1, hI2, hI3⟩ := hInv.out
              by_cases hno : m = 0 ∨ l.length - tM - m < u
              · have HND := inv2_no hI1 hi1 hL hno
                have HN0 : Hid (Inv2 l nums n2 0 tM (iM + 1) texts ∧ texts.length ≤ tM ∧ ∀ x ∈ texts, x.size ≤ maxLen) := ⟨inv2_of_no HND _ _ _ _ _ _, hI2, hI3⟩
                clear HND hI1 hI2 hI3 hInv hL
                rw [hl] at hno
                have hno' : m = 0 ∨ (0 < m ∧ (len : Int) - (tM : Int) - (m : Int) < (u : Int)) := by omega
                clear hno
                rcases hno' with rfl | ⟨hm0, hno⟩
                all_goals
                  go_wp2
                  go_roundw
                  case rel => exact ⟨0, tM, iM + 1, texts, v, rfl, rfl, by go_num, ht', by omega, HDF.out, hown, HN0.out⟩
                  case measure => simp [intOf]; omega
              · rw [hl] at hno
                have hm0 : 0 < m := by omega
                have hno1 : ¬ (len : Int) - (tM : Int) - (m : Int) < (u : Int) := by omega
                go_wp2_with fail
                obtain ⟨s, hs⟩ : ∃ s, s = tM + m := ⟨_, rfl⟩
                obtain ⟨a6, hif6, hrow6⟩ := slice_from a len cap l s (by omega)
                have hr6 := ((hrow6 _ HRL.out).below (below_drew _)).take u (by omega)
                rw [cellsB_take] at hr6
                have ht6 := text_of hr6
                have HNEW : Hid (Inv2 l nums n2 m (s + u) (iM + 1) (texts ++ [txt ((l.drop s).take u)]) ∧ (texts ++ [txt ((l.drop s).take u)]).length ≤ s + u ∧ ∀ x ∈ texts ++ [txt ((l.drop s).take u)], x.size ≤ maxLen) := by
                  subst hs
                  refine ⟨inv2_step hI1 hi1 hL, by rw [List.length_append]; simp; omega, ?_⟩
                  intro x hx
                  rcases List.mem_append.1 hx with hx | hx
                  · exact hI3 x hx
                  · rw [List.mem_singleton.1 hx, txt_size, List.length_take]
                    have := h6.out
                    unfold maxLen; omega
                have HTL : Hid (texts.length ≤ 6000) := by show _ ≤ _; have := h6.out; omega
                clear hrow6 hr6 hI1 hI2 hI3 hL hInv
                generalize txt ((l.drop s).take u) = X at *
                have x1 : IntKind.i64.wrap ((tM : Int) + (m : Int)) = (s : Int) := by rw [IntKind.wrap_i64]; omega
                have y1 : (tM : Int) + (m : Int) = (s : Int) := by omega
                have y2 : IntKind.i64.wrap (s : Int) = (s : Int) := by rw [IntKind.wrap_i64]; omega
                have x2 : IntKind.i64.wrap ((s : Int) + (u : Int)) = (s : Int) + (u : Int) := by rw [IntKind.wrap_i64]; omega
                have x3 : IntKind.i64.wrap (u : Int) = (u : Int) := by rw [IntKind.wrap_i64]; omega
                have x4 : (0 : Int) ≤ (s : Int) := by omega
                have x5 : (s : Int) ≤ max ((s : Int) + (u : Int)) 0 := by omega
                have x8 : (s : Int) ≤ (s : Int) + (u : Int) := by omega
                have x6 : (0 : Int) ≤ (s : Int) + (u : Int) ∧ (s : Int) + (u : Int) ≤ (cap : Int) := by omega
                have x7 : ((s : Int) + (u : Int)).toNat - s = u := by omega
                have HS : Hid (s = tM + m ∧ s + u ≤ len) := ⟨hs, by omega⟩
                clear hs
                have g1a : (w6.alloc (.cells #[.string X] 9)).cell? ⟨w.heap.size + 1, 1, none⟩ = some v := (((Below.refl _ _).alloc (Nat.le_refl _) _ : Below w6.heap.size w6 (w6.alloc (.cells #[.string X] 9))).cell (p := ⟨w.heap.size + 1, 1, none⟩) (by show w.heap.size + 1 < _; omega)).trans g1
                go_region_law (refine step_append_own _ rfl (.tmp 105) (.tmp 118) 27 rfl w4.heap.size 9 j0 (.string ByteArray.empty) 1 16 Try.underlying27 hj hy0 hy1 hy2 rfl (by decide) _ _ _ (by simp [Act.eval]) (hown.drew.alloc _) ⟨w6.heap.size, 0, none⟩ 1 1 [.string X] (by simp [Act.eval]) rfl (cell_one_new _ _ _) (one_str _) (by have := HTL.out; unfold maxLen; omega) (by have := HTL.out; omega) (by simp; omega) ?_; intro v7 w7 hown7 hgrow7 _; obtain ⟨hbb7, ⟨p0, p1⟩, q0, q1⟩ := (HDF.out.below hDs4 ((below_drew w6).alloc (Nat.le_refl _) (.cells #[.string X] 9))).grown hDs4 hgrow7 (fun k hk => (hown.lt k hk).1); obtain ⟨g7, cap7, rfl, hg7, hg8, hcs7⟩ := own_form hown7 (by omega))
                all_goals
                  have HDF7 : Hid (DF w4 (w.heap.size + 1) w7 (.slice an nums.length capn) v) := ⟨hbb7, ⟨p0, p1⟩, q0, q1⟩
                  clear x1 x2 x3 x4 x5 x6 x7 x8 y2 ht6 g0 g1 f0 f1
                  go_wp2
                  go_roundw
                  case rel =>
                    have hS := HS.out
                    refine ⟨m, s + u, iM + 1, texts ++ [X], _, rfl, by go_num, by go_num, by omega, by omega, HDF7.out.set1 _, ?_, HNEW.out⟩
                    rw [List.length_append, cellsT_append]
                    exact own_setCell hown7 _ (by show w.heap.size + 1 < _; omega) _
                  case measure => simp [intOf]; omega
            · have HND0 : Hid (kM = 0 → NoData l) := fun h => inv2_zero (by rw [← h]; exact hInv.out.1)
              have hbd : BB (w.heap.size + 1) w4.heap.size w4 wr.drew := hbb.trans (BB.of_below (below_drew _) hsz4)
              obtain ⟨⟨⟨r0, r1⟩, r2, r3⟩, hbwd, _, hrnd⟩ := KR4.out _ hbd
              by_cases hkz : kM = 0
              · have HND : Hid (NoData l) := HND0.out hkz
                obtain ⟨⟨s0, s1⟩, s2, s3⟩ := HRR
                clear hInv hown HDF g0 g1 f0 f1 HND0 hrnd
                subst hkz
                go_wp2_with fail
                go_region
                all_goals go_wp2
                all_goals try simp only [Exit.inBlock, Exit.then]
                all_goals refine bodyPost_ret (ret_pair rfl _ _ w.heap.size _ _ rfl (two_set r0 r1 _ _).1 (two_set r0 r1 _ _).2) rfl ?_
                all_goals exact dec_textF ((hbwd.setCell (Nat.le_refl _) _).setCell (Nat.le_refl _) _) HL4.out HND.out
              · have hk1 : 0 < kM := by omega
                have hkz' : ((kM : Int) == 0) = false := beq_eq_false_iff_ne.2 (by omega)
                obtain rfl : iM = n2 := by omega
                obtain ⟨hI1, hI2, hI3⟩ := hInv.out
                obtain ⟨at_, capt, rfl, hrowt, hlowt⟩ := RowAt.of_own hown
                have HEND : Hid (∀ nums0 texts0, Fit nums0 texts0 → l = bytesL nums0 texts0 → bytesL nums texts = l) := inv2_end hI1
                have HFIT : Hid (Fit nums texts) := ⟨HI4.out, hI3⟩
                have HDD : Hid (DataAt wr (.agg #[.slice an nums.length capn, .slice at_ texts.length capt]) nums texts) := ⟨_, _, _, _, _, _, rfl, HRN.out, hrowt, HI4.out, hI3⟩
                obtain ⟨L, hLb⟩ : ∃ L, Hid (L = bytesL nums texts) := ⟨_, rfl⟩
                have d0 : wr.drew.cell? ⟨w.heap.size + 1, 0, none⟩ = some (.slice an nums.length capn) := g0
                have d1 : wr.drew.cell? ⟨w.heap.size + 1, 1, none⟩ = some (.slice at_ texts.length capt) := g1
                have hlt1 : w.heap.size + 1 < wr.drew.heap.size := by show w.heap.size + 1 < wr.heap.size; omega
                have hlt0 : w.heap.size < wr.drew.heap.size := by omega
                have KE : Hid (∀ w', Below wr.drew.heap.size wr.drew w' → ((w'.cell? ⟨w.heap.size, 0, none⟩ = some (.slice none 0 0) ∧ w'.cell? ⟨w.heap.size, 1, none⟩ = some (.slice none 0 0)) ∧ w'.frozen? ⟨w.heap.size, 0, none⟩ = false ∧ w'.frozen? ⟨w.heap.size, 1, none⟩ = false) ∧ (w'.cell? ⟨w.heap.size + 1, 0, none⟩ = some (.slice an nums.length capn) ∧ w'.cell? ⟨w.heap.size + 1, 1, none⟩ = some (.slice at_ texts.length capt)) ∧ (convert 22 9 (.slice a len cap)).run Try.prog w' = .ok (.string (txt l)) w') := fun w' hb =>
                  ⟨⟨⟨(hb.cell (p := ⟨w.heap.size, 0, none⟩) hlt0).trans r0, (hb.cell (p := ⟨w.heap.size, 1, none⟩) hlt0).trans r1⟩, (hb.frozen (p := ⟨w.heap.size, 0, none⟩) hlt0).trans r2, (hb.frozen (p := ⟨w.heap.size, 1, none⟩) hlt0).trans r3⟩,
                   ⟨(hb.cell (p := ⟨w.heap.size + 1, 0, none⟩) hlt1).trans d0, (hb.cell (p := ⟨w.heap.size + 1, 1, none⟩) hlt1).trans d1⟩, text_of (HRL.out.below (below2 (below_drew _) hb))⟩
                have HLT : Hid (∀ x, at_ = some x → w.heap.size < x.block) := fun x hx => by have := (hlowt x hx).1; omega
                have HK : Hid (∀ w', Below wr.heap.size wr w' → (convert 22 9 (.slice a len cap)).run Try.prog w' = .ok (.string (txt l)) w' ∧ (w'.cell? ⟨w.heap.size + 1, 0, none⟩ = some (.slice an nums.length capn) ∧ w'.cell? ⟨w.heap.size + 1, 1, none⟩ = some (.slice at_ texts.length capt)) ∧ Below wr.heap.size wr w') := fun w' hb =>
                  ⟨text_of (HRL.out.below hb), ⟨(hb.cell (p := ⟨w.heap.size + 1, 0, none⟩) hlt1).trans g0, (hb.cell (p := ⟨w.heap.size + 1, 1, none⟩) hlt1).trans g1⟩, hb⟩
                clear hI1 hI2 hI3 hInv HND0 hown hrowt HRR hrnd r0 r1 r2 r3 hlowt HDF f0 f1 hi hz0 hz1 hz2 hj hy0 hy1 hy2 hcap HR h6 h6' hbig B2 hs2 hDs hk0 ht ht' hgo hkz hbb hbd hbw HRN KR4 HI4 hn2 hk2 hsz hsz4 hn64 HRL
                have tt : (convert 22 9 (.slice a len cap)).run Try.prog wr.drew = .ok (.string (txt l)) wr.drew := (HK.out _ (below_drew _)).1
                go_wp2_with fail
                go_region_with (go_at_call 20; refine (refBytes_any _ nums texts _ (HDD.out.below (below_drew _)) L hLb).mono ?_; rintro e w8 ⟨hb8, v8, L8, rfl, hown8, hp8, hx8, hy8⟩; obtain ⟨a8, cap8, rfl, ht8, hu8, hz8⟩ := text_own hown8; have s6 := (HK.out w8 (below2 (below_drew _) hb8)).1; have HP8 : Hid ((L.length ≤ 4096 → L8 = L) ∧ (4096 < L.length → 4096 < L8.length)) := ⟨hp8, hx8⟩; clear hp8 hx8 hy8 hz8 hown8 hu8)
                all_goals clear tt d0 d1 g0 g1 ht8 s6
                all_goals obtain ⟨⟨⟨s0, s1⟩, s2, s3⟩, ⟨s4, s5⟩, _⟩ := KE.out w8 hb8
                all_goals have hB8 := hbwd.trans (hb8.mono (Nat.le_of_lt hlt0))
                all_goals have HQ1 : Hid ((!(txt L8).toList == (txt l).toList) = true → NoData l) := fin_bad HEND.out hLb HP8.out HL4.out
                all_goals have HQ2 : Hid ((!(txt L8).toList == (txt l).toList) = false → l = bytesL nums texts) := fin_ok hLb HP8.out HL4.out
                all_goals have HD8 : Hid (DataAt w8 (.agg #[.slice an nums.length capn, .slice at_ texts.length capt]) nums texts) := HDD.out.below (below2 (below_drew _) hb8)
                all_goals clear HP8 KE HDD HK hb8 HEND
                all_goals go_wp2
                all_goals rename_i hq
                all_goals try simp only [Exit.inBlock, Exit.then]
                all_goals refine bodyPost_ret (ret_pair rfl _ _ w.heap.size _ _ rfl (two_set s0 s1 _ _).1 (two_set s0 s1 _ _).2) rfl ?_
                all_goals first
                  | exact dec_textF ((hB8.setCell (Nat.le_refl _) _).setCell (Nat.le_refl _) _) HL4.out (HQ1.out hq)
                  | exact dec_okF ((hB8.setCell (Nat.le_refl _) _).setCell (Nat.le_refl _) _) HL4.out (nums := nums) (texts := texts) (data_two HD8.out (fun x hx => Nat.ne_of_gt (HAN.out x hx)) (fun x hx => Nat.ne_of_gt (HLT.out x hx))) HFIT.out (HQ2.out hq) (fresh_mk (fun x hx => Nat.le_of_lt (HAN.out x hx)) (fun x hx => Nat.le_of_lt (HLT.out x hx)))
end Go.Proofs.Ytgcdelgjbgjofaa
