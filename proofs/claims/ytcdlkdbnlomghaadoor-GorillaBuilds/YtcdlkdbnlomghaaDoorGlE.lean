/-
  Samples of the program.
-/
import Derived.Test.YtcdlkdbnlomghaaDoorGlD
import Derived.Test.YtcdlkdbnlomghaaDoorGlH
namespace Go.Proofs.YtcdlkdbnlomghaaDoor.Gl
open Go.ChangeShapes Go.WideShapes Go.ChangeAt Go.RowKit
open Go.Proofs.YtcdlkdbnlomghaaDoor.Bi
open Go.Proofs.YtcdlkdbnlomghaaDoor.Fr (RowAt cellsI cellsI_get)
open Go.Proofs.YtcdlkdbnlomghaaDoor.Bk (rT rV)
open Go.Proofs.YtcdlkdbnlomghaaDoor.Fr (Is64)
/-- a chunk of samples -/
def ChIs (ls : List Bk.Sm) (n f l : Int) (bs : List Nat) (N : Int) : Prop := Bk.MayS ls ∧ 0 < ls.length ∧ n = (ls.length : Int) ∧ f = firstT ls ∧ l = lastT ls ∧ MayB bs N ∧ Told (Bk.tell (Bk.tS ls)) (Bk.tell (Bk.vS ls)) ls.length (unpack bs N.toNat)
def SampPost (n f l : Int) (bs : List Nat) (N : Int) (w : World) (e : Ending) (w' : World) : Prop :=
  Below w.heap.size w w' ∧ ((∃ (ls : List Bk.Sm) (a : Option Addr) (len cap : Nat), ChIs ls n f l bs N ∧ e = .returned (.tuple #[.slice a len cap, .int .i64 0]) ∧ Bk.SmsAt w' a len cap ls) ∨ ((∀ ls, ¬ ChIs ls n f l bs N) ∧ e = .returned (.tuple #[.slice none 0 0, .int .i64 2])))
theorem samp_no {n f l : Int} {bs : List Nat} {N : Int} {w w' : World} (hb : Below w.heap.size w w') (h : ∀ ls, ¬ ChIs ls n f l bs N) : SampPost n f l bs N w (.returned (.tuple #[.slice none 0 0, .int .i64 2])) w' := ⟨hb, .inr ⟨h, rfl⟩⟩
/-- the bits that a reader has of these -/
noncomputable def bitsB (bs : List Nat) (N : Int) : List Bool := open Classical in if MayB bs N then unpack bs N.toNat else []
theorem bitsB_yes {bs : List Nat} {N : Int} (h : MayB bs N) : bitsB bs N = unpack bs N.toNat := if_pos h
theorem bitsB_no {bs : List Nat} {N : Int} (h : ¬ MayB bs N) : bitsB bs N = [] := if_neg h
theorem told_nil {T V : Nat → Int} {n : Nat} (h : Told T V n []) : n = 0 := by
  rcases sd_inv h.2 with ⟨e, _⟩ | ⟨_, _, m, e, _⟩ | ⟨_, k, m, h1, _, h3, e, _⟩
  · exact e.symm
  · exfalso
    have := congrArg List.length e
    unfold cd at this
    simp only [List.length_append, coded_len, List.length_nil] at this
    have h1 := clsU_lt (foldN (T 0))
    have h2 := hd_pos _ h1
    unfold szT at this
    omega
  · have := (h3 0 h1).1
    omega
theorem chIs_told {ls : List Bk.Sm} {n f l : Int} {bs : List Nat} {N : Int} (h : ChIs ls n f l bs N) : Told (Bk.tell (Bk.tS ls)) (Bk.tell (Bk.vS ls)) ls.length (bitsB bs N) := by
  rw [bitsB_yes h.2.2.2.2.2.1]; exact h.2.2.2.2.2.2
theorem read_any (a : Option Addr) (len cap : Nat) (N : Int) (bs : List Nat) (w : World) (h : ByAt w a len cap bs) : Calls Tryd.prog 54 #[.agg #[.slice a len cap, .int .i64 N]] w fun e w' => ReadPost (bitsB bs N) w e w' := by
  by_cases hM : MayB bs N
  · rw [bitsB_yes hM]
    obtain ⟨k, rfl⟩ : ∃ k : Nat, N = (k : Int) := ⟨N.toNat, by have := hM.1; omega⟩
    have hp := may_pack h.2.2.2.1 hM
    have hl : bs.length = len := h.1
    have h3 := hM.2.2.1
    have h4 := hM.2.1
    rw [Int.toNat_natCast]
    exact read_yes a len cap k (unpack bs k) w (by rw [← hl, ← hp]; rw [hl]; exact h) (unpack_len _ _) (by unfold need; omega) (by omega)
  · rw [bitsB_no hM]
    exact read_no a len cap N bs w h hM
theorem nums_are {T V : Nat → Int} {n : Nat} {ls : List Bk.Sm} (h : Bk.Are ((n : Int) :: Bk.flat2 T V n) ls) : ls.length = n ∧ ∀ j, j < n → T j = Bk.tell (Bk.tS ls) j ∧ V j = Bk.tell (Bk.vS ls) j := by
  have h2 := (Bk.numsS_iff _ _).1 h.2
  have hn : n = ls.length := by have := h2.2.1; simp at this; omega
  subst hn
  refine ⟨rfl, fun j hj => ?_⟩
  have h3 := h2.2.2 j hj
  have h4 := Bk.flat2_get T V ls.length j hj
  exact ⟨h4.1.symm.trans h3.1, h4.2.symm.trans h3.2⟩
theorem are_nums {T V : Nat → Int} {n : Nat} {ls : List Bk.Sm} (hM : Bk.MayS ls) (hn : ls.length = n) (h : ∀ j, j < n → T j = Bk.tell (Bk.tS ls) j ∧ V j = Bk.tell (Bk.vS ls) j) : Bk.Are ((n : Int) :: Bk.flat2 T V n) ls := by
  refine ⟨hM, ?_⟩
  unfold Bk.numsS Bk.numsK
  rw [hn, Bk.flat2_same h]
theorem hear_64 {T V : Nat → Int} {n : Nat} (hn : n ≤ 64) (hI : In2 T V n) : ∀ x ∈ (n : Int) :: Bk.flat2 T V n, Is64 x := by
  intro x hx
  rcases List.mem_cons.1 hx with rfl | hx
  · unfold Is64; omega
  · unfold Bk.flat2 at hx
    obtain ⟨j, hj, hx⟩ := List.mem_flatMap.1 hx
    have h1 := hI j (List.mem_range.1 hj)
    unfold inI at h1
    simp at hx
    unfold Is64
    rcases hx with rfl | rfl <;> omega
set_option maxHeartbeats 4000000 in
set_option maxRecDepth 60000 in
theorem samples_any (a : Option Addr) (len cap : Nat) (n f l N : Int) (bs : List Nat) (w : World) (h : ByAt w a len cap bs) (hT : Tab w) :
    Calls Tryd.prog 13 #[.agg #[.int .i64 n, .int .i64 f, .int .i64 l, .slice a len cap, .int .i64 N]] w fun e w' => SampPost n f l bs N w e w' := by
  have HY := Hid.mk9 h
  have HT := Hid.mk9 hT
  have HX := Hid.mk9 (B5.new w 28 (.int .i64 n) (.int .i64 f) (.int .i64 l) (.slice a len cap) (.int .i64 N))
  have HB := Hid.mk9 (below_alloc w (.cells #[.int .i64 n, .int .i64 f, .int .i64 l, .slice a len cap, .int .i64 N] 28))
  clear h hT
  go_enter Tryd.func13, Tryd.ntmps13
  go_upto_region 1 with fail
  generalize w.alloc (.cells #[.int .i64 n, .int .i64 f, .int .i64 l, .slice a len cap, .int .i64 N] 28) = w1 at *
  obtain ⟨X, hX⟩ : ∃ X, w.heap.size = X := ⟨_, rfl⟩
  have HXw := Hid.mk9 hX
  rw [hX] at HX ⊢
  clear hX
  obtain ⟨x0, x1, x2, x3, x4⟩ := HX.out.cells
  by_cases h1 : n < 1
  · have HN : Hid (∀ ls, ¬ ChIs ls n f l bs N) := fun ls h => by have := h.2.1; have := h.2.2.1; omega
    go_wp2_with fail
    go_ret2
    exact samp_no HB.out HN.out
  · by_cases h2 : n > 64
    · have HN : Hid (∀ ls, ¬ ChIs ls n f l bs N) := fun ls h => by have := h.1.1; have := h.2.2.1; omega
      go_wp2_with fail
      go_ret2
      exact samp_no HB.out HN.out
    · obtain ⟨k, rfl⟩ : ∃ k : Nat, n = (k : Int) := ⟨n.toNat, by omega⟩
      have hk1 : 1 ≤ k := by omega
      have hk9 : k ≤ 64 := by omega
      have HH : Hid (Calls Tryd.prog 34 #[.agg #[.slice a len cap, .int .i64 N], .int .i64 (k : Int)] w1 fun e w' => HearPost k (bitsB bs N) w1 e w') := hear_any a len cap k N (bitsB bs N) w1 hk1 hk9 (HT.out.below HB.out) (fun W hW => read_any a len cap N bs W (HY.out.below (below2 HB.out hW)))
      clear h1 h2
      by_cases hTd : ∃ T V, Told T V k (bitsB bs N)
      · obtain ⟨T, V, hTd⟩ := hTd
        have HTd := Hid.mk9 hTd
        have HH2 : Hid (Calls Tryd.prog 34 #[.agg #[.slice a len cap, .int .i64 N], .int .i64 (k : Int)] w1 fun e w' => Below w1.heap.size w1 w' ∧ ∃ g c n1, e = .returned (.tuple #[.slice (some ⟨g, 0, none⟩) n1 c, .bool true]) ∧ w'.ownsRow w1.heap.size 3 1 (.slice (some ⟨g, 0, none⟩) n1 c) n1 (cellsI ((k : Int) :: Bk.flat2 T V k))) := HH.out.mono (by
          rintro e w' ⟨hb, h⟩
          refine ⟨hb, ?_⟩
          rcases h with ⟨v, T2, V2, he, ht, ho⟩ | ⟨v, _, hno⟩
          · obtain ⟨g, c, rfl, _, _⟩ := own_slice ho (by omega)
            have := told_uniq ht HTd.out
            rw [Bk.flat2_same this] at ho
            exact ⟨g, c, _, he, ho⟩
          · exact absurd HTd.out (hno T V))
        clear HH hTd
        go_upto_region 4 with (go_at_call 34; refine HH2.out.mono ?_; rintro e w4 ⟨hb4, g, c, n1, rfl, ho4⟩; have HB4 := Hid.mk9 (below2 HB.out hb4); have HX4 := Hid.mk9 (HX.out.below hb4); have HO4 := Hid.mk9 ho4; clear hb4 ho4 HB HX HH2 x0 x1 x2 x3 x4)
        have HD4 : Hid (Fr.DataAt w4 (.agg #[.slice (some ⟨g, 0, none⟩) n1 c, .slice none 0 0]) ((k : Int) :: Bk.flat2 T V k) []) := by
          obtain ⟨a9, c9, e9, hr, _⟩ := Fr.RowAt.of_own HO4.out
          injection e9 with q1 q2 q3
          subst q1 q3
          exact ⟨_, _, _, _, _, _, rfl, hr, Fr.rowAt_nil _, hear_64 hk9 HTd.out.1, fun t ht => by cases ht⟩
        have HU4 := Hid.mk9 (Bk.unpack_any _ _ _ _ HD4.out)
        by_cases hA : ∃ ls, Bk.Are ((k : Int) :: Bk.flat2 T V k) ls
        · obtain ⟨ls, hA⟩ := hA
          have HA := Hid.mk9 hA
          have hlk : ls.length = k := (nums_are hA).1
          have HLk := Hid.mk9 hlk
          have HU : Hid (Calls Tryd.prog 35 #[.agg #[.slice (some ⟨g, 0, none⟩) n1 c, .slice none 0 0]] w4 fun e w' => Below w4.heap.size w4 w' ∧ ∃ a2 len2 cap2, e = .returned (.tuple #[.slice a2 len2 cap2, .int .i64 0]) ∧ Bk.SmsAt w' a2 len2 cap2 ls ∧ len2 = k) := HU4.out.mono (by
            rintro e w' ⟨hb, h⟩
            refine ⟨hb, ?_⟩
            rcases h with ⟨ls2, a2, len2, cap2, _, hA2, he, hs⟩ | ⟨hno, _⟩
            · obtain rfl := Bk.are_one hA2 HA.out
              exact ⟨a2, len2, cap2, he, hs, by rw [← hs.1, HLk.out]⟩
            · exact absurd HA.out (hno rfl ls))
          have HYes : Hid (firstT ls = f → lastT ls = l → ChIs ls (k : Int) f l bs N) := fun h1 h2 => by
            have hMb : MayB bs N := by
              apply Classical.byContradiction
              intro hn
              have := HTd.out
              rw [bitsB_no hn] at this
              have := told_nil this
              omega
            have ht := HTd.out
            rw [bitsB_yes hMb] at ht
            exact ⟨HA.out.1, by have := HLk.out; omega, by rw [HLk.out], h1.symm, h2.symm, hMb, by rw [HLk.out]; exact told_congr ht (nums_are HA.out).2⟩
          have HNo : Hid (∀ ls2, ChIs ls2 (k : Int) f l bs N → f = firstT ls ∧ l = lastT ls) := fun ls2 h2 => by
            have h3 := h2.2.2.1
            have h4 := told_uniq HTd.out (by have := chIs_told h2; rwa [show ls2.length = k by omega] at this)
            obtain rfl := Bk.are_one (are_nums h2.1 (by omega) h4) HA.out
            exact ⟨h2.2.2.2.1, h2.2.2.2.2.1⟩
          clear HU4 hA HD4
          go_upto_region 7 with (go_at_call 35; refine HU.out.mono ?_; rintro e w7 ⟨hb7, a2, len2, cap2, rfl, hs7, hlk2⟩; have HB7 := Hid.mk9 (below2 HB4.out hb7); have HX7 := Hid.mk9 (HX4.out.below hb7); have HS7 := Hid.mk9 hs7; have HL2 : Hid (len2 = k) := hlk2; clear hb7 hs7 HB4 HX4 HO4 hlk2)
          have hl2k := HL2.out
          obtain ⟨b, off, rfl, hbs, hc⟩ := HS7.out.some (show 0 < len2 by omega)
          obtain ⟨m, hm⟩ : ∃ m, m = k - 1 := ⟨_, rfl⟩
          have h00 := (hc 0 (by omega)).1
          have hmm := (hc m (by omega)).1
          rw [Nat.zero_mul, Nat.add_zero] at h00
          have P1 : IntKind.i64.wrap ((k : Int) - 1) = (m : Int) := by rw [IntKind.wrap_i64]; omega
          have P2 : (m : Int) < (len2 : Int) := by omega
          have P3 : ¬ len2 = 0 := by omega
          have P4 : (0 : Int) < (len2 : Int) := by omega
          have P5 : 0 < len2 := by omega
          have HMm := Hid.mk9 hm
          generalize hf0 : (ls.getD 0 Bk.sm0).1 = f0 at h00
          generalize hfm : (ls.getD m Bk.sm0).1 = fm at hmm
          have HF0 : Hid (firstT ls = f0) := hf0
          have HFm : Hid (lastT ls = fm) := by unfold Hid lastT Bk.tS; rw [hlk, ← hm]; exact hfm
          obtain ⟨x0, x1, x2, x3, x4⟩ := HX7.out.cells
          clear hc hm hf0 hfm hl2k hlk
          have y0 := cell_grown (a := ⟨b, off, none⟩) hbs h00
          have y1 := cell_grown (a := ⟨b, off + m * 2, none⟩) hbs hmm
          have z0 := cell_grown (a := ⟨X, 0, none⟩) HX7.out.lt x0
          have z1 := cell_grown (a := ⟨X, 1, none⟩) HX7.out.lt x1
          have z2 := cell_grown (a := ⟨X, 2, none⟩) HX7.out.lt x2
          clear x0 x1 x2 x3 x4 h00 hmm
          by_cases hf : f0 = f
          · subst hf
            by_cases hg : fm = l
            · subst hg
              refine wp_region_QW mixed5 (by kernel_rfl) ?_
              repeat (refine QW_step (fun K hK => ?_); go_simp; first | (refine hK _ ?_; clear hK K) | (apply Exists.intro; refine ⟨fun _ => ?_, hK _ ?_⟩; fail; clear hK K))
              refine QW_nil ?_
              intro _ hw9
              obtain ⟨⟨nq, osq⟩, hw8⟩ := hw9
              subst hw8
              have HB9 := Hid.mk9 (below2 HB7.out (below_grow w7 nq osq))
              have HS9 := Hid.mk9 (HS7.out.below (below_grow w7 nq osq))
              clear y0 y1 z0 z1 z2
              go_wp2_with fail
              go_ret2
              exact ⟨HB9.out, .inl ⟨ls, _, len2, cap2, HYes.out HF0.out HFm.out, rfl, HS9.out⟩⟩
            · have e1 : (fm == l) = false := by rw [beq_eq_false_iff_ne]; exact hg
              refine wp_region_QW mixed5 (by kernel_rfl) ?_
              repeat (refine QW_step (fun K hK => ?_); go_simp; first | (refine hK _ ?_; clear hK K) | (apply Exists.intro; refine ⟨fun _ => ?_, hK _ ?_⟩; fail; clear hK K))
              refine QW_nil ?_
              intro _ hw9
              obtain ⟨⟨nq, osq⟩, hw8⟩ := hw9
              subst hw8
              have HB9 := Hid.mk9 (below2 HB7.out (below_grow w7 nq osq))
              have HS9 := Hid.mk9 (HS7.out.below (below_grow w7 nq osq))
              clear y0 y1 z0 z1 z2
              go_wp2_with fail
              go_ret2
              exact samp_no HB9.out (fun ls2 h2 => hg (by have := HNo.out ls2 h2; rw [← HFm.out]; exact this.2.symm))
          · have e1 : (f0 == f) = false := by rw [beq_eq_false_iff_ne]; exact hf
            refine wp_region_QW mixed5 (by kernel_rfl) ?_
            repeat (refine QW_step (fun K hK => ?_); go_simp; first | (refine hK _ ?_; clear hK K) | (apply Exists.intro; refine ⟨fun _ => ?_, hK _ ?_⟩; fail; clear hK K))
            refine QW_nil ?_
            intro _ hw9
            obtain ⟨⟨nq, osq⟩, hw8⟩ := hw9
            subst hw8
            have HB9 := Hid.mk9 (below2 HB7.out (below_grow w7 nq osq))
            have HS9 := Hid.mk9 (HS7.out.below (below_grow w7 nq osq))
            clear y0 y1 z0 z1 z2
            go_wp2_with fail
            go_ret2
            exact samp_no HB9.out (fun ls2 h2 => hf (by have := HNo.out ls2 h2; rw [← HF0.out]; exact this.1.symm))
        · have HU : Hid (Calls Tryd.prog 35 #[.agg #[.slice (some ⟨g, 0, none⟩) n1 c, .slice none 0 0]] w4 fun e w' => Below w4.heap.size w4 w' ∧ e = .returned (.tuple #[.slice none 0 0, .int .i64 2])) := HU4.out.mono (by
            rintro e w' ⟨hb, h⟩
            refine ⟨hb, ?_⟩
            rcases h with ⟨ls2, _, _, _, _, hA2, _⟩ | ⟨_, he⟩
            · exact absurd ⟨ls2, hA2⟩ hA
            · exact he)
          have HNo : Hid (∀ ls2, ¬ ChIs ls2 (k : Int) f l bs N) := fun ls2 h2 => by
            have h3 := h2.2.2.1
            have h4 := told_uniq HTd.out (by have := chIs_told h2; rwa [show ls2.length = k by omega] at this)
            exact hA ⟨ls2, are_nums h2.1 (by omega) h4⟩
          clear HU4 hA HD4
          go_upto_region 7 with (go_at_call 35; refine HU.out.mono ?_; rintro e w7 ⟨hb7, rfl⟩; have HB7 := Hid.mk9 (below2 HB4.out hb7); clear hb7 HB4 HX4 HO4)
          refine wp_region_QW mixed5 (by kernel_rfl) ?_
          repeat (refine QW_step (fun K hK => ?_); go_simp; first | (refine hK _ ?_; clear hK K) | (apply Exists.intro; refine ⟨fun _ => ?_, hK _ ?_⟩; fail; clear hK K))
          refine QW_nil ?_
          intro _ hw9
          obtain ⟨⟨nq, osq⟩, hw8⟩ := hw9
          subst hw8
          have HB9 := Hid.mk9 (below2 HB7.out (below_grow w7 nq osq))
          go_wp2_with fail
          go_ret2
          exact samp_no HB9.out HNo.out
      · have HH2 : Hid (Calls Tryd.prog 34 #[.agg #[.slice a len cap, .int .i64 N], .int .i64 (k : Int)] w1 fun e w' => Below w1.heap.size w1 w' ∧ ∃ v, e = .returned (.tuple #[v, .bool false])) := HH.out.mono (by
          rintro e w' ⟨hb, h⟩
          refine ⟨hb, ?_⟩
          rcases h with ⟨v, T2, V2, _, ht, _⟩ | ⟨v, he, _⟩
          · exact absurd ⟨T2, V2, ht⟩ hTd
          · exact ⟨v, he⟩)
        have HNo : Hid (∀ ls2, ¬ ChIs ls2 (k : Int) f l bs N) := fun ls2 h2 => by
          have h3 := h2.2.2.1
          exact hTd ⟨_, _, by have := chIs_told h2; rwa [show ls2.length = k by omega] at this⟩
        clear HH hTd
        go_wp2_with (go_at_call 34; refine HH2.out.mono ?_; rintro e w4 ⟨hb4, v, rfl⟩; have HB4 := Hid.mk9 (below2 HB.out hb4); clear hb4 HB HX HH2 x0 x1 x2 x3 x4)
        go_ret2
        exact samp_no HB4.out HNo.out
end Go.Proofs.YtcdlkdbnlomghaaDoor.Gl
