/-
  Numbers one behind the other, plainly; awake.
-/
import Derived.Test.YtjdgcbdpeooogaaDoorBiR
import Derived.Test.YtjdgcbdpeooogaaDoorBiM
import Derived.Test.YtjdgcbdpeooogaaDoorBiL
namespace Go.Proofs.YtjdgcbdpeooogaaDoor.Bi
open Go.ChangeShapes Go.WideShapes Go.ChangeAt Go.RowKit
theorem val_here (l s m : List Bool) : val (bt (l ++ (s ++ m))) l.length s.length = valL s := val_congr fun i hi => by
  rw [Nat.zero_add, bt_right, bt_left _ hi]
theorem hv_small {c : Nat} (h : c < 5) : hvT c % 2 ^ hdT c = hvT c := by
  rcases c with _ | _ | _ | _ | _ | c <;> first | decide | omega
theorem hv_apart : ∀ c, c < 5 → ∀ j, j < c → hdT j ≤ hdT c ∧ hvT c / 2 ^ (hdT c - hdT j) ≠ hvT j := by decide
theorem wd_fits {u : Nat} (h : inU u) : u % 2 ^ wdT (clsU u) = u := by
  have h9 := h
  unfold inU at h9
  refine Nat.mod_eq_of_lt ?_
  unfold clsU
  split
  · simp [wdT]; omega
  split
  · show u < 2 ^ 7; omega
  split
  · show u < 2 ^ 12; omega
  split
  · show u < 2 ^ 20; omega
  · show u < 2 ^ 64; omega
theorem num_coded (l m : List Bool) (n : Int) (hn : inI n) : NumIs (l ++ (coded n ++ m)) l.length n (szT (clsU (foldN n))) := by
  have hu := foldN_in hn
  obtain ⟨c, hc⟩ : ∃ c, c = clsU (foldN n) := ⟨_, rfl⟩
  have hlt : c < 5 := by rw [hc]; exact clsU_lt _
  have hcl := coded_len n
  have hA : val (bt (l ++ (coded n ++ m))) l.length (hdT c) = hvT c := by
    have e : l ++ (coded n ++ m) = l ++ (low (hvT c) (hdT c) ++ (low (foldN n) (wdT c) ++ m)) := by unfold coded; rw [← hc, List.append_assoc]
    rw [e]
    have h1 := val_here l (low (hvT c) (hdT c)) (low (foldN n) (wdT c) ++ m)
    rw [low_len, valL_low, hv_small hlt] at h1
    exact h1
  have hB : val (bt (l ++ (coded n ++ m))) (l.length + hdT c) (wdT c) = foldN n := by
    have e : l ++ (coded n ++ m) = (l ++ low (hvT c) (hdT c)) ++ (low (foldN n) (wdT c) ++ m) := by unfold coded; rw [← hc, List.append_assoc, List.append_assoc]
    rw [e]
    have h1 := val_here (l ++ low (hvT c) (hdT c)) (low (foldN n) (wdT c)) m
    rw [low_len, valL_low, List.length_append, low_len] at h1
    rw [h1, hc]
    exact wd_fits hu
  rw [← hc]
  refine ⟨c, ⟨hlt, ⟨?_, hA⟩, fun j hj hk => ?_⟩, ?_, rfl, by rw [hB]; exact hc.symm, by rw [hB, gather_fold]⟩
  · rw [List.length_append, List.length_append, hcl, ← hc]; unfold szT; omega
  · obtain ⟨h1, h2⟩ := hv_apart c hlt j hj
    obtain ⟨r, hr⟩ : ∃ r, hdT c = hdT j + r := ⟨hdT c - hdT j, by omega⟩
    have h3 := val_add (bt (l ++ (coded n ++ m))) l.length (hdT j) r
    rw [← hr, hA, hk.2] at h3
    have h4 := val_lt (bt_lt (l ++ (coded n ++ m))) (l.length + hdT j) r
    apply h2
    rw [show hdT c - hdT j = r by omega, h3, Nat.add_comm, Nat.add_mul_div_right _ _ (Nat.two_pow_pos r), Nat.div_eq_of_lt h4, Nat.zero_add]
  · rw [List.length_append, List.length_append, hcl, ← hc]; omega
theorem hd_pos : ∀ c, c < 5 → 0 < hdT c := by decide
theorem num_end (l : List Bool) (v : Int) (k : Nat) : ¬ NumIs l l.length v k := by
  rintro ⟨c, h1, _⟩
  have := h1.2.1.1
  have := hd_pos c h1.1
  omega
def L2 : List Bool := [false, true, false, false, false, false, false, false, false, true]
theorem awake_bits : coded 0 ++ coded (-1) = L2 := by decide
theorem awake_pack : pack L2 2 = [64, 64] := by decide
set_option maxHeartbeats 1000000 in
set_option maxRecDepth 60000 in
theorem awake_any (w : World) (hT : Tab w) : Calls Tryd.prog 9 #[] w fun e w' => e = .returned (.bool true) ∧ Below w.heap.size w w' := by
  have HT := Hid.mk9 hT
  have H1 : Hid (Calls Tryd.prog 11 #[.agg #[.slice none 0 0, .int .i64 0], .int .i64 0] w fun e w' => BitsPost (coded 0) 0 w e w') := number_yes none 0 0 0 0 [] w (ByAt.nil w) rfl rfl ⟨by decide, by decide⟩ hT (by decide)
  have E1 : Hid ((coded 0).length = 1) := by unfold Hid; decide
  clear hT
  go_enter Tryd.func9, Tryd.ntmps9
  go_upto_region 2 with (go_at_call 11; refine H1.out.mono ?_; rintro e w1 ⟨hb1, a1, len1, cap1, rfl, hr1, hl1, hn1⟩; rw [E1.out]; have HL1 := Hid.mk9 hl1; have HR1 := Hid.mk9 hr1; have HB1 := Hid.mk9 hb1; clear hl1 hr1 hb1 hn1)
  have HB2 := Hid.mk9 (below2 HB1.out (below_alloc w1 (.cells #[.slice a1 len1 cap1, .int .i64 1] 24)))
  have HX2 := Hid.mk9 (B2.new w1 24 (.slice a1 len1 cap1) (.int .i64 1))
  have HR2 := Hid.mk9 (HR1.out.below (below_alloc w1 (.cells #[.slice a1 len1 cap1, .int .i64 1] 24)))
  have HL2 : Hid (len1 = need 1) := by have := HL1.out; rwa [E1.out] at this
  have HWX : Hid (w.heap.size ≤ w1.heap.size) := HB1.out.size
  clear HB1 HR1 HL1 H1
  generalize w1.alloc (.cells #[.slice a1 len1 cap1, .int .i64 1] 24) = w2 at *
  generalize w1.heap.size = X at *
  obtain ⟨p0, p1⟩ := HX2.out.cells
  have H2 : Hid (Calls Tryd.prog 11 #[.agg #[.slice a1 len1 cap1, .int .i64 1], .int .i64 (-1)] w2 fun e w' => BitsPost L2 0 w2 e w') := by
    have := number_yes a1 len1 cap1 1 (-1) (coded 0) w2 HR2.out E1.out HL2.out ⟨by decide, by decide⟩ (HT.out.below HB2.out) (by decide)
    rwa [awake_bits] at this
  have E2 : Hid (L2.length = 10) := rfl
  go_upto_region 3 with (go_at_call 11; refine H2.out.mono ?_; rintro e w3 ⟨hb3, a3, len3, cap3, rfl, hr3, hl3, hn3⟩; rw [E2.out]; have HL3 := Hid.mk9 hl3; have HR3 := Hid.mk9 hr3; have HB3 := Hid.mk9 (below2 HB2.out hb3); have HX3 := Hid.mk9 (HX2.out.below hb3); have HN3 := Hid.mk9 hn3; have HS3 := Hid.mk9 HX2.out.lt; clear hl3 hr3 hb3 hn3 p0 p1 HX2; obtain ⟨p0, p1⟩ := HX3.out.cells; obtain ⟨f0, f1⟩ := HX3.out.frz)
  have HX4 := Hid.mk9 (HX3.out.set (.slice a3 len3 cap3) (.int .i64 10))
  have HB4 := Hid.mk9 (set2_below HB3.out (b := X) HWX.out (.slice a3 len3 cap3) (.int .i64 10))
  have HL4 : Hid (len3 = 2) := by have := HL3.out; rw [E2.out] at this; exact this
  have HR4 : Hid (ByAt (set2 w3 X (.slice a3 len3 cap3) (.int .i64 10)) a3 len3 cap3 (pack L2 len3)) :=
    byAt_keep HR3.out (((KeepR.refl X w3).set 0 (.slice a3 len3 cap3)).set 1 (.int .i64 10)) (fun p hp => by have := HN3.out p hp; have := HS3.out; omega)
  clear p0 p1 f0 f1 HX3 HB3 HL3 HR3 HN3 H2 HR2 HL2
  change Code.wp _ _ _ _ (set2 w3 X (.slice a3 len3 cap3) (.int .i64 10))
  generalize set2 w3 X (.slice a3 len3 cap3) (.int .i64 10) = w4 at *
  obtain ⟨p0, p1⟩ := HX4.out.cells
  have H3 : Hid (Calls Tryd.prog 21 #[.agg #[.slice a3 len3 cap3, .int .i64 10]] w4 fun e w' => ReadPost L2 w4 e w') := read_yes a3 len3 cap3 10 L2 w4 HR4.out rfl (by rw [HL4.out]; rfl) (by decide)
  go_upto_region 6 with (go_at_call 21; refine H3.out.mono ?_; rintro e w5 ⟨hb5, p, hp5, rfl, hr5⟩; have HB5 := Hid.mk9 (below2 HB4.out hb5); have HX5 := Hid.mk9 (HX4.out.below hb5); have HR5 := Hid.mk9 (HR4.out.below hb5); have HP5 := Hid.mk9 (And.intro hp5 hr5); clear hb5 hp5 hr5 p0 p1)
  have HXp : Hid (X < w4.heap.size ∧ w.heap.size ≤ w4.heap.size) := ⟨HX4.out.lt, HB4.out.size⟩
  have HA : Hid (∀ q, a3 = some q → q.block < w4.heap.size) := fun q hq => by
    obtain ⟨b, off, e, hb, _⟩ := HR4.out.some (by rw [HL4.out]; decide)
    rw [hq] at e
    injection e with e
    rw [e]
    exact hb
  have H5 : Hid (Calls Tryd.prog 24 #[.pointer (some ⟨p, 0, none⟩)] w5 fun e w' => MovePost p L2 1 (.tuple #[.int .i64 0, .int .i64 0]) w5 e w') := by
    have h := num_coded [] (coded (-1)) 0 ⟨by decide, by decide⟩
    rw [List.nil_append, awake_bits] at h
    exact rnum_yes p 0 L2 w5 HP5.out.2 (HT.out.below HB5.out) 0 1 h
  clear H3 HB4 HX4 HR4
  go_upto_region 7 with (go_at_call 24; refine H5.out.mono ?_; rintro e w6 ⟨rfl, hr6, hk6⟩; have HP6 := Hid.mk9 hr6; have HB6 := Hid.mk9 (hk6.below _ _ HB5.out (Nat.le_trans HXp.out.2 HP5.out.1)); have HX6 := Hid.mk9 (HX5.out.kept (hk6.else_ X HX5.out.lt (by have := HXp.out; have := HP5.out.1; omega))); have HK6 := Hid.mk9 hk6; clear hr6 hk6)
  have H6 : Hid (Calls Tryd.prog 24 #[.pointer (some ⟨p, 0, none⟩)] w6 fun e w' => MovePost p L2 10 (.tuple #[.int .i64 (-1), .int .i64 0]) w6 e w') := by
    have h := num_coded (coded 0) [] (-1) ⟨by decide, by decide⟩
    rw [List.append_nil, awake_bits, E1.out] at h
    exact rnum_yes p 1 L2 w6 HP6.out (HT.out.below HB6.out) (-1) 9 h
  go_upto_region 8 with (go_at_call 24; refine H6.out.mono ?_; rintro e w7 ⟨rfl, hr7, hk7⟩; have HB7 := Hid.mk9 (hk7.below _ _ HB6.out (Nat.le_trans HXp.out.2 HP5.out.1)); have HX7 := Hid.mk9 (HX6.out.kept (hk7.else_ X HX6.out.lt (by have := HXp.out; have := HP5.out.1; omega))); have HK7 := Hid.mk9 (HK6.out.trans hk7); clear hr7 hk7)
  obtain ⟨p0, p1⟩ := HX7.out.cells
  have hR7 : ByAt w7 a3 len3 cap3 (pack L2 len3) := by
    refine ⟨HR5.out.1, HR5.out.2.1, HR5.out.2.2.1, HR5.out.2.2.2.1, HR5.out.2.2.2.2.1, ?_⟩
    rcases HR5.out.2.2.2.2.2 with h0 | ⟨b, off, e, hc⟩
    · exact .inl h0
    · refine .inr ⟨b, off, e, fun i hi => ?_⟩
      rw [← hc i hi]
      unfold World.cell?
      have hb := HA.out _ e
      rw [show w7.heap[(⟨b, off + i, none⟩ : Addr).block]? = _ from HK7.out.else_ b (World.block_lt_of_cell? w5 ⟨b, off + i, none⟩ (hc i hi)) (by have := HP5.out.1; have h9 : b < w4.heap.size := hb; omega)]
  have hl4 := HL4.out
  subst hl4
  obtain ⟨b, off, rfl, -, hc⟩ := hR7.some (by decide)
  rw [awake_pack] at hc
  have c0 : w7.cell? ⟨b, off + 0, none⟩ = some (.int .u8 64) := hc 0 (by decide)
  have c1 : w7.cell? ⟨b, off + 1, none⟩ = some (.int .u8 64) := hc 1 (by decide)
  rw [Nat.add_zero] at c0
  clear hc hR7
  go_wp2_with fail
  go_ret
  exact ⟨rfl, HB7.out⟩
end Go.Proofs.YtjdgcbdpeooogaaDoor.Bi
