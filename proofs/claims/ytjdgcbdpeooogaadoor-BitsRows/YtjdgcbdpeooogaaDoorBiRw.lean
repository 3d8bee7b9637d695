/-
  The law BitsRows.
-/
import Derived.Test.YtjdgcbdpeooogaaDoorBiRv
namespace Go.Proofs.YtjdgcbdpeooogaaDoor.Bi
open Go.ChangeShapes Go.WideShapes Go.ChangeAt Go.RowKit
/-- a slice of ints, with what they may be -/
def IntsR (w : World) (a : Option Addr) (len : Nat) (l : List Int) : Prop :=
  l.length = len ∧ len ≤ maxLen ∧ (∀ x ∈ l, inI x) ∧ (len = 0 ∨ ∃ b off, a = some ⟨b, off, none⟩ ∧ b < w.heap.size ∧ ∀ i, i < len → w.cell? ⟨b, off + i, none⟩ = some (.int .i64 (l.getD i 0)))
/-- the bits of the first so many numbers -/
def cat (l : List Int) : Nat → List Bool
  | 0 => []
  | n + 1 => cat l n ++ coded (l.getD n 0)
theorem cat_short (l : List Int) : ∀ n, (cat l n).length ≤ 68 * n
  | 0 => by simp [cat]
  | n + 1 => by
    have h1 := cat_short l n
    have h2 := coded_len (l.getD n 0)
    have h3 := hdT_small (clsU_lt (foldN (l.getD n 0)))
    have h4 := wdT_small (clsU_lt (foldN (l.getD n 0)))
    show (cat l n ++ coded (l.getD n 0)).length ≤ 68 * (n + 1)
    rw [List.length_append, h2]
    unfold szT
    omega
theorem cat_split (l : List Int) : ∀ k n, ∃ m, cat l (n + k) = cat l n ++ m
  | 0, n => ⟨[], by rw [Nat.add_zero, List.append_nil]⟩
  | k + 1, n => by
    obtain ⟨m, hm⟩ := cat_split l k n
    refine ⟨m ++ coded (l.getD (n + k) 0), ?_⟩
    show cat l (n + k) ++ coded (l.getD (n + k) 0) = _
    rw [hm, List.append_assoc]
theorem cat_num (l : List Int) {i m : Nat} (hi : i < m) (hv : inI (l.getD i 0)) : NumIs (cat l m) (cat l i).length (l.getD i 0) (szT (clsU (foldN (l.getD i 0)))) := by
  obtain ⟨r, hr⟩ := cat_split l (m - (i + 1)) (i + 1)
  rw [show i + 1 + (m - (i + 1)) = m by omega] at hr
  have : cat l m = cat l i ++ (coded (l.getD i 0) ++ r) := by
    rw [hr]
    show (cat l i ++ coded (l.getD i 0)) ++ r = _
    rw [List.append_assoc]
  rw [this]
  exact num_coded (cat l i) r _ hv
theorem cat_next (l : List Int) (i : Nat) : (cat l (i + 1)).length = (cat l i).length + szT (clsU (foldN (l.getD i 0))) := by
  show (cat l i ++ coded (l.getD i 0)).length = _
  rw [List.length_append, coded_len]
/-- the bits of the first so many numbers, in the box X -/
structure RwG (w wr : World) (X : Nat) (L : List Bool) (a : Option Addr) (len cap : Nat) : Prop where
  bel : Below w.heap.size w wr
  box : B2 wr X 24 (.slice a len cap) (.int .i64 (L.length : Int))
  row : ByAt wr a len cap (pack L len)
  hl : len = need L.length
  ne : ∀ p, a = some p → p.block ≠ X
  ge : w.heap.size ≤ X
def RwS (w wr : World) (X : Nat) (L : List Bool) : Prop := ∃ a len cap, RwG w wr X L a len cap
theorem RwG.below {w wr wr' : World} {X : Nat} {L : List Bool} {a : Option Addr} {len cap : Nat} (h : RwG w wr X L a len cap) (hb : Below wr.heap.size wr wr') : RwG w wr' X L a len cap :=
  ⟨below2 h.bel hb, h.box.below hb, h.row.below hb, h.hl, h.ne, h.ge⟩
theorem ints_read {w wr : World} {a : Option Addr} {len : Nat} {l : List Int} (h : IntsR w a len l) (hb : Below w.heap.size w wr) {i : Nat} (hi : i < len) : ∃ b off, a = some ⟨b, off, none⟩ ∧ wr.cell? ⟨b, off + i, none⟩ = some (.int .i64 (l.getD i 0)) ∧ inI (l.getD i 0) := by
  obtain ⟨h1, _, h3, h4⟩ := h
  rcases h4 with h4 | ⟨b, off, e, hlt, hc⟩
  · omega
  · refine ⟨b, off, e, (hb.cell (p := ⟨b, off + i, none⟩) hlt).trans (hc i hi), h3 _ ?_⟩
    have : i < l.length := by omega
    simp [this]
set_option maxHeartbeats 4000000 in
set_option maxRecDepth 60000 in
theorem rows_walk (a0 : Option Addr) (len0 cap0 : Nat) (l : List Int) (w : World) (h : IntsR w a0 len0 l) (hT : Tab w) : Calls Tryd.prog 5 #[.slice a0 len0 cap0] w fun e w' => e = .returned (.bool true) ∧ Below w.heap.size w w' := by
  have HI := Hid.mk9 h
  have HT := Hid.mk9 hT
  obtain ⟨m, hm⟩ : ∃ m, m = min len0 60 := ⟨_, rfl⟩
  have HM : Hid (m = min len0 60) := hm
  have hlm : (len0 : Int) ≤ 9223372036854775807 := by have := h.2.1; unfold maxLen at this; omega
  have HS0 : Hid (RwS w (w.alloc (.cells #[.slice none 0 0, .int .i64 0] 24)) w.heap.size []) := ⟨none, 0, 0, below_alloc w _, B2.new w _ _ _, ByAt.nil _, rfl, fun p hp => (by cases hp), Nat.le_refl _⟩
  clear h hT hm
  go_enter Tryd.func5, Tryd.ntmps5
  go_upto_region 2 with fail
  generalize w.alloc (.cells #[.slice none 0 0, .int .i64 0] 24) = w1 at *
  obtain ⟨X, hX⟩ : ∃ X, X = w.heap.size := ⟨_, rfl⟩
  have HXe := Hid.mk9 hX
  rw [← hX] at HS0
  rw [show (.pointer (some ⟨w.heap.size, 0, none⟩) : Value) = .pointer (some ⟨X, 0, none⟩) by rw [hX]]
  clear hX
  go_wp2_with fail
  go_loopw [4, 5] (fun n i wr => ∃ j : Nat, i = .int .i64 (j : Int) ∧ Hid (j ≤ m) ∧ n = .int .i64 ((cat l j).length : Int) ∧ Hid (RwS w wr X (cat l j))) (fun n i _ => 60 - (intOf i).toNat)
  case atStart => exact ⟨0, rfl, by unfold Hid; omega, rfl, HS0.out⟩
  case round =>
    obtain ⟨j, rfl, hj, rfl, hs⟩ := hrel
    clear HS0
    by_cases hlt : j < m
    · have HLT := Hid.mk9 hlt
      have hmm := HM.out
      obtain ⟨a, len, cap, hg⟩ := hs.out
      have HG := Hid.mk9 hg
      obtain ⟨b, off, rfl, hx, hin⟩ := ints_read HI.out hg.bel (i := j) (by omega)
      have i1 : (j : Int) < (len0 : Int) := by omega
      have i2 : (j : Int) < 60 := by omega
      obtain ⟨K, hK⟩ : ∃ K, K = (cat l j).length := ⟨_, rfl⟩
      obtain ⟨x, hxx⟩ : ∃ x, x = l.getD j 0 := ⟨_, rfl⟩
      obtain ⟨K1, hK1⟩ : ∃ K1, K1 = (cat l (j + 1)).length := ⟨_, rfl⟩
      have hsh := cat_short l (j + 1)
      rw [← hxx] at hx hin
      obtain ⟨sz, hsz⟩ : ∃ sz, sz = szT (clsU (foldN x)) := ⟨_, rfl⟩
      have hnx := cat_next l j
      rw [← hxx, ← hsz, ← hK, ← hK1] at hnx
      have e9 : (K : Int) + (sz : Int) = (K1 : Int) := by omega
      have k9 : (K1 : Int) ≤ 5000 := by omega
      have HC : Hid (∀ W, Below wr.heap.size wr W → Calls Tryd.prog 11 #[.agg #[.slice a len cap, .int .i64 (K : Int)], .int .i64 x] W fun e w' => Below W.heap.size W w' ∧ ∃ (a1 : Option Addr) (len1 cap1 : Nat), e = .returned (.tuple #[.agg #[.slice a1 len1 cap1, .int .i64 (K1 : Int)], .int .i64 0]) ∧ ByAt w' a1 len1 cap1 (pack (cat l (j + 1)) (need K1)) ∧ ∀ p, a1 = some p → W.heap.size ≤ p.block) := fun W hb => by
        have h1 := number_yes a len cap K x (cat l j) W (hg.row.below hb) hK.symm (by rw [hK]; exact hg.hl) hin (HT.out.below (below2 hg.bel hb)) (by rw [← hsz]; omega)
        refine h1.mono ?_
        rintro e w' ⟨hb', a1, len1, cap1, rfl, hr1, hl1, hn1⟩
        have hcat : cat l j ++ coded x = cat l (j + 1) := by rw [hxx]; rfl
        rw [hcat] at hr1 hl1 ⊢
        rw [← hK1] at hl1 ⊢
        rw [hl1] at hr1
        exact ⟨hb', a1, len1, cap1, rfl, by rw [← hl1] at hr1; rw [hl1]; rw [hl1] at hr1; exact hr1, hn1⟩
      have HSi : Hid (∀ W, Below wr.heap.size wr W → Calls Tryd.prog 19 #[.int .i64 x] W fun e w' => e = .returned (.int .i64 (sz : Int)) ∧ Grown W w') := fun W hb => by
        have := Size_any x hin W (HT.out.below (below2 hg.bel hb))
        rwa [← hsz] at this
      have HBw := Hid.mk9 hg.bel
      have HGe := Hid.mk9 hg.ge
      have HIn := Hid.mk9 hin
      have HSz : Hid (szT (clsU (foldN x)) = sz) := hsz.symm
      have HBX := Hid.mk9 hg.box
      have HXl : Hid (X < wr.heap.size) := hg.box.lt
      rw [← hK] at HBX ⊢
      have HCell : Hid (wr.cell? ⟨b, off + j, none⟩ = some (.int .i64 x)) := hx
      have HblX : Hid (b < wr.heap.size ∧ b ≠ X) := by
        refine ⟨World.block_lt_of_cell? wr ⟨b, off + j, none⟩ hx, ?_⟩
        obtain ⟨_, _, _, h4⟩ := HI.out
        rcases h4 with h4 | ⟨b2, off2, e2, hlt2, _⟩
        · omega
        · injection e2 with e2
          have : b2 = b := by injection e2 with e3; exact e3.symm
          have := hg.ge
          omega
      clear hlt hmm hs hg hx hin hsh hxx hK hsz hnx HG
      have HK1 := Hid.mk9 hK1
      clear hK1
      go_wp2_with fail
      refine rows_6 _ _ _ _ _ _ _ _ _ _ _ _ _ _ _ _ _ _ _ _ _ _ _ _ _ _ _ _ _ _ _ _ _ _ _ _ _ _ _ _ _ _ _ _ _ _ _ _ _ _ _ _ _ _ _ _ _ _ _ _ _ _ _ _ _ _ _ _ _ _ _ _ _ _ _ _ _ _ _ _ _ _ _ _ _ _ _ _ _ _ _ X b off len0 cap0 j len cap K K1 a x (pack (cat l (j + 1)) (need K1)) wr _ i1 HBX HCell HC (fun u25 u26 u27 u28 u29 u30 u31 u32 u33 Y a1 len1 cap1 wC hbC hyC hrC hnC hYC => ?_)
      have HXC := Hid.mk9 (HBX.out.below hbC)
      have HKR : Hid (KeepR X wC (set2 wC X (.slice a1 len1 cap1) (.int .i64 (K1 : Int)))) := ((KeepR.refl X wC).set 0 (.slice a1 len1 cap1)).set 1 (.int .i64 (K1 : Int))
      have HX9 := Hid.mk9 (HXC.out.set (.slice a1 len1 cap1) (.int .i64 (K1 : Int)))
      have HB9 : Hid (Below w.heap.size w (set2 wC X (.slice a1 len1 cap1) (.int .i64 (K1 : Int)))) := set2_below (below2 HBw.out hbC) (b := X) HGe.out _ _
      have HC9 : Hid ((set2 wC X (.slice a1 len1 cap1) (.int .i64 (K1 : Int))).cell? ⟨b, off + j, none⟩ = some (.int .i64 x)) := by
        refine Hid.mk9 ?_
        have h1 := (hbC.cell (p := ⟨b, off + j, none⟩) HblX.out.1).trans HCell.out
        rw [← h1]
        unfold World.cell?
        rw [show (set2 wC X (.slice a1 len1 cap1) (.int .i64 (K1 : Int))).heap[(⟨b, off + j, none⟩ : Addr).block]? = _ from HKR.out.else_ b HblX.out.2]
      have HR9 : Hid (ByAt (set2 wC X (.slice a1 len1 cap1) (.int .i64 (K1 : Int))) a1 len1 cap1 (pack (cat l (j + 1)) (need K1))) := byAt_keep hrC HKR.out (fun p hp => by have := hnC p hp; have := HXl.out; omega)
      have HN9 : Hid (∀ p, a1 = some p → p.block ≠ X) := fun p hp => by have := hnC p hp; have := HXl.out; omega
      have HBl9 : Hid (Below wr.heap.size wr wC) := hbC
      obtain ⟨p0, p1⟩ := HXC.out.cells
      obtain ⟨f0, f1⟩ := HXC.out.frz
      obtain ⟨y0, y1⟩ := hyC.cells
      clear hbC hyC hrC hnC hYC HC HBX
      dsimp only
      go_upto_region 10 with fail
      change Code.wp _ _ _ _ (set2 wC X (.slice a1 len1 cap1) (.int .i64 (K1 : Int)))
      clear p0 p1 f0 f1 y0 y1 HXC
      have HSS : Hid (∀ W, Below wr.heap.size wr W → Tab W) := fun W hb => HT.out.below (below2 HBw.out hb)
      have HTw := Hid.mk9 (HT.out.below HB9.out)
      generalize set2 wC X (.slice a1 len1 cap1) (.int .i64 (K1 : Int)) = w9 at *
      have hc9 := HC9.out
      have HS9 := Hid.mk9 (Size_any x HIn.out w9 HTw.out)
      rw [HSz.out] at HS9
      go_wp2_with (go_at_call 19; refine HS9.out.mono ?_; rintro e w10 ⟨rfl, hg10⟩; have HB10 := Hid.mk9 (grown_below hg10); clear hg10)
      have HL1 : Hid (len1 = need K1) := by have := HR9.out.1; rw [pack_len] at this; exact this.symm
      have HSn : Hid (RwS w w10 X (cat l (j + 1))) := ⟨a1, len1, cap1, RwG.below ⟨HB9.out, by rw [← HK1.out]; exact HX9.out, by rw [HL1.out]; have := HR9.out; rw [HL1.out] at this; exact this, by rw [← HK1.out]; exact HL1.out, HN9.out, HGe.out⟩ HB10.out⟩
      exact ⟨⟨j + 1, by go_num, HLT.out, by rw [HK1.out], HSn.out⟩, by simp [intOf]; omega⟩
    · obtain rfl : j = m := by have := hj.out; omega
      obtain ⟨a, len, cap, hg⟩ := hs.out
      obtain ⟨K, hK⟩ : ∃ K, K = (cat l j).length := ⟨_, rfl⟩
      have hsh := cat_short l j
      have hmm := HM.out
      have k9 : (K : Int) ≤ 5000 := by omega
      have HRd : Hid (Calls Tryd.prog 21 #[.agg #[.slice a len cap, .int .i64 (K : Int)]] wr fun e w' => ReadPost (cat l j) wr e w') := read_yes a len cap K (cat l j) wr hg.row hK.symm (by rw [hK]; exact hg.hl) (by omega)
      have HBX := Hid.mk9 hg.box
      have HBw := Hid.mk9 hg.bel
      rw [← hK] at HBX ⊢
      have HK := Hid.mk9 hK
      clear hs hg hsh hlt hj hK
      by_cases hc1 : j < len0
      · have i1 : (j : Int) < (len0 : Int) := by omega
        have i2 : decide ((j : Int) < 60) = false := decide_eq_false (by omega)
        have j9 : (j : Int) ≤ 60 := by omega
        clear hc1 hmm
        obtain ⟨p0, p1⟩ := HBX.out.cells
        go_upto_region 12 with (go_at_call 21; refine HRd.out.mono ?_; rintro e w5 ⟨hb5, p, hp5, rfl, hr5⟩; have HX5 := Hid.mk9 (HBX.out.below hb5); have HP5 := Hid.mk9 (And.intro hp5 hr5); have HB5 := Hid.mk9 (below2 HBw.out hb5); clear hb5 hp5 hr5 p0 p1)
        have HPw : Hid (w.heap.size ≤ p) := Nat.le_trans HBw.out.size HP5.out.1
        have HR5 := Hid.mk9 HP5.out.2
        obtain ⟨p0, p1⟩ := HX5.out.cells
        go_wp2_with fail
        go_loopw [9] (fun i W => ∃ n : Nat, i = .int .i64 (n : Int) ∧ Hid (n ≤ j) ∧ Hid (RdAt W p (cat l j) (cat l n).length ∧ Below w.heap.size w W)) (fun i _ => 60 - (intOf i).toNat)
        case atStart => exact ⟨0, rfl, Nat.zero_le _, HR5.out, HB5.out⟩
        case round =>
          rename World => W2
          obtain ⟨n, rfl, hn, hs⟩ := hrel
          have HS := Hid.mk9 hs.out
          clear HR5 HB5 hs
          by_cases hlt : n < j
          · have HLT := Hid.mk9 hlt
            have hM9 := HM.out
            obtain ⟨b, off, rfl, hx, hin⟩ := ints_read HI.out HS.out.2 (i := n) (by omega)
            have n1 : (n : Int) < (len0 : Int) := by omega
            have n2 : (n : Int) < 60 := by omega
            obtain ⟨x, hxx⟩ : ∃ x, x = l.getD n 0 := ⟨_, rfl⟩
            have hnum := cat_num l hlt (by rw [← hxx]; rw [← hxx] at hin; exact hin)
            have hnx := cat_next l n
            rw [← hxx] at hx hnum hnx
            have HNu := Hid.mk9 (rnum_yes p (cat l n).length (cat l j) W2 HS.out.1 (HT.out.below HS.out.2) x _ hnum)
            rw [← hnx] at HNu
            have HblP : Hid (b < w.heap.size) := by
              obtain ⟨_, _, _, h4⟩ := HI.out
              rcases h4 with h4 | ⟨b2, off2, e2, hlt2, _⟩
              · omega
              · injection e2 with e2
                have : b2 = b := by injection e2 with e3; exact e3.symm
                rw [← this]
                exact hlt2
            have HCx : Hid (∀ W, Below w.heap.size w W → W.cell? ⟨b, off + n, none⟩ = some (.int .i64 x)) := fun W hb => by
              obtain ⟨b3, off3, e3, h3, _⟩ := ints_read HI.out hb (i := n) (by omega)
              injection e3 with e3
              injection e3 with e4 e5
              subst e4 e5
              rw [hxx]
              exact h3
            clear hlt hM9 hx hin hxx hnum hnx
            go_upto_region 18 with (go_at_call 24; refine HNu.out.mono ?_; rintro e w6 ⟨rfl, hr6, hk6⟩; have HS6 : Hid (RdAt w6 p (cat l j) (cat l (n + 1)).length ∧ Below w.heap.size w w6) := ⟨hr6, hk6.below _ _ HS.out.2 HPw.out⟩; clear hr6 hk6)
            have hx6 := HCx.out _ HS6.out.2
            go_wp2_with fail
            exact ⟨⟨n + 1, by go_num, HLT.out, HS6.out⟩, by simp [intOf]; omega⟩
          · obtain rfl : n = j := by have := hn.out; omega
            have HNu := Hid.mk9 (rnum_no p (cat l n).length (cat l n) W2 HS.out.1 (HT.out.below HS.out.2) (num_end _))
            clear hlt hn HXe
            go_upto_region 21 with (go_at_call 24; refine HNu.out.mono ?_; rintro e w6 ⟨rfl, hr6, hk6⟩; have HS6 : Hid (RdAt w6 p (cat l n) (cat l n).length ∧ Below w.heap.size w w6) := ⟨hr6, hk6.below _ _ HS.out.2 HPw.out⟩; clear hr6 hk6)
            have HLf := Hid.mk9 (left_any p (cat l n).length (cat l n) w6 HS6.out.1)
            rw [Nat.sub_self] at HLf
            go_wp2_with (first | (go_at_call 28; refine HLf.out.mono ?_; rintro e w7 ⟨rfl, hg7⟩; have HB7 := Hid.mk9 (below2 HS6.out.2 (grown_below hg7)); clear hg7) | (go_at_call 9; refine (awake_any _ (HT.out.below HB7.out)).mono ?_; rintro e w8 ⟨rfl, hb8⟩; have HB8 := Hid.mk9 (below2 HB7.out hb8); clear hb8))
            go_ret
            exact ⟨rfl, HB8.out⟩
      · have i1 : (len0 : Int) ≤ (j : Int) := by omega
        have j9 : (j : Int) ≤ 60 := by omega
        clear hc1 hmm
        obtain ⟨p0, p1⟩ := HBX.out.cells
        go_upto_region 12 with (go_at_call 21; refine HRd.out.mono ?_; rintro e w5 ⟨hb5, p, hp5, rfl, hr5⟩; have HX5 := Hid.mk9 (HBX.out.below hb5); have HP5 := Hid.mk9 (And.intro hp5 hr5); have HB5 := Hid.mk9 (below2 HBw.out hb5); clear hb5 hp5 hr5 p0 p1)
        have HPw : Hid (w.heap.size ≤ p) := Nat.le_trans HBw.out.size HP5.out.1
        have HR5 := Hid.mk9 HP5.out.2
        obtain ⟨p0, p1⟩ := HX5.out.cells
        go_wp2_with fail
        go_loopw [9] (fun i W => ∃ n : Nat, i = .int .i64 (n : Int) ∧ Hid (n ≤ j) ∧ Hid (RdAt W p (cat l j) (cat l n).length ∧ Below w.heap.size w W)) (fun i _ => 60 - (intOf i).toNat)
        case atStart => exact ⟨0, rfl, Nat.zero_le _, HR5.out, HB5.out⟩
        case round =>
          rename World => W2
          obtain ⟨n, rfl, hn, hs⟩ := hrel
          have HS := Hid.mk9 hs.out
          clear HR5 HB5 hs
          by_cases hlt : n < j
          · have HLT := Hid.mk9 hlt
            have hM9 := HM.out
            obtain ⟨b, off, rfl, hx, hin⟩ := ints_read HI.out HS.out.2 (i := n) (by omega)
            have n1 : (n : Int) < (len0 : Int) := by omega
            have n2 : (n : Int) < 60 := by omega
            obtain ⟨x, hxx⟩ : ∃ x, x = l.getD n 0 := ⟨_, rfl⟩
            have hnum := cat_num l hlt (by rw [← hxx]; rw [← hxx] at hin; exact hin)
            have hnx := cat_next l n
            rw [← hxx] at hx hnum hnx
            have HNu := Hid.mk9 (rnum_yes p (cat l n).length (cat l j) W2 HS.out.1 (HT.out.below HS.out.2) x _ hnum)
            rw [← hnx] at HNu
            have HblP : Hid (b < w.heap.size) := by
              obtain ⟨_, _, _, h4⟩ := HI.out
              rcases h4 with h4 | ⟨b2, off2, e2, hlt2, _⟩
              · omega
              · injection e2 with e2
                have : b2 = b := by injection e2 with e3; exact e3.symm
                rw [← this]
                exact hlt2
            have HCx : Hid (∀ W, Below w.heap.size w W → W.cell? ⟨b, off + n, none⟩ = some (.int .i64 x)) := fun W hb => by
              obtain ⟨b3, off3, e3, h3, _⟩ := ints_read HI.out hb (i := n) (by omega)
              injection e3 with e3
              injection e3 with e4 e5
              subst e4 e5
              rw [hxx]
              exact h3
            clear hlt hM9 hx hin hxx hnum hnx
            go_upto_region 18 with (go_at_call 24; refine HNu.out.mono ?_; rintro e w6 ⟨rfl, hr6, hk6⟩; have HS6 : Hid (RdAt w6 p (cat l j) (cat l (n + 1)).length ∧ Below w.heap.size w w6) := ⟨hr6, hk6.below _ _ HS.out.2 HPw.out⟩; clear hr6 hk6)
            have hx6 := HCx.out _ HS6.out.2
            go_wp2_with fail
            exact ⟨⟨n + 1, by go_num, HLT.out, HS6.out⟩, by simp [intOf]; omega⟩
          · obtain rfl : n = j := by have := hn.out; omega
            have HNu := Hid.mk9 (rnum_no p (cat l n).length (cat l n) W2 HS.out.1 (HT.out.below HS.out.2) (num_end _))
            clear hlt hn HXe
            go_upto_region 21 with (go_at_call 24; refine HNu.out.mono ?_; rintro e w6 ⟨rfl, hr6, hk6⟩; have HS6 : Hid (RdAt w6 p (cat l n) (cat l n).length ∧ Below w.heap.size w w6) := ⟨hr6, hk6.below _ _ HS.out.2 HPw.out⟩; clear hr6 hk6)
            have HLf := Hid.mk9 (left_any p (cat l n).length (cat l n) w6 HS6.out.1)
            rw [Nat.sub_self] at HLf
            go_wp2_with (first | (go_at_call 28; refine HLf.out.mono ?_; rintro e w7 ⟨rfl, hg7⟩; have HB7 := Hid.mk9 (below2 HS6.out.2 (grown_below hg7)); clear hg7) | (go_at_call 9; refine (awake_any _ (HT.out.below HB7.out)).mono ?_; rintro e w8 ⟨rfl, hb8⟩; have HB8 := Hid.mk9 (below2 HB7.out hb8); clear hb8))
            go_ret
            exact ⟨rfl, HB8.out⟩
    
end Go.Proofs.YtjdgcbdpeooogaaDoor.Bi
