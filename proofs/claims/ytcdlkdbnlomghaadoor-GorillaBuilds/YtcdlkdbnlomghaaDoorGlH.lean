/-
  What the program hears of bits.
-/
import Derived.Test.YtcdlkdbnlomghaaDoorGlH0
namespace Go.Proofs.YtcdlkdbnlomghaaDoor.Gl
open Go.ChangeShapes Go.WideShapes Go.ChangeAt Go.RowKit
open Go.Proofs.YtcdlkdbnlomghaaDoor.Bi
open Go.Proofs.YtcdlkdbnlomghaaDoor.Fr (RowAt cellsI cellsI_get)
open Go.Proofs.YtcdlkdbnlomghaaDoor.Bk (rT rV)
def upd (T : Nat → Int) (k : Nat) (t : Int) (j : Nat) : Int := if j < k then T j else t
theorem upd_lt {T : Nat → Int} {k j : Nat} (t : Int) (h : j < k) : T j = upd T k t j := by unfold upd; rw [if_pos h]
theorem upd_ge {T : Nat → Int} {k j : Nat} (t : Int) (h : k ≤ j) : upd T k t j = t := by unfold upd; rw [if_neg (by omega)]
theorem flat_upd (N : Int) (T V : Nat → Int) (k : Nat) (t x : Int) : cellsI (N :: Bk.flat2 T V k) = cellsI (N :: Bk.flat2 (upd T k t) (upd V k x) k) := by rw [Bk.flat2_same fun j hj => ⟨upd_lt t hj, upd_lt x hj⟩]
theorem flat_more (N : Int) (T V : Nat → Int) (k : Nat) : cellsI (N :: Bk.flat2 T V (k + 1)) = cellsI (N :: Bk.flat2 T V k) ++ [.int .i64 (T k), .int .i64 (V k)] := by rw [Bk.flat2_succ]; simp [cellsI]
theorem flat_one (N : Int) (T V : Nat → Int) (k : Nat) (t x : Int) : cellsI (N :: Bk.flat2 T V k) ++ [.int .i64 t, .int .i64 x] = cellsI (N :: Bk.flat2 (upd T k t) (upd V k x) (k + 1)) := by
  rw [flat_more, ← flat_upd, upd_ge t (Nat.le_refl _), upd_ge x (Nat.le_refl _)]
theorem flat_run (N : Int) (T V : Nat → Int) (k : Nat) : ∀ m, cellsI (N :: Bk.flat2 T V k) ++ [.int .i64 0, .int .i64 0] ++ List.replicate (2 * m) (.int .i64 0) = cellsI (N :: Bk.flat2 (upd T k 0) (upd V k 0) (k + (m + 1)))
  | 0 => by rw [flat_one]; simp
  | m + 1 => by
    have h := flat_run N T V k m
    rw [show k + (m + 1 + 1) = k + (m + 1) + 1 by omega, flat_more, ← h, upd_ge 0 (by omega), upd_ge 0 (by omega), show 2 * (m + 1) = 2 * m + 1 + 1 by omega, List.replicate_succ', List.replicate_succ']
    simp only [List.append_assoc]
    rfl
theorem own_one (w : World) (n : Int) : (w.alloc (.cells #[.int .i64 n] 3)).ownsRow w.heap.size 3 1 (.slice (some ⟨w.heap.size, 0, none⟩) 1 1) 1 [.int .i64 n] := by
  refine ⟨rfl, .inr ⟨w.heap.size, 1, #[.int .i64 n], rfl, Nat.le_refl _, heap_alloc_new w _, Nat.le_refl _, by unfold maxLen; omega, rfl, rfl⟩⟩
theorem val4_lt (L : List Bool) (q : Nat) : val (bt L) q 4 < 16 := val_lt (bt_lt L) q 4
/-- in the midst of hear: so many samples are read -/
def HearIn (n : Nat) (L : List Bool) (w : World) (B p k at' : Nat) (bb : Bool) (T V : Nat → Int) (v : Value) (wr : World) : Prop := HS w wr B p L at' v (2 * k + 1) (cellsI ((n : Int) :: Bk.flat2 T V k)) ∧ Mid T V n L k at' bb
set_option maxHeartbeats 8000000 in
set_option maxRecDepth 60000 in
theorem hear_any (a : Option Addr) (len cap n : Nat) (N : Int) (L : List Bool) (w : World) (hn : 1 ≤ n) (hn9 : n ≤ 64) (hT : Tab w)
    (hR : ∀ W, Below w.heap.size w W → Calls Tryd.prog 54 #[.agg #[.slice a len cap, .int .i64 N]] W fun e w' => ReadPost L W e w') :
    Calls Tryd.prog 34 #[.agg #[.slice a len cap, .int .i64 N], .int .i64 (n : Int)] w fun e w' => HearPost n L w e w' := by
  have HRd := Hid.mk9 hR
  have HT := Hid.mk9 hT
  have hnI : (n : Int) ≤ 64 := by omega
  obtain ⟨i0, hi, hz0, hz1, hz2⟩ := info_parts infoIn
  have HB := Hid.mk9 (below_alloc w (.cells #[.slice a len cap, .int .i64 N] 26))
  have HX := Hid.mk9 (B2.new w 26 (.slice a len cap) (.int .i64 N))
  clear hR hT
  go_enter Tryd.func34, Tryd.ntmps34
  go_upto_region 1 with fail
  generalize w.alloc (.cells #[.slice a len cap, .int .i64 N] 26) = w1 at *
  obtain ⟨X, hX⟩ : ∃ X, w.heap.size = X := ⟨_, rfl⟩
  have HXw : Hid (w.heap.size = X) := Hid.mk9 hX
  rw [hX] at HX ⊢
  clear hX
  obtain ⟨p0, p1⟩ := HX.out.cells
  go_upto_region 2 with (go_at_call 54; refine (HRd.out _ HB.out).mono ?_; rintro e w2 ⟨hb2, p, hp2, rfl, hr2⟩; have HB2 := Hid.mk9 (below2 HB.out hb2); have HR2 := Hid.mk9 hr2; have HP2 : Hid (w.heap.size ≤ p ∧ p < w2.heap.size) := ⟨Nat.le_trans HB.out.size hp2, hr2.lt⟩; clear hb2 hp2 hr2 HB HX p0 p1 HRd)
  have HS0 : Hid (HS w (w2.alloc (.cells #[.int .i64 (n : Int)] 3)) w2.heap.size p L 0 (.slice (some ⟨w2.heap.size, 0, none⟩) 1 1) 1 (cellsI ((n : Int) :: Bk.flat2 (fun _ => 0) (fun _ => 0) 0))) := ⟨HR2.out.below (below_alloc _ _), below2 HB2.out (below_alloc _ _), HP2.out.1, HP2.out.2, (below_alloc w2 _).size, own_one w2 n⟩
  go_upto_region 5 with fail
  generalize hw3 : w2.alloc (.cells #[.int .i64 (n : Int)] 3) = w3 at *
  generalize hB9 : w2.heap.size = B at *
  clear hw3 hB9 HR2 HB2 HP2
  go_loopw [7, 8, 9] (fun v b i wr => ∃ (k at' : Nat) (bb : Bool) (T V : Nat → Int), (k : Int) ≤ (n : Int) ∧ b = .bool bb ∧ i = .int .i64 (k : Int) ∧ Hid (HearIn n L w B p k at' bb T V v wr)) (fun v b i _ => n - (intOf i).toNat)
  case atStart => exact ⟨0, 0, false, fun _ => 0, fun _ => 0, by omega, rfl, rfl, HS0.out, mid_zero _ _ _ _⟩
  case round =>
    obtain ⟨k, at', bb, T, V, hk, rfl, rfl, hP⟩ := hrel
    have HSt := Hid.mk9 hP.out.1
    have HM := Hid.mk9 hP.out.2
    clear hP HS0
    by_cases hlt : (k : Int) < (n : Int)
    · by_cases h1 : ∃ t k1, NumIs L at' t k1
      · obtain ⟨t, k1, h1⟩ := h1
        have H1 := Hid.mk9 h1
        by_cases h2 : ∃ x k2, NumIs L (at' + k1) x k2
        · obtain ⟨x, k2, h2⟩ := h2
          have H2 := Hid.mk9 h2
          clear h1 h2
          by_cases hrun : 2 ≤ k ∧ t = 0 ∧ x = 0
          · obtain ⟨g2, rfl, rfl⟩ := hrun
            have g2' : (2 : Int) ≤ (k : Int) := by omega
            have HRn := Hid.mk9 (mid_run HM.out (by omega) g2 H1.out H2.out)
            by_cases h4 : at' + k1 + k2 + 4 ≤ L.length
            · have H4 := Hid.mk9 h4
              obtain ⟨m, hm⟩ : ∃ m, m = val (bt L) (at' + k1 + k2) 4 := ⟨_, rfl⟩
              have HMm := Hid.mk9 hm
              have hm16 : (m : Int) < 16 := by have := val4_lt L (at' + k1 + k2); omega
              obtain ⟨r, hr⟩ : ∃ r, r = m + 1 := ⟨_, rfl⟩
              have HR : Hid (r = val (bt L) (at' + k1 + k2) 4 + 1) := by rw [hr, hm]; exact rfl
              have R1 : (m : Int) + 1 = (r : Int) := by omega
              have R2 : IntKind.i64.wrap (m : Int) = (m : Int) := by rw [IntKind.wrap_i64]; omega
              have R3 : (1 : Int) ≤ (r : Int) := by omega
              have R4 : (0 : Int) < (r : Int) := by omega
              have R5 : (r : Int) - 1 = (m : Int) := by omega
              have R6 : max (r : Int) 1 = (r : Int) := Int.max_eq_left R3
              have R7 : (r : Int) ≤ 16 := by omega
              have HEm : Hid (((val (bt L) (at' + k1 + k2) 4 : Nat) : Int) = (m : Int)) := by rw [hm]; exact rfl
              obtain ⟨q, hq⟩ : ∃ q, q = 2 * m := ⟨_, rfl⟩
              have R8 : 2 * (m : Int) = (q : Int) := by omega
              have hq9 : q ≤ 30 := by omega
              have HQ : Hid (q = 2 * m ∧ r = m + 1) := ⟨hq, hr⟩
              clear h4 hm hr hq
              cases bb with
              | true =>
                go_wp2_with (first | (go_at_call 55; first | (refine (HSt.out.numyes HT.out H1.out).mono ?_; rintro e w9 ⟨rfl, h9⟩; replace HSt := Hid.mk9 h9; clear h9) | (refine (HSt.out.numyes HT.out H2.out).mono ?_; rintro e w9 ⟨rfl, h9⟩; replace HSt := Hid.mk9 h9; clear h9)) | (go_at_call 56; refine (HSt.out.take H4.out).mono ?_; rw [HEm.out]; rintro e w9 ⟨rfl, h9⟩; replace HSt := Hid.mk9 h9; clear h9))
                go_ret2
                exact hear_no HSt.out.bel (fun T2 V2 hT => by have := (HRn.out T2 V2 hT).1; cases this)
              | false =>
                by_cases hfit : (r : Int) ≤ (n : Int) - (k : Int)
                · have hfit2 : ¬ (r : Int) > (n : Int) - (k : Int) := by omega
                  by_cases h16 : (r : Int) < 16
                  · go_upto_region 18 with (first | (go_at_call 55; first | (refine (HSt.out.numyes HT.out H1.out).mono ?_; rintro e w9 ⟨rfl, h9⟩; replace HSt := Hid.mk9 h9; clear h9) | (refine (HSt.out.numyes HT.out H2.out).mono ?_; rintro e w9 ⟨rfl, h9⟩; replace HSt := Hid.mk9 h9; clear h9)) | (go_at_call 56; refine (HSt.out.take H4.out).mono ?_; rw [HEm.out]; rintro e w9 ⟨rfl, h9⟩; replace HSt := Hid.mk9 h9; clear h9))
                    go_wp2_with (at_builtin; refine wpList_append_own _ rfl (.tmp 79) (.tmp 82) 49 rfl B 3 i0 (.int .i64 0) 1 8 Tryd.underlying49 hi hz0 hz1 hz2 rfl (by decide) _ _ _ rfl (own_below HSt.out.own (below_alloc _ _)) ⟨w9.heap.size, 0, none⟩ 2 2 [.int .i64 0, .int .i64 0] rfl rfl (Bk.cells_lit w9 [.int .i64 0, .int .i64 0] 3) (by intro u hu; simp at hu; rcases hu with rfl | rfl <;> rfl) (by unfold maxLen; omega) (by omega) (by have := HSt.out.bsz; simp; omega) ?_)
                    intro v5 w5 hown5 hg5 _
                    have HS5 := Hid.mk9 ((HSt.out.below (below_alloc w9 (.cells #[.int .i64 0, .int .i64 0] 3))).push hown5 hg5)
                    clear HSt hown5 hg5
                    obtain ⟨v6, w6, hrun6, hown6, hg6⟩ := run_own_zeros w5 49 B (2 * k + 1 + 2) q v5 _ HS5.out.own (by omega) (by omega) HS5.out.bsz
                    have HS6 := Hid.mk9 (HS5.out.push hown6 hg6)
                    clear HS5 hown6 hg6
                    go_wp2_with (at_builtin; refine Go.Lib.wpList_append_run _ rfl (.tmp 84) (.tmp 87) 49 3 rfl _ _ rfl rfl _ _ hrun6 ?_)
                    have HI9 : HearIn n L w B p (k + r) (at' + k1 + k2 + 4) true (upd T k 0) (upd V k 0) v6 w6 := by
                      have hmid := HM.out.run (by omega) (by omega) H1.out H2.out H4.out HR.out (by omega) (fun j hj => ⟨upd_lt 0 hj, upd_lt 0 hj⟩) (T2 := upd T k 0) (V2 := upd V k 0) (fun j _ => ⟨upd_ge 0 (by omega), upd_ge 0 (by omega)⟩)
                      rw [show decide (r < 16) = true from decide_eq_true (by omega)] at hmid
                      refine ⟨?_, hmid⟩
                      have := HS6.out
                      rw [HQ.out.1, flat_run, show k + (m + 1) = k + r by rw [HQ.out.2]] at this
                      rw [show 2 * (k + r) + 1 = 2 * k + 1 + 2 + 2 * m by rw [HQ.out.2]; omega]
                      exact this
                    refine ⟨⟨k + r, at' + k1 + k2 + 4, true, _, _, by omega, (by first | rfl | (simp; omega)), by simp, HI9⟩, ?_⟩
                    simp [intOf]; omega
                  · go_upto_region 18 with (first | (go_at_call 55; first | (refine (HSt.out.numyes HT.out H1.out).mono ?_; rintro e w9 ⟨rfl, h9⟩; replace HSt := Hid.mk9 h9; clear h9) | (refine (HSt.out.numyes HT.out H2.out).mono ?_; rintro e w9 ⟨rfl, h9⟩; replace HSt := Hid.mk9 h9; clear h9)) | (go_at_call 56; refine (HSt.out.take H4.out).mono ?_; rw [HEm.out]; rintro e w9 ⟨rfl, h9⟩; replace HSt := Hid.mk9 h9; clear h9))
                    go_wp2_with (at_builtin; refine wpList_append_own _ rfl (.tmp 79) (.tmp 82) 49 rfl B 3 i0 (.int .i64 0) 1 8 Tryd.underlying49 hi hz0 hz1 hz2 rfl (by decide) _ _ _ rfl (own_below HSt.out.own (below_alloc _ _)) ⟨w9.heap.size, 0, none⟩ 2 2 [.int .i64 0, .int .i64 0] rfl rfl (Bk.cells_lit w9 [.int .i64 0, .int .i64 0] 3) (by intro u hu; simp at hu; rcases hu with rfl | rfl <;> rfl) (by unfold maxLen; omega) (by omega) (by have := HSt.out.bsz; simp; omega) ?_)
                    intro v5 w5 hown5 hg5 _
                    have HS5 := Hid.mk9 ((HSt.out.below (below_alloc w9 (.cells #[.int .i64 0, .int .i64 0] 3))).push hown5 hg5)
                    clear HSt hown5 hg5
                    obtain ⟨v6, w6, hrun6, hown6, hg6⟩ := run_own_zeros w5 49 B (2 * k + 1 + 2) q v5 _ HS5.out.own (by omega) (by omega) HS5.out.bsz
                    have HS6 := Hid.mk9 (HS5.out.push hown6 hg6)
                    clear HS5 hown6 hg6
                    go_wp2_with (at_builtin; refine Go.Lib.wpList_append_run _ rfl (.tmp 84) (.tmp 87) 49 3 rfl _ _ rfl rfl _ _ hrun6 ?_)
                    have HI9 : HearIn n L w B p (k + r) (at' + k1 + k2 + 4) false (upd T k 0) (upd V k 0) v6 w6 := by
                      have hmid := HM.out.run (by omega) (by omega) H1.out H2.out H4.out HR.out (by omega) (fun j hj => ⟨upd_lt 0 hj, upd_lt 0 hj⟩) (T2 := upd T k 0) (V2 := upd V k 0) (fun j _ => ⟨upd_ge 0 (by omega), upd_ge 0 (by omega)⟩)
                      rw [show decide (r < 16) = false from decide_eq_false (by omega)] at hmid
                      refine ⟨?_, hmid⟩
                      have := HS6.out
                      rw [HQ.out.1, flat_run, show k + (m + 1) = k + r by rw [HQ.out.2]] at this
                      rw [show 2 * (k + r) + 1 = 2 * k + 1 + 2 + 2 * m by rw [HQ.out.2]; omega]
                      exact this
                    refine ⟨⟨k + r, at' + k1 + k2 + 4, false, _, _, by omega, (by first | rfl | (simp; omega)), by simp, HI9⟩, ?_⟩
                    simp [intOf]; omega
                · have hfit2 : (r : Int) > (n : Int) - (k : Int) := by omega
                  go_wp2_with (first | (go_at_call 55; first | (refine (HSt.out.numyes HT.out H1.out).mono ?_; rintro e w9 ⟨rfl, h9⟩; replace HSt := Hid.mk9 h9; clear h9) | (refine (HSt.out.numyes HT.out H2.out).mono ?_; rintro e w9 ⟨rfl, h9⟩; replace HSt := Hid.mk9 h9; clear h9)) | (go_at_call 56; refine (HSt.out.take H4.out).mono ?_; rw [HEm.out]; rintro e w9 ⟨rfl, h9⟩; replace HSt := Hid.mk9 h9; clear h9))
                  go_ret2
                  exact hear_no HSt.out.bel (fun T2 V2 hT => by have := (HRn.out T2 V2 hT).2.2.1; rw [← HR.out] at this; omega)
            · have H4 : Hid (L.length < at' + k1 + k2 + 4) := by unfold Hid; omega
              clear h4
              go_wp2_with (first | (go_at_call 55; first | (refine (HSt.out.numyes HT.out H1.out).mono ?_; rintro e w9 ⟨rfl, h9⟩; replace HSt := Hid.mk9 h9; clear h9) | (refine (HSt.out.numyes HT.out H2.out).mono ?_; rintro e w9 ⟨rfl, h9⟩; replace HSt := Hid.mk9 h9; clear h9)) | (go_at_call 56; refine (HSt.out.few H4.out).mono ?_; rintro e w9 ⟨rfl, h9⟩; replace HSt := Hid.mk9 h9; clear h9))
              go_ret2
              exact hear_no HSt.out.bel (fun T2 V2 hT => by have := (HRn.out T2 V2 hT).2.1; have := H4.out; omega)
          · have hs : Hid (¬ (2 ≤ k ∧ t = 0 ∧ x = 0)) := hrun
            clear hrun
            by_cases g2 : 2 ≤ k
            · have g2' : (2 : Int) ≤ (k : Int) := by omega
              by_cases gt : t = 0
              · have gx : ¬ x = 0 := fun e => hs.out ⟨g2, gt, e⟩
                have gx2 : (x == 0) = false := by simp [gx]
                clear g2
                subst gt
                have hmx : max (0 : Int) 1 = 1 := by decide
                go_upto_region 18 with (go_at_call 55; first | (refine (HSt.out.numyes HT.out H1.out).mono ?_; rintro e w9 ⟨rfl, h9⟩; replace HSt := Hid.mk9 h9; clear h9) | (refine (HSt.out.numyes HT.out H2.out).mono ?_; rintro e w9 ⟨rfl, h9⟩; replace HSt := Hid.mk9 h9; clear h9))
                go_wp2_with (at_builtin; refine wpList_append_own _ rfl (.tmp 79) (.tmp 82) 49 rfl B 3 i0 (.int .i64 0) 1 8 Tryd.underlying49 hi hz0 hz1 hz2 rfl (by decide) _ _ _ rfl (own_below HSt.out.own (below_alloc _ _)) ⟨w9.heap.size, 0, none⟩ 2 2 [.int .i64 0, .int .i64 x] rfl rfl (Bk.cells_lit w9 [.int .i64 0, .int .i64 x] 3) (by intro u hu; simp at hu; rcases hu with rfl | rfl <;> rfl) (by unfold maxLen; omega) (by omega) (by have := HSt.out.bsz; simp; omega) ?_)
                intro v5 w5 hown5 hg5 _
                have HS5 := Hid.mk9 ((HSt.out.below (below_alloc w9 (.cells #[.int .i64 0, .int .i64 x] 3))).push hown5 hg5)
                clear HSt hown5 hg5
                have hz := run_own_zeros w5 49 B (2 * k + 1 + 2) 0 v5 _ HS5.out.own (by omega) (by omega) HS5.out.bsz
                rw [show ((0 : Nat) : Int) = 0 from rfl] at hz
                obtain ⟨v6, w6, hrun6, hown6, hg6⟩ := hz
                have HS6 := Hid.mk9 (HS5.out.push hown6 hg6)
                clear HS5 hown6 hg6
                go_wp2_with (at_builtin; refine Go.Lib.wpList_append_run _ rfl (.tmp 84) (.tmp 87) 49 3 rfl _ _ rfl rfl _ _ hrun6 ?_)
                have HI9 : HearIn n L w B p (k + 1) (at' + k1 + k2) false (upd T k 0) (upd V k x) v6 w6 := by
                  refine ⟨?_, HM.out.one (by omega) H1.out H2.out (fun q => hs.out (by first | exact q | exact ⟨q.1, trivial, q.2.2⟩)) (fun j hj => ⟨upd_lt 0 hj, upd_lt x hj⟩) (upd_ge 0 (Nat.le_refl _)) (upd_ge x (Nat.le_refl _))⟩
                  have := HS6.out
                  rw [List.replicate_zero, List.append_nil, flat_one] at this
                  rw [show 2 * (k + 1) + 1 = 2 * k + 1 + 2 + 0 by omega]
                  exact this
                refine ⟨⟨k + 1, at' + k1 + k2, false, _, _, by omega, rfl, by simp, HI9⟩, ?_⟩
                simp [intOf]; omega
              · have gt2 : (t == 0) = false := by simp [gt]
                clear g2
                have hmx : max (0 : Int) 1 = 1 := by decide
                go_upto_region 18 with (go_at_call 55; first | (refine (HSt.out.numyes HT.out H1.out).mono ?_; rintro e w9 ⟨rfl, h9⟩; replace HSt := Hid.mk9 h9; clear h9) | (refine (HSt.out.numyes HT.out H2.out).mono ?_; rintro e w9 ⟨rfl, h9⟩; replace HSt := Hid.mk9 h9; clear h9))
                go_wp2_with (at_builtin; refine wpList_append_own _ rfl (.tmp 79) (.tmp 82) 49 rfl B 3 i0 (.int .i64 0) 1 8 Tryd.underlying49 hi hz0 hz1 hz2 rfl (by decide) _ _ _ rfl (own_below HSt.out.own (below_alloc _ _)) ⟨w9.heap.size, 0, none⟩ 2 2 [.int .i64 t, .int .i64 x] rfl rfl (Bk.cells_lit w9 [.int .i64 t, .int .i64 x] 3) (by intro u hu; simp at hu; rcases hu with rfl | rfl <;> rfl) (by unfold maxLen; omega) (by omega) (by have := HSt.out.bsz; simp; omega) ?_)
                intro v5 w5 hown5 hg5 _
                have HS5 := Hid.mk9 ((HSt.out.below (below_alloc w9 (.cells #[.int .i64 t, .int .i64 x] 3))).push hown5 hg5)
                clear HSt hown5 hg5
                have hz := run_own_zeros w5 49 B (2 * k + 1 + 2) 0 v5 _ HS5.out.own (by omega) (by omega) HS5.out.bsz
                rw [show ((0 : Nat) : Int) = 0 from rfl] at hz
                obtain ⟨v6, w6, hrun6, hown6, hg6⟩ := hz
                have HS6 := Hid.mk9 (HS5.out.push hown6 hg6)
                clear HS5 hown6 hg6
                go_wp2_with (at_builtin; refine Go.Lib.wpList_append_run _ rfl (.tmp 84) (.tmp 87) 49 3 rfl _ _ rfl rfl _ _ hrun6 ?_)
                have HI9 : HearIn n L w B p (k + 1) (at' + k1 + k2) false (upd T k t) (upd V k x) v6 w6 := by
                  refine ⟨?_, HM.out.one (by omega) H1.out H2.out (fun q => hs.out (by first | exact q | exact ⟨q.1, trivial, q.2.2⟩)) (fun j hj => ⟨upd_lt t hj, upd_lt x hj⟩) (upd_ge t (Nat.le_refl _)) (upd_ge x (Nat.le_refl _))⟩
                  have := HS6.out
                  rw [List.replicate_zero, List.append_nil, flat_one] at this
                  rw [show 2 * (k + 1) + 1 = 2 * k + 1 + 2 + 0 by omega]
                  exact this
                refine ⟨⟨k + 1, at' + k1 + k2, false, _, _, by omega, rfl, by simp, HI9⟩, ?_⟩
                simp [intOf]; omega
            · have g2' : (k : Int) < 2 := by omega
              have g3 : ¬ (k : Int) ≥ 2 := by omega
              clear g2
              have hmx : max (0 : Int) 1 = 1 := by decide
              go_upto_region 18 with (go_at_call 55; first | (refine (HSt.out.numyes HT.out H1.out).mono ?_; rintro e w9 ⟨rfl, h9⟩; replace HSt := Hid.mk9 h9; clear h9) | (refine (HSt.out.numyes HT.out H2.out).mono ?_; rintro e w9 ⟨rfl, h9⟩; replace HSt := Hid.mk9 h9; clear h9))
              go_wp2_with (at_builtin; refine wpList_append_own _ rfl (.tmp 79) (.tmp 82) 49 rfl B 3 i0 (.int .i64 0) 1 8 Tryd.underlying49 hi hz0 hz1 hz2 rfl (by decide) _ _ _ rfl (own_below HSt.out.own (below_alloc _ _)) ⟨w9.heap.size, 0, none⟩ 2 2 [.int .i64 t, .int .i64 x] rfl rfl (Bk.cells_lit w9 [.int .i64 t, .int .i64 x] 3) (by intro u hu; simp at hu; rcases hu with rfl | rfl <;> rfl) (by unfold maxLen; omega) (by omega) (by have := HSt.out.bsz; simp; omega) ?_)
              intro v5 w5 hown5 hg5 _
              have HS5 := Hid.mk9 ((HSt.out.below (below_alloc w9 (.cells #[.int .i64 t, .int .i64 x] 3))).push hown5 hg5)
              clear HSt hown5 hg5
              have hz := run_own_zeros w5 49 B (2 * k + 1 + 2) 0 v5 _ HS5.out.own (by omega) (by omega) HS5.out.bsz
              rw [show ((0 : Nat) : Int) = 0 from rfl] at hz
              obtain ⟨v6, w6, hrun6, hown6, hg6⟩ := hz
              have HS6 := Hid.mk9 (HS5.out.push hown6 hg6)
              clear HS5 hown6 hg6
              go_wp2_with (at_builtin; refine Go.Lib.wpList_append_run _ rfl (.tmp 84) (.tmp 87) 49 3 rfl _ _ rfl rfl _ _ hrun6 ?_)
              have HI9 : HearIn n L w B p (k + 1) (at' + k1 + k2) false (upd T k t) (upd V k x) v6 w6 := by
                refine ⟨?_, HM.out.one (by omega) H1.out H2.out (fun q => hs.out (by first | exact q | exact ⟨q.1, trivial, q.2.2⟩)) (fun j hj => ⟨upd_lt t hj, upd_lt x hj⟩) (upd_ge t (Nat.le_refl _)) (upd_ge x (Nat.le_refl _))⟩
                have := HS6.out
                rw [List.replicate_zero, List.append_nil, flat_one] at this
                rw [show 2 * (k + 1) + 1 = 2 * k + 1 + 2 + 0 by omega]
                exact this
              refine ⟨⟨k + 1, at' + k1 + k2, false, _, _, by omega, rfl, by simp, HI9⟩, ?_⟩
              simp [intOf]; omega
        · have H2 : Hid (∀ v m, ¬ NumIs L (at' + k1) v m) := fun v m h => h2 ⟨v, m, h⟩
          clear h1 h2
          go_wp2_with (go_at_call 55; first | (refine (HSt.out.numyes HT.out H1.out).mono ?_; rintro e w9 ⟨rfl, h9⟩; replace HSt := Hid.mk9 h9; clear h9) | (refine (HSt.out.numno HT.out H2.out).mono ?_; rintro e w9 ⟨rfl, h9⟩; replace HSt := Hid.mk9 h9; clear h9))
          go_ret2
          exact hear_no HSt.out.bel (mid_no2 HM.out (by omega) H1.out H2.out)
      · have H1 : Hid (∀ v m, ¬ NumIs L at' v m) := fun v m h => h1 ⟨v, m, h⟩
        clear h1
        go_wp2_with (go_at_call 55; first | (refine (HSt.out.numno HT.out H1.out).mono ?_; rintro e w9 ⟨rfl, h9⟩; replace HSt := Hid.mk9 h9; clear h9))
        go_ret2
        exact hear_no HSt.out.bel (mid_no1 HM.out (by omega) H1.out)
    · have e : k = n := by omega
      subst e
      have HLf := Hid.mk9 HSt.out.left
      obtain ⟨d, hd⟩ : ∃ d, d = L.length - at' := ⟨_, rfl⟩
      rw [← hd] at HLf
      have hat := HM.out.1
      by_cases h0 : d = 0
      · have e2 : at' = L.length := by omega
        subst e2
        subst h0
        clear hd hat
        go_wp2_with (go_at_call 57; refine HLf.out.mono ?_; rintro e w9 ⟨rfl, h9⟩; replace HSt := Hid.mk9 h9; clear h9)
        go_ret2
        exact ⟨HSt.out.bel, .inl ⟨_, T, V, rfl, mid_end HM.out, own_base HSt.out.own (by have := HSt.out.pos; have := HSt.out.lt; omega)⟩⟩
      · have e2 : ((d : Int) == 0) = false := by rw [beq_eq_false_iff_ne]; omega
        have HA : Hid (at' < L.length) := by unfold Hid; omega
        clear hd hat h0
        go_wp2_with (go_at_call 57; refine HLf.out.mono ?_; rintro e w9 ⟨rfl, h9⟩; replace HSt := Hid.mk9 h9; clear h9)
        go_ret2
        exact hear_no HSt.out.bel (mid_more HM.out HA.out)
end Go.Proofs.YtcdlkdbnlomghaaDoor.Gl
