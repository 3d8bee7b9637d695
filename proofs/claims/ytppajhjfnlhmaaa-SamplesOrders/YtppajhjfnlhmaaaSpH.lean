/-
  The contracts of the answer's with and Put.
-/
import Derived.Test.YtppajhjfnlhmaaaSpG
namespace Go.Proofs.Ytppajhjfnlhmaaa.Bk
open Go.ChangeShapes Go.WideShapes Go.ChangeAt Go.RowKit
theorem snoc_len (L : List Sm) (s : Sm) : L.length + 1 = (L ++ [s]).length := by simp
def WithIn (ls : List Sm) (s : Sm) (wA : World) (k : Nat) (dn : Bool) (v : Value) (wr : World) : Prop :=
  Below wA.heap.size wA wr ∧ ∃ L, L ++ (if dn = true then ls.drop k else wth (ls.drop k) s) = wth ls s ∧ L.length ≤ 2 * k + 1 ∧ wr.ownsRow wA.heap.size 24 2 v L.length (cellsS L)
theorem drop_next {ls : List Sm} {k : Nat} (h : k < ls.length) : ls.drop k = ls.getD k sm0 :: ls.drop (k + 1) := by
  rw [getD_get h, List.drop_eq_getElem_cons h]
theorem row_from {L : List Sm} {w wA w' : World} {e : Ending} (h : RowPost L wA e w') (hb : Below w.heap.size w wA) : RowPost L w e w' := ⟨below2 hb h.1, h.2⟩
set_option maxHeartbeats 2000000 in
set_option maxRecDepth 60000 in
theorem with_any (a : Option Addr) (len cap : Nat) (ls : List Sm) (x y : Int) (w : World) (h : SmsAt w a len cap ls) (hm : (len : Int) ≤ 200) :
    Calls Try.prog 25 #[.slice a len cap, .agg #[.int .i64 x, .int .i64 y]] w fun e w' => RowPost (wth ls (x, y)) w e w' := by
  have hl : ls.length = len := h.1
  have HX := Hid.mk9 (SmBox.new w x y)
  have HB0 := Hid.mk9 (below_alloc w (.cells #[.int .i64 x, .int .i64 y] 24))
  have HLA := Hid.mk9 (h.below HB0.out)
  clear h
  go_enter Try.func25, Try.ntmps25
  go_upto_region 1 with fail
  generalize w.alloc (.cells #[.int .i64 x, .int .i64 y] 24) = wA at *
  obtain ⟨B, hB⟩ : ∃ B, w.heap.size = B := ⟨_, rfl⟩
  have HBx : Hid (∀ W, Below wA.heap.size wA W → SmBox W B x y) := fun W hb => by rw [← hB]; exact HX.out.below hb
  rw [hB]
  have HB9 : Hid (Below w.heap.size w wA) := HB0
  clear hB HX HB0
  have H0 : Hid (WithIn ls (x, y) wA 0 false (.slice (some ⟨wA.heap.size, 0, none⟩) 0 0) (wA.alloc (.cells #[] 24))) := ⟨(pick_start wA).1, [], rfl, by simp, (pick_start wA).2⟩
  go_wp2_with fail
  go_loopw [5, 6, 7] (fun v d i wr => ∃ (k : Nat) (dn : Bool), k ≤ len ∧ d = .bool dn ∧ i = .int .i64 k ∧ Hid (WithIn ls (x, y) wA k dn v wr)) (fun _ _ i _ => len - (intOf i).toNat)
  case atStart => exact ⟨0, false, Nat.zero_le _, rfl, rfl, H0⟩
  case round =>
    clear H0
    obtain ⟨k, dn, hk, rfl, rfl, HP⟩ := hrel
    obtain ⟨hbr, L, hL, hS, hO⟩ := HP.out
    have HB := Hid.mk9 hbr
    have HLL := Hid.mk9 hL
    have HS := Hid.mk9 hS
    have HO := Hid.mk9 hO
    clear HP hbr hL hS hO
    by_cases hlt : k < len
    · obtain ⟨b, off, rfl, hbs, hcell⟩ := (HLA.out.below HB.out).some (by omega)
      obtain ⟨e0, e1⟩ := hcell k hlt
      have HLc : Hid (∀ W, Below wA.heap.size wA W → W.cell? ⟨b, off + k * 2, none⟩ = some (.int .i64 (ls.getD k sm0).1) ∧ W.cell? ⟨b, off + k * 2 + 1, none⟩ = some (.int .i64 (ls.getD k sm0).2)) := fun W hb => by
        obtain ⟨b', off', e, _, hc⟩ := (HLA.out.below hb).some (by omega)
        simp at e
        obtain ⟨rfl, rfl⟩ := e
        exact hc k hlt
      clear hcell
      have hk1 : (k : Int) < (len : Int) := by omega
      have hk0 : (0 : Int) ≤ (k : Int) := by omega
      have HD := Hid.mk9 (drop_next (show k < ls.length by omega))
      rw [HD.out] at HLL
      clear HD
      generalize ls.getD k sm0 = p at *
      obtain ⟨p1, p2⟩ := p
      have g0 := (HBx.out _ HB.out).c0
      have hBl := (HBx.out _ HB.out).lt
      have x0 := cell_grown (a := ⟨b, off + k * 2, none⟩) hbs e0
      have x1 := cell_grown (a := ⟨B, 0, none⟩) hBl g0
      cases dn with
      | true =>
        have HN : Hid ((L ++ [(p1, p2)]) ++ ls.drop (k + 1) = wth ls (x, y)) := Hid.mk9 (by have := HLL.out; rw [if_pos rfl] at this; rw [← this]; simp)
        clear HLL
        go_upto_region 6 with fail
        clear e0 e1 g0 hbs hBl
        refine wp_region_QW mixed5 (by kernel_rfl) ?_
        repeat (refine QW_step (fun K hK => ?_); go_simp; first | (refine hK _ ?_; clear hK K) | (apply Exists.intro; refine ⟨fun _ => ?_, hK _ ?_⟩; fail; clear hK K))
        refine QW_nil ?_
        intro _ hw9
        obtain ⟨⟨nq, osq⟩, hw8⟩ := hw9
        subst hw8
        have bG := below_grow wr nq osq
        replace HO := Hid.mk9 (own_below HO.out bG)
        replace HB := Hid.mk9 (HB.out.trans (bG.mono HB.out.size))
        clear bG x0 x1
        generalize Go.Sort.grow (wr.drewN nq) osq = w5 at *
        obtain ⟨f0, f1⟩ := HLc.out _ HB.out
        have g0 := (HBx.out _ HB.out).c0
        have g1 := (HBx.out _ HB.out).c1
        go_wp2_with (at_builtin; refine append_sms (w0 := wA) rfl _ _ rfl _ _ L rfl (own_below HO.out (below_alloc _ _)) (below2 HB.out (below_alloc _ _)) _ 1 1 [(p1, p2)] rfl (sms_lit _ _ _) (by have := HS.out; omega) (by omega) ?_; intro v4 w4 ho4 hb4; rw [snoc_len (L) (p1, p2)] at ho4; replace HO := Hid.mk9 ho4; replace HB := Hid.mk9 hb4; clear ho4 hb4)
        exact ⟨⟨k + 1, true, by omega, rfl, by go_num, HB.out, L ++ [(p1, p2)], (by rw [if_pos rfl]; exact HN.out), (by have := HS.out; simp; omega), HO.out⟩, by simp [intOf]; omega⟩
      | false =>
        by_cases hp : x < p1
        · have HN : Hid ((L ++ [(x, y)] ++ [(p1, p2)]) ++ ls.drop (k + 1) = wth ls (x, y)) := Hid.mk9 (by have := HLL.out; rw [if_neg (by decide), wth, if_pos hp] at this; rw [← this]; simp)
          clear HLL
          go_upto_region 6 with fail
          clear e0 e1 g0 hbs hBl
          refine wp_region_QW mixed5 (by kernel_rfl) ?_
          repeat (refine QW_step (fun K hK => ?_); go_simp; first | (refine hK _ ?_; clear hK K) | (apply Exists.intro; refine ⟨fun _ => ?_, hK _ ?_⟩; fail; clear hK K))
          refine QW_nil ?_
          intro _ hw9
          obtain ⟨⟨nq, osq⟩, hw8⟩ := hw9
          subst hw8
          have bG := below_grow wr nq osq
          replace HO := Hid.mk9 (own_below HO.out bG)
          replace HB := Hid.mk9 (HB.out.trans (bG.mono HB.out.size))
          clear bG x0 x1
          generalize Go.Sort.grow (wr.drewN nq) osq = w5 at *
          obtain ⟨f0, f1⟩ := HLc.out _ HB.out
          have g0 := (HBx.out _ HB.out).c0
          have g1 := (HBx.out _ HB.out).c1
          go_upto_region 9 with (at_builtin; refine append_sms (w0 := wA) rfl _ _ rfl _ _ L rfl (own_below HO.out (below_alloc _ _)) (below2 HB.out (below_alloc _ _)) _ 1 1 [(x, y)] rfl (sms_lit _ _ _) (by have := HS.out; omega) (by omega) ?_; intro v4 w4 ho4 hb4; rw [snoc_len (L) (x, y)] at ho4; replace HO := Hid.mk9 ho4; replace HB := Hid.mk9 hb4; obtain ⟨e0', e1'⟩ := HLc.out _ HB.out; clear ho4 hb4)
          have HS2 : Hid ((L ++ [(x, y)]).length ≤ 2 * k + 2) := Hid.mk9 (by have := HS.out; simp; omega)
          have HS3 := HS
          clear HS
          have HS := HS2
          clear HS2
          go_wp2_with (at_builtin; refine append_sms (w0 := wA) rfl _ _ rfl _ _ (L ++ [(x, y)]) rfl (own_below HO.out (below_alloc _ _)) (below2 HB.out (below_alloc _ _)) _ 1 1 [(p1, p2)] rfl (sms_lit _ _ _) (by have := HS.out; omega) (by omega) ?_; intro v4 w4 ho4 hb4; rw [snoc_len ((L ++ [(x, y)])) (p1, p2)] at ho4; replace HO := Hid.mk9 ho4; replace HB := Hid.mk9 hb4; clear ho4 hb4)
          exact ⟨⟨k + 1, true, by omega, rfl, by go_num, HB.out, L ++ [(x, y)] ++ [(p1, p2)], (by rw [if_pos rfl]; exact HN.out), (by have := HS3.out; simp; omega), HO.out⟩, by simp [intOf]; omega⟩
        · have HN : Hid ((L ++ [(p1, p2)]) ++ wth (ls.drop (k + 1)) (x, y) = wth ls (x, y)) := Hid.mk9 (by have := HLL.out; rw [if_neg (by decide), wth, if_neg hp] at this; rw [← this]; simp)
          have hd : decide (x < p1) = false := decide_eq_false hp
          clear HLL
          go_upto_region 6 with fail
          clear e0 e1 g0 hbs hBl
          refine wp_region_QW mixed5 (by kernel_rfl) ?_
          repeat (refine QW_step (fun K hK => ?_); go_simp; first | (refine hK _ ?_; clear hK K) | (apply Exists.intro; refine ⟨fun _ => ?_, hK _ ?_⟩; fail; clear hK K))
          refine QW_nil ?_
          intro _ hw9
          obtain ⟨⟨nq, osq⟩, hw8⟩ := hw9
          subst hw8
          have bG := below_grow wr nq osq
          replace HO := Hid.mk9 (own_below HO.out bG)
          replace HB := Hid.mk9 (HB.out.trans (bG.mono HB.out.size))
          clear bG x0 x1
          generalize Go.Sort.grow (wr.drewN nq) osq = w5 at *
          obtain ⟨f0, f1⟩ := HLc.out _ HB.out
          have g0 := (HBx.out _ HB.out).c0
          have g1 := (HBx.out _ HB.out).c1
          go_wp2_with (at_builtin; refine append_sms (w0 := wA) rfl _ _ rfl _ _ L rfl (own_below HO.out (below_alloc _ _)) (below2 HB.out (below_alloc _ _)) _ 1 1 [(p1, p2)] rfl (sms_lit _ _ _) (by have := HS.out; omega) (by omega) ?_; intro v4 w4 ho4 hb4; rw [snoc_len (L) (p1, p2)] at ho4; replace HO := Hid.mk9 ho4; replace HB := Hid.mk9 hb4; clear ho4 hb4)
          exact ⟨⟨k + 1, false, by omega, rfl, by go_num, HB.out, L ++ [(p1, p2)], (by rw [if_neg (by decide)]; exact HN.out), (by have := HS.out; simp; omega), HO.out⟩, by simp [intOf]; omega⟩
    · obtain rfl : k = len := by omega
      have hd0 : ls.drop k = [] := List.drop_eq_nil_iff.2 (by omega)
      rw [hd0] at HLL
      clear hd0
      have g0 := (HBx.out _ HB.out).c0
      have g1 := (HBx.out _ HB.out).c1
      cases dn with
      | true =>
        have HN : Hid (L = wth ls (x, y)) := Hid.mk9 (by have := HLL.out; rw [if_pos rfl, List.append_nil] at this; exact this)
        have HR : Hid (RowPost (wth ls (x, y)) wA _ _) := Hid.mk9 (by rw [← HN.out]; exact pick_row ⟨HB.out, HO.out⟩)
        clear HLL
        go_wp2_with fail
        go_ret
        exact row_from HR.out HB9.out
      | false =>
        have HN : Hid (L ++ [(x, y)] = wth ls (x, y)) := Hid.mk9 (by have := HLL.out; rw [if_neg (by decide), wth] at this; exact this)
        clear HLL
        go_wp2_with (at_builtin; refine append_sms (w0 := wA) rfl _ _ rfl _ _ L rfl (own_below HO.out (below_alloc _ _)) (below2 HB.out (below_alloc _ _)) _ 1 1 [(x, y)] rfl (sms_lit _ _ _) (by have := HS.out; omega) (by omega) ?_; intro v4 w4 ho4 hb4; rw [snoc_len (L) (x, y)] at ho4; replace HO := Hid.mk9 ho4; replace HB := Hid.mk9 hb4; clear ho4 hb4)
        go_ret
        exact row_from (by rw [← HN.out]; exact pick_row ⟨HB.out, HO.out⟩) HB9.out
set_option maxHeartbeats 2000000 in
set_option maxRecDepth 60000 in
theorem refPut_yes (a : Option Addr) (len cap : Nat) (ls : List Sm) (x y : Int) (w : World) (h : SmsAt w a len cap ls) (hM : MayS ls) :
    Calls Try.prog 10 #[.slice a len cap, .agg #[.int .i64 x, .int .i64 y]] w fun e w' => PutPost (putE ls (x, y)) (putL ls (x, y)) w e w' := by
  have hl : ls.length = len := h.1
  have hm : len ≤ 64 := by have := hM.1; omega
  have HL := Hid.mk9 h
  have b0 := below_alloc w (.cells #[.int .i64 x, .int .i64 y] 24)
  have b1 := below2 b0 (below_alloc _ (.cells #[.int .i64 x, .int .i64 y] 24))
  have HX := Hid.mk9 ((SmBox.new w x y).below (below_alloc _ (.cells #[.int .i64 x, .int .i64 y] 24)))
  have HO : Hid (SmsAt ((w.alloc (.cells #[.int .i64 x, .int .i64 y] 24)).alloc (.cells #[.int .i64 x, .int .i64 y] 24)) (some ⟨w.heap.size + 1, 0, none⟩) 1 1 [(x, y)]) := by
    have := sms_lit (w.alloc (.cells #[.int .i64 x, .int .i64 y] 24)) x y
    rw [show (w.alloc (.cells #[.int .i64 x, .int .i64 y] 24)).heap.size = w.heap.size + 1 from by simp] at this
    exact this
  have HF : Hid (∀ W, Below w.heap.size w W → Calls Try.prog 15 #[.slice a len cap, .int .i64 x] W fun e w' => FindPost (findP ls x) W e w') := fun W hb => refGet_any a len cap ls x W (h.below hb)
  have HW : Hid (∀ W, Below w.heap.size w W → Calls Try.prog 25 #[.slice a len cap, .agg #[.int .i64 x, .int .i64 y]] W fun e w' => RowPost (wth ls (x, y)) W e w') := fun W hb => with_any a len cap ls x y W (h.below hb) (by omega)
  clear h hM
  by_cases hin : InS (x, y)
  · have HC := Hid.mk9 (mayS_true HO.out ((may_one _).2 hin))
    have HE7 : Hid (findP ls x = some (x, y) → putE ls (x, y) = 7) := fun h => putE_same hin h
    have HE8 : Hid (∀ z, findP ls x = some z → z ≠ (x, y) → putE ls (x, y) = 8) := fun z h hz => putE_other hin h hz
    have HE6 : Hid (findP ls x = none → 64 ≤ ls.length → putE ls (x, y) = 6) := fun h hz => putE_full hin h hz
    have HE0 : Hid (findP ls x = none → ls.length < 64 → putE ls (x, y) = 0) := fun h hz => putE_ok hin h hz
    clear hin HO
    go_enter Try.func10, Try.ntmps10
    go_upto_region 3 with (go_at_call 9; refine HC.out.mono ?_; rintro e w1 ⟨rfl, hb1⟩)
    have HB := Hid.mk9 (below2 b1 hb1)
    have HX1 := Hid.mk9 (HX.out.below hb1)
    have c0 := HX1.out.c0
    clear hb1 b0 b1 HC HX
    cases hf : findP ls x with
    | none =>
      rw [hf] at HF HE6 HE0
      clear HE7 HE8
      by_cases h64 : 64 ≤ len
      · have HE := Hid.mk9 (HE6.out rfl (by omega))
        obtain rfl : len = 64 := by omega
        clear HE6 HE0 hf h64 hm
        go_wp2_with (go_at_call 15; refine (HF.out _ HB.out).mono ?_; rintro e w2 ⟨hb2, rfl⟩; replace HB := Hid.mk9 (below2 HB.out hb2); replace HX1 := Hid.mk9 (HX1.out.below hb2); have d0 := HX1.out.c0; have d1 := HX1.out.c1; have d2 := HX1.out.lt; clear hb2)
        go_returns
        exact put_post HE.out.symm (putL_no (by rw [HE.out]; decide)).symm (below2 HB.out (below_alloc _ _)) ((HL.out.below HB.out).below (below_alloc _ _))
      · have HE := Hid.mk9 (HE0.out rfl (by omega))
        have h64' : ¬ (len : Int) = 64 := by omega
        clear HE6 HE0 hf
        go_wp2_with (first
          | (go_at_call 15; refine (HF.out _ HB.out).mono ?_; rintro e w2 ⟨hb2, rfl⟩; replace HB := Hid.mk9 (below2 HB.out hb2); replace HX1 := Hid.mk9 (HX1.out.below hb2); have d0 := HX1.out.c0; have d1 := HX1.out.c1; have d2 := HX1.out.lt; have HB3 := Hid.mk9 (below2 HB.out (below_alloc w2 (.cells #[.int .i64 0, .int .i64 0] 24))); clear hb2)
          | (go_at_call 25; refine (HW.out _ HB3.out).mono ?_; rintro e w3 ⟨hb3, xa, xl, xc, rfl, hs3⟩; have HR := Hid.mk9 (put_post HE.out.symm (putL_yes HE.out).symm (below2 HB3.out hb3) hs3); clear hb3 hs3))
        go_returns
        exact HR.out
    | some z =>
      rw [hf] at HF HE7 HE8
      clear HE6 HE0
      obtain ⟨z1, z2⟩ := z
      obtain rfl : z1 = x := (find_mem hf).2
      by_cases hy : z2 = y
      · subst hy
        have HE := Hid.mk9 (HE7.out rfl)
        clear HE7 HE8 hf
        go_wp2_with (go_at_call 15; refine (HF.out _ HB.out).mono ?_; rintro e w2 ⟨hb2, rfl⟩; replace HB := Hid.mk9 (below2 HB.out hb2); replace HX1 := Hid.mk9 (HX1.out.below hb2); have d0 := HX1.out.c0; have d1 := HX1.out.c1; have d2 := HX1.out.lt; clear hb2)
        go_returns
        exact put_post HE.out.symm (putL_no (by rw [HE.out]; decide)).symm (below2 HB.out (below_alloc _ _)) ((HL.out.below HB.out).below (below_alloc _ _))
      · have HE := Hid.mk9 (HE8.out _ rfl fun e => hy (congrArg Prod.snd e))
        clear HE7 HE8 hf
        go_wp2_with (go_at_call 15; refine (HF.out _ HB.out).mono ?_; rintro e w2 ⟨hb2, rfl⟩; replace HB := Hid.mk9 (below2 HB.out hb2); replace HX1 := Hid.mk9 (HX1.out.below hb2); have d0 := HX1.out.c0; have d1 := HX1.out.c1; have d2 := HX1.out.lt; clear hb2)
        go_returns
        exact put_post HE.out.symm (putL_no (by rw [HE.out]; decide)).symm (below2 HB.out (below_alloc _ _)) ((HL.out.below HB.out).below (below_alloc _ _))
  · have HC := Hid.mk9 (mayS_false HO.out (fun h => hin ((may_one _).1 h)))
    have HE := Hid.mk9 (putE_arg (ls := ls) hin)
    clear hin HO HF
    go_enter Try.func10, Try.ntmps10
    go_wp2_with (go_at_call 9; refine HC.out.mono ?_; rintro e w1 ⟨rfl, hb1⟩)
    go_returns
    exact put_post HE.out.symm (putL_no (by rw [HE.out]; decide)).symm (below2 b1 hb1) ((HL.out.below b1).below hb1)
end Go.Proofs.Ytppajhjfnlhmaaa.Bk
