/-
  The law of forgetting.
-/
import Derived.Test.YtihohcmocejijaaGreatPr40
namespace Go.Proofs.YtihohcmocejijaaGreat.Bk
open Go.ChangeShapes Go.WideShapes Go.ChangeAt Go.RowKit
theorem OwnS.lns {w : World} {la : Option Addr} {n lc : Nat} {da : Option Addr} {m dc : Nat} {fl : Int} {s : Shf} (h : OwnS w (.agg #[.slice la n lc, .slice da m dc, .int .i64 fl]) s) : LnsAt w la n lc s.ls ∧ fl = s.fl := by
  obtain ⟨_, _, _, _, _, _, hv, hL, _⟩ := h.shAt
  simp only [Value.agg.injEq, Array.mk.injEq, List.cons.injEq, Value.slice.injEq, Value.int.injEq, true_and, and_true] at hv
  obtain ⟨⟨rfl, rfl, rfl⟩, _, rfl⟩ := hv
  exact ⟨hL, rfl⟩
theorem OwnS.parts {w : World} {v : Value} {s : Shf} (h : OwnS w v s) : ∃ la n lc da m dc fl, v = .agg #[.slice la n lc, .slice da m dc, .int .i64 fl] ∧ OwnS w (.agg #[.slice la n lc, .slice da m dc, .int .i64 fl]) s := by
  have h' := h
  obtain ⟨B, la, lc, X, da, dc, rfl, hX, hR⟩ := h
  exact ⟨_, _, _, _, _, _, _, rfl, h'⟩
theorem trim_ent (s : Shf) (fr : Int) (h0 : 0 ≤ fr) (h1 : fr ≤ 1099511627776) : doS s (⟨0, 0, 1, ⟨2, ⟨#[]⟩, 0, 0, fr, 0, 0⟩⟩ : Ent) = trimS s fr := by
  have hm : OpMay ⟨2, ⟨#[]⟩, 0, 0, fr, 0, 0⟩ := .inr (.inl ⟨rfl, rfl, rfl, rfl, rfl, rfl, h0, h1⟩)
  unfold doS
  rw [if_pos rfl]
  unfold applyS
  rw [if_pos hm]
  unfold opS
  rw [if_neg (show ¬ ((2 : Int) = 1) by decide), if_pos rfl]
theorem trim_next {ls : List Sm} {f : Int} {k : Nat} (h : k < ls.length) : trimP (ls.take (k + 1)) f = trimP (ls.take k) f ++ if f ≤ (ls.getD k sm0).1 then [ls.getD k sm0] else [] := by
  unfold trimP
  rw [List.take_succ_eq_append_getElem h, List.filter_append, getD_get h]
  by_cases hf : f ≤ ls[k].1
  · simp [hf]
  · simp [hf]
theorem PickIn.cast {L L' : List Sm} {w wr : World} {v : Value} (h : PickIn L w v wr) (e : L' = L) : PickIn L' w v wr := by rw [e]; exact h
set_option maxHeartbeats 8000000 in
set_option maxRecDepth 60000 in
theorem shelfTrims_any (a : Option Addr) (len cap : Nat) (es : List Ent) (fr : Int) (w : World) (h1 : EnsAt w a len cap es) :
    Calls Tryz.prog 6 #[.slice a len cap, .int .i64 fr] w fun e w' => e = .returned (.bool true) ∧ Below w.heap.size w w' := by
  have HF1 : Hid (∀ W, Below w.heap.size w W → Calls Tryz.prog 20 #[.slice a len cap] W fun x w' => EnsPost len W x w') := Hid.mk9 (fun W hb => entries_any a len cap es W (h1.below hb))
  have HF2 : Hid (∀ W, Below w.heap.size w W → (len : Int) ≤ 80 → Calls Tryz.prog 21 #[.slice a len cap] W fun x w' => ShPost (foldS es) W x w') := Hid.mk9 (fun W hb hl => fold_any a len cap es W (h1.below hb) (by omega))
  have HB := Hid.mk9 (Below.refl w.heap.size w)
  clear h1
  go_enter Tryz.func6, Tryz.ntmps6
  go_upto_region 3 with (first
    | (go_at_call 20; refine (HF1.out _ HB.out).mono ?_; rintro e wC ⟨hbC, q1, rfl, hq1⟩; replace HB := Hid.mk9 (below2 HB.out hbC); have HE1 := Hid.mk9 hq1; clear hq1 hbC; rcases q1 with _ | _)
    | (go_at_call 9; refine (awake_any _).mono ?_; rintro e wC ⟨rfl, hbC⟩; replace HB := Hid.mk9 (below2 HB.out hbC); clear hbC))
  any_goals (go_ret; exact ⟨rfl, HB.out⟩)
  have l80 : (len : Int) ≤ 80 := by have := HE1.out trivial; omega
  have HFR : Hid (0 ≤ fr ∧ fr ≤ 1099511627776) := Hid.mk9 ⟨by omega, by omega⟩
  have HSM := Hid.mk9 (foldS_may es)
  have HFO := Hid.mk9 (HF2.out _ HB.out l80)
  generalize foldS es = s at *
  clear HE1 HF1 HF2
  go_upto_region 4 with (go_at_call 21; refine HFO.out.mono ?_; rintro e wF ⟨hbF, v5, rfl, hO5⟩; obtain ⟨la5, n5, lc5, da5, m5, dc5, fl5, rfl, hO5⟩ := hO5.parts)
  have HO5 := Hid.mk9 (hO5.below (below_alloc wF (.cells #[.slice la5 n5 lc5, .slice da5 m5 dc5, .int .i64 fl5] 25)))
  have HB5 := Hid.mk9 (Bx3.new wF 25 (.slice la5 n5 lc5) (.slice da5 m5 dc5) (.int .i64 fl5))
  replace HB := Hid.mk9 (below2 (below2 HB.out hbF) (below_alloc wF (.cells #[.slice la5 n5 lc5, .slice da5 m5 dc5, .int .i64 fl5] 25)))
  clear hO5 hbF HFO
  generalize wF.alloc (.cells #[.slice la5 n5 lc5, .slice da5 m5 dc5, .int .i64 fl5] 25) = wG at *
  generalize wF.heap.size = r5 at *
  have HDO : Hid (Calls Tryz.prog 10 #[.agg #[.slice la5 n5 lc5, .slice da5 m5 dc5, .int .i64 fl5], .agg #[.int .i64 0, .int .i64 0, .int .i64 1, .int .i64 2, .string ⟨#[]⟩, .int .i64 0, .int .i64 0, .int .i64 fr, .int .i64 0, .int .i64 0]] wG fun x w' => DoYes (trimS s fr) wG x w') := Hid.mk9 (by
    have := do_yes _ s (⟨0, 0, 1, ⟨2, ⟨#[]⟩, 0, 0, fr, 0, 0⟩⟩ : Ent) wG HO5.out.shAt HSM.out ⟨⟨by show (0 : Int) ≤ 0; decide, by show (0 : Int) ≤ 2147483647; decide⟩, ⟨by show (1 : Int) ≤ 1; decide, by show (1 : Int) ≤ 2147483647; decide⟩⟩
    rw [trim_ent s fr HFR.out.1 HFR.out.2] at this
    exact this)
  obtain ⟨c0, c1, c2⟩ := HB5.out.cells
  obtain ⟨R, hR⟩ : ∃ R, (trimS s fr).1 = R := ⟨_, rfl⟩
  obtain ⟨A, hA⟩ : ∃ A, (trimS s fr).2 = A := ⟨_, rfl⟩
  have HRA := Hid.mk9 (show trimS s fr = (R, A) by rw [← hR, ← hA])
  rw [HRA.out] at HDO
  obtain ⟨x0, x1, x2⟩ := A
  clear hR hA
  go_upto_region 5 with (go_at_call 10; refine HDO.out.mono ?_; rintro x wH ⟨hbH, v6, rfl, hO6⟩; obtain ⟨la6, n6, lc6, da6, m6, dc6, fl6, rfl, hO6⟩ := hO6.parts; simp only [anV])
  have HB6 := Hid.mk9 ((Bx3.new wH 25 (.slice la6 n6 lc6) (.slice da6 m6 dc6) (.int .i64 fl6)).below (below_alloc (wH.alloc (.cells #[.slice la6 n6 lc6, .slice da6 m6 dc6, .int .i64 fl6] 25)) (.cells #[.int .i64 x0, .bool x1, .int .i64 x2] 37)))
  have hB7 := Bx3.new (wH.alloc (.cells #[.slice la6 n6 lc6, .slice da6 m6 dc6, .int .i64 fl6] 25)) 37 (.int .i64 x0) (.bool x1) (.int .i64 x2)
  rw [show (wH.alloc (.cells #[.slice la6 n6 lc6, .slice da6 m6 dc6, .int .i64 fl6] 25)).heap.size = wH.heap.size + 1 by simp] at hB7
  have HB7 := Hid.mk9 hB7
  have hb7 := below2 (below_alloc wH (.cells #[.slice la6 n6 lc6, .slice da6 m6 dc6, .int .i64 fl6] 25)) (below_alloc (wH.alloc (.cells #[.slice la6 n6 lc6, .slice da6 m6 dc6, .int .i64 fl6] 25)) (.cells #[.int .i64 x0, .bool x1, .int .i64 x2] 37))
  replace HB := Hid.mk9 (below2 HB.out (below2 hbH hb7))
  replace HO5 := Hid.mk9 (HO5.out.below (below2 hbH hb7))
  replace HB5 := Hid.mk9 (HB5.out.below (below2 hbH hb7))
  have HO6 := Hid.mk9 (hO6.below hb7)
  clear hb7 hB7 hbH hO6 HDO c0 c1 c2
  generalize ((wH.alloc (.cells #[.slice la6 n6 lc6, .slice da6 m6 dc6, .int .i64 fl6] 25)).alloc (.cells #[.int .i64 x0, .bool x1, .int .i64 x2] 37)) = W7 at *
  generalize wH.heap.size + 1 = r7 at *
  generalize wH.heap.size = r6 at *
  obtain ⟨c0, c1, c2⟩ := HB5.out.cells
  obtain ⟨d0, d1, d2⟩ := HB6.out.cells
  obtain ⟨g0, g1, g2⟩ := HB7.out.cells
  have HFL := Hid.mk9 HO5.out.lns.2
  by_cases hlow : fr < fl5
  · have hx : trimS s fr = (s, ⟨9, false, 0⟩) := by unfold trimS; rw [if_pos (by rw [← HFL.out]; exact hlow)]
    rw [HRA.out] at hx
    injection hx with h5 h6
    subst h5
    injection h6 with h7 h8 h9
    subst h7
    subst h8
    subst h9
    have HSA := Hid.mk9 ((refShSame_any _ _ R R W7 HO6.out.shAt HO5.out.shAt (by have := HSM.out.2.1.1; omega) (by have := HSM.out.2.2.1; omega)).mono fun _ _ hp => bp_yes hp (rfl : ShEq R R))
    clear HO5 HO6 HB5 HB6 HB7 HRA HSM HFL HFR
    go_wp2_with (first | (go_at_call 15; refine HSA.out.mono ?_; rintro e wC ⟨rfl, hbC⟩; replace HB := Hid.mk9 (below2 HB.out hbC); clear hbC) | (go_at_call 9; refine (awake_any _).mono ?_; rintro e wC ⟨rfl, hbC⟩; replace HB := Hid.mk9 (below2 HB.out hbC); clear hbC))
    go_ret
    exact ⟨rfl, HB.out⟩
  · have hx : trimS s fr = (⟨trimL s.ls fr, s.ds, fr⟩, an0) := by unfold trimS; rw [if_neg (by rw [← HFL.out]; exact hlow)]
    rw [HRA.out] at hx
    injection hx with h5 h6
    subst h5
    injection h6 with h7 h8 h9
    subst h7
    subst h8
    subst h9
    obtain ⟨hL5, -⟩ := HO5.out.lns
    obtain ⟨hL6, hf6⟩ := HO6.out.lns
    simp only at hf6 hL6
    subst hf6
    have n16 : (n5 : Int) ≤ 16 := by have := HSM.out.2.1.1; have := hL5.1; omega
    have HN6 : Hid ((trimL s.ls fl6).length = n6) := Hid.mk9 hL6.1
    have HN5 : Hid (s.ls.length = n5) := Hid.mk9 hL5.1
    have HL5 := Hid.mk9 hL5
    clear hL5 hL6 HRA
    go_wp2_with fail
    go_loopw [9, 10] (fun sc si wr => ∃ (i c : Nat), si = .int .i64 i ∧ sc = .int .i64 c ∧ i ≤ n5 ∧ c ≤ i ∧ Hid (c = cntT s.ls fl6 i) ∧ Hid (Below W7.heap.size W7 wr)) (fun _ si _ => n5 - (intOf si).toNat)
    case atStart => exact ⟨0, 0, rfl, rfl, Nat.zero_le _, Nat.zero_le _, Hid.mk9 (cntT_zero _ _).symm, Hid.mk9 (Below.refl _ _)⟩
    case round =>
      obtain ⟨i, c, rfl, rfl, hi, hci, HC, HW⟩ := hrel
      clear c0 c1 c2 d0 d1 d2 g0 g1 g2
      by_cases hlt : i < n5
      · have i1 : (i : Int) < (n5 : Int) := by omega
        have i0 : (0 : Int) ≤ (i : Int) := by omega
        obtain ⟨b, off, rfl, -, hcell⟩ := (HL5.out.below HW.out).some (by omega)
        have HCE : Hid (∀ W, Below W7.heap.size W7 W → W.cell? ⟨b, off + i * 2, none⟩ = some (.string (s.ls.getD i ln0).1) ∧ ∃ a' n' c', W.cell? ⟨b, off + i * 2 + 1, none⟩ = some (.slice a' n' c') ∧ SmsAt W a' n' c' (s.ls.getD i ln0).2) := Hid.mk9 (fun W hb => by
          obtain ⟨b', off', e, _, hc⟩ := (HL5.out.below hb).some (by omega)
          simp at e
          obtain ⟨rfl, rfl⟩ := e
          exact hc i hlt)
        clear hcell
        obtain ⟨c0, c1, c2⟩ := (HB5.out.below HW.out).cells
        obtain ⟨s0, a', n', c', s1, hS⟩ := HCE.out wr HW.out
        have HS := Hid.mk9 hS
        have nlen : (n' : Int) ≤ 64 := by
          have h := (HSM.out.2.1.2 i (by rw [HN5.out]; exact hlt)).2.2.2.1.1
          have := hS.1
          omega
        clear hS
        have HP0 := Hid.mk9 (pick_start wr)
        generalize hsm : (s.ls.getD i ln0).2 = sm at *
        have HP0' : Hid (PickIn (trimP (sm.take 0) fl6) wr (.slice (some ⟨wr.heap.size, 0, none⟩) 0 0) (wr.alloc (.cells #[] 27))) := HP0
        clear HP0
        go_wp2_with fail
        generalize wr = wo at *
        go_loopw [11, 12] (fun v sk wr => ∃ k : Nat, sk = .int .i64 k ∧ k ≤ n' ∧ Hid (PickIn (trimP (sm.take k) fl6) wo v wr)) (fun _ sk _ => n' - (intOf sk).toNat)
        case atStart => exact ⟨0, rfl, Nat.zero_le _, HP0'⟩
        case round =>
          clear HP0' c0 c1 c2
          obtain ⟨k, rfl, hk, HP⟩ := hrel
          have HWr := Hid.mk9 (below2 HW.out HP.out.1)
          obtain ⟨c0, c1, c2⟩ := (HB5.out.below HWr.out).cells
          have t0 := kept3 s0 HP.out.1
          have t1 := kept3 s1 HP.out.1
          have HSr := Hid.mk9 (HS.out.below HP.out.1)
          clear s0 s1 c1 c2
          by_cases hkn : k < n'
          · have k1 : (k : Int) < (n' : Int) := by omega
            have k0 : (0 : Int) ≤ (k : Int) := by omega
            obtain ⟨b2, off2, rfl, hbs, hcell⟩ := HSr.out.some (by omega)
            obtain ⟨e0, e1⟩ := hcell k hkn
            clear hcell
            have HTN := Hid.mk9 (trim_next (f := fl6) (show k < sm.length by have := HSr.out.1; omega))
            have HLL : Hid (((trimP (sm.take k) fl6).length : Int) ≤ 64) := Hid.mk9 (by
              have : (trimP (sm.take k) fl6).length ≤ (sm.take k).length := List.length_filter_le _ _
              simp at this
              omega)
            generalize sm.getD k sm0 = p at *
            obtain ⟨p1, p2⟩ := p
            simp only at e0 e1 HTN
            by_cases hge : fl6 ≤ p1
            · rw [if_pos hge] at HTN
              generalize trimP (sm.take k) fl6 = L at *
              go_upto_region 18 with fail
              go_wp2_with (at_builtin; refine append_sms (w0 := wo) rfl _ _ rfl _ L.length L rfl (own_below HP.out.2 (below_alloc wr _)) (below2 HP.out.1 (below_alloc wr _)) _ 1 1 [(p1, p2)] rfl (sms_lit wr p1 p2) (by have := HLL.out; omega) (by omega) ?_; intro v4 w4 ho4 hb4; have HP4 : Hid (PickIn (trimP (sm.take (k + 1)) fl6) wo v4 w4) := (by rw [HTN.out]; exact ⟨hb4, (by rw [List.length_append]; exact ho4)⟩); clear ho4 hb4)
              exact ⟨⟨k + 1, by go_num, by omega, HP4⟩, by simp [intOf]; omega⟩
            · rw [if_neg hge, List.append_nil] at HTN
              have HP4 := Hid.mk9 (HP.out.cast HTN.out)
              clear HP HTN
              go_wp2_with fail
              exact ⟨⟨k + 1, by go_num, by omega, HP4⟩, by simp [intOf]; omega⟩
          · obtain rfl : k = n' := by omega
            have htk : sm.take k = sm := List.take_of_length_le (by have := HSr.out.1; omega)
            rw [htk] at HP
            have hL64 : ((trimP sm fl6).length : Int) ≤ 64 := by
              have h1 : (trimP sm fl6).length ≤ sm.length := List.length_filter_le _ _
              have := HSr.out.1
              omega
            have hlin := line_trim (ds := s.ds) (f := fl6) HSM.out.2.1 (show i < s.ls.length by rw [HN5.out]; exact hlt)
            have hct := cntT_next (f := fl6) (show i < s.ls.length by rw [HN5.out]; exact hlt)
            rw [hsm] at hlin hct
            generalize trimP sm fl6 = L9 at *
            have HCT := Hid.mk9 hct
            have HLI := Hid.mk9 hlin
            clear hct hlin
            obtain ⟨ka, kc, rfl, hKS⟩ := own_sms' HP.out.2
            have HKS := Hid.mk9 hKS
            have HPl : Hid (∀ W, Below wr.heap.size wr W → Calls Tryz.prog 24 #[.agg #[.slice la6 n6 lc6, .slice da6 m6 dc6, .int .i64 fl6], .string (s.ls.getD i ln0).1] W fun x w' => LinePost L9 W x w') := Hid.mk9 (fun W hb => by
              have := refLine_any _ ⟨trimL s.ls fl6, s.ds, fl6⟩ (s.ls.getD i ln0).1 W (HO6.out.below (below2 HWr.out hb)).shAt (by show (trimL s.ls fl6).length ≤ 1000; have := HN6.out; have := cntT_all s.ls fl6; have := cntT_le s.ls fl6 s.ls.length; have := HN5.out; omega)
              rw [HLI.out] at this
              exact this)
            have HPs : Hid (∀ W a n c, Below wr.heap.size wr W → SmsAt W a n c L9 → Calls Tryz.prog 23 #[.slice a n c, .slice ka L9.length kc] W fun x w' => x = .returned (.bool true) ∧ Below W.heap.size W w') := Hid.mk9 (fun W a n c hb hs => (refSameS_any a n c ka L9.length kc L9 L9 W hs (HKS.out.below hb)).mono fun _ _ hp => bp_yes hp (Eq.refl L9))
            clear hKS HKS htk
            by_cases hnil : L9 = []
            · have HCN : Hid (c = cntT s.ls fl6 (i + 1)) := Hid.mk9 (by rw [HCT.out, if_pos hnil, HC.out]; rfl)
              have hl0 : L9.length = 0 := by rw [hnil]; rfl
              rw [hl0] at HPs hL64 ⊢
              clear HCT HC hnil
              go_upto_region 21 with fail
              refine tr_21 _ _ _ _ _ _ _ _ _ _ _ _ _ _ _ _ _ _ _ _ _ _ _ _ _ _ _ _ _ _ _ _ _ _ _ _ _ _ _ _ _ _ _ _ _ _ _ _ _ _ _ _ _ _ _ _ _ _ _ _ _ _ _ _ _ _ _ _ _ _ _ _ _ _ _ _ _ _ _ _ _ _ _ _ _ _ _ _ _ _ _ _ _ _ _ _ _ _ _ _ _ _ _ _ _ _ _ _ _ _ _ _ _ _ _ _ _ _ _ _ _ _ _ _ _ _ _ b off _ _ i r5 r6 _ _ _ _ _ _ _ _ _ L9 _ _ (HB6.out.below HWr.out) (HB5.out.below HWr.out) t0 i1 HPl HPs (Hid.mk9 (fun u101 u102 u103 u104 u105 u106 u107 u108 u109 u110 wC hbC => ?_))
              dsimp only
              go_upto_region 12 with fail
              have HWC := Hid.mk9 (below2 HWr.out hbC)
              clear hbC HPl HPs HP
              go_wp2_with fail
              exact ⟨⟨i + 1, c, by go_num, by go_num, by omega, by omega, HCN, HWC⟩, by simp [intOf]; omega⟩
            · have HCN : Hid (c + 1 = cntT s.ls fl6 (i + 1)) := Hid.mk9 (by rw [HCT.out, if_neg hnil, HC.out])
              have hl0 : 0 < L9.length := List.length_pos_iff.2 hnil
              have hl1 : (0 : Int) < (L9.length : Int) := by omega
              clear HCT HC hnil
              go_upto_region 21 with fail
              refine tr_21 _ _ _ _ _ _ _ _ _ _ _ _ _ _ _ _ _ _ _ _ _ _ _ _ _ _ _ _ _ _ _ _ _ _ _ _ _ _ _ _ _ _ _ _ _ _ _ _ _ _ _ _ _ _ _ _ _ _ _ _ _ _ _ _ _ _ _ _ _ _ _ _ _ _ _ _ _ _ _ _ _ _ _ _ _ _ _ _ _ _ _ _ _ _ _ _ _ _ _ _ _ _ _ _ _ _ _ _ _ _ _ _ _ _ _ _ _ _ _ _ _ _ _ _ _ _ _ b off _ _ i r5 r6 _ _ _ _ _ _ _ _ _ L9 _ _ (HB6.out.below HWr.out) (HB5.out.below HWr.out) t0 i1 HPl HPs (Hid.mk9 (fun u101 u102 u103 u104 u105 u106 u107 u108 u109 u110 wC hbC => ?_))
              dsimp only
              go_upto_region 12 with fail
              have HWC := Hid.mk9 (below2 HWr.out hbC)
              clear hbC HPl HPs HP
              go_wp2_with fail
              exact ⟨⟨i + 1, c + 1, by go_num, by go_num, by omega, by omega, HCN, HWC⟩, by simp [intOf]; omega⟩
      · obtain rfl : i = n5 := by omega
        have hcn : c = n6 := by rw [HC.out, ← HN5.out, cntT_all, HN6.out]
        subst hcn
        obtain ⟨c0, c1, c2⟩ := (HB5.out.below HW.out).cells
        obtain ⟨d0, d1, d2⟩ := (HB6.out.below HW.out).cells
        obtain ⟨g0, g1, g2⟩ := (HB7.out.below HW.out).cells
        replace HB := Hid.mk9 (below2 HB.out HW.out)
        clear HC HN5 HN6 HL5 HO5 HO6 HB5 HB6 HB7 HSM HFL HFR
        go_wp2_with (go_at_call 9; refine (awake_any _).mono ?_; rintro e wC ⟨rfl, hbC⟩; replace HB := Hid.mk9 (below2 HB.out hbC); clear hbC)
        go_ret
        exact ⟨rfl, HB.out⟩
end Go.Proofs.YtihohcmocejijaaGreat.Bk
