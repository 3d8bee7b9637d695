/-
  The law of once.
-/
import Derived.Test.YtihohcmocejijaaGreatPr38
import Derived.Test.YtihohcmocejijaaGreatPr40
import Derived.BigRegion
namespace Go.Proofs.YtihohcmocejijaaGreat.Bk
open Go.ChangeShapes Go.WideShapes Go.ChangeAt Go.RowKit
theorem OwnS.dns {w : World} {la : Option Addr} {n lc : Nat} {da : Option Addr} {m dc : Nat} {fl : Int} {s : Shf} (h : OwnS w (.agg #[.slice la n lc, .slice da m dc, .int .i64 fl]) s) : DnsAt w da m dc s.ds := by
  obtain ⟨_, _, _, _, _, _, hv, _, hD⟩ := h.shAt
  simp only [Value.agg.injEq, Array.mk.injEq, List.cons.injEq, Value.slice.injEq, Value.int.injEq, true_and, and_true] at hv
  obtain ⟨_, ⟨rfl, rfl, rfl⟩, _⟩ := hv
  exact hD
structure OnceAt (w0 : World) (q r7 r8 : Nat) (ep cl id ok ot ov of ou om : Int) (os : ByteArray) (e0 : Int) (e1 : Bool) (e2 : Int) (s : Shf) (wr : World) : Prop where
  sh : ∃ la lc X da dc, Bx3 wr r7 25 (.slice la (X : List LX).length lc) (.slice da s.ds.length dc) (.int .i64 s.fl) ∧ OwnS wr (.agg #[.slice la X.length lc, .slice da s.ds.length dc, .int .i64 s.fl]) s
  an : Bx3 wr r8 37 (.int .i64 e0) (.bool e1) (.int .i64 e2)
  en : Bx10 wr q 31 (.int .i64 ep) (.int .i64 cl) (.int .i64 id) (.int .i64 ok) (.string os) (.int .i64 ot) (.int .i64 ov) (.int .i64 of) (.int .i64 ou) (.int .i64 om)
  be : Below q w0 wr
  may : ShMay s
  kd : KeptD s cl id ⟨e0, e1, e2⟩
  q7 : q < r7
  q8 : q < r8
  n78 : r7 ≠ r8
section
variable {w0 wr wr' : World} {q r7 r8 : Nat} {ep cl id ok ot ov of ou om : Int} {os : ByteArray} {e0 : Int} {e1 : Bool} {e2 : Int} {s s' : Shf}
theorem OnceAt.below (h : OnceAt w0 q r7 r8 ep cl id ok ot ov of ou om os e0 e1 e2 s wr) (hb : Below wr.heap.size wr wr') : OnceAt w0 q r7 r8 ep cl id ok ot ov of ou om os e0 e1 e2 s wr' := by
  obtain ⟨la, lc, X, da, dc, h1, h2⟩ := h.sh
  exact ⟨⟨la, lc, X, da, dc, h1.below hb, h2.below hb⟩, h.an.below hb, h.en.below hb, h.be.trans (hb.mono (Nat.le_of_lt h.en.lt)), h.may, h.kd, h.q7, h.q8, h.n78⟩
theorem OnceAt.store (h : OnceAt w0 q r7 r8 ep cl id ok ot ov of ou om os e0 e1 e2 s wr) {la : Option Addr} {n lc : Nat} {da : Option Addr} {m dc : Nat} {fl : Int} (ho : OwnS wr (.agg #[.slice la n lc, .slice da m dc, .int .i64 fl]) s') (hm : ShMay s') (hk : KeptD s' cl id ⟨e0, e1, e2⟩) : OnceAt w0 q r7 r8 ep cl id ok ot ov of ou om os e0 e1 e2 s' (put3 wr r7 (.slice la n lc) (.slice da m dc) (.int .i64 fl)) := by
  obtain ⟨la1, lc1, X1, da1, dc1, h1, h2⟩ := h.sh
  have hq := h.q7
  have hp := ho.put h1 (by decide) (by decide) (by decide) (.slice la n lc) (.slice da m dc) (.int .i64 fl)
  refine ⟨?_, h.an.kept (put3_else (b := r7) _ _ _ (fun e => h.n78 e.symm)), h.en.kept (put3_else (b := r7) _ _ _ (by omega)), put3_below h.be (by omega) _ _ _, hm, hk, h.q7, h.q8, h.n78⟩
  have hs := h1.set (.slice la n lc) (.slice da m dc) (.int .i64 fl)
  have hp' := hp
  obtain ⟨B, la2, lc2, X2, da2, dc2, hv, hX, hR⟩ := hp
  simp only [Value.agg.injEq, Array.mk.injEq, List.cons.injEq, Value.slice.injEq, Value.int.injEq, true_and, and_true] at hv
  obtain ⟨⟨rfl, rfl, rfl⟩, ⟨rfl, rfl, rfl⟩, rfl⟩ := hv
  exact ⟨_, _, _, _, _, hs, hp'⟩
end
set_option maxHeartbeats 8000000 in
set_option maxRecDepth 60000 in
theorem shelfOnce_any (a : Option Addr) (len cap : Nat) (es : List Ent) (ep cl id ok ot ov of ou om : Int) (os : ByteArray) (a2 : Option Addr) (len2 cap2 : Nat) (ms : List Ent) (w : World) (h1 : EnsAt w a len cap es) (h2 : EnsAt w a2 len2 cap2 ms) :
    Calls Tryz.prog 5 #[.slice a len cap, .agg #[.int .i64 ep, .int .i64 cl, .int .i64 id, .int .i64 ok, .string os, .int .i64 ot, .int .i64 ov, .int .i64 of, .int .i64 ou, .int .i64 om], .slice a2 len2 cap2] w fun e w' => e = .returned (.bool true) ∧ Below w.heap.size w w' := by
  have HL1 := Hid.mk9 h1
  have HL2 := Hid.mk9 h2
  have HX := Hid.mk9 (Bx10.new w 31 (.int .i64 ep) (.int .i64 cl) (.int .i64 id) (.int .i64 ok) (.string os) (.int .i64 ot) (.int .i64 ov) (.int .i64 of) (.int .i64 ou) (.int .i64 om))
  have HB := Hid.mk9 (below_alloc w (.cells #[.int .i64 ep, .int .i64 cl, .int .i64 id, .int .i64 ok, .string os, .int .i64 ot, .int .i64 ov, .int .i64 of, .int .i64 ou, .int .i64 om] 31))
  have HSH : Hid (∀ W, Calls Tryz.prog 8 #[.agg #[.int .i64 ok, .string os, .int .i64 ot, .int .i64 ov, .int .i64 of, .int .i64 ou, .int .i64 om]] W fun e w' => BoolPost (ShortP os) W e w') := Hid.mk9 (fun W => short_any ⟨ok, os, ot, ov, of, ou, om⟩ W)
  have HF1 : Hid (∀ W, Below w.heap.size w W → Calls Tryz.prog 20 #[.slice a len cap] W fun x w' => EnsPost len W x w') := Hid.mk9 (fun W hb => entries_any a len cap es W (h1.below hb))
  have HF2 : Hid (∀ W, Below w.heap.size w W → Calls Tryz.prog 20 #[.slice a2 len2 cap2] W fun x w' => EnsPost len2 W x w') := Hid.mk9 (fun W hb => entries_any a2 len2 cap2 ms W (h2.below hb))
  clear h1 h2
  go_enter Tryz.func5, Tryz.ntmps5
  go_upto_region 1 with fail
  generalize World.alloc _ _ = wA at *
  obtain ⟨c0, c1, c2, c3, c4, c5, c6, c7, c8, c9⟩ := HX.out.cells
  have HQ := Hid.mk9 (rfl : w.heap.size = w.heap.size)
  generalize hq : w.heap.size = q at HX HB c0 c1 c2 c3 c4 c5 c6 c7 c8 c9 HQ HF1 HF2 ⊢
  go_upto_region 3 with (first
    | (go_at_call_of 20 a; refine (HF1.out _ HB.out).mono ?_; rintro e wC ⟨hbC, q1, rfl, hq1⟩; replace HB := Hid.mk9 (HB.out.trans (hbC.mono (Nat.le_of_lt HX.out.lt))); replace HX := Hid.mk9 (HX.out.below hbC); clear c0 c1 c2 c3 c4 c5 c6 c7 c8 c9; obtain ⟨c0, c1, c2, c3, c4, c5, c6, c7, c8, c9⟩ := HX.out.cells; clear hbC; have HE1 := Hid.mk9 hq1; clear hq1; rcases q1 with _ | _)
    | (go_at_call_of 20 a2; refine (HF2.out _ HB.out).mono ?_; rintro e wC ⟨hbC, q1, rfl, hq1⟩; replace HB := Hid.mk9 (HB.out.trans (hbC.mono (Nat.le_of_lt HX.out.lt))); replace HX := Hid.mk9 (HX.out.below hbC); clear c0 c1 c2 c3 c4 c5 c6 c7 c8 c9; obtain ⟨c0, c1, c2, c3, c4, c5, c6, c7, c8, c9⟩ := HX.out.cells; clear hbC; have HE2 := Hid.mk9 hq1; clear hq1; rcases q1 with _ | _)
    | (go_at_call 8; refine (HSH.out _).mono ?_; rintro e wC ⟨hbC, q1, rfl, hq1⟩; replace HB := Hid.mk9 (HB.out.trans (hbC.mono (Nat.le_of_lt HX.out.lt))); replace HX := Hid.mk9 (HX.out.below hbC); clear c0 c1 c2 c3 c4 c5 c6 c7 c8 c9; obtain ⟨c0, c1, c2, c3, c4, c5, c6, c7, c8, c9⟩ := HX.out.cells; clear hbC; clear hq1; rcases q1 with _ | _)
    | (go_at_call 9; refine (awake_any _).mono ?_; rintro e wC ⟨rfl, hbC⟩; replace HB := Hid.mk9 (HB.out.trans (hbC.mono (Nat.le_of_lt HX.out.lt))); replace HX := Hid.mk9 (HX.out.below hbC); clear c0 c1 c2 c3 c4 c5 c6 c7 c8 c9; obtain ⟨c0, c1, c2, c3, c4, c5, c6, c7, c8, c9⟩ := HX.out.cells; clear hbC))
  any_goals (go_ret; exact ⟨rfl, by rw [hq]; exact HB.out⟩)
  have l80 : (len : Int) ≤ 80 := by have := HE1.out trivial; omega
  have m80 : (len2 : Int) ≤ 80 := by have := HE2.out trivial; omega
  have HCL : Hid (1 ≤ cl ∧ cl ≤ 2147483647 ∧ 1 ≤ id ∧ id ≤ 2147483647) := Hid.mk9 ⟨by omega, by omega, by omega, by omega⟩
  have HEM : Hid (EntMay ⟨ep, cl, id, ⟨ok, os, ot, ov, of, ou, om⟩⟩) := Hid.mk9 ⟨⟨by show 0 ≤ cl; omega, by show cl ≤ _; omega⟩, ⟨by show 1 ≤ id; omega, by show id ≤ _; omega⟩⟩
  clear HE1 HE2 HF1 HF2 HSH c0 c1 c2 c3 c4 c5 c6 c7 c8 c9
  obtain ⟨R, hR⟩ : ∃ R, (doS (foldS es) ⟨ep, cl, id, ⟨ok, os, ot, ov, of, ou, om⟩⟩).1 = R := ⟨_, rfl⟩
  obtain ⟨A, hA⟩ : ∃ A, (doS (foldS es) ⟨ep, cl, id, ⟨ok, os, ot, ov, of, ou, om⟩⟩).2 = A := ⟨_, rfl⟩
  have hRA : doS (foldS es) ⟨ep, cl, id, ⟨ok, os, ot, ov, of, ou, om⟩⟩ = (R, A) := by rw [← hR, ← hA]
  have HRM : Hid (ShMay R) := Hid.mk9 (by rw [← hR]; exact doS_may (foldS_may es) HEM.out)
  have HKD : Hid (A.cd ≠ 9 → KeptD R cl id A) := Hid.mk9 (fun h9 => by
    have := once_first (s := foldS es) (e := ⟨ep, cl, id, ⟨ok, os, ot, ov, of, ou, om⟩⟩) (by show cl ≠ 0; have := HCL.out.1; omega) (by rw [hA]; exact h9)
    rw [hR, hA] at this
    exact this)
  have HP1 : Hid (∀ W, Below wC.heap.size wC W → Calls Tryz.prog 21 #[.slice a len cap] W fun x w' => ShPost (foldS es) W x w') := Hid.mk9 (fun W hb => fold_any a len cap es W (HL1.out.below (by rw [hq]; exact HB.out.trans (hb.mono (Nat.le_of_lt HX.out.lt)))) (by omega))
  obtain ⟨e0, e1, e2⟩ := A
  have HP2 : Hid (∀ W v, OwnS W v (foldS es) → Calls Tryz.prog 10 #[v, .agg #[.int .i64 ep, .int .i64 cl, .int .i64 id, .int .i64 ok, .string os, .int .i64 ot, .int .i64 ov, .int .i64 of, .int .i64 ou, .int .i64 om]] W fun x w' => DoYes (R, ⟨e0, e1, e2⟩) W x w') := Hid.mk9 (fun W v hv => by
    have := do_yes v (foldS es) ⟨ep, cl, id, ⟨ok, os, ot, ov, of, ou, om⟩⟩ W hv.shAt (foldS_may es) HEM.out
    rw [hRA] at this
    exact this)
  clear hR hA hRA
  refine on_3 _ _ _ _ _ _ _ _ _ _ _ _ _ _ _ _ _ _ _ _ _ _ _ _ _ _ _ _ _ _ _ _ _ _ _ _ _ _ _ _ _ _ _ _ _ _ _ _ _ _ _ _ _ _ _ _ _ _ _ _ _ _ _ _ _ _ _ _ _ _ _ _ _ _ _ _ _ _ _ _ _ _ _ _ _ _ _ _ _ _ _ _ _ _ _ _ _ _ _ _ _ _ _ _ _ _ _ _ _ _ _ _ _ _ _ _ _ _ _ _ _ _ _ _ _ _ _ _ _ _ _ _ _ _ _ _ _ _ _ _ _ _ _ _ _ _ _ _ _ _ _ _ (foldS es) R e0 e2 e1 _ _ HX.out HP1 HP2 (Hid.mk9 (fun u54 u55 u56 u57 u58 u59 u60 u61 r7 r8 la X lc da dc wD h7 h8 h78 hbD hB7 hB8 hO => ?_))
  dsimp only
  go_upto_region 4 with fail
  have hql : q < wC.heap.size := HX.out.lt
  replace HB := Hid.mk9 (HB.out.trans (hbD.mono (Nat.le_of_lt HX.out.lt)))
  replace HX := Hid.mk9 (HX.out.below hbD)
  obtain ⟨d0, d1, d2⟩ := hB8.cells
  have HO := Hid.mk9 hO
  have HB7 := Hid.mk9 hB7
  have HB8 := Hid.mk9 hB8
  have H7 : Hid (q < r7 ∧ q < r8 ∧ r7 ≠ r8) := Hid.mk9 ⟨by omega, by omega, h78⟩
  clear hbD hB7 hB8 hO h7 h8 h78 HP1 HP2 hql
  by_cases h9 : e0 = 9
  · subst h9
    go_wp2_with (go_at_call 9; refine (awake_any _).mono ?_; rintro e wE ⟨rfl, hbC⟩; replace HB := Hid.mk9 (HB.out.trans (hbC.mono (Nat.le_of_lt HX.out.lt))); clear hbC)
    go_ret
    exact ⟨rfl, by rw [hq]; exact HB.out⟩
  have HI : Hid (OnceAt w q r7 r8 ep cl id ok ot ov of ou om os e0 e1 e2 R wD) := Hid.mk9 ⟨⟨_, _, _, _, _, HB7.out, HO.out⟩, HB8.out, HX.out, HB.out, HRM.out, HKD.out h9, H7.out.1, H7.out.2.1, H7.out.2.2⟩
  clear HO HB7 HB8 HX HB HRM HKD H7 HL1
  go_wp2_with fail
  go_loopw [10] (fun si wr => ∃ (k : Nat) (s : Shf), si = .int .i64 k ∧ k ≤ len2 ∧ Hid (OnceAt w q r7 r8 ep cl id ok ot ov of ou om os e0 e1 e2 s wr)) (fun si _ => len2 - (intOf si).toNat)
  case atStart => exact ⟨0, R, rfl, Nat.zero_le _, HI⟩
  case round =>
    obtain ⟨k, s, rfl, hk, HS⟩ := hrel
    clear HI
    by_cases hlt : k < len2
    · have k1 : (k : Int) < (len2 : Int) := by omega
      have k0 : (0 : Int) ≤ (k : Int) := by omega
      obtain ⟨b, off, rfl, hbs, hcell⟩ := (HL2.out.below (by rw [hq]; exact HS.out.be)).some (by omega)
      have hen := hcell k hlt
      obtain ⟨m, hm⟩ : ∃ m, ms.getD k en0 = m := ⟨_, rfl⟩
      rw [hm] at hen
      clear hcell hm
      obtain ⟨ep2, cl2, id2, ok2, os2, ot2, ov2, of2, ou2, om2⟩ := m
      have HEN := Hid.mk9 hen
      obtain ⟨g0, g1, g2, g3, g4, g5, g6, g7, g8, g9⟩ := hen
      simp only at g0 g1 g2 g3 g4 g5 g6 g7 g8 g9
      obtain ⟨c0, c1, c2, c3, c4, c5, c6, c7, c8, c9⟩ := HS.out.en.cells
      clear g0 g2 g3 g4 g5 g6 g7 g8 g9 c0 c2 c3 c4 c5 c6 c7 c8 c9
      by_cases hcl : cl2 = cl
      · subst hcl
        go_upto_region 11 with fail
        go_region
        replace HS := Hid.mk9 (HS.out.below (below_drew wr))
        go_wp2_with fail
        exact ⟨⟨k + 1, s, by go_num, by omega, HS⟩, by simp [intOf]; omega⟩
      · go_upto_region 11 with fail
        go_region
        replace HS := Hid.mk9 (HS.out.below (below_drew wr))
        replace HEN := Hid.mk9 (HEN.out.below (below_drew wr))
        generalize wr.drew = wS at *
        clear g1 c1
        go_upto_region 12 with fail
        obtain ⟨la3, lc3, X3, da3, dc3, hB3, hO3⟩ := HS.out.sh
        have HO3 := Hid.mk9 hO3
        clear hO3
        by_cases hE : EntMay ⟨ep2, cl2, id2, ⟨ok2, os2, ot2, ov2, of2, ou2, om2⟩⟩
        · have HP : Hid (∀ W, Below wS.heap.size wS W → Calls Tryz.prog 10 #[.agg #[.slice la3 X3.length lc3, .slice da3 s.ds.length dc3, .int .i64 s.fl], .agg #[.int .i64 ep2, .int .i64 cl2, .int .i64 id2, .int .i64 ok2, .string os2, .int .i64 ot2, .int .i64 ov2, .int .i64 of2, .int .i64 ou2, .int .i64 om2]] W fun x w' => DoB true 0 (doS s ⟨ep2, cl2, id2, ⟨ok2, os2, ot2, ov2, of2, ou2, om2⟩⟩).1 W x w') := Hid.mk9 (fun W hb => (do_yes _ s ⟨ep2, cl2, id2, ⟨ok2, os2, ot2, ov2, of2, ou2, om2⟩⟩ W (HO3.out.below hb).shAt HS.out.may hE).mono fun _ _ hp => doB_yes hp)
          have HM2 := Hid.mk9 (doS_may HS.out.may hE)
          have HK2 := Hid.mk9 (once_else (e := ⟨ep2, cl2, id2, ⟨ok2, os2, ot2, ov2, of2, ou2, om2⟩⟩) HS.out.may hcl HS.out.kd)
          refine on_12 _ _ _ _ _ _ _ _ _ _ _ _ _ _ _ _ _ _ _ _ _ _ _ _ _ _ _ _ _ _ _ _ _ _ _ _ _ _ _ _ _ _ _ _ _ _ _ _ _ _ _ _ _ _ _ _ _ _ _ _ _ _ _ _ _ _ _ _ _ _ _ _ _ _ _ _ _ _ _ _ _ _ _ _ _ _ _ _ _ _ _ _ _ _ _ _ _ _ _ _ _ _ _ _ _ _ _ _ _ _ _ _ _ _ _ _ _ _ _ _ _ _ _ _ _ _ _ _ _ _ _ _ _ _ _ _ _ b off _ _ k r7 _ _ _ _ _ _ _ _ _ _ _ _ _ (doS s ⟨ep2, cl2, id2, ⟨ok2, os2, ot2, ov2, of2, ou2, om2⟩⟩).1 true 0 _ _ hB3 HEN.out k1 m80 HP (Hid.mk9 (fun u82 u83 u84 u85 u86 u87 u88 u89 u90 u91 r11 r12 la4 n4 lc4 da4 m4 dc4 fl4 x0 x1 x2 wT h11 h12 hne hbT hB11 hB12 hO4 => ?_))
          dsimp only
          go_upto_region 13 with fail
          have HST := Hid.mk9 (HS.out.below hbT)
          obtain ⟨f0, f1, f2⟩ := hB11.cells
          have HN := Hid.mk9 (HST.out.store (hO4 rfl) HM2.out HK2.out)
          obtain ⟨la5, lc5, X5, da5, dc5, hB5, _⟩ := HST.out.sh
          obtain ⟨z0, z1, z2⟩ := hB5.cells
          obtain ⟨y0, y1, y2⟩ := hB5.frz
          clear HP HM2 HK2 hB3 HO3 h11 h12 hne hbT hB11 hB12 hO4 HS hB5 HST hE hcl HEN
          go_wp2_with fail
          refine ⟨⟨k + 1, (doS s ⟨ep2, cl2, id2, ⟨ok2, os2, ot2, ov2, of2, ou2, om2⟩⟩).1, by go_num, by omega, ?_⟩, by simp [intOf]; omega⟩
          exact HN
        · have HP : Hid (∀ W, Below wS.heap.size wS W → Calls Tryz.prog 10 #[.agg #[.slice la3 X3.length lc3, .slice da3 s.ds.length dc3, .int .i64 s.fl], .agg #[.int .i64 ep2, .int .i64 cl2, .int .i64 id2, .int .i64 ok2, .string os2, .int .i64 ot2, .int .i64 ov2, .int .i64 of2, .int .i64 ou2, .int .i64 om2]] W fun x w' => DoB false 1 s W x w') := Hid.mk9 (fun W hb => (do_no _ s ⟨ep2, cl2, id2, ⟨ok2, os2, ot2, ov2, of2, ou2, om2⟩⟩ W (HO3.out.below hb).shAt (fun h => hE h.2)).mono fun _ _ hp => doB_no hp)
          refine on_12 _ _ _ _ _ _ _ _ _ _ _ _ _ _ _ _ _ _ _ _ _ _ _ _ _ _ _ _ _ _ _ _ _ _ _ _ _ _ _ _ _ _ _ _ _ _ _ _ _ _ _ _ _ _ _ _ _ _ _ _ _ _ _ _ _ _ _ _ _ _ _ _ _ _ _ _ _ _ _ _ _ _ _ _ _ _ _ _ _ _ _ _ _ _ _ _ _ _ _ _ _ _ _ _ _ _ _ _ _ _ _ _ _ _ _ _ _ _ _ _ _ _ _ _ _ _ _ _ _ _ _ _ _ _ _ _ _ b off _ _ k r7 _ _ _ _ _ _ _ _ _ _ _ _ _ s false 1 _ _ hB3 HEN.out k1 m80 HP (Hid.mk9 (fun u82 u83 u84 u85 u86 u87 u88 u89 u90 u91 r11 r12 la4 n4 lc4 da4 m4 dc4 fl4 x0 x1 x2 wT h11 h12 hne hbT hB11 hB12 hO4 => ?_))
          dsimp only
          go_upto_region 13 with fail
          have HST := Hid.mk9 (HS.out.below hbT)
          clear HP hB3 HO3 h11 h12 hne hbT hB11 hB12 hO4 HS hE hcl HEN
          go_wp2_with fail
          exact ⟨⟨k + 1, s, by go_num, by omega, HST⟩, by simp [intOf]; omega⟩
    · obtain rfl : k = len2 := by omega
      clear HL2
      go_wp2_with fail
      go_loopw [14, 15] (fun sb sj wr2 => ∃ (j : Nat) (kb : Bool), sj = .int .i64 j ∧ sb = .bool kb ∧ j ≤ s.ds.length ∧ Hid (kb = true → ∃ i, i < j ∧ (s.ds.getD i dn0).cl = cl) ∧ Hid (OnceAt w q r7 r8 ep cl id ok ot ov of ou om os e0 e1 e2 s wr2)) (fun _ sj _ => s.ds.length - (intOf sj).toNat)
      case atStart => exact ⟨0, false, rfl, rfl, Nat.zero_le _, Hid.mk9 (fun h => by cases h), HS⟩
      case round =>
        clear HS
        obtain ⟨j, kb, rfl, rfl, hj, HK, HS⟩ := hrel
        obtain ⟨la3, lc3, X3, da3, dc3, hB3, hO3⟩ := HS.out.sh
        have hD := hO3.dns
        have d8 : (s.ds.length : Int) ≤ 8 := by have := HS.out.may.2.2.1; omega
        obtain ⟨b0, b1, b2⟩ := hB3.cells
        by_cases hjl : j < s.ds.length
        · have j1 : (j : Int) < (s.ds.length : Int) := by omega
          have j0 : (0 : Int) ≤ (j : Int) := by omega
          obtain ⟨b, off, rfl, hbs, hcell⟩ := hD.some (by omega)
          obtain ⟨g0, -⟩ := hcell j hjl
          obtain ⟨c0, c1, c2, c3, c4, c5, c6, c7, c8, c9⟩ := HS.out.en.cells
          clear c0 c2 c3 c4 c5 c6 c7 c8 c9 hcell hB3 hO3 hD b0 b2
          obtain ⟨nd, hnd⟩ : ∃ nd : Nat, s.ds.length = nd := ⟨_, rfl⟩
          have HJ : Hid ((s.ds.getD j dn0).cl = (s.ds.getD j dn0).cl) := Hid.mk9 rfl
          obtain ⟨dj, hdj⟩ : ∃ dj, (s.ds.getD j dn0).cl = dj := ⟨_, rfl⟩
          rw [hdj] at g0
          have HDJ := Hid.mk9 hdj
          clear hdj HJ
          rcases kb with _ | _
          · by_cases hd : dj = cl
            · have HK2 : Hid (∃ i, i < j + 1 ∧ (s.ds.getD i dn0).cl = cl) := Hid.mk9 ⟨j, by omega, by rw [HDJ.out]; exact hd⟩
              clear HDJ HK
              subst hd
              go_upto_region 19 with fail
              go_region
              replace HS := Hid.mk9 (HS.out.below (below_drew wr))
              go_wp2_with fail
              exact ⟨⟨j + 1, true, by go_num, rfl, by omega, Hid.mk9 (fun _ => HK2.out), HS⟩, by simp [intOf]; omega⟩
            · clear HDJ HK
              go_upto_region 19 with fail
              go_region
              replace HS := Hid.mk9 (HS.out.below (below_drew wr))
              go_wp2_with fail
              exact ⟨⟨j + 1, false, by go_num, by simp [hd], by omega, Hid.mk9 (fun h => by cases h), HS⟩, by simp [intOf]; omega⟩
          · have HK2 : Hid (∃ i, i < j + 1 ∧ (s.ds.getD i dn0).cl = cl) := Hid.mk9 (by obtain ⟨i, h1, h2⟩ := HK.out rfl; exact ⟨i, by omega, h2⟩)
            clear HDJ HK
            go_upto_region 19 with fail
            go_region
            replace HS := Hid.mk9 (HS.out.below (below_drew wr))
            go_wp2_with fail
            exact ⟨⟨j + 1, true, by go_num, rfl, by omega, Hid.mk9 (fun _ => HK2.out), HS⟩, by simp [intOf]; omega⟩
        · have HO3 := Hid.mk9 hO3
          have HB3 := Hid.mk9 hB3
          have HDO := Hid.mk9 (do_yes _ s ⟨ep, cl, id, ⟨ok, os, ot, ov, of, ou, om⟩⟩ wr hO3.shAt HS.out.may HEM.out)
          obtain ⟨c0, c1, c2, c3, c4, c5, c6, c7, c8, c9⟩ := HS.out.en.cells
          clear hD hO3 hB3
          obtain ⟨R2, hR2⟩ : ∃ R2, (doS s ⟨ep, cl, id, ⟨ok, os, ot, ov, of, ou, om⟩⟩).1 = R2 := ⟨_, rfl⟩
          obtain ⟨A2, hA2⟩ : ∃ A2, (doS s ⟨ep, cl, id, ⟨ok, os, ot, ov, of, ou, om⟩⟩).2 = A2 := ⟨_, rfl⟩
          have HRA := Hid.mk9 (show doS s ⟨ep, cl, id, ⟨ok, os, ot, ov, of, ou, om⟩⟩ = (R2, A2) by rw [← hR2, ← hA2])
          rw [HRA.out] at HDO
          obtain ⟨x0, x1, x2⟩ := A2
          clear hR2 hA2
          go_upto_region 20 with fail
          go_upto_region 21 with (go_at_call 10; refine HDO.out.mono ?_; rintro x wE ⟨hbE, v, rfl, hOE⟩; obtain ⟨B6, la6, lc6, X6, da6, dc6, rfl, hX6, hR6⟩ := hOE; simp only [anV]; have HOE : Hid (OwnS wE (.agg #[.slice la6 X6.length lc6, .slice da6 R2.ds.length dc6, .int .i64 R2.fl]) R2) := Hid.mk9 ⟨B6, la6, lc6, X6, da6, dc6, rfl, hX6, hR6⟩; have HSE := Hid.mk9 (HS.out.below hbE); clear hX6 hR6)
          have HB16 := Hid.mk9 ((Bx3.new wE 25 (.slice la6 X6.length lc6) (.slice da6 R2.ds.length dc6) (.int .i64 R2.fl)).below (below_alloc (wE.alloc (.cells #[.slice la6 X6.length lc6, .slice da6 R2.ds.length dc6, .int .i64 R2.fl] 25)) (.cells #[.int .i64 x0, .bool x1, .int .i64 x2] 37)))
          have hB17 := Bx3.new (wE.alloc (.cells #[.slice la6 X6.length lc6, .slice da6 R2.ds.length dc6, .int .i64 R2.fl] 25)) 37 (.int .i64 x0) (.bool x1) (.int .i64 x2)
          rw [show (wE.alloc (.cells #[.slice la6 X6.length lc6, .slice da6 R2.ds.length dc6, .int .i64 R2.fl] 25)).heap.size = wE.heap.size + 1 by simp] at hB17
          have HB17 := Hid.mk9 hB17
          have hb7 := below2 (below_alloc wE (.cells #[.slice la6 X6.length lc6, .slice da6 R2.ds.length dc6, .int .i64 R2.fl] 25)) (below_alloc (wE.alloc (.cells #[.slice la6 X6.length lc6, .slice da6 R2.ds.length dc6, .int .i64 R2.fl] 25)) (.cells #[.int .i64 x0, .bool x1, .int .i64 x2] 37))
          have HS7 := Hid.mk9 (HSE.out.below hb7)
          have HO7 := Hid.mk9 (HOE.out.below hb7)
          have HO37 := Hid.mk9 ((HO3.out.below hbE).below hb7)
          have HB37 := Hid.mk9 ((HB3.out.below hbE).below hb7)
          clear hb7 hB17 HSE HOE hbE HO3 HB3 HS HDO c0 c1 c2 c3 c4 c5 c6 c7 c8 c9 b0 b1 b2
          generalize ((wE.alloc (.cells #[.slice la6 X6.length lc6, .slice da6 R2.ds.length dc6, .int .i64 R2.fl] 25)).alloc (.cells #[.int .i64 x0, .bool x1, .int .i64 x2] 37)) = W7 at *
          generalize wE.heap.size + 1 = r17 at *
          generalize wE.heap.size = r16 at *
          have HB := Hid.mk9 HS7.out.be
          have HX := Hid.mk9 HS7.out.en
          rcases kb with _ | _
          · go_wp2_with (go_at_call 9; refine (awake_any _).mono ?_; rintro e wF ⟨rfl, hbC⟩; replace HB := Hid.mk9 (HB.out.trans (hbC.mono (Nat.le_of_lt HX.out.lt))); clear hbC)
            go_ret
            exact ⟨rfl, by rw [hq]; exact HB.out⟩
          · have heq : doS s ⟨ep, cl, id, ⟨ok, os, ot, ov, of, ou, om⟩⟩ = (s, ⟨e0, e1, e2⟩) := by
              obtain ⟨i, hi, hci⟩ := HK.out rfl
              exact once_again (e := ⟨ep, cl, id, ⟨ok, os, ot, ov, of, ou, om⟩⟩) (by show cl ≠ 0; have := HCL.out.1; omega) HS7.out.kd (by omega) hci HS7.out.may
            rw [HRA.out] at heq
            injection heq with h5 h6
            subst h5
            injection h6 with h7 h8 h9'
            subst h7
            subst h8
            subst h9'
            obtain ⟨y0, y1, y2⟩ := HB16.out.cells
            obtain ⟨z0, z1, z2⟩ := HB17.out.cells
            obtain ⟨b0, b1, b2⟩ := HB37.out.cells
            obtain ⟨d0, d1, d2⟩ := HS7.out.an.cells
            have HSM := Hid.mk9 ((refShSame_any _ _ R2 R2 W7 HO7.out.shAt HO37.out.shAt (by have := HS7.out.may.2.1.1; omega) (by have := HS7.out.may.2.2.1; omega)).mono fun _ _ hp => bp_yes hp (rfl : ShEq R2 R2))
            clear HO7 HO37 HB16 HB17 HB37 HRA HK HCL
            go_wp2_with (first | (go_at_call 15; refine HSM.out.mono ?_; rintro e wF ⟨rfl, hbC⟩; replace HB := Hid.mk9 (HB.out.trans (hbC.mono (Nat.le_of_lt HX.out.lt))); replace HX := Hid.mk9 (HX.out.below hbC); clear hbC) | (go_at_call 9; refine (awake_any _).mono ?_; rintro e wF ⟨rfl, hbC⟩; replace HB := Hid.mk9 (HB.out.trans (hbC.mono (Nat.le_of_lt HX.out.lt))); clear hbC))
            go_ret
            exact ⟨rfl, by rw [hq]; exact HB.out⟩
end Go.Proofs.YtihohcmocejijaaGreat.Bk
