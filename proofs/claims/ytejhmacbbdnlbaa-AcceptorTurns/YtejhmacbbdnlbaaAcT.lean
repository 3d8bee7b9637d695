/-
  The law AcceptorTurns.
-/
import Derived.Test.YtejhmacbbdnlbaaAcS
import Derived.Test.YtejhmacbbdnlbaaAcS2
import Derived.Test.YtejhmacbbdnlbaaAcQ2
namespace Go.Proofs.Ytejhmacbbdnlbaa.Ac
open Go.ChangeShapes Go.WideShapes Go.ChangeAt Go.RowKit
set_option maxHeartbeats 4000000 in
set_option maxRecDepth 60000 in
theorem turns_any (p : Int) (a : Option Addr) (len cap : Nat) (ls : List Acd) (x0 x1 x2 : Int) (d : Dl) (ad : Option Addr) (ld cd : Nat) (w : World) (h : AcsAt w a len cap ls) (hd : RowI w ad ld cd d.ns) : Calls Try.prog 3 #[.agg #[.int .i64 p, .slice a len cap], .agg #[.int .i64 x0, .int .i64 x1, .int .i64 x2], .agg #[.int .i64 d.k, .int .i64 d.id, .int .i64 d.zn, .int .i64 d.rk, .int .i64 d.wt, .int .i64 d.g, .slice ad ld cd]] w fun e w' => AwakePost w e w' := by
  have HL := Hid.mk9 h.1
  have HLd := Hid.mk9 hd.1
  have HB0 := Hid.mk9 (below2 (below2 (below_alloc w (.cells #[.int .i64 p, .slice a len cap] 24)) (below_alloc _ (.cells #[.int .i64 x0, .int .i64 x1, .int .i64 x2] 25))) (below_alloc _ (.cells #[.int .i64 d.k, .int .i64 d.id, .int .i64 d.zn, .int .i64 d.rk, .int .i64 d.wt, .int .i64 d.g, .slice ad ld cd] 28)))
  have HX0 := Hid.mk9 (((B2.new w 24 (.int .i64 p) (.slice a len cap)).below (below_alloc _ (.cells #[.int .i64 x0, .int .i64 x1, .int .i64 x2] 25))).below (below_alloc _ (.cells #[.int .i64 d.k, .int .i64 d.id, .int .i64 d.zn, .int .i64 d.rk, .int .i64 d.wt, .int .i64 d.g, .slice ad ld cd] 28)))
  have HV0 : Hid (B3 (((w.alloc (.cells #[.int .i64 p, .slice a len cap] 24)).alloc (.cells #[.int .i64 x0, .int .i64 x1, .int .i64 x2] 25)).alloc (.cells #[.int .i64 d.k, .int .i64 d.id, .int .i64 d.zn, .int .i64 d.rk, .int .i64 d.wt, .int .i64 d.g, .slice ad ld cd] 28)) (w.heap.size + 1) 25 (.int .i64 x0) (.int .i64 x1) (.int .i64 x2)) := by
    have := (B3.new (w.alloc (.cells #[.int .i64 p, .slice a len cap] 24)) 25 (.int .i64 x0) (.int .i64 x1) (.int .i64 x2)).below (below_alloc _ (.cells #[.int .i64 d.k, .int .i64 d.id, .int .i64 d.zn, .int .i64 d.rk, .int .i64 d.wt, .int .i64 d.g, .slice ad ld cd] 28))
    rw [show (w.alloc (.cells #[.int .i64 p, .slice a len cap] 24)).heap.size = w.heap.size + 1 from by simp] at this
    exact this
  have HD0 : Hid (B7 (((w.alloc (.cells #[.int .i64 p, .slice a len cap] 24)).alloc (.cells #[.int .i64 x0, .int .i64 x1, .int .i64 x2] 25)).alloc (.cells #[.int .i64 d.k, .int .i64 d.id, .int .i64 d.zn, .int .i64 d.rk, .int .i64 d.wt, .int .i64 d.g, .slice ad ld cd] 28)) (w.heap.size + 1 + 1) 28 (.int .i64 d.k) (.int .i64 d.id) (.int .i64 d.zn) (.int .i64 d.rk) (.int .i64 d.wt) (.int .i64 d.g) (.slice ad ld cd)) := by
    have := B7.new ((w.alloc (.cells #[.int .i64 p, .slice a len cap] 24)).alloc (.cells #[.int .i64 x0, .int .i64 x1, .int .i64 x2] 25)) 28 (.int .i64 d.k) (.int .i64 d.id) (.int .i64 d.zn) (.int .i64 d.rk) (.int .i64 d.wt) (.int .i64 d.g) (.slice ad ld cd)
    rw [show ((w.alloc (.cells #[.int .i64 p, .slice a len cap] 24)).alloc (.cells #[.int .i64 x0, .int .i64 x1, .int .i64 x2] 25)).heap.size = w.heap.size + 1 + 1 from by simp] at this
    exact this
  have HA0 := Hid.mk9 (h.below HB0.out)
  have HR0 := Hid.mk9 (hd.below HB0.out)
  clear h hd
  go_enter Try.func3, Try.ntmps3
  go_upto_region 1 with fail
  generalize (((w.alloc (.cells #[.int .i64 p, .slice a len cap] 24)).alloc (.cells #[.int .i64 x0, .int .i64 x1, .int .i64 x2] 25)).alloc (.cells #[.int .i64 d.k, .int .i64 d.id, .int .i64 d.zn, .int .i64 d.rk, .int .i64 d.wt, .int .i64 d.g, .slice ad ld cd] 28)) = w1 at *
  obtain ⟨X, hX⟩ : ∃ X, w.heap.size = X := ⟨_, rfl⟩
  have HXw : Hid (w.heap.size = X) := Hid.mk9 hX
  rw [hX] at HX0 HV0 HD0 ⊢
  clear hX
  obtain ⟨p0, p1⟩ := HX0.out.cells; obtain ⟨v0, v1, v2⟩ := HV0.out.cells; obtain ⟨d0, d1, d2, d3, d4, d5, d6⟩ := HD0.out.cells
  have HLT := Hid.mk9 (light_any p a len cap ls w1 HA0.out)
  cases hq : lightB ls with
  | false =>
    have HQ := Hid.mk9 hq
    clear hq
    go_wp2_with (first | (go_at_call 5; refine HLT.out.mono ?_; rw [HQ.out]; rintro en w2 ⟨rfl, hb2⟩; have HBx := Hid.mk9 (below2 HB0.out hb2); clear hb2 p0 p1 v0 v1 v2 d0 d1 d2 d3 d4 d5 d6) | (go_at_call 6; refine (awake_any _).mono ?_; rintro en w9 ⟨rfl, hb9⟩; have HW9 := Hid.mk9 (below2 HBx.out hb9); clear hb9))
    go_ret
    exact ⟨rfl, HW9.out⟩
  | true =>
  have HQ := Hid.mk9 hq
  have HSl := Hid.mk9 (light_slim hq)
  clear hq
  by_cases h20 : (20 : Int) < (ld : Int)
  · go_wp2_with (first | (go_at_call 5; refine HLT.out.mono ?_; rw [HQ.out]; rintro en w2 ⟨rfl, hb2⟩; have HX2 := Hid.mk9 (HX0.out.below hb2); have HV2 := Hid.mk9 (HV0.out.below hb2); have HD2 := Hid.mk9 (HD0.out.below hb2); have HA2 := Hid.mk9 (HA0.out.below hb2); have HR2 := Hid.mk9 (HR0.out.below hb2); have HB2 := Hid.mk9 (below2 HB0.out hb2); have HBx := Hid.mk9 HB2.out; clear hb2 p0 p1 v0 v1 v2 d0 d1 d2 d3 d4 d5 d6; obtain ⟨p0, p1⟩ := HX2.out.cells; obtain ⟨v0, v1, v2⟩ := HV2.out.cells; obtain ⟨d0, d1, d2, d3, d4, d5, d6⟩ := HD2.out.cells) | (go_at_call 6; refine (awake_any _).mono ?_; rintro en w9 ⟨rfl, hb9⟩; have HW9 := Hid.mk9 (below2 HBx.out hb9); clear hb9))
    go_ret
    exact ⟨rfl, HW9.out⟩
  have h20' : decide ((20 : Int) < (ld : Int)) = false := decide_eq_false h20
  go_upto_region 3 with (go_at_call 5; refine HLT.out.mono ?_; rw [HQ.out]; rintro en w2 ⟨rfl, hb2⟩; have HX2 := Hid.mk9 (HX0.out.below hb2); have HV2 := Hid.mk9 (HV0.out.below hb2); have HD2 := Hid.mk9 (HD0.out.below hb2); have HA2 := Hid.mk9 (HA0.out.below hb2); have HR2 := Hid.mk9 (HR0.out.below hb2); have HB2 := Hid.mk9 (below2 HB0.out hb2); clear hb2 p0 p1 v0 v1 v2 d0 d1 d2 d3 d4 d5 d6; obtain ⟨p0, p1⟩ := HX2.out.cells; obtain ⟨v0, v1, v2⟩ := HV2.out.cells; obtain ⟨d0, d1, d2, d3, d4, d5, d6⟩ := HD2.out.cells)
  obtain ⟨P1, hP1⟩ : ∃ P1, P1 = prepP p ls x0 x1 := ⟨_, rfl⟩
  obtain ⟨L1, hL1⟩ : ∃ L1, L1 = prepL p ls := ⟨_, rfl⟩
  obtain ⟨LT, hLT⟩ : ∃ LT, LT = prepT p ls x0 x1 := ⟨_, rfl⟩
  obtain ⟨E1, hE1⟩ : ∃ E1, E1 = prepE p ls x0 x1 := ⟨_, rfl⟩
  have HP := Hid.mk9 (prepare_any p a len cap ls x0 x1 w2 HA2.out)
  rw [← hP1, ← hL1, ← hLT, ← hE1] at HP
  have HP1 := Hid.mk9 hP1
  have HL1 := Hid.mk9 hL1
  have HLT' := Hid.mk9 hLT
  have HE1 := Hid.mk9 hE1
  clear hP1 hL1 hLT hE1
  go_upto_region 4 with (go_at_call 7; refine HP.out.mono ?_; rintro en w3 ⟨hb3, v3, u3, rfl, ho3, hu3⟩; have HX3 := Hid.mk9 (HX2.out.below hb3); have HV3 := Hid.mk9 (HV2.out.below hb3); have HD3 := Hid.mk9 (HD2.out.below hb3); have HA3 := Hid.mk9 (HA2.out.below hb3); have HR3 := Hid.mk9 (HR2.out.below hb3); have HB3 := Hid.mk9 (below2 HB2.out hb3); obtain ⟨a1, c1, rfl, hv3⟩ := ho3.at; obtain ⟨a8, c8, rfl, hw3⟩ := hu3.at; have HF3 := Hid.mk9 hv3; have HG3 := Hid.mk9 hw3; clear hb3 ho3 hu3 hv3 hw3 p0 p1 v0 v1 v2 d0 d1 d2 d3 d4 d5 d6)
  have hba := below_alloc w3 (.cells #[.int .i64 P1, .slice a1 L1.length c1] 24)
  have HX4 := Hid.mk9 (HX3.out.below hba)
  have HV4 := Hid.mk9 (HV3.out.below hba)
  have HD4 := Hid.mk9 (HD3.out.below hba)
  have HA4 := Hid.mk9 (HA3.out.below hba)
  have HR4 := Hid.mk9 (HR3.out.below hba)
  have HF4 := Hid.mk9 (HF3.out.below hba)
  have HG4 := Hid.mk9 (HG3.out.below hba)
  have HB4 := Hid.mk9 (below2 HB3.out hba)
  have HI4 := Hid.mk9 (B2.new w3 24 (.int .i64 P1) (.slice a1 L1.length c1))
  clear hba
  generalize w3.alloc (.cells #[.int .i64 P1, .slice a1 L1.length c1] 24) = w4 at *
  obtain ⟨X1, hX1⟩ : ∃ X1, w3.heap.size = X1 := ⟨_, rfl⟩
  rw [hX1] at HI4 ⊢
  clear hX1
  obtain ⟨p0, p1⟩ := HX4.out.cells; obtain ⟨v0, v1, v2⟩ := HV4.out.cells; obtain ⟨d0, d1, d2, d3, d4, d5, d6⟩ := HD4.out.cells
  obtain ⟨P3, hP3⟩ : ∃ P3, P3 = accP p ls x0 x2 d := ⟨_, rfl⟩
  obtain ⟨L3, hL3⟩ : ∃ L3, L3 = accL p ls x0 x2 d := ⟨_, rfl⟩
  obtain ⟨E2, hE2⟩ : ∃ E2, E2 = accE p ls x0 x2 d := ⟨_, rfl⟩
  have HP' := Hid.mk9 (accept_any p a len cap ls x0 x2 d ad ld cd w4 HA4.out HR4.out)
  rw [← hP3, ← hL3, ← hE2] at HP'
  have HP3 := Hid.mk9 hP3
  have HL3 := Hid.mk9 hL3
  have HE2 := Hid.mk9 hE2
  clear hP3 hL3 hE2
  go_upto_region 5 with (go_at_call 8; refine HP'.out.mono ?_; rintro en w5 ⟨hb5, v5, rfl, ho5⟩; have HX5 := Hid.mk9 (HX4.out.below hb5); have HV5 := Hid.mk9 (HV4.out.below hb5); have HD5 := Hid.mk9 (HD4.out.below hb5); have HA5 := Hid.mk9 (HA4.out.below hb5); have HR5 := Hid.mk9 (HR4.out.below hb5); have HF5 := Hid.mk9 (HF4.out.below hb5); have HG5 := Hid.mk9 (HG4.out.below hb5); have HI5 := Hid.mk9 (HI4.out.below hb5); have HB5 := Hid.mk9 (below2 HB4.out hb5); obtain ⟨a3, c3, rfl, hv5⟩ := ho5.at; have HJ5 := Hid.mk9 hv5; clear hb5 ho5 hv5 p0 p1 v0 v1 v2 d0 d1 d2 d3 d4 d5 d6)
  have hba := below_alloc w5 (.cells #[.int .i64 P3, .slice a3 L3.length c3] 24)
  have HX6 := Hid.mk9 (HX5.out.below hba)
  have HV6 := Hid.mk9 (HV5.out.below hba)
  have HD6 := Hid.mk9 (HD5.out.below hba)
  have HA6 := Hid.mk9 (HA5.out.below hba)
  have HR6 := Hid.mk9 (HR5.out.below hba)
  have HF6 := Hid.mk9 (HF5.out.below hba)
  have HG6 := Hid.mk9 (HG5.out.below hba)
  have HI6 := Hid.mk9 (HI5.out.below hba)
  have HJ6 := Hid.mk9 (HJ5.out.below hba)
  have HB6 := Hid.mk9 (below2 HB5.out hba)
  have HK6 := Hid.mk9 (B2.new w5 24 (.int .i64 P3) (.slice a3 L3.length c3))
  clear hba
  generalize w5.alloc (.cells #[.int .i64 P3, .slice a3 L3.length c3] 24) = w6 at *
  obtain ⟨X3, hX3⟩ : ∃ X3, w5.heap.size = X3 := ⟨_, rfl⟩
  rw [hX3] at HK6 ⊢
  clear hX3 HP HP'
  obtain ⟨e1, he1⟩ : ∃ e1 : Int, e1 = if okA p ls = true then 0 else 1 := ⟨_, rfl⟩
  obtain ⟨q1, hq1⟩ : ∃ q1, q1 = okA p ls := ⟨_, rfl⟩
  have hz1 : (e1 == 0) = q1 := by rw [he1, hq1]; cases okA p ls <;> rfl
  obtain ⟨e2, he2⟩ : ∃ e2 : Int, e2 = if okD d = true then 0 else 1 := ⟨_, rfl⟩
  obtain ⟨q2, hq2⟩ : ∃ q2, q2 = okD d := ⟨_, rfl⟩
  have hz2 : (e2 == 0) = q2 := by rw [he2, hq2]; cases okD d <;> rfl
  refine law_5 _ _ _ _ _ _ _ _ _ _ _ _ _ _ _ _ _ _ _ _ _ _ _ _ _ _ _ _ _ _ _ _ _ _ _ _ _ _ _ _ _ _ _ _ _ _ _ _ _ _ _ _ _ _ _ _ _ _ _ _ _ _ _ _ _ _ _ _ _ _ _ _ _ _ _ _ _ _ _ _ _ _ _ _ _ _ _ _ _ _ _ _ _ _ _ _ _ _ _ _ _ _ _ _ _ _ _ _ _ _ _ _ _ _ _ _ _ _ _ _ _ _ _ _ _ _ _ _ _ _ _ _ _ _ _ _ _ _ _ _ _ _ _ _ _ _ _ _ _ _ _ X (X + 1 + 1) p a len cap ls d ad ld cd e1 e2 q1 q2 w6 _ hz1 hz2 (Hid.mk9 he1) (Hid.mk9 hq1) (Hid.mk9 he2) (Hid.mk9 hq2) HX6 HD6 HA6 HR6 (Hid.mk9 fun u48 u49 u50 u51 u52 u53 u54 u55 u56 u57 u58 u59 u60 w7 hb7 => ?_)
  have HX7 := Hid.mk9 (HX6.out.below hb7)
  have HV7 := Hid.mk9 (HV6.out.below hb7)
  have HD7 := Hid.mk9 (HD6.out.below hb7)
  have HA7 := Hid.mk9 (HA6.out.below hb7)
  have HR7 := Hid.mk9 (HR6.out.below hb7)
  have HF7 := Hid.mk9 (HF6.out.below hb7)
  have HG7 := Hid.mk9 (HG6.out.below hb7)
  have HI7 := Hid.mk9 (HI6.out.below hb7)
  have HJ7 := Hid.mk9 (HJ6.out.below hb7)
  have HK7 := Hid.mk9 (HK6.out.below hb7)
  have HB7 := Hid.mk9 (below2 HB6.out hb7)
  clear hb7 he1 hq1 hz1 he2 hq2 hz2
  obtain ⟨p0, p1⟩ := HX7.out.cells; obtain ⟨v0, v1, v2⟩ := HV7.out.cells; obtain ⟨d0, d1, d2, d3, d4, d5, d6⟩ := HD7.out.cells
  obtain ⟨i0, i1⟩ := HI7.out.cells
  obtain ⟨k0, k1⟩ := HK7.out.cells
  dsimp only
  cases hok : okA p ls with
  | false =>
    have HOK := Hid.mk9 hok
    obtain rfl : E1 = 1 := by rw [HE1.out]; unfold prepE; rw [hok]; rfl
    obtain rfl : E2 = 1 := by rw [HE2.out]; unfold accE; rw [hok]; rfl
    obtain rfl : P1 = 0 := by rw [HP1.out]; unfold prepP; rw [hok]; rfl
    obtain rfl : P3 = 0 := by rw [HP3.out]; unfold accP; rw [hok]; rfl
    obtain rfl : L1 = [] := by rw [HL1.out]; unfold prepL; rw [hok]; rfl
    obtain rfl : L3 = [] := by rw [HL3.out]; unfold accL; rw [hok]; rfl
    obtain rfl : LT = [] := by rw [HLT'.out]; unfold prepT; rw [← HE1.out]; rfl
    clear hok
    go_upto_region 9 with (go_at_call 10; refine (refMay_any p a len cap ls _ HA7.out).mono ?_; rw [HOK.out]; rintro en w8 ⟨rfl, hb8⟩; have HX8 := Hid.mk9 (HX7.out.below hb8); have HV8 := Hid.mk9 (HV7.out.below hb8); have HD8 := Hid.mk9 (HD7.out.below hb8); have HA8 := Hid.mk9 (HA7.out.below hb8); have HR8 := Hid.mk9 (HR7.out.below hb8); have HF8 := Hid.mk9 (HF7.out.below hb8); have HG8 := Hid.mk9 (HG7.out.below hb8); have HI8 := Hid.mk9 (HI7.out.below hb8); have HJ8 := Hid.mk9 (HJ7.out.below hb8); have HK8 := Hid.mk9 (HK7.out.below hb8); have HB8 := Hid.mk9 (below2 HB7.out hb8); clear hb8 i0 i1 k0 k1 p0 p1 v0 v1 v2 d0 d1 d2 d3 d4 d5 d6)
    have hba := below_alloc w8 (.cells #[.int .i64 0, .slice none 0 0] 24)
    have HX9 := Hid.mk9 (HX8.out.below hba)
    have HV9 := Hid.mk9 (HV8.out.below hba)
    have HD9 := Hid.mk9 (HD8.out.below hba)
    have HA9 := Hid.mk9 (HA8.out.below hba)
    have HR9 := Hid.mk9 (HR8.out.below hba)
    have HF9 := Hid.mk9 (HF8.out.below hba)
    have HG9 := Hid.mk9 (HG8.out.below hba)
    have HI9 := Hid.mk9 (HI8.out.below hba)
    have HJ9 := Hid.mk9 (HJ8.out.below hba)
    have HK9 := Hid.mk9 (HK8.out.below hba)
    have HB9 := Hid.mk9 (below2 HB8.out hba)
    have HZ9 := Hid.mk9 (B2.new w8 24 (.int .i64 0) (.slice none 0 0))
    clear hba
    generalize w8.alloc (.cells #[.int .i64 0, .slice none 0 0] 24) = w9 at *
    obtain ⟨Z, hZ⟩ : ∃ Z, w8.heap.size = Z := ⟨_, rfl⟩
    rw [hZ] at HZ9 ⊢
    clear hZ
    have i0 : w9.cell? ⟨X1, 0, none⟩ = some (.int .i64 0) := HI9.out.cells.1
    have i1 : w9.cell? ⟨X1, 1, none⟩ = some (.slice a1 0 c1) := HI9.out.cells.2
    have k0 : w9.cell? ⟨X3, 0, none⟩ = some (.int .i64 0) := HK9.out.cells.1
    have k1 : w9.cell? ⟨X3, 1, none⟩ = some (.slice a3 0 c3) := HK9.out.cells.2
    obtain ⟨z0, z1⟩ := HZ9.out.cells
    go_wp2_with (first
      | (go_at_call_of 13 a1; refine (refSame_any 0 0 a1 none 0 c1 0 0 [] [] _ HF9.out (AcsAt.nil _)).mono ?_; rw [eqS_self]; rintro en wa ⟨rfl, hba⟩; have HBa := Hid.mk9 (below2 HB9.out hba); have HJa := Hid.mk9 (HJ9.out.below hba); have HKa := Hid.mk9 (HK9.out.below hba); have HZa := Hid.mk9 (HZ9.out.below hba); clear hba i0 i1 k0 k1 z0 z1; have k0 : wa.cell? ⟨X3, 0, none⟩ = some (.int .i64 0) := HKa.out.cells.1; have k1 : wa.cell? ⟨X3, 1, none⟩ = some (.slice a3 0 c3) := HKa.out.cells.2; obtain ⟨z0, z1⟩ := HZa.out.cells)
      | (go_at_call_of 13 a3; refine (refSame_any 0 0 a3 none 0 c3 0 0 [] [] _ HJa.out (AcsAt.nil _)).mono ?_; rw [eqS_self]; rintro en wb ⟨rfl, hbb⟩; have HBx := Hid.mk9 (below2 HBa.out hbb); clear hbb k0 k1 z0 z1)
      | (go_at_call 6; refine (awake_any _).mono ?_; rintro en wc ⟨rfl, hb9⟩; have HW9 := Hid.mk9 (below2 HBx.out hb9); clear hb9))
    go_ret
    exact ⟨rfl, HW9.out⟩
  | true =>
    have HOK := Hid.mk9 hok
    have HP1e : Hid (P1 = if E1 = 0 then x0 else p) := Hid.mk9 (by rw [HP1.out]; unfold prepP; rw [if_pos hok, ← HE1.out])
    have HL1e : Hid (L1 = ls) := Hid.mk9 (by rw [HL1.out]; unfold prepL; rw [if_pos hok])
    have HLTe : Hid (LT = if E1 = 0 then ls.drop (x1 - 1).toNat else []) := Hid.mk9 (by rw [HLT'.out]; unfold prepT; rw [← HE1.out])
    have HE1e : Hid (E1 = rprE p x0 x1) := Hid.mk9 (by rw [HE1.out, rpr_same hok])
    have HP3e : Hid (P3 = if E2 = 0 then x0 else p) := Hid.mk9 (by rw [HP3.out]; unfold accP; rw [if_pos hok, ← HE2.out])
    have HL3e : Hid (L3 = if E2 = 0 then putS ls x2.toNat ⟨x0, d⟩ else ls) := Hid.mk9 (by rw [HL3.out]; unfold accL; rw [if_pos hok, ← HE2.out])
    have HE2e : Hid (E2 = rprA p x0 x2 d) := Hid.mk9 (by rw [HE2.out, rpa_same hok])
    have HOP1 : Hid (okA P1 L1 = true) := Hid.mk9 (by rw [HP1.out, HL1.out]; exact okA_prep hok x0 x1)
    have HOP3 : Hid (okA P3 L3 = true) := Hid.mk9 (by rw [HP3.out, HL3.out]; exact okA_acc hok x0 x2 d)
    have h300 : Hid ((len : Int) ≤ 300) := Hid.mk9 (by have h1 := HSl.out.1; have h2 := HL.out; omega)
    have HLs : Hid (ls = L1) := Hid.mk9 HL1e.out.symm
    clear hok HE1 HE2 HP1 HP3 HL1 HL3 HLT'
    go_upto_region 10 with (go_at_call 10; refine (refMay_any p a len cap ls _ HA7.out).mono ?_; rw [HOK.out]; rintro en w8 ⟨rfl, hb8⟩; have HX8 := Hid.mk9 (HX7.out.below hb8); have HV8 := Hid.mk9 (HV7.out.below hb8); have HD8 := Hid.mk9 (HD7.out.below hb8); have HA8 := Hid.mk9 (HA7.out.below hb8); have HR8 := Hid.mk9 (HR7.out.below hb8); have HF8 := Hid.mk9 (HF7.out.below hb8); have HG8 := Hid.mk9 (HG7.out.below hb8); have HI8 := Hid.mk9 (HI7.out.below hb8); have HJ8 := Hid.mk9 (HJ7.out.below hb8); have HK8 := Hid.mk9 (HK7.out.below hb8); have HB8 := Hid.mk9 (below2 HB7.out hb8); clear hb8 i0 i1 k0 k1 p0 p1 v0 v1 v2 d0 d1 d2 d3 d4 d5 d6; obtain ⟨p0, p1⟩ := HX8.out.cells; obtain ⟨v0, v1, v2⟩ := HV8.out.cells; obtain ⟨d0, d1, d2, d3, d4, d5, d6⟩ := HD8.out.cells)
    have HQ1 := Hid.mk9 (refPrepare_any p a len cap ls x0 x1 w8 HA8.out h300.out)
    rw [← HE1e.out, ← HP1e.out, ← HLTe.out, HLs.out] at HQ1
    have HAc := Hid.mk9 (refAccept_any p a len cap ls x0 x2 d ad ld cd)
    go_upto_region 11 with (go_at_call 14; refine HQ1.out.mono ?_; rintro en wa ⟨hba, a5, l5, c5, a6, l6, c6, rfl, hm, ht⟩; have HXa := Hid.mk9 (HX8.out.below hba); have HVa := Hid.mk9 (HV8.out.below hba); have HDa := Hid.mk9 (HD8.out.below hba); have HAa := Hid.mk9 (HA8.out.below hba); have HRa := Hid.mk9 (HR8.out.below hba); have HFa := Hid.mk9 (HF8.out.below hba); have HGa := Hid.mk9 (HG8.out.below hba); have HIa := Hid.mk9 (HI8.out.below hba); have HJa := Hid.mk9 (HJ8.out.below hba); have HKa := Hid.mk9 (HK8.out.below hba); have HBa := Hid.mk9 (below2 HB8.out hba); have HMa := Hid.mk9 hm; have HTa := Hid.mk9 ht; clear hba hm ht p0 p1 v0 v1 v2 d0 d1 d2 d3 d4 d5 d6)
    have hba := below_alloc wa (.cells #[.int .i64 P1, .slice a5 l5 c5] 24)
    have HXb := Hid.mk9 (HXa.out.below hba)
    have HVb := Hid.mk9 (HVa.out.below hba)
    have HDb := Hid.mk9 (HDa.out.below hba)
    have HAb := Hid.mk9 (HAa.out.below hba)
    have HRb := Hid.mk9 (HRa.out.below hba)
    have HFb := Hid.mk9 (HFa.out.below hba)
    have HGb := Hid.mk9 (HGa.out.below hba)
    have HIb := Hid.mk9 (HIa.out.below hba)
    have HJb := Hid.mk9 (HJa.out.below hba)
    have HKb := Hid.mk9 (HKa.out.below hba)
    have HMb := Hid.mk9 (HMa.out.below hba)
    have HTb := Hid.mk9 (HTa.out.below hba)
    have HBb := Hid.mk9 (below2 HBa.out hba)
    have HNb := Hid.mk9 (B2.new wa 24 (.int .i64 P1) (.slice a5 l5 c5))
    clear hba
    generalize wa.alloc (.cells #[.int .i64 P1, .slice a5 l5 c5] 24) = wb at *
    obtain ⟨X5, hX5⟩ : ∃ X5, wa.heap.size = X5 := ⟨_, rfl⟩
    rw [hX5] at HNb ⊢
    clear hX5
    obtain ⟨p0, p1⟩ := HXb.out.cells; obtain ⟨v0, v1, v2⟩ := HVb.out.cells; obtain ⟨d0, d1, d2, d3, d4, d5, d6⟩ := HDb.out.cells
    have HQ2 := Hid.mk9 (HAc.out wb HAb.out h300.out HRb.out)
    rw [← HE2e.out, ← HP3e.out, ← HL3e.out] at HQ2
    go_upto_region 12 with (go_at_call 15; refine HQ2.out.mono ?_; rintro en wc ⟨hbc, a7, l7, c7, rfl, hm⟩; have HXc := Hid.mk9 (HXb.out.below hbc); have HVc := Hid.mk9 (HVb.out.below hbc); have HDc := Hid.mk9 (HDb.out.below hbc); have HAc := Hid.mk9 (HAb.out.below hbc); have HRc := Hid.mk9 (HRb.out.below hbc); have HFc := Hid.mk9 (HFb.out.below hbc); have HGc := Hid.mk9 (HGb.out.below hbc); have HIc := Hid.mk9 (HIb.out.below hbc); have HJc := Hid.mk9 (HJb.out.below hbc); have HKc := Hid.mk9 (HKb.out.below hbc); have HMc := Hid.mk9 (HMb.out.below hbc); have HTc := Hid.mk9 (HTb.out.below hbc); have HNc := Hid.mk9 (HNb.out.below hbc); have HBc := Hid.mk9 (below2 HBb.out hbc); have HOc := Hid.mk9 hm; clear hbc hm p0 p1 v0 v1 v2 d0 d1 d2 d3 d4 d5 d6)
    have hba := below_alloc wc (.cells #[.int .i64 P3, .slice a7 l7 c7] 24)
    have HXd := Hid.mk9 (HXc.out.below hba)
    have HVd := Hid.mk9 (HVc.out.below hba)
    have HDd := Hid.mk9 (HDc.out.below hba)
    have HAd := Hid.mk9 (HAc.out.below hba)
    have HRd := Hid.mk9 (HRc.out.below hba)
    have HFd := Hid.mk9 (HFc.out.below hba)
    have HGd := Hid.mk9 (HGc.out.below hba)
    have HId := Hid.mk9 (HIc.out.below hba)
    have HJd := Hid.mk9 (HJc.out.below hba)
    have HKd := Hid.mk9 (HKc.out.below hba)
    have HMd := Hid.mk9 (HMc.out.below hba)
    have HTd := Hid.mk9 (HTc.out.below hba)
    have HNd := Hid.mk9 (HNc.out.below hba)
    have HOd := Hid.mk9 (HOc.out.below hba)
    have HBd := Hid.mk9 (below2 HBc.out hba)
    have HPd := Hid.mk9 (B2.new wc 24 (.int .i64 P3) (.slice a7 l7 c7))
    clear hba
    generalize wc.alloc (.cells #[.int .i64 P3, .slice a7 l7 c7] 24) = wd at *
    obtain ⟨X7, hX7⟩ : ∃ X7, wc.heap.size = X7 := ⟨_, rfl⟩
    rw [hX7] at HPd ⊢
    clear hX7
    refine law_12 _ _ _ _ _ _ _ _ _ _ _ _ _ _ _ _ _ _ _ _ _ _ _ _ _ _ _ _ _ _ _ _ _ _ _ _ _ _ _ _ _ _ _ _ _ _ _ _ _ _ _ _ _ _ _ _ _ _ _ _ _ _ _ _ _ _ _ _ _ _ _ _ _ _ _ _ _ _ _ _ _ _ _ _ _ _ _ _ _ _ _ _ _ _ _ _ _ _ _ _ _ _ _ _ _ _ _ _ _ _ _ _ _ _ _ _ _ _ _ _ _ _ _ _ _ _ _ _ _ _ _ _ _ _ _ _ _ _ _ _ _ _ _ X1 X5 X3 X7 P1 P3 E1 E2 a1 a5 a3 a7 a8 a6 L1.length c1 l5 c5 L3.length c3 l7 c7 LT.length c8 l6 c6 L1 L3 LT (eqS P1 P3 L1 L3) wd _ (Hid.mk9 rfl) HOP1 HOP3 HId HNd HKd HPd HFd HMd HJd HOd HGd HTd (Hid.mk9 fun u110 u111 u112 u113 u114 u115 u116 u117 u118 u119 u120 u121 u122 u123 u124 u125 u126 u127 u128 u129 u130 u131 u132 u133 u134 u135 u136 u137 u138 u139 u140 u141 u142 u143 u144 u145 u146 u147 u148 u149 u150 u151 u152 we hbe => ?_)
    have HW9 := Hid.mk9 (below2 HBd.out hbe)
    clear hbe
    dsimp only
    go_wp2_with fail
    go_ret
    exact ⟨rfl, HW9.out⟩
end Go.Proofs.Ytejhmacbbdnlbaa.Ac
