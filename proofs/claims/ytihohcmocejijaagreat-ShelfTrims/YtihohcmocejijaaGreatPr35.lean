/-
  awake.
-/
import Derived.Test.YtihohcmocejijaaGreatPr34
namespace Go.Proofs.YtihohcmocejijaaGreat.Bk
open Go.ChangeShapes Go.WideShapes Go.ChangeAt Go.RowKit
def cpu : ByteArray := ⟨#[99, 112, 117]⟩
theorem cpu_may : Lb.MayS cpu [] := ⟨by decide, by decide, fun i hi => absurd hi (Nat.not_lt_zero _)⟩
theorem cpu_ser : IsSer cpu := ⟨cpu, [], Lb.parses_text cpu_may, rfl⟩
def wk1 : Ent := ⟨0, 1, 1, ⟨1, cpu, 5, 1, 0, 0, 0⟩⟩
def wk2 : Ent := ⟨0, 1, 2, ⟨1, cpu, 5, 2, 0, 0, 0⟩⟩
def ws1 : Shf := ⟨[(cpu, [(5, 1)])], [⟨1, 1, ⟨0, true, 0⟩⟩], 0⟩
def ws2 : Shf := ⟨[(cpu, [(5, 1)])], [⟨1, 2, ⟨8, false, 0⟩⟩], 0⟩
theorem ins9 (v : Int) (h : v = 1 ∨ v = 2) : InS (5, v) := by unfold InS; rcases h with rfl | rfl <;> decide
theorem wk_one : doS shf0 wk1 = (ws1, ⟨0, true, 0⟩) := by
  have ha : applyS shf0 wk1.op = (⟨[(cpu, [(5, 1)])], [], 0⟩, ⟨0, true, 0⟩) := by
    unfold applyS
    rw [if_pos (show OpMay wk1.op from .inl ⟨rfl, cpu_ser, ins9 1 (.inl rfl), rfl, rfl, rfl⟩)]
    unfold opS
    rw [if_pos (show wk1.op.k = 1 from rfl)]
    unfold writeS
    rw [if_neg (show ¬ (wk1.op.t, wk1.op.v).1 < shf0.fl by decide)]
    rfl
  unfold doS
  rw [if_neg (show ¬ wk1.cl = 0 by decide), show findD shf0.ds wk1.cl = none from rfl]
  simp only
  unfold doneS
  rw [ha]
  rfl
theorem wk_put : putE [(5, 1)] (5, 2) = 8 := putE_other (x := (5, 1)) (ins9 2 (.inr rfl)) rfl (by decide)
theorem wk_two : doS ws1 wk2 = (ws2, ⟨8, false, 0⟩) := by
  have ha : applyS ws1 wk2.op = (ws1, ⟨8, false, 0⟩) := by
    unfold applyS
    rw [if_pos (show OpMay wk2.op from .inl ⟨rfl, cpu_ser, ins9 2 (.inr rfl), rfl, rfl, rfl⟩)]
    unfold opS
    rw [if_pos (show wk2.op.k = 1 from rfl)]
    have hf : findL ws1.ls wk2.op.s = some [(5, 1)] := by
      show findL [(cpu, [(5, 1)])] cpu = _
      simp [findL]
    unfold writeS
    rw [if_neg (show ¬ (wk2.op.t, wk2.op.v).1 < ws1.fl by decide), hf]
    simp only
    rw [show putE [(5, 1)] (wk2.op.t, wk2.op.v) = 8 from wk_put, if_neg (by decide), if_neg (by decide)]
  unfold doS
  rw [if_neg (show ¬ wk2.cl = 0 by decide), show findD ws1.ds wk2.cl = some ⟨1, 1, ⟨0, true, 0⟩⟩ from rfl]
  simp only
  rw [if_neg (show ¬ wk2.id ≤ 1 by decide)]
  unfold doneS
  rw [ha]
  rfl
theorem wk_three : doS ws2 wk2 = (ws2, ⟨8, false, 0⟩) := by
  unfold doS
  rw [if_neg (show ¬ wk2.cl = 0 by decide), show findD ws2.ds wk2.cl = some ⟨1, 2, ⟨8, false, 0⟩⟩ from rfl]
  simp only
  rw [if_pos (show wk2.id ≤ 2 by decide), if_pos (show (2 : Int) = wk2.id from rfl)]
theorem wk_may : EntMay wk1 ∧ EntMay wk2 := by unfold EntMay Count; decide
theorem ws1_may : ShMay ws1 := by
  have := doS_may shf0_may wk_may.1
  rwa [wk_one] at this
theorem ws2_may : ShMay ws2 := by
  have := doS_may ws1_may wk_may.2
  rwa [wk_two] at this
theorem OwnS.set {w : World} {v : Value} {s : Shf} {p j : Nat} {cs : Array Value} {T : TypeId} {fz : Nat × Nat} (h : OwnS w v s) (hp : w.heap[p]? = some (.cells cs T fz)) (h1 : 55 ≠ T) (h2 : 51 ≠ T) (h3 : T ≠ 27) (u : Value) : OwnS (w.setCell ⟨p, j, none⟩ u) v s := by
  obtain ⟨B, la, lc, X, da, dc, rfl, hX, hR⟩ := h
  exact ⟨B, la, lc, X, da, dc, rfl, hX, own_box hR.1 hp h1 u, hR.2.1.ks (KS.set hp h3 u), own_box hR.2.2 hp h2 u⟩
theorem own_zero (w : World) : ShAt w (.agg #[.slice none 0 0, .slice none 0 0, .int .i64 0]) shf0 := ⟨none, 0, 0, none, 0, 0, rfl, ⟨rfl, Nat.le_refl _, by decide, .inl rfl⟩, ⟨rfl, Nat.le_refl _, by decide, .inl rfl⟩⟩
set_option maxHeartbeats 4000000 in
set_option maxRecDepth 60000 in
theorem awake_any (w : World) : Calls Tryz.prog 9 #[] w fun e w' => e = .returned (.bool true) ∧ Below w.heap.size w w' := by
  have H1 : Hid (∀ W, Calls Tryz.prog 10 #[.agg #[.slice none 0 0, .slice none 0 0, .int .i64 0], .agg #[.int .i64 0, .int .i64 1, .int .i64 1, .int .i64 1, .string ⟨#[99, 112, 117]⟩, .int .i64 5, .int .i64 1, .int .i64 0, .int .i64 0, .int .i64 0]] W fun x w' => DoYes (ws1, ⟨0, true, 0⟩) W x w') := Hid.mk9 (fun W => by
    have := do_yes _ shf0 wk1 W (own_zero W) shf0_may wk_may.1
    rw [wk_one] at this
    exact this)
  have H2 : Hid (∀ W v, OwnS W v ws1 → Calls Tryz.prog 10 #[v, .agg #[.int .i64 0, .int .i64 1, .int .i64 2, .int .i64 1, .string ⟨#[99, 112, 117]⟩, .int .i64 5, .int .i64 2, .int .i64 0, .int .i64 0, .int .i64 0]] W fun x w' => DoYes (ws2, ⟨8, false, 0⟩) W x w') := Hid.mk9 (fun W v hv => by
    have := do_yes _ ws1 wk2 W hv.shAt ws1_may wk_may.2
    rw [wk_two] at this
    exact this)
  have H3 : Hid (∀ W v, OwnS W v ws2 → Calls Tryz.prog 10 #[v, .agg #[.int .i64 0, .int .i64 1, .int .i64 2, .int .i64 1, .string ⟨#[99, 112, 117]⟩, .int .i64 5, .int .i64 2, .int .i64 0, .int .i64 0, .int .i64 0]] W fun x w' => DoYes (ws2, ⟨8, false, 0⟩) W x w') := Hid.mk9 (fun W v hv => by
    have := do_yes _ ws2 wk2 W hv.shAt ws2_may wk_may.2
    rw [wk_three] at this
    exact this)
  have HX := Hid.mk9 (Bx7.new w 29 (.int .i64 1) (.string ⟨#[99, 112, 117]⟩) (.int .i64 5) (.int .i64 1) (.int .i64 0) (.int .i64 0) (.int .i64 0))
  have HB := Hid.mk9 (below_alloc w (.cells #[.int .i64 1, .string ⟨#[99, 112, 117]⟩, .int .i64 5, .int .i64 1, .int .i64 0, .int .i64 0, .int .i64 0] 29))
  go_enter Tryz.func9, Tryz.ntmps9
  go_upto_region 2 with fail
  generalize (w.alloc (.cells #[.int .i64 1, .string ⟨#[99, 112, 117]⟩, .int .i64 5, .int .i64 1, .int .i64 0, .int .i64 0, .int .i64 0] 29)) = wA at *
  obtain ⟨x0, x1, x2, x3, x4, x5, x6⟩ := HX.out.cells
  have HC := Hid.mk9 (H1.out wA)
  go_upto_region 3 with (go_at_call 10; refine HC.out.mono ?_; rintro e wB ⟨hbB, v1, rfl, B1, la, lc, X, da, dc, rfl, hX, hR⟩; simp only [anV, ws1] at hX hR ⊢)
  have hO1 : OwnS wB (.agg #[.slice la X.length lc, .slice da 1 dc, .int .i64 0]) ws1 := ⟨B1, la, lc, X, da, dc, rfl, hX, hR⟩
  generalize X.length = N at *
  have b1 := below_alloc wB (.cells #[.slice la N lc, .slice da 1 dc, .int .i64 0] 25)
  have b2 := below_alloc (wB.alloc (.cells #[.slice la N lc, .slice da 1 dc, .int .i64 0] 25)) (.cells #[.int .i64 0, .bool true, .int .i64 0] 37)
  have hb12 := below2 b1 b2
  have HO1 := Hid.mk9 (hO1.below hb12)
  have HS := Hid.mk9 ((Bx3.new wB 25 (.slice la N lc) (.slice da 1 dc) (.int .i64 0)).below b2)
  have hA1 := Bx3.new (wB.alloc (.cells #[.slice la N lc, .slice da 1 dc, .int .i64 0] 25)) 37 (.int .i64 0) (.bool true) (.int .i64 0)
  rw [show (wB.alloc (.cells #[.slice la N lc, .slice da 1 dc, .int .i64 0] 25)).heap.size = wB.heap.size + 1 from by simp] at hA1
  have HA1 := Hid.mk9 hA1
  have HNB : Hid (w.heap.size < wB.heap.size) := Hid.mk9 (Nat.lt_of_lt_of_le HX.out.lt hbB.size)
  replace HX := Hid.mk9 (HX.out.below (below2 hbB hb12))
  replace HB := Hid.mk9 (below2 HB.out (below2 hbB hb12))
  clear hX hR hO1 b1 b2 hb12 hA1 hbB HC x0 x1 x2 x3 x4 x5 x6
  generalize (wB.alloc (.cells #[.slice la N lc, .slice da 1 dc, .int .i64 0] 25)).alloc (.cells #[.int .i64 0, .bool true, .int .i64 0] 37) = wC at *
  obtain ⟨x0, x1, x2, x3, x4, x5, x6⟩ := HX.out.cells
  obtain ⟨f0, f1, f2, f3, f4, f5, f6⟩ := HX.out.frz
  go_upto_region 4 with fail
  have HX2 : Hid (Bx7 (wC.setCell ⟨w.heap.size, 3, none⟩ (.int .i64 2)) w.heap.size 29 (.int .i64 1) (.string ⟨#[99, 112, 117]⟩) (.int .i64 5) (.int .i64 2) (.int .i64 0) (.int .i64 0) (.int .i64 0)) := Hid.mk9 (heap_setCell_same wC w.heap.size 3 _ _ (.int .i64 2) HX.out)
  have HO2 := Hid.mk9 (HO1.out.set (j := 3) HX.out (by decide) (by decide) (by decide) (.int .i64 2))
  have HS2 := Hid.mk9 (HS.out.kept (set_heap wC w.heap.size 3 (.int .i64 2) wB.heap.size (by have := HNB.out; omega)))
  have HA2 := Hid.mk9 (HA1.out.kept (set_heap wC w.heap.size 3 (.int .i64 2) (wB.heap.size + 1) (by have := HNB.out; omega)))
  have HB2 := Hid.mk9 (HB.out.setCell (p := ⟨w.heap.size, 3, none⟩) (Nat.le_refl _) (.int .i64 2))
  clear HX HO1 HS HA1 HB x0 x1 x2 x3 x4 x5 x6 f0 f1 f2 f3 f4 f5 f6
  generalize wC.setCell ⟨w.heap.size, 3, none⟩ (.int .i64 2) = wD at *
  obtain ⟨x0, x1, x2, x3, x4, x5, x6⟩ := HX2.out.cells
  obtain ⟨s0, s1, s2⟩ := HS2.out.cells
  have HC := Hid.mk9 (H2.out wD _ HO2.out)
  go_upto_region 5 with (go_at_call 10; refine HC.out.mono ?_; rintro e wE ⟨hbE, v2, rfl, B2, la2, lc2, X2, da2, dc2, rfl, hX2, hR2⟩; simp only [anV, ws2] at hX2 hR2 ⊢; (have HSE := Hid.mk9 (HS2.out.below hbE)); (obtain ⟨t0, t1, t2⟩ := HSE.out.cells); (obtain ⟨g0, g1, g2⟩ := HSE.out.frz); (have hsl : wB.heap.size < wE.heap.size := HSE.out.lt))
  have hn2 : X2.length = 1 := by have := congrArg List.length hX2; simpa [lnsX] using this
  have hO2 : OwnS wE (.agg #[.slice la2 X2.length lc2, .slice da2 1 dc2, .int .i64 0]) ws2 := ⟨B2, la2, lc2, X2, da2, dc2, rfl, hX2, hR2⟩
  rw [hn2] at hO2 ⊢
  show Code.wp _ _ _ _ ((put3 wE wB.heap.size (.slice la2 1 lc2) (.slice da2 1 dc2) (.int .i64 0)).alloc (.cells #[.int .i64 8, .bool false, .int .i64 0] 37))
  have b1 := below_alloc (put3 wE wB.heap.size (.slice la2 1 lc2) (.slice da2 1 dc2) (.int .i64 0)) (.cells #[.int .i64 8, .bool false, .int .i64 0] 37)
  have hsz : (put3 wE wB.heap.size (.slice la2 1 lc2) (.slice da2 1 dc2) (.int .i64 0)).heap.size = wE.heap.size := put3_size ..
  have HO3 := Hid.mk9 ((hO2.put HSE.out (by decide) (by decide) (by decide) (.slice la2 1 lc2) (.slice da2 1 dc2) (.int .i64 0)).below b1)
  have HS3 := Hid.mk9 ((HSE.out.set (.slice la2 1 lc2) (.slice da2 1 dc2) (.int .i64 0)).below b1)
  have HA3 := Hid.mk9 (((HA2.out.below hbE).kept (put3_else (b := wB.heap.size) (.slice la2 1 lc2) (.slice da2 1 dc2) (.int .i64 0) (by omega))).below b1)
  have hB3 := Bx3.new (put3 wE wB.heap.size (.slice la2 1 lc2) (.slice da2 1 dc2) (.int .i64 0)) 37 (.int .i64 8) (.bool false) (.int .i64 0)
  rw [hsz] at hB3
  have HB3 := Hid.mk9 hB3
  have HX3 := Hid.mk9 (((HX2.out.below hbE).kept (put3_else (b := wB.heap.size) (.slice la2 1 lc2) (.slice da2 1 dc2) (.int .i64 0) (by have := HNB.out; omega))).below b1)
  have HBe := Hid.mk9 ((put3_below (below2 HB2.out hbE) (b := wB.heap.size) (by have := HNB.out; omega) (.slice la2 1 lc2) (.slice da2 1 dc2) (.int .i64 0)).trans (b1.mono (by rw [hsz]; exact (below2 HB2.out hbE).size)))
  have HSL := Hid.mk9 hsl
  clear hX2 hR2 hO2 hn2 b1 hsz hB3 hbE hsl t0 t1 t2 g0 g1 g2 HSE HA2 HS2 HO2 HX2 HB2 HC x0 x1 x2 x3 x4 x5 x6 s0 s1 s2
  generalize (put3 wE wB.heap.size (.slice la2 1 lc2) (.slice da2 1 dc2) (.int .i64 0)).alloc (.cells #[.int .i64 8, .bool false, .int .i64 0] 37) = wF at *
  obtain ⟨x0, x1, x2, x3, x4, x5, x6⟩ := HX3.out.cells
  obtain ⟨s0, s1, s2⟩ := HS3.out.cells
  have HC := Hid.mk9 (H3.out wF _ HO3.out)
  go_upto_region 6 with (go_at_call 10; refine HC.out.mono ?_; rintro e wG ⟨hbG, v3, rfl, B3, la3, lc3, X3, da3, dc3, rfl, hX3, hR3⟩; simp only [anV, ws2] at hX3 hR3 ⊢)
  generalize X3.length = n3 at *
  have b1 := below_alloc wG (.cells #[.slice la3 n3 lc3, .slice da3 1 dc3, .int .i64 0] 25)
  have b2 := below_alloc (wG.alloc (.cells #[.slice la3 n3 lc3, .slice da3 1 dc3, .int .i64 0] 25)) (.cells #[.int .i64 8, .bool false, .int .i64 0] 37)
  have hb12 := below2 hbG (below2 b1 b2)
  have hD := Bx3.new (wG.alloc (.cells #[.slice la3 n3 lc3, .slice da3 1 dc3, .int .i64 0] 25)) 37 (.int .i64 8) (.bool false) (.int .i64 0)
  rw [show (wG.alloc (.cells #[.slice la3 n3 lc3, .slice da3 1 dc3, .int .i64 0] 25)).heap.size = wG.heap.size + 1 from by simp] at hD
  obtain ⟨d0, d1, d2⟩ := hD.cells
  obtain ⟨a0, a1, a2⟩ := (HA3.out.below hb12).cells
  obtain ⟨k0, k1, k2⟩ := (HB3.out.below hb12).cells
  obtain ⟨m0, m1, m2⟩ := (HS3.out.below hb12).cells
  have HBz := Hid.mk9 (below2 HBe.out hb12)
  clear hX3 hR3 b1 b2 hb12 hbG hD HC x0 x1 x2 x3 x4 x5 x6 s0 s1 s2
  generalize (wG.alloc (.cells #[.slice la3 n3 lc3, .slice da3 1 dc3, .int .i64 0] 25)).alloc (.cells #[.int .i64 8, .bool false, .int .i64 0] 37) = wH at *
  go_wp2_with fail
  go_ret
  exact ⟨rfl, HBz.out⟩
end Go.Proofs.YtihohcmocejijaaGreat.Bk
