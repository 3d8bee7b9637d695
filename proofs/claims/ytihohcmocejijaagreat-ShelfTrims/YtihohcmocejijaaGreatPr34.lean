/-
  Do where nothing is done; Look.
  Fold.
-/
import Derived.Test.YtihohcmocejijaaGreatPr33
namespace Go.Proofs.YtihohcmocejijaaGreat.Bk
open Go.ChangeShapes Go.WideShapes Go.ChangeAt Go.RowKit
end Go.Proofs.YtihohcmocejijaaGreat.Bk
namespace Go.Proofs.YtihohcmocejijaaGreat.Bk
open Go.ChangeShapes Go.WideShapes Go.ChangeAt Go.RowKit
def en0 : Ent := ⟨0, 0, 0, ⟨0, ⟨#[]⟩, 0, 0, 0, 0, 0⟩⟩
def EnCells (w : World) (b o : Nat) (e : Ent) : Prop := w.cell? ⟨b, o, none⟩ = some (.int .i64 e.ep) ∧ w.cell? ⟨b, o + 1, none⟩ = some (.int .i64 e.cl) ∧ w.cell? ⟨b, o + 2, none⟩ = some (.int .i64 e.id) ∧ w.cell? ⟨b, o + 3, none⟩ = some (.int .i64 e.op.k) ∧ w.cell? ⟨b, o + 4, none⟩ = some (.string e.op.s) ∧ w.cell? ⟨b, o + 5, none⟩ = some (.int .i64 e.op.t) ∧ w.cell? ⟨b, o + 6, none⟩ = some (.int .i64 e.op.v) ∧ w.cell? ⟨b, o + 7, none⟩ = some (.int .i64 e.op.f) ∧ w.cell? ⟨b, o + 8, none⟩ = some (.int .i64 e.op.u) ∧ w.cell? ⟨b, o + 9, none⟩ = some (.int .i64 e.op.m)
def EnsAt (w : World) (a : Option Addr) (len cap : Nat) (es : List Ent) : Prop :=
  es.length = len ∧ len ≤ cap ∧ cap ≤ maxLen ∧ (len = 0 ∨ ∃ b off, a = some ⟨b, off, none⟩ ∧ ∀ i, i < len → EnCells w b (off + i * 10) (es.getD i en0))
theorem EnCells.below {w w' : World} {b o : Nat} {e : Ent} (h : EnCells w b o e) (hb : Below w.heap.size w w') : EnCells w' b o e := by
  have hlt : b < w.heap.size := World.block_lt_of_cell? w ⟨b, o, none⟩ h.1
  obtain ⟨h0, h1, h2, h3, h4, h5, h6, h7, h8, h9⟩ := h
  exact ⟨(hb.cell (p := ⟨b, o, none⟩) hlt).trans h0, (hb.cell (p := ⟨b, o + 1, none⟩) hlt).trans h1, (hb.cell (p := ⟨b, o + 2, none⟩) hlt).trans h2, (hb.cell (p := ⟨b, o + 3, none⟩) hlt).trans h3, (hb.cell (p := ⟨b, o + 4, none⟩) hlt).trans h4, (hb.cell (p := ⟨b, o + 5, none⟩) hlt).trans h5, (hb.cell (p := ⟨b, o + 6, none⟩) hlt).trans h6, (hb.cell (p := ⟨b, o + 7, none⟩) hlt).trans h7, (hb.cell (p := ⟨b, o + 8, none⟩) hlt).trans h8, (hb.cell (p := ⟨b, o + 9, none⟩) hlt).trans h9⟩
theorem EnsAt.below {w w' : World} {a : Option Addr} {len cap : Nat} {es : List Ent} (h : EnsAt w a len cap es) (hb : Below w.heap.size w w') : EnsAt w' a len cap es := by
  refine ⟨h.1, h.2.1, h.2.2.1, ?_⟩
  rcases h.2.2.2 with h0 | ⟨b, off, e, hc⟩
  · exact .inl h0
  · exact .inr ⟨b, off, e, fun i hi => (hc i hi).below hb⟩
theorem EnsAt.some {w : World} {a : Option Addr} {len cap : Nat} {es : List Ent} (h : EnsAt w a len cap es) (h0 : 0 < len) :
    ∃ b off, a = Option.some ⟨b, off, none⟩ ∧ b < w.heap.size ∧ ∀ i, i < len → EnCells w b (off + i * 10) (es.getD i en0) := by
  rcases h.2.2.2 with h | ⟨b, off, e, h⟩
  · omega
  · exact ⟨b, off, e, World.block_lt_of_cell? w ⟨b, off + 0 * 10, none⟩ (h 0 h0).1, h⟩
def ShPost (s : Shf) (w : World) (x : Ending) (w' : World) : Prop := Below w.heap.size w w' ∧ ∃ v, x = .returned v ∧ OwnS w' v s
theorem foldl_next {α β : Type} (f : β → α → β) (b : β) (l : List α) (d : α) (k : Nat) (h : k < l.length) : (l.take (k + 1)).foldl f b = f ((l.take k).foldl f b) (l.getD k d) := by
  rw [List.take_succ_eq_append_getElem h, List.foldl_append, getDn h]
  rfl
set_option maxHeartbeats 4000000 in
set_option maxRecDepth 60000 in
theorem fold_any (a : Option Addr) (len cap : Nat) (es : List Ent) (w : World) (h : EnsAt w a len cap es) (h80 : (len : Int) ≤ 1000) : Calls Tryz.prog 21 #[.slice a len cap] w fun x w' => ShPost (foldS es) w x w' := by
  have hl : es.length = len := h.1
  have HE := Hid.mk9 h
  have e1' : (w.alloc (.cells #[.slice none 0 0, .slice none 0 0, .int .i64 0] 25)).heap.size = w.heap.size + 1 := by simp
  have b1 := below_alloc w (.cells #[.slice none 0 0, .slice none 0 0, .int .i64 0] 25)
  have b2 := below_alloc (w.alloc (.cells #[.slice none 0 0, .slice none 0 0, .int .i64 0] 25)) (.cells #[.slice none 0 0, .slice none 0 0, .int .i64 0] 25)
  have HB := Hid.mk9 (below2 b1 b2)
  have HR := Hid.mk9 ((Bx3.new w 25 (.slice none 0 0) (.slice none 0 0) (.int .i64 0)).below b2)
  have hO := Bx3.new (w.alloc (.cells #[.slice none 0 0, .slice none 0 0, .int .i64 0] 25)) 25 (.slice none 0 0) (.slice none 0 0) (.int .i64 0)
  rw [e1'] at hO
  have HL : Hid (LvS w.heap.size (w.heap.size + 1) shf0 ((w.alloc (.cells #[.slice none 0 0, .slice none 0 0, .int .i64 0] 25)).alloc (.cells #[.slice none 0 0, .slice none 0 0, .int .i64 0] 25))) := Hid.mk9 ⟨none, 0, [], none, 0, ⟨hO, by omega, ⟨rfl, .inl ⟨rfl, rfl⟩⟩, fun x hx => by simp at hx, ⟨rfl, .inl ⟨rfl, rfl⟩⟩⟩, rfl⟩
  clear b1 b2 e1' hO h
  go_enter Tryz.func21, Tryz.ntmps21
  go_upto_region 2 with fail
  generalize ((w.alloc (.cells #[.slice none 0 0, .slice none 0 0, .int .i64 0] 25)).alloc (.cells #[.slice none 0 0, .slice none 0 0, .int .i64 0] 25)) = wA at *
  go_wp2_with fail
  go_loopw [8] (fun si wr => ∃ k : Nat, si = .int .i64 k ∧ k ≤ len ∧ Hid (LvS w.heap.size (w.heap.size + 1) ((es.take k).foldl stepS shf0) wr) ∧ Hid (Bx3 wr w.heap.size 25 (.slice none 0 0) (.slice none 0 0) (.int .i64 0)) ∧ Hid (Below w.heap.size w wr)) (fun i _ => len - (intOf i).toNat)
  case atStart => exact ⟨0, rfl, Nat.zero_le _, HL, HR, HB⟩
  case round =>
    obtain ⟨k, rfl, hkN, hL, hR, hB⟩ := hrel
    clear HL HR HB
    by_cases hlt : k < len
    · have hk1 : (k : Int) < (len : Int) := by omega
      have hk0 : (0 : Int) ≤ (k : Int) := by omega
      obtain ⟨b, off, rfl, hbs, hcell⟩ := (HE.out.below hB.out).some (by omega)
      have HNX := Hid.mk9 (foldl_next stepS shf0 es en0 k (by omega))
      have HMY := Hid.mk9 (fold_mayS (es.take k) shf0 shf0_may)
      obtain ⟨s0, hs0⟩ : ∃ s0, (es.take k).foldl stepS shf0 = s0 := ⟨_, rfl⟩
      rw [hs0] at hL HNX HMY
      have hc := hcell k hlt
      obtain ⟨e, he⟩ : ∃ e, es.getD k en0 = e := ⟨_, rfl⟩
      rw [he] at hc HNX
      have HME := Hid.mk9 (fun W => mayEnter_any e W)
      have HEM : Hid (EntMay e ∨ ¬ EntMay e) := Hid.mk9 (Classical.em _)
      have HSY : Hid (EntMay e → stepS s0 e = (doS s0 e).1) := Hid.mk9 (fun h => by unfold stepS; rw [if_pos h])
      have HSN : Hid (¬ EntMay e → stepS s0 e = s0) := Hid.mk9 (fun h => by unfold stepS; rw [if_neg h])
      have HDE : Hid (∀ W, LvS w.heap.size (w.heap.size + 1) s0 W → Calls Tryz.prog 27 #[.pointer (some ⟨w.heap.size + 1, 0, none⟩), entV e] W fun x w' => TnPost w.heap.size (w.heap.size + 1) (doS s0 e) W x w') := Hid.mk9 (fun W hW => by
        obtain ⟨la, lc, X, da, dc, hA, hX⟩ := hW
        have hm := HMY.out.2.1
        rw [← hX] at hm
        have := doEntry_any hA hm HMY.out.2.2 e
        rw [hX] at this
        exact this)
      clear hcell hs0 he
      obtain ⟨ep, cl, id, ok, os, ot, ov, of, ou, om⟩ := e
      simp only [entV] at HME HDE
      obtain ⟨c0, c1, c2, c3, c4, c5, c6, c7, c8, c9⟩ := hc
      simp only at c0 c1 c2 c3 c4 c5 c6 c7 c8 c9
      have b1 := below_alloc wr (.cells #[.int .i64 ep, .int .i64 cl, .int .i64 id, .int .i64 ok, .string os, .int .i64 ot, .int .i64 ov, .int .i64 of, .int .i64 ou, .int .i64 om] 31)
      have HX := Hid.mk9 (Bx10.new wr 31 (.int .i64 ep) (.int .i64 cl) (.int .i64 id) (.int .i64 ok) (.string os) (.int .i64 ot) (.int .i64 ov) (.int .i64 of) (.int .i64 ou) (.int .i64 om))
      have HL1 := Hid.mk9 (hL.out.below b1)
      have HR1 := Hid.mk9 (hR.out.below b1)
      have HB1 := Hid.mk9 (hB.out.trans (b1.mono hB.out.size))
      have HWR : Hid (w.heap.size + 1 < wr.heap.size) := Hid.mk9 (by obtain ⟨_, _, _, _, _, hA, _⟩ := hL.out; exact hA.lt)
      clear b1 hL hR hB
      go_upto_region 5 with fail
      generalize (wr.alloc (.cells #[.int .i64 ep, .int .i64 cl, .int .i64 id, .int .i64 ok, .string os, .int .i64 ot, .int .i64 ov, .int .i64 of, .int .i64 ou, .int .i64 om] 31)) = wB at *
      clear c0 c1 c2 c3 c4 c5 c6 c7 c8 c9
      obtain ⟨c0, c1, c2, c3, c4, c5, c6, c7, c8, c9⟩ := HX.out.cells
      rcases HEM.out with hE | hE
      · have HC := Hid.mk9 ((HME.out wB).mono fun _ _ hp => bp_yes hp hE)
        have HS := Hid.mk9 (HNX.out.trans (HSY.out hE))
        clear hE HEM HSY HSN HNX HME
        go_upto_region 6 with (go_at_call 25; refine HC.out.mono ?_; rintro e wC ⟨rfl, hbC⟩)
        replace HX := Hid.mk9 (HX.out.below hbC)
        replace HL1 := Hid.mk9 (HL1.out.below hbC)
        replace HR1 := Hid.mk9 (HR1.out.below hbC)
        replace HB1 := Hid.mk9 (HB1.out.trans (hbC.mono HB1.out.size))
        clear hbC HC c0 c1 c2 c3 c4 c5 c6 c7 c8 c9
        obtain ⟨c0, c1, c2, c3, c4, c5, c6, c7, c8, c9⟩ := HX.out.cells
        have HC := Hid.mk9 (HDE.out wC HL1.out)
        go_wp2_with (go_at_call 27; refine HC.out.mono ?_; rintro e wD ⟨rfl, hLD, hbD, hkD⟩; (have HLD := Hid.mk9 hLD); (have HRD := Hid.mk9 (HR1.out.kp hkD (by omega) (by decide) (by decide))); (have HBD := Hid.mk9 (HB1.out.trans hbD)); clear hLD hbD hkD)
        refine ⟨⟨k + 1, by go_num, by omega, Hid.mk9 ?_, HRD, HBD⟩, by simp [intOf]; omega⟩
        rw [HS.out]
        exact HLD.out
      · have HC := Hid.mk9 ((HME.out wB).mono fun _ _ hp => bp_no hp hE)
        have HS := Hid.mk9 (HNX.out.trans (HSN.out hE))
        clear hE HEM HSY HSN HNX HME
        go_wp2_with (go_at_call 25; refine HC.out.mono ?_; rintro e wC ⟨rfl, hbC⟩; (have HLD := Hid.mk9 (HL1.out.below hbC)); (have HRD := Hid.mk9 (HR1.out.below hbC)); (have HBD := Hid.mk9 (HB1.out.trans (hbC.mono HB1.out.size))); clear hbC)
        refine ⟨⟨k + 1, by go_num, by omega, Hid.mk9 ?_, HRD, HBD⟩, by simp [intOf]; omega⟩
        rw [HS.out]
        exact HLD.out
    · have hkz : ¬ (k : Int) < (len : Int) := by omega
      have HS : Hid ((es.take k).foldl stepS shf0 = foldS es) := Hid.mk9 (by rw [List.take_of_length_le (by omega)]; rfl)
      rw [HS.out] at hL
      obtain ⟨S, hS⟩ : ∃ S, foldS es = S := ⟨_, rfl⟩
      rw [hS] at hL
      obtain ⟨la, lc, X, da, dc, hA, hX⟩ := hL.out
      obtain ⟨x0, x1, x2⟩ := hA.box.cells
      obtain ⟨r0, r1, r2⟩ := hR.out.cells
      obtain ⟨g0, g1, g2⟩ := hR.out.frz
      have HRs := Hid.mk9 (hR.out.set (.slice la X.length lc) (.slice da S.ds.length dc) (.int .i64 S.fl))
      have HF : Hid (ShPost (foldS es) w (.returned (.agg #[.slice la X.length lc, .slice da S.ds.length dc, .int .i64 S.fl])) (put3 wr w.heap.size (.slice la X.length lc) (.slice da S.ds.length dc) (.int .i64 S.fl))) := Hid.mk9 (by
        rw [hS]
        exact ⟨put3_below hB.out (Nat.le_refl _) _ _ _, _, rfl, _, _, _, X, _, _, rfl, hX, hA.rows.put hR.out (by decide) (by decide) (by decide) (.slice la X.length lc) (.slice da S.ds.length dc) (.int .i64 S.fl)⟩)
      clear hA hX hL hR hB HS hS
      go_wp2_with fail
      exact bodyPost_ret (retS rfl _ _ w.heap.size (.slice la X.length lc) (.slice da S.ds.length dc) (.int .i64 S.fl) rfl HRs.out) rfl HF.out
end Go.Proofs.YtihohcmocejijaaGreat.Bk
