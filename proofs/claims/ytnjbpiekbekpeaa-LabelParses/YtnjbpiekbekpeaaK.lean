/-
  The contract of Parse, walked.
-/
import Derived.Test.YtnjbpiekbekpeaaJ
namespace Go.Proofs.Ytnjbpiekbekpeaa
open Go.ChangeShapes Go.WideShapes Go.ChangeAt Go.RowKit
theorem parse_no {w w' : World} {s : ByteArray} (hb : Below w.heap.size w w') (h : ∀ nm ls, ¬ ParsesTo s nm ls) : ParsePost w s (.returned (.tuple #[noSer, .int .i64 2])) w' := ⟨hb, .inr ⟨rfl, h⟩⟩
/-- the reader's labels, sorted -/
theorem rd_sorted {B R : Nat} {p : Nat} {wd : List UInt8} {ln sn : ByteArray} {ls ls' : List Lab} {w w' : World} {lv : Value} (h : RdAt B R (p, wd, ln, sn, ls) w) (h5 : w.cell? ⟨R, 5, none⟩ = some lv) (hg : w.grownBy w' lv.ownBlock) (hl : ls'.length = ls.length) (hown : w'.ownsRow B 46 2 lv ls.length (cellsLb ls')) :
    RdAt B R (p, wd, ln, sn, ls') w' ∧ Below B w w' ∧ Kp R w w' := by
  obtain ⟨cs, hb, c0, c3, c4, lv', c5, hownL⟩ := h
  have hh := hb.2.2.2.1
  have hlv : lv' = lv := by
    rw [Lib.cell_of_heap hh, c5] at h5
    exact Option.some.inj h5
  subst hlv
  obtain ⟨hP, hB, hBw, _, hp, v, hv, hownF, hnv, hnil⟩ := hb
  have hRlt : R < w.heap.size := (Array.getElem?_eq_some_iff.1 hh).1
  have hkind := own_kind hownL
  have hRne : some R ≠ lv'.ownBlock := fun e => by
    obtain ⟨c, hc⟩ := hkind R e.symm
    rw [hh] at hc
    cases hc
  have hsg := hg.size
  have hF3 : w'.ownsRowF B 5 1 v wd.length (Lib.byteCells wd) := by
    by_cases hn : v.ownBlock = none
    · exact Go.World.ownsRowF.kept hownF hg (.inl hn)
    · refine Go.World.ownsRowF.kept hownF hg (.inr fun e => ?_)
      cases hvb : v.ownBlock with
      | none => exact hn hvb
      | some g =>
        obtain ⟨c, fz, hc⟩ := Lib.ownsRowF_kind hownF g hvb
        obtain ⟨c', hc'⟩ := hkind g (by rw [← e, hvb])
        rw [hc] at hc'
        cases hc'
  refine ⟨⟨cs, ⟨hP, hB, by omega, (hg.block R hRlt hRne).trans hh, hp, v, hv, hF3, hnv, hnil⟩, c0, c3, c4, lv', c5, by show w'.ownsRow B 46 2 lv' ls'.length (cellsLb ls'); rw [hl]; exact hown⟩, ?_, ?_⟩
  · exact (Below.refl B w).grown hg hBw (fun k hk => (hownL.lt k hk).1)
  · intro k o hk hr h5' h46
    have hlt : k < w.heap.size := (Array.getElem?_eq_some_iff.1 hk).1
    rw [hg.block k hlt (fun e => by
      obtain ⟨c, hc⟩ := hkind k e.symm
      rw [hk] at hc
      exact h46 _ _ (Option.some.inj hc))]
    exact hk
theorem own_form {w : World} {B : Nat} {v : Value} {n : Nat} {xs : List Value} (h : w.ownsRow B 46 2 v n xs) : ∃ a cap, v = .slice a n cap := by
  rcases h.2 with ⟨rfl, h0⟩ | ⟨g, cap, cur, rfl, _⟩
  · exact ⟨none, 0, by rw [h0]⟩
  · exact ⟨_, _, rfl⟩
theorem rd_place {B R : Nat} {p : Nat} {wd : List UInt8} {r : ByteArray × ByteArray × List Lab} {w : World} (h : RdAt B R (p, wd, r) w) (q : Nat) : RPost B R (q, wd, r) w (w.setCell ⟨R, 0, none⟩ (.int .i64 ((q : Nat) : Int))) := by
  obtain ⟨cs, hb, c0, c3, c4, lv, c5, hown⟩ := h
  have hh := hb.2.2.2.1
  have hsz : cs.size = 6 := by rcases hb.1 with ⟨h, _⟩ | ⟨_, h, _⟩
                               · cases h
                               · exact h
  exact ⟨⟨_, hb.other 0 _ (by decide) (by decide), by rw [Array.getElem?_setIfInBounds, if_pos rfl, if_pos (by omega)], by simpa using c3, by simpa using c4, lv, by simpa using c5, own_set hh hown _ _⟩, (Below.refl B w).setCell (p := ⟨R, 0, none⟩) hb.2.1 _, Kp.setCell _ _ _ _⟩
theorem ser_set {w : World} {v : Value} {nm : ByteArray} {ls : List Lab} {a : Option Addr} {len cap : Nat} (h : SerAt w v nm ls) (hv : v = .agg #[.string nm, .slice a len cap]) {b : Nat} (hne : ∀ x, a = some x → x.block ≠ b) (i j : Nat) (x y : Value) :
    SerAt ((w.setCell ⟨b, i, none⟩ x).setCell ⟨b, j, none⟩ y) v nm ls := by
  obtain ⟨a', len', cap', rfl, h1, h2, h3⟩ := h
  injection hv with hv
  have e2 : Value.slice a' len' cap' = .slice a len cap := by
    have := congrArg (fun z => z[1]?) hv
    simpa using this
  injection e2 with e2 _ _
  subst e2
  refine ⟨a', len', cap', rfl, ⟨h1.1, h1.2.1, h1.2.2.1, ?_⟩, h2, h3⟩
  rcases h1.2.2.2 with h0 | ⟨b', off, e, hc⟩
  · exact .inl h0
  · refine .inr ⟨b', off, e, fun k hk => ?_⟩
    have hb := hne _ e
    obtain ⟨g0, g1⟩ := hc k hk
    constructor
    · rw [World.cell?_setCell_other _ _ _ _ (by intro hh; exact hb (congrArg Addr.block hh).symm), World.cell?_setCell_other _ _ _ _ (by intro hh; exact hb (congrArg Addr.block hh).symm)]; exact g0
    · rw [World.cell?_setCell_other _ _ _ _ (by intro hh; exact hb (congrArg Addr.block hh).symm), World.cell?_setCell_other _ _ _ _ (by intro hh; exact hb (congrArg Addr.block hh).symm)]; exact g1
set_option maxHeartbeats 8000000 in
set_option maxRecDepth 20000 in
theorem parse_any (s : ByteArray) (w : World) :
    Calls Try.prog 13 #[.string s] w fun e w' => ParsePost w s e w' := by
  go_enter Try.func13, Try.ntmps13
  go_wp2
  generalize hw1 : w.alloc (.cells #[.string ⟨#[]⟩, .slice none 0 0] 24) = w1 at *
  have B1 : Below w.heap.size w w1 := by rw [← hw1]; exact below_alloc _ _
  have hc0 : w1.cell? ⟨w.heap.size, 0, none⟩ = some (.string ⟨#[]⟩) := by rw [← hw1]; simp
  have hc1 : w1.cell? ⟨w.heap.size, 1, none⟩ = some (.slice none 0 0) := by rw [← hw1]; simp
  have hf0 : w1.frozen? ⟨w.heap.size, 0, none⟩ = false := by rw [← hw1]; simp
  have hf1 : w1.frozen? ⟨w.heap.size, 1, none⟩ = false := by rw [← hw1]; simp
  have hs1 : w.heap.size < w1.heap.size := by rw [← hw1]; simp
  have hs1' : w1.heap.size = w.heap.size + 1 := by rw [← hw1]; simp
  clear hw1
  generalize hRR : w.heap.size + 1 = R at *
  have RD0 : RdAt R R st0 (w1.alloc (.cells #[.int .i64 0, .pointer none, .slice none 0 0, .string ⟨#[]⟩, .string ⟨#[]⟩, .slice none 0 0] 60)) := by
    refine ⟨_, ⟨.inr ⟨rfl, rfl, rfl⟩, Nat.le_refl _, by simp; omega, by rw [← hs1']; exact heap_alloc_new _ _, .inl rfl, .slice none 0 0, rfl, World.ownsRowF_nil _ _ _ _, by simp [Value.ownBlock], fun _ => rfl⟩, rfl, rfl, rfl, .slice none 0 0, rfl, World.ownsRow_nil _ _ _ _⟩
  have B2 : Below R w1 (w1.alloc (.cells #[.int .i64 0, .pointer none, .slice none 0 0, .string ⟨#[]⟩, .string ⟨#[]⟩, .slice none 0 0] 60)) := (Below.refl _ _).alloc (by omega) _
  have hs2 : (w1.alloc (.cells #[.int .i64 0, .pointer none, .slice none 0 0, .string ⟨#[]⟩, .string ⟨#[]⟩, .slice none 0 0] 60)).heap.size = R + 1 := by simp; omega
  generalize w1.alloc (.cells #[.int .i64 0, .pointer none, .slice none 0 0, .string ⟨#[]⟩, .string ⟨#[]⟩, .slice none 0 0] 60) = w2 at *
  have KB : Hid (∀ wr, Below R w1 wr → (wr.cell? ⟨w.heap.size, 0, none⟩ = some (.string ⟨#[]⟩) ∧ wr.cell? ⟨w.heap.size, 1, none⟩ = some (.slice none 0 0)) ∧ (wr.frozen? ⟨w.heap.size, 0, none⟩ = false ∧ wr.frozen? ⟨w.heap.size, 1, none⟩ = false) ∧ Below w.heap.size w wr) := fun wr hb => by
    have h0 : w.heap.size < R := by omega
    exact ⟨⟨(hb.cell (p := ⟨w.heap.size, 0, none⟩) h0).trans hc0, (hb.cell (p := ⟨w.heap.size, 1, none⟩) h0).trans hc1⟩, ⟨(hb.frozen (p := ⟨w.heap.size, 0, none⟩) h0).trans hf0, (hb.frozen (p := ⟨w.heap.size, 1, none⟩) h0).trans hf1⟩, B1.trans (hb.mono (by omega))⟩
  have hit0 : (w2.iter s 0).heap[R + 1]? = some (.stringIter s 0) := by
    have := World.iter_heap w2 s 0
    rw [hs2] at this
    exact this
  have RD1 : RdAt R R st0 (w2.iter s 0) := RD0.alloc (.stringIter s 0)
  have B3 : Below R w1 (w2.iter s 0) := B2.alloc (by omega) (.stringIter s 0)
  generalize w2.iter s 0 = w3 at *
  clear hc0 hc1 hf0 hf1 RD0 B2
  go_loopw [] (fun wr => ∃ (pos f p : Nat) (wd : List UInt8) (ln sn : ByteArray) (ls : List Lab), wr.heap[R + 1]? = some (.stringIter s pos) ∧ Below R w1 wr ∧ RdAt R R (p, wd, ln, sn, ls) wr ∧ Hid ((p ≤ 6 ∧ ls.length ≤ 4) ∧ ShortSt (p, wd, ln, sn, ls) ∧ runS s f pos (p, wd, ln, sn, ls) = runS s s.size 0 st0 ∧ s.size ≤ pos + f)) (fun wr => s.size - wr.iterPos (R + 1))
  case atStart => exact ⟨0, s.size, 0, [], ⟨#[]⟩, ⟨#[]⟩, [], hit0, B3, RD1, ⟨by decide, by decide⟩, ⟨by simp, by decide, by decide, by simp⟩, rfl, by omega⟩
  case round =>
    obtain ⟨pos, f, p, wd, ln, sn, ls, hit, hbel, hrd, hT⟩ := hrel
    by_cases hp : pos < s.size
    · have hnx : ∀ ty, (Instr.next (.pointer (some ⟨R + 1, 0, none⟩)) true ty).run Try.prog wr = _ := fun ty => Lib.run_next_any_at wr (R + 1) s pos ty hit hp
      have hwd := width_pos s pos hp
      have hd1 := decode_le s pos
      have hrd2 := hrd.iterAt hit (pos + (Utf8.decode s pos).2)
      have hit2 := Lib.iterAt_heap wr (R + 1) s pos (pos + (Utf8.decode s pos).2) hit
      have hbel2 := Lib.below_iterAt hbel (k := R + 1) (by omega) s (pos + (Utf8.decode s pos).2)
      have hmp : wr.iterPos (R + 1) = pos := by simp only [World.iterPos, hit]
      have HRUN : Hid (∃ f', f = f' + 1 ∧ runS s f pos (p, wd, ln, sn, ls) = (stepS (p, wd, ln, sn, ls) ((Utf8.decode s pos).1 : Int)).bind (runS s f' (pos + (Utf8.decode s pos).2))) := by
        have := hT.out.2.2.2
        refine ⟨f - 1, by omega, ?_⟩
        obtain ⟨f', rfl⟩ : ∃ f', f = f' + 1 := ⟨f - 1, by omega⟩
        simp [runS, hp]
      generalize wr.iterAt (R + 1) s (pos + (Utf8.decode s pos).2) = wx at *
      generalize (Utf8.decode s pos).2 = wid at *
      generalize (Utf8.decode s pos).1 = rn at *
      clear hrd hbel hit
      go_wp2_with fail
      refine (take_any _ hrd2 hT.out.1.1 hT.out.1.2 (rn : Int) (by omega) (by omega)).mono ?_
      rintro e w4 ⟨hb4, hk4, ⟨ho, rfl⟩ | ⟨st, ho, rfl, hrd4⟩⟩
      · have HNO : Hid (∀ nm ls, ¬ ParsesTo s nm ls) := fun nm ls' ⟨st, hst, _⟩ => by
          obtain ⟨f', _, hr⟩ := HRUN.out
          rw [ho] at hr
          rw [← hT.out.2.2.1, hr] at hst
          cases hst
        obtain ⟨⟨c0, c1⟩, ⟨f0, f1⟩, hbw⟩ := KB.out w4 (hbel2.trans hb4)
        clear hrd2 hk4 HRUN hT ho hb4
        go_wp2
        try simp only [Exit.inBlock, Exit.then]
        refine bodyPost_ret (ret_pair rfl _ _ w.heap.size _ _ rfl (two_set c0 c1 _ _).1 (two_set c0 c1 _ _).2) rfl ?_
        exact parse_no ((hbw.setCell (Nat.le_refl _) _).setCell (Nat.le_refl _) _) HNO.out
      · obtain ⟨p4, wd4, ln4, sn4, ls4⟩ := st
        have hit4 : w4.heap[R + 1]? = some (.stringIter s (pos + wid)) := hk4 _ _ hit2 (by omega) (by intro c fz h; cases h) (by intro c fz h; cases h)
        have HT4 : Hid (∃ f', (p4 ≤ 6 ∧ ls4.length ≤ 4) ∧ ShortSt (p4, wd4, ln4, sn4, ls4) ∧ runS s f' (pos + wid) (p4, wd4, ln4, sn4, ls4) = runS s s.size 0 st0 ∧ s.size ≤ pos + wid + f') := by
          obtain ⟨f', hf', hr⟩ := HRUN.out
          refine ⟨f', stepS_ok hT.out.1.1 hT.out.1.2 ho, stepS_short hT.out.2.1 ho, ?_, ?_⟩
          · rw [← hT.out.2.2.1, hr, ho]; rfl
          · have := hT.out.2.2.2; omega
        have hb04 := hbel2.trans hb4
        clear hrd2 hk4 HRUN hT ho hb4 hit2 hbel2
        go_wp2
        obtain ⟨f', h4⟩ := HT4.out
        refine ⟨⟨pos + wid, f', p4, wd4, ln4, sn4, ls4, hit4, hb04, hrd4, h4⟩, ?_⟩
        rw [hmp]
        simp only [World.iterPos, hit4]
        omega
    · have hnx : ∀ ty, (Instr.next (.pointer (some ⟨R + 1, 0, none⟩)) true ty).run Try.prog wr = _ := fun ty => Lib.run_next_end_at wr (R + 1) s pos ty hit hp
      have HR : Hid (runS s s.size 0 st0 = some (p, wd, ln, sn, ls)) := by
        show _ = _
        rw [← hT.out.2.2.1, runS_end _ _ _ _ hp]
      have HSH := hT.out.2.1
      have hl4 := hT.out.1.2
      clear hT hit
      by_cases hp0 : p = 0
      · subst hp0
        have HSH' : ShortSt (6, [], ln, baL wd, ls) := ⟨by simp, HSH.2.1, by rw [baL_size]; exact HSH.1, HSH.2.2.2⟩
        obtain ⟨lv0, ⟨a0, -, -, -⟩, -, -⟩ := hrd.cells
        simp only at a0
        go_wp2_with fail
        refine (endWord_any _ hrd).mono ?_
        rintro e w4 ⟨rfl, hp4, _, _⟩
        obtain ⟨lv1, ⟨k0, k3, k4, -⟩, ⟨g0, g3, g4, -⟩, -⟩ := hp4.1.cells
        simp only at k0 k3 k4
        have hp5 := hp4.trans (RdAt.set4 hp4.1 (baL wd))
        obtain ⟨lv2, ⟨m0, -, -, -⟩, ⟨n0, -, -, -⟩, -⟩ := hp5.1.cells
        simp only at m0
        have hp6 : RPost R R (6, [], ln, baL wd, ls) wr ((w4.setCell ⟨R, 4, none⟩ (.string (baL wd))).setCell ⟨R, 0, none⟩ (.int .i64 6)) := hp5.trans (rd_place hp5.1 6)
        have hb6 := hbel.trans hp6.2.1
        have hrd6 := hp6.1
        obtain ⟨lv, ⟨c0, -, c4, c5⟩, -, hown⟩ := (hrd6).cells
        simp only at c0 c4 c5 hown
        obtain ⟨al, capl, hlv⟩ := own_form hown
        subst hlv
        go_wp2_with fail
        refine (sortLabels_any _ ls _ hown (by omega)).mono ?_
        rintro e w5 ⟨rfl, ⟨ls', hperm, hsort, hown5⟩, hg5⟩
        have hll : ls'.length = ls.length := hperm.length_eq
        obtain ⟨hrd5, hb5, _⟩ := rd_sorted (hrd6) c5 hg5 hll hown5
        obtain ⟨lv5, ⟨d0, -, d4, d5⟩, -, -⟩ := hrd5.cells
        simp only at d0 d4 d5
        have hlv5 : lv5 = .slice al ls.length capl := by
          have hx : w5.cell? ⟨R, 5, none⟩ = ((w4.setCell ⟨R, 4, none⟩ (.string (baL wd))).setCell ⟨R, 0, none⟩ (.int .i64 6)).cell? ⟨R, 5, none⟩ := by
            have hRne : some R ≠ (Value.slice al ls.length capl).ownBlock := fun e => by
              obtain ⟨c, hc⟩ := own_kind hown R e.symm
              rw [(hrd6).choose_spec.1.2.2.2.1] at hc
              cases hc
            exact World.cell?_of_block (hg5.block R ((Array.getElem?_eq_some_iff.1 (hrd6).choose_spec.1.2.2.2.1).1) hRne)
          rw [d5, c5] at hx
          exact Option.some.inj hx
        subst hlv5
        have hb05 := (hb6).trans hb5
        obtain ⟨⟨x0, x1⟩, ⟨y0, y1⟩, hbw5⟩ := KB.out w5 hb05
        have HSER : Hid (SerAt w5 (.agg #[.string (baL wd), .slice al ls.length capl]) (baL wd) ls') := by
          have hown5' : w5.ownsRow R 46 2 (.slice al ls.length capl) ls'.length (cellsLb ls') := by rw [hll]; exact hown5
          obtain ⟨a6, cap6, e6, hL6⟩ := labs_own hown5'
          injection e6 with e1 e2 e3
          subst e1 e3
          exact ⟨al, ls.length, capl, rfl, by rw [hll] at hL6; exact hL6, Nat.le_trans HSH'.2.2.1 (by unfold maxLen; decide), fun x hx => by
            have := HSH'.2.2.2 x (hperm.subset hx)
            exact ⟨Nat.le_trans this.1 (by unfold maxLen; decide), Nat.le_trans this.2 (by unfold maxLen; decide)⟩⟩
        have HLOW : Hid (∀ x, al = some x → R ≤ x.block) := fun x hx => by
          subst hx
          exact (hown5.lt x.block rfl).1
        have HPS : Hid (ls'.Perm ls ∧ SortedL ls') := ⟨hperm, hsort⟩
        have hsz5 : R < w5.heap.size := (Array.getElem?_eq_some_iff.1 hrd5.choose_spec.1.2.2.2.1).1
        clear hperm hsort hown5 hg5 hrd5 hown c0 c4 c5
        have HPT : Hid (∀ nm ls2, ParsesTo s nm ls2 ↔ nm = (baL wd) ∧ ls2.Perm ls ∧ SortedL ls2 ∧ MayS nm ls2) := fun nm ls2 => by
          constructor
          · rintro ⟨st, h1, h2, h3, h4, h5, h6⟩
            rw [HR.out] at h1
            obtain rfl := Option.some.inj h1
            exact ⟨h3, h4, h5, h6⟩
          · rintro ⟨h3, h4, h5, h6⟩
            exact ⟨_, HR.out, rfl, h3, h4, h5, h6⟩
        go_wp2_with fail
        refine (check_any _ (baL wd) ls' _ HSER.out).mono ?_
        rintro e w6 ⟨hb6, ⟨rfl, hM⟩ | ⟨rfl, hM⟩⟩
        · have z4 : w6.cell? ⟨R, 4, none⟩ = some (.string (baL wd)) := (hb6.cell (p := ⟨R, 4, none⟩) hsz5).trans d4
          have z5 : w6.cell? ⟨R, 5, none⟩ = some (.slice al ls.length capl) := (hb6.cell (p := ⟨R, 5, none⟩) hsz5).trans d5
          obtain ⟨⟨q0, q1⟩, ⟨r0, r1⟩, hbw6⟩ := KB.out w6 (hb05.trans (hb6.mono (by omega)))
          have HTO : Hid (ParsesTo s (baL wd) ls') := (HPT.out _ _).2 ⟨rfl, HPS.out.1, HPS.out.2, hM⟩
          have HS6 : Hid (SerAt w6 (.agg #[.string (baL wd), .slice al ls.length capl]) (baL wd) ls') := HSER.out.below hb6
          clear hM HPT HSER
          go_wp2
          try simp only [Exit.inBlock, Exit.then]
          refine bodyPost_ret (ret_pair rfl _ _ w.heap.size _ _ rfl (two_set q0 q1 _ _).1 (two_set q0 q1 _ _).2) rfl ?_
          refine ⟨(hbw6.setCell (Nat.le_refl _) _).setCell (Nat.le_refl _) _, .inl ⟨_, (baL wd), ls', rfl, ?_, HTO.out⟩⟩
          exact ser_set HS6.out rfl (fun x hx => by have := HLOW.out x hx; omega) _ _ _ _
        · have HNO : Hid (∀ nm ls, ¬ ParsesTo s nm ls) := fun nm ls2 hP => by
            obtain ⟨rfl, hp2, hs2, hM2⟩ := (HPT.out _ _).1 hP
            have := uniq (hp2.trans HPS.out.1.symm) (may_pair hM2) HPS.out.2.pair
            subst this
            exact hM hM2
          obtain ⟨⟨q0, q1⟩, ⟨r0, r1⟩, hbw6⟩ := KB.out w6 (hb05.trans (hb6.mono (by omega)))
          clear hM HPT HSER
          go_wp2
          try simp only [Exit.inBlock, Exit.then]
          refine bodyPost_ret (ret_pair rfl _ _ w.heap.size _ _ rfl (two_set q0 q1 _ _).1 (two_set q0 q1 _ _).2) rfl ?_
          exact parse_no ((hbw6.setCell (Nat.le_refl _) _).setCell (Nat.le_refl _) _) HNO.out
      · have HSH' := HSH
        have hp0' : ((p : Int) == 0) = false := by simp; omega
        obtain ⟨lv, ⟨c0, -, c4, c5⟩, -, hown⟩ := (hrd).cells
        simp only at c0 c4 c5 hown
        obtain ⟨al, capl, hlv⟩ := own_form hown
        subst hlv
        go_wp2_with fail
        refine (sortLabels_any _ ls _ hown (by omega)).mono ?_
        rintro e w5 ⟨rfl, ⟨ls', hperm, hsort, hown5⟩, hg5⟩
        have hll : ls'.length = ls.length := hperm.length_eq
        obtain ⟨hrd5, hb5, _⟩ := rd_sorted (hrd) c5 hg5 hll hown5
        obtain ⟨lv5, ⟨d0, -, d4, d5⟩, -, -⟩ := hrd5.cells
        simp only at d0 d4 d5
        have hlv5 : lv5 = .slice al ls.length capl := by
          have hx : w5.cell? ⟨R, 5, none⟩ = wr.cell? ⟨R, 5, none⟩ := by
            have hRne : some R ≠ (Value.slice al ls.length capl).ownBlock := fun e => by
              obtain ⟨c, hc⟩ := own_kind hown R e.symm
              rw [(hrd).choose_spec.1.2.2.2.1] at hc
              cases hc
            exact World.cell?_of_block (hg5.block R ((Array.getElem?_eq_some_iff.1 (hrd).choose_spec.1.2.2.2.1).1) hRne)
          rw [d5, c5] at hx
          exact Option.some.inj hx
        subst hlv5
        have hb05 := (hbel).trans hb5
        obtain ⟨⟨x0, x1⟩, ⟨y0, y1⟩, hbw5⟩ := KB.out w5 hb05
        have HSER : Hid (SerAt w5 (.agg #[.string sn, .slice al ls.length capl]) sn ls') := by
          have hown5' : w5.ownsRow R 46 2 (.slice al ls.length capl) ls'.length (cellsLb ls') := by rw [hll]; exact hown5
          obtain ⟨a6, cap6, e6, hL6⟩ := labs_own hown5'
          injection e6 with e1 e2 e3
          subst e1 e3
          exact ⟨al, ls.length, capl, rfl, by rw [hll] at hL6; exact hL6, Nat.le_trans HSH'.2.2.1 (by unfold maxLen; decide), fun x hx => by
            have := HSH'.2.2.2 x (hperm.subset hx)
            exact ⟨Nat.le_trans this.1 (by unfold maxLen; decide), Nat.le_trans this.2 (by unfold maxLen; decide)⟩⟩
        have HLOW : Hid (∀ x, al = some x → R ≤ x.block) := fun x hx => by
          subst hx
          exact (hown5.lt x.block rfl).1
        have HPS : Hid (ls'.Perm ls ∧ SortedL ls') := ⟨hperm, hsort⟩
        have hsz5 : R < w5.heap.size := (Array.getElem?_eq_some_iff.1 hrd5.choose_spec.1.2.2.2.1).1
        clear hperm hsort hown5 hg5 hrd5 hown c0 c4 c5
        by_cases hp6 : p = 6
        · subst hp6
          have HPT : Hid (∀ nm ls2, ParsesTo s nm ls2 ↔ nm = sn ∧ ls2.Perm ls ∧ SortedL ls2 ∧ MayS nm ls2) := fun nm ls2 => by
            constructor
            · rintro ⟨st, h1, h2, h3, h4, h5, h6⟩
              rw [HR.out] at h1
              obtain rfl := Option.some.inj h1
              exact ⟨h3, h4, h5, h6⟩
            · rintro ⟨h3, h4, h5, h6⟩
              exact ⟨_, HR.out, rfl, h3, h4, h5, h6⟩
          go_wp2_with fail
          refine (check_any _ sn ls' _ HSER.out).mono ?_
          rintro e w6 ⟨hb6, ⟨rfl, hM⟩ | ⟨rfl, hM⟩⟩
          · have z4 : w6.cell? ⟨R, 4, none⟩ = some (.string sn) := (hb6.cell (p := ⟨R, 4, none⟩) hsz5).trans d4
            have z5 : w6.cell? ⟨R, 5, none⟩ = some (.slice al ls.length capl) := (hb6.cell (p := ⟨R, 5, none⟩) hsz5).trans d5
            obtain ⟨⟨q0, q1⟩, ⟨r0, r1⟩, hbw6⟩ := KB.out w6 (hb05.trans (hb6.mono (by omega)))
            have HTO : Hid (ParsesTo s sn ls') := (HPT.out _ _).2 ⟨rfl, HPS.out.1, HPS.out.2, hM⟩
            have HS6 : Hid (SerAt w6 (.agg #[.string sn, .slice al ls.length capl]) sn ls') := HSER.out.below hb6
            clear hM HPT HSER
            go_wp2
            try simp only [Exit.inBlock, Exit.then]
            refine bodyPost_ret (ret_pair rfl _ _ w.heap.size _ _ rfl (two_set q0 q1 _ _).1 (two_set q0 q1 _ _).2) rfl ?_
            refine ⟨(hbw6.setCell (Nat.le_refl _) _).setCell (Nat.le_refl _) _, .inl ⟨_, sn, ls', rfl, ?_, HTO.out⟩⟩
            exact ser_set HS6.out rfl (fun x hx => by have := HLOW.out x hx; omega) _ _ _ _
          · have HNO : Hid (∀ nm ls, ¬ ParsesTo s nm ls) := fun nm ls2 hP => by
              obtain ⟨rfl, hp2, hs2, hM2⟩ := (HPT.out _ _).1 hP
              have := uniq (hp2.trans HPS.out.1.symm) (may_pair hM2) HPS.out.2.pair
              subst this
              exact hM hM2
            obtain ⟨⟨q0, q1⟩, ⟨r0, r1⟩, hbw6⟩ := KB.out w6 (hb05.trans (hb6.mono (by omega)))
            clear hM HPT HSER
            go_wp2
            try simp only [Exit.inBlock, Exit.then]
            refine bodyPost_ret (ret_pair rfl _ _ w.heap.size _ _ rfl (two_set q0 q1 _ _).1 (two_set q0 q1 _ _).2) rfl ?_
            exact parse_no ((hbw6.setCell (Nat.le_refl _) _).setCell (Nat.le_refl _) _) HNO.out
        · have hp6' : ((p : Int) != 6) = true := by simp; omega
          have HNO : Hid (∀ nm ls, ¬ ParsesTo s nm ls) := fun nm ls2 ⟨st, h1, h2, _⟩ => by
            rw [HR.out] at h1
            obtain rfl := Option.some.inj h1
            unfold endS at h2
            rw [if_neg hp0] at h2
            exact hp6 h2
          clear HSER
          go_wp2
          try simp only [Exit.inBlock, Exit.then]
          refine bodyPost_ret (ret_pair rfl _ _ w.heap.size _ _ rfl (two_set x0 x1 _ _).1 (two_set x0 x1 _ _).2) rfl ?_
          exact parse_no ((hbw5.setCell (Nat.le_refl _) _).setCell (Nat.le_refl _) _) HNO.out
end Go.Proofs.Ytnjbpiekbekpeaa
