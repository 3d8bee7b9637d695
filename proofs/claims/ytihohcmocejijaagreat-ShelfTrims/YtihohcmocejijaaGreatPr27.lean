/-
  asked, mayBeDone, CheckOp: which ops may be.
  The contracts of slices.MinFunc and slices.MaxFunc over samples, by their values.
-/
import Derived.Test.YtihohcmocejijaaGreatPr24
import Derived.Test.YtihohcmocejijaaGreatPr25
import Derived.Test.YtihohcmocejijaaGreatPr26
import Derived.Test.YtihohcmocejijaaGreatPr20
namespace Go.Proofs.YtihohcmocejijaaGreat.Bk
open Go.ChangeShapes Go.WideShapes Go.ChangeAt Go.RowKit
theorem opMay_iff (o : Opp) : OpMay o ↔ o = askP o ∧ DoneP o := by
  obtain ⟨k, s, t, v, f, u, m⟩ := o
  unfold OpMay askP DoneP
  by_cases h1 : k = 1
  · subst h1; simp; constructor
    · rintro ⟨a, b, c, d, e⟩; exact ⟨⟨c, d, e⟩, a, b⟩
    · rintro ⟨⟨c, d, e⟩, a, b⟩; exact ⟨a, b, c, d, e⟩
  · by_cases h2 : k = 2
    · subst h2; simp; constructor
      · rintro ⟨a, b, c, d, e, g, h⟩; exact ⟨⟨a, b, c, d, e⟩, g, h⟩
      · rintro ⟨⟨a, b, c, d, e⟩, g, h⟩; exact ⟨a, b, c, d, e, g, h⟩
    · by_cases h3 : k = 3
      · subst h3; simp; constructor
        · rintro ⟨a, b, c, d, e⟩; exact ⟨⟨b, c⟩, a, d, e⟩
        · rintro ⟨⟨b, c⟩, a, d, e⟩; exact ⟨a, b, c, d, e⟩
      · by_cases h4 : k = 4
        · subst h4; simp; constructor
          · rintro ⟨a, b, c, d, e⟩; exact ⟨⟨b, c, d, e⟩, a⟩
          · rintro ⟨⟨b, c, d, e⟩, a⟩; exact ⟨a, b, c, d, e⟩
        · simp [h1, h2, h3, h4]
theorem opp_eq (k k' : Int) (s s' : ByteArray) (t t' v v' f f' u u' m m' : Int) : (k == k' && (s.toList == s'.toList && ((t == t' && v == v') && (f == f' && (u == u' && m == m'))))) = true ↔ (⟨k, s, t, v, f, u, m⟩ : Opp) = ⟨k', s', t', v', f', u', m'⟩ := by
  have e := Lb.eqB s s'
  rw [e]
  simp only [Bool.and_eq_true, beq_iff_eq, decide_eq_true_iff, Opp.mk.injEq]
  constructor
  · rintro ⟨a, b, ⟨c, d⟩, g, h, i⟩; exact ⟨a, b, c, d, g, h, i⟩
  · rintro ⟨a, b, c, d, g, h, i⟩; exact ⟨a, b, ⟨c, d⟩, g, h, i⟩
set_option maxHeartbeats 4000000 in
set_option maxRecDepth 60000 in
theorem checkOp_any (o : Opp) (w : World) : Calls Tryz.prog 13 #[opV o] w fun e w' => ErrPost (OpMay o) w e w' := by
  have HA0 : Hid (∀ W, Calls Tryz.prog 34 #[opV o] W fun e w' => e = .returned (opV (askP o)) ∧ Below W.heap.size W w') := fun W => asked_any o W
  have HM : Hid (∀ W, Calls Tryz.prog 35 #[opV o] W fun e w' => BoolPost (DoneP o) W e w') := fun W => mayBeDone_any o W
  have HI := Hid.mk9 (opMay_iff o)
  generalize DoneP o = P at *
  generalize OpMay o = R at *
  generalize askP o = o' at *
  obtain ⟨k, s, t, v, f, u, m⟩ := o
  obtain ⟨k', s', t', v', f', u', m'⟩ := o'
  have HE := Hid.mk9 (opp_eq k k' s s' t t' v v' f f' u u' m m')
  unfold opV at *
  have HB := Hid.mk9 (below_alloc w (.cells #[.int .i64 k, .string s, .int .i64 t, .int .i64 v, .int .i64 f, .int .i64 u, .int .i64 m] 29))
  have HX := Hid.mk9 (Bx7.new w 29 (.int .i64 k) (.string s) (.int .i64 t) (.int .i64 v) (.int .i64 f) (.int .i64 u) (.int .i64 m))
  go_enter Tryz.func13, Tryz.ntmps13
  go_upto_region 1 with fail
  by_cases he : (k == k' && (s.toList == s'.toList && ((t == t' && v == v') && (f == f' && (u == u' && m == m'))))) = true
  · have hne : (!(k == k' && (s.toList == s'.toList && ((t == t' && v == v') && (f == f' && (u == u' && m == m')))))) = false := by rw [he]; rfl
    have HI2 : Hid (R ↔ P) := Hid.mk9 (by rw [HI.out, ← HE.out]; exact ⟨fun h => h.2, fun h => ⟨he, h⟩⟩)
    refine co_yes _ _ _ _ _ _ _ _ _ _ _ w.heap.size s s' k k' t t' v v' f f' u u' m m' P _ _ HX.out HA0 hne HM (Hid.mk9 (fun u3 u4 u5 u6 u7 u8 u9 u10 q wC hbC hq => ?_))
    have HB2 := Hid.mk9 (below2 HB.out hbC)
    cases q with
    | true =>
      have HR := Hid.mk9 (HI2.out.2 (hq.1 rfl))
      clear hbC hq hne he
      go_wp2_with fail
      go_ret
      exact ⟨HB2.out, .inl ⟨rfl, HR.out⟩⟩
    | false =>
      have HR : Hid (¬ R) := Hid.mk9 fun h => absurd (hq.2 (HI2.out.1 h)) (by decide)
      clear hbC hq hne he
      go_wp2_with fail
      go_ret
      exact ⟨HB2.out, .inr ⟨rfl, HR.out⟩⟩
  · have hne : (!(k == k' && (s.toList == s'.toList && ((t == t' && v == v') && (f == f' && (u == u' && m == m')))))) = true := by cases hx : (k == k' && (s.toList == s'.toList && ((t == t' && v == v') && (f == f' && (u == u' && m == m'))))) with | true => exact absurd hx he | false => rfl
    have HR : Hid (¬ R) := Hid.mk9 fun h => he (HE.out.2 (HI.out.1 h).1)
    refine co_no _ _ _ _ _ _ _ _ _ _ _ w.heap.size s s' k k' t t' v v' f f' u u' m m' _ _ HX.out HA0 hne (Hid.mk9 (fun u3 u4 u5 u6 u7 u8 u9 u10 wC hbC => ?_))
    have HB2 := Hid.mk9 (below2 HB.out hbC)
    clear hbC hne he
    go_wp2_with fail
    go_ret
    exact ⟨HB2.out, .inr ⟨rfl, HR.out⟩⟩
theorem checkOp_yes {o : Opp} {w : World} (hM : OpMay o) : Calls Tryz.prog 13 #[opV o] w fun e w' => e = .returned (.int .i64 0) ∧ Below w.heap.size w w' :=
  (checkOp_any o w).mono fun _ _ ⟨hb, hq⟩ => by rcases hq with ⟨he, _⟩ | ⟨_, hn⟩; exact ⟨he, hb⟩; exact absurd hM hn
theorem checkOp_no {o : Opp} {w : World} (hM : ¬ OpMay o) : Calls Tryz.prog 13 #[opV o] w fun e w' => e = .returned (.int .i64 1) ∧ Below w.heap.size w w' :=
  (checkOp_any o w).mono fun _ _ ⟨hb, hq⟩ => by rcases hq with ⟨_, hn⟩ | ⟨he, _⟩; exact absurd hn hM; exact ⟨he, hb⟩
end Go.Proofs.YtihohcmocejijaaGreat.Bk
namespace Go.Proofs.YtihohcmocejijaaGreat.Bk
open Go.ChangeShapes Go.WideShapes Go.ChangeAt Go.RowKit
def BestPost (v : Int) (w : World) (e : Ending) (w' : World) : Prop := Below w.heap.size w w' ∧ ∃ x : Int, e = .returned (.agg #[.int .i64 x, .int .i64 v])
set_option maxHeartbeats 2000000 in
set_option maxRecDepth 60000 in
theorem minFunc_any (a : Option Addr) (len cap : Nat) (ls : List Sm) (w : World) (h : SmsAt w a len cap ls) (h0 : 0 < len) (h64 : (len : Int) ≤ 64) :
    Calls Tryz.prog 84 #[.slice a len cap, .func (.func 85) #[] #[]] w fun e w' => BestPost (minN ls (len - 1)) w e w' := by
  have hl : ls.length = len := h.1
  have HL : Hid (SmsAt w a len cap ls) := h
  obtain ⟨b, off, rfl, hbs, hcell⟩ := h.some h0
  obtain ⟨z0, z1⟩ := hcell 0 h0
  clear hcell h
  rw [Nat.zero_mul, Nat.add_zero] at z0 z1
  have HZ : Hid ((ls.getD 0 sm0).2 = minN ls 0) := rfl
  generalize ls.getD 0 sm0 = c at *
  obtain ⟨p1, p2⟩ := c
  have h1n : (1 : Int) ≤ (len : Int) := by omega
  go_enter Tryz.func84, Tryz.ntmps84
  go_wp2_with fail
  go_loopw [6] (fun i wr => ∃ (j : Nat) (m : Sm), j + 1 ≤ len ∧ i = .int .i64 ((j : Int) + 1) ∧ Hid (m.2 = minN ls j) ∧ SmBox wr (w.heap.size + 1) m.1 m.2 ∧ SmBox wr w.heap.size 0 0 ∧ Below w.heap.size w wr) (fun i _ => len - (intOf i).toNat)
  case atStart =>
    refine ⟨0, (p1, p2), by omega, rfl, HZ, ?_, ?_, below2 (below_alloc _ _) (below_alloc _ _)⟩
    · have := SmBox.new (w.alloc (.cells #[.int .i64 0, .int .i64 0] 27)) p1 p2
      simpa using this
    · exact (SmBox.new w 0 0).below (below_alloc _ _)
  case round =>
    obtain ⟨j, m, hj, rfl, hT, hbx, hbz, hbel⟩ := hrel
    by_cases hlt : j + 1 < len
    · obtain ⟨b', off', he', hbs', hcell⟩ := (HL.out.below hbel).some (by omega)
      simp only [Option.some.injEq, Addr.mk.injEq, and_true] at he'
      obtain ⟨rfl, rfl⟩ := he'
      obtain ⟨q0, q1⟩ := hcell (j + 1) hlt
      clear hcell
      have hk1 : (j : Int) + 1 < (len : Int) := by omega
      have hk0 : (0 : Int) ≤ (j : Int) + 1 := by omega
      have hkn : ((j : Int) + 1).toNat = j + 1 := by omega
      have hkw : IntKind.i64.wrap ((j : Int) + 1) = (j : Int) + 1 := by rw [IntKind.wrap_i64]; omega
      have HVT : Hid ((ls.getD (j + 1) sm0).2 = vAt ls (j + 1)) := rfl
      generalize ls.getD (j + 1) sm0 = x at *
      obtain ⟨x1, x2⟩ := x
      obtain ⟨m1, m2⟩ := m
      have HC : Hid (∀ W, Calls Tryz.prog 85 #[.agg #[.int .i64 x1, .int .i64 x2], .agg #[.int .i64 m1, .int .i64 m2]] W fun e w' => e = .returned (.int .i64 (cmpI x2 m2)) ∧ Grown W w') := fun W => byValue_any _ _ _ _ W
      have hgr : b < wr.heap.size := hbs'
      have HB : Hid (∀ n os, SmBox (Go.Sort.grow (wr.drewN n) os) (w.heap.size + 1) m1 m2 ∧ SmBox (Go.Sort.grow (wr.drewN n) os) w.heap.size 0 0 ∧ Below w.heap.size w (Go.Sort.grow (wr.drewN n) os)) := fun n os => ⟨hbx.below (below_grow _ _ _), hbz.below (below_grow _ _ _), below2 hbel (below_grow _ _ _)⟩
      have HQ : Hid (∀ w', Below wr.heap.size wr w' → w'.cell? ⟨b, off + (j + 1) * 2, none⟩ = some (.int .i64 x1) ∧ w'.cell? ⟨b, off + (j + 1) * 2 + 1, none⟩ = some (.int .i64 x2)) := fun w' hb => ⟨(hb.cell (p := ⟨b, off + (j + 1) * 2, none⟩) hgr).trans q0, (hb.cell (p := ⟨b, off + (j + 1) * 2 + 1, none⟩) hgr).trans q1⟩
      have y0 := cell_grown (a := ⟨b, off + (j + 1) * 2, none⟩) hgr q0
      have y1 := cell_grown (a := ⟨b, off + (j + 1) * 2 + 1, none⟩) hgr q1
      have v0 := cell_grown (a := ⟨w.heap.size + 1, 0, none⟩) hbx.lt hbx.c0
      have v1 := cell_grown (a := ⟨w.heap.size + 1, 1, none⟩) hbx.lt hbx.c1
      have HYES : Hid (x2 < m2 → x2 = minN ls (j + 1)) := fun hc => by
        have e1 := hT.out
        have e2 := HVT.out
        simp only at e1 e2
        rw [minN, ← e1, ← e2, if_pos hc]
      have HNO : Hid (¬ (x2 < m2) → m2 = minN ls (j + 1)) := fun hc => by
        have e1 := hT.out
        have e2 := HVT.out
        simp only at e1 e2
        rw [minN, ← e1, ← e2, if_neg hc]
      have HR : Hid (cmpI x2 m2 < 0 ↔ x2 < m2) := by
        unfold cmpI
        constructor
        · intro h; split at h <;> (try split at h) <;> omega
        · intro h; split <;> (try split) <;> omega
      generalize cmpI x2 m2 = r at *
      clear hT HVT q0 q1 hbx hbz z0 z1
      by_cases hr : r < 0
      · have HY := Hid.mk9 (HYES.out (HR.out.1 hr))
        clear HYES HNO HR
        go_wp2_with fail
        refine wp_region_QW mixed5 (by kernel_rfl) ?_
        repeat (refine QW_step (fun K hK => ?_); go_simp; first | (refine hK _ ?_; clear hK K) | (apply Exists.intro; refine ⟨fun _ => ?_, hK _ ?_⟩; (go_at_call 85; refine Calls.grown_of (HC.out _)); clear hK K))
        refine QW_nil ?_
        intro _ hw9
        obtain ⟨⟨nq, osq⟩, hw8⟩ := hw9
        subst hw8
        show Exit.then _ _ _ _ (Go.Sort.grow (wr.drewN nq) osq)
        obtain ⟨hbx, hbz, hbe⟩ := HB.out nq osq
        obtain ⟨q0, q1⟩ := HQ.out _ (below_grow wr nq osq)
        clear HB HQ y0 y1 v0 v1 HC
        generalize Go.Sort.grow (wr.drewN nq) osq = w5 at *
        have b0 := hbx.c0
        have b1 := hbx.c1
        have f0 := hbx.f0
        have f1 := hbx.f1
        have HBX := Hid.mk9 (hbx.set x1 x2)
        have HBZ := Hid.mk9 (hbz.else (b := w.heap.size + 1) (.int .i64 x1) (.int .i64 x2) (by omega))
        have HBE := Hid.mk9 (set2_below hbe (b := w.heap.size + 1) (by omega) (.int .i64 x1) (.int .i64 x2))
        clear hbz hbx hbe
        go_wp2_with fail
        exact ⟨⟨j + 1, (x1, x2), by omega, by go_num, HY, HBX.out, HBZ.out, HBE.out⟩, by simp [intOf]; omega⟩
      · have HY := Hid.mk9 (HNO.out (fun h => hr (HR.out.2 h)))
        have hd : decide (r < 0) = false := decide_eq_false hr
        clear HYES HNO HR
        go_wp2_with fail
        refine wp_region_QW mixed5 (by kernel_rfl) ?_
        repeat (refine QW_step (fun K hK => ?_); go_simp; first | (refine hK _ ?_; clear hK K) | (apply Exists.intro; refine ⟨fun _ => ?_, hK _ ?_⟩; (go_at_call 85; refine Calls.grown_of (HC.out _)); clear hK K))
        refine QW_nil ?_
        intro _ hw9
        obtain ⟨⟨nq, osq⟩, hw8⟩ := hw9
        subst hw8
        show Exit.then _ _ _ _ (Go.Sort.grow (wr.drewN nq) osq)
        have HBB := Hid.mk9 (HB.out nq osq)
        clear HB HQ y0 y1 v0 v1 HC
        generalize Go.Sort.grow (wr.drewN nq) osq = w5 at *
        go_wp2_with fail
        exact ⟨⟨j + 1, (m1, m2), by omega, by go_num, HY, HBB.out.1, HBB.out.2.1, HBB.out.2.2⟩, by simp [intOf]; omega⟩
    · have hltz : ¬ (j : Int) + 1 < (len : Int) := by omega
      have HE : Hid (m.2 = minN ls (len - 1)) := by
        have := hT.out
        rw [show j = len - 1 from by omega] at this
        exact this
      obtain ⟨m1, m2⟩ := m
      simp only at hbx
      have b0 := hbx.c0
      have b1 := hbx.c1
      have c0 := hbz.c0
      have c1 := hbz.c1
      have f0 := hbz.f0
      have f1 := hbz.f1
      have HBZ := Hid.mk9 (hbz.set m1 m2)
      have HBE := Hid.mk9 (set2_below hbel (b := w.heap.size) (Nat.le_refl _) (.int .i64 m1) (.int .i64 m2))
      clear hT z0 z1 hbx hbz
      go_wp2_with fail
      try simp only [Exit.inBlock, Exit.then]
      refine bodyPost_ret (ret_smbox rfl _ _ w.heap.size m1 m2 rfl HBZ.out) rfl ?_
      exact ⟨HBE.out, m1, by have := HE.out; rw [← this]⟩
set_option maxHeartbeats 2000000 in
set_option maxRecDepth 60000 in
theorem maxFunc_any (a : Option Addr) (len cap : Nat) (ls : List Sm) (w : World) (h : SmsAt w a len cap ls) (h0 : 0 < len) (h64 : (len : Int) ≤ 64) :
    Calls Tryz.prog 86 #[.slice a len cap, .func (.func 85) #[] #[]] w fun e w' => BestPost (maxN ls (len - 1)) w e w' := by
  have hl : ls.length = len := h.1
  have HL : Hid (SmsAt w a len cap ls) := h
  obtain ⟨b, off, rfl, hbs, hcell⟩ := h.some h0
  obtain ⟨z0, z1⟩ := hcell 0 h0
  clear hcell h
  rw [Nat.zero_mul, Nat.add_zero] at z0 z1
  have HZ : Hid ((ls.getD 0 sm0).2 = maxN ls 0) := rfl
  generalize ls.getD 0 sm0 = c at *
  obtain ⟨p1, p2⟩ := c
  have h1n : (1 : Int) ≤ (len : Int) := by omega
  go_enter Tryz.func86, Tryz.ntmps86
  go_wp2_with fail
  go_loopw [6] (fun i wr => ∃ (j : Nat) (m : Sm), j + 1 ≤ len ∧ i = .int .i64 ((j : Int) + 1) ∧ Hid (m.2 = maxN ls j) ∧ SmBox wr (w.heap.size + 1) m.1 m.2 ∧ SmBox wr w.heap.size 0 0 ∧ Below w.heap.size w wr) (fun i _ => len - (intOf i).toNat)
  case atStart =>
    refine ⟨0, (p1, p2), by omega, rfl, HZ, ?_, ?_, below2 (below_alloc _ _) (below_alloc _ _)⟩
    · have := SmBox.new (w.alloc (.cells #[.int .i64 0, .int .i64 0] 27)) p1 p2
      simpa using this
    · exact (SmBox.new w 0 0).below (below_alloc _ _)
  case round =>
    obtain ⟨j, m, hj, rfl, hT, hbx, hbz, hbel⟩ := hrel
    by_cases hlt : j + 1 < len
    · obtain ⟨b', off', he', hbs', hcell⟩ := (HL.out.below hbel).some (by omega)
      simp only [Option.some.injEq, Addr.mk.injEq, and_true] at he'
      obtain ⟨rfl, rfl⟩ := he'
      obtain ⟨q0, q1⟩ := hcell (j + 1) hlt
      clear hcell
      have hk1 : (j : Int) + 1 < (len : Int) := by omega
      have hk0 : (0 : Int) ≤ (j : Int) + 1 := by omega
      have hkn : ((j : Int) + 1).toNat = j + 1 := by omega
      have hkw : IntKind.i64.wrap ((j : Int) + 1) = (j : Int) + 1 := by rw [IntKind.wrap_i64]; omega
      have HVT : Hid ((ls.getD (j + 1) sm0).2 = vAt ls (j + 1)) := rfl
      generalize ls.getD (j + 1) sm0 = x at *
      obtain ⟨x1, x2⟩ := x
      obtain ⟨m1, m2⟩ := m
      have HC : Hid (∀ W, Calls Tryz.prog 85 #[.agg #[.int .i64 x1, .int .i64 x2], .agg #[.int .i64 m1, .int .i64 m2]] W fun e w' => e = .returned (.int .i64 (cmpI x2 m2)) ∧ Grown W w') := fun W => byValue_any _ _ _ _ W
      have hgr : b < wr.heap.size := hbs'
      have HB : Hid (∀ n os, SmBox (Go.Sort.grow (wr.drewN n) os) (w.heap.size + 1) m1 m2 ∧ SmBox (Go.Sort.grow (wr.drewN n) os) w.heap.size 0 0 ∧ Below w.heap.size w (Go.Sort.grow (wr.drewN n) os)) := fun n os => ⟨hbx.below (below_grow _ _ _), hbz.below (below_grow _ _ _), below2 hbel (below_grow _ _ _)⟩
      have HQ : Hid (∀ w', Below wr.heap.size wr w' → w'.cell? ⟨b, off + (j + 1) * 2, none⟩ = some (.int .i64 x1) ∧ w'.cell? ⟨b, off + (j + 1) * 2 + 1, none⟩ = some (.int .i64 x2)) := fun w' hb => ⟨(hb.cell (p := ⟨b, off + (j + 1) * 2, none⟩) hgr).trans q0, (hb.cell (p := ⟨b, off + (j + 1) * 2 + 1, none⟩) hgr).trans q1⟩
      have y0 := cell_grown (a := ⟨b, off + (j + 1) * 2, none⟩) hgr q0
      have y1 := cell_grown (a := ⟨b, off + (j + 1) * 2 + 1, none⟩) hgr q1
      have v0 := cell_grown (a := ⟨w.heap.size + 1, 0, none⟩) hbx.lt hbx.c0
      have v1 := cell_grown (a := ⟨w.heap.size + 1, 1, none⟩) hbx.lt hbx.c1
      have HYES : Hid (m2 < x2 → x2 = maxN ls (j + 1)) := fun hc => by
        have e1 := hT.out
        have e2 := HVT.out
        simp only at e1 e2
        rw [maxN, ← e1, ← e2, if_pos hc]
      have HNO : Hid (¬ (m2 < x2) → m2 = maxN ls (j + 1)) := fun hc => by
        have e1 := hT.out
        have e2 := HVT.out
        simp only at e1 e2
        rw [maxN, ← e1, ← e2, if_neg hc]
      have HR : Hid (0 < cmpI x2 m2 ↔ m2 < x2) := by
        unfold cmpI
        constructor
        · intro h; split at h <;> (try split at h) <;> omega
        · intro h; split <;> (try split) <;> omega
      generalize cmpI x2 m2 = r at *
      clear hT HVT q0 q1 hbx hbz z0 z1
      by_cases hr : 0 < r
      · have HY := Hid.mk9 (HYES.out (HR.out.1 hr))
        clear HYES HNO HR
        go_wp2_with fail
        refine wp_region_QW mixed5 (by kernel_rfl) ?_
        repeat (refine QW_step (fun K hK => ?_); go_simp; first | (refine hK _ ?_; clear hK K) | (apply Exists.intro; refine ⟨fun _ => ?_, hK _ ?_⟩; (go_at_call 85; refine Calls.grown_of (HC.out _)); clear hK K))
        refine QW_nil ?_
        intro _ hw9
        obtain ⟨⟨nq, osq⟩, hw8⟩ := hw9
        subst hw8
        show Exit.then _ _ _ _ (Go.Sort.grow (wr.drewN nq) osq)
        obtain ⟨hbx, hbz, hbe⟩ := HB.out nq osq
        obtain ⟨q0, q1⟩ := HQ.out _ (below_grow wr nq osq)
        clear HB HQ y0 y1 v0 v1 HC
        generalize Go.Sort.grow (wr.drewN nq) osq = w5 at *
        have b0 := hbx.c0
        have b1 := hbx.c1
        have f0 := hbx.f0
        have f1 := hbx.f1
        have HBX := Hid.mk9 (hbx.set x1 x2)
        have HBZ := Hid.mk9 (hbz.else (b := w.heap.size + 1) (.int .i64 x1) (.int .i64 x2) (by omega))
        have HBE := Hid.mk9 (set2_below hbe (b := w.heap.size + 1) (by omega) (.int .i64 x1) (.int .i64 x2))
        clear hbz hbx hbe
        go_wp2_with fail
        exact ⟨⟨j + 1, (x1, x2), by omega, by go_num, HY, HBX.out, HBZ.out, HBE.out⟩, by simp [intOf]; omega⟩
      · have HY := Hid.mk9 (HNO.out (fun h => hr (HR.out.2 h)))
        have hd : decide (0 < r) = false := decide_eq_false hr
        clear HYES HNO HR
        go_wp2_with fail
        refine wp_region_QW mixed5 (by kernel_rfl) ?_
        repeat (refine QW_step (fun K hK => ?_); go_simp; first | (refine hK _ ?_; clear hK K) | (apply Exists.intro; refine ⟨fun _ => ?_, hK _ ?_⟩; (go_at_call 85; refine Calls.grown_of (HC.out _)); clear hK K))
        refine QW_nil ?_
        intro _ hw9
        obtain ⟨⟨nq, osq⟩, hw8⟩ := hw9
        subst hw8
        show Exit.then _ _ _ _ (Go.Sort.grow (wr.drewN nq) osq)
        have HBB := Hid.mk9 (HB.out nq osq)
        clear HB HQ y0 y1 v0 v1 HC
        generalize Go.Sort.grow (wr.drewN nq) osq = w5 at *
        go_wp2_with fail
        exact ⟨⟨j + 1, (m1, m2), by omega, by go_num, HY, HBB.out.1, HBB.out.2.1, HBB.out.2.2⟩, by simp [intOf]; omega⟩
    · have hltz : ¬ (j : Int) + 1 < (len : Int) := by omega
      have HE : Hid (m.2 = maxN ls (len - 1)) := by
        have := hT.out
        rw [show j = len - 1 from by omega] at this
        exact this
      obtain ⟨m1, m2⟩ := m
      simp only at hbx
      have b0 := hbx.c0
      have b1 := hbx.c1
      have c0 := hbz.c0
      have c1 := hbz.c1
      have f0 := hbz.f0
      have f1 := hbz.f1
      have HBZ := Hid.mk9 (hbz.set m1 m2)
      have HBE := Hid.mk9 (set2_below hbel (b := w.heap.size) (Nat.le_refl _) (.int .i64 m1) (.int .i64 m2))
      clear hT z0 z1 hbx hbz
      go_wp2_with fail
      try simp only [Exit.inBlock, Exit.then]
      refine bodyPost_ret (ret_smbox rfl _ _ w.heap.size m1 m2 rfl HBZ.out) rfl ?_
      exact ⟨HBE.out, m1, by have := HE.out; rw [← this]⟩
end Go.Proofs.YtihohcmocejijaaGreat.Bk
