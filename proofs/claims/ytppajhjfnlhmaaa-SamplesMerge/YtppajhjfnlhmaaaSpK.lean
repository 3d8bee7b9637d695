/-
  The contracts of zip and of Merge.
-/
import Derived.Test.YtppajhjfnlhmaaaSpJ
namespace Go.Proofs.Ytppajhjfnlhmaaa.Bk
open Go.ChangeShapes Go.WideShapes Go.ChangeAt Go.RowKit
theorem wp_of_run {P : Program} {o : Oper} {a : Act} {w w' : World} {K : Act → World → Prop} {Q : Exit → Act → World → Prop} {v : Value} (h : (execOp a.eval o).run P w = .ok (.value v) w') (hK : K (a.put o.dst v) w') : o.wp P a w K Q := by
  unfold Oper.wp
  simp [h]
  exact hK
theorem wpList_makeS {w : World} {ops : Array Oper} {rest : List Oper} {o : Oper} {a : Act} {Q : Exit → Act → World → Prop} (hgd : o.guard = none) (l c : Operand) (ho : o.op = .makeSlice 22 l c) (n : Nat) (N : Int) (hl : a.eval l = .int .i64 0) (hc : a.eval c = .int .i64 N) (hN : N = (n : Int)) (hn : n ≤ 1000)
    (h : ∀ w', w'.ownsRow w.heap.size 24 2 (.slice (some ⟨w.heap.size, 0, none⟩) 0 n) 0 (cellsS []) → Below w.heap.size w w' → wpList Try.prog ops Q rest (a.put o.dst (.slice (some ⟨w.heap.size, 0, none⟩) 0 n)) w') : wpList Try.prog ops Q (o :: rest) a w := by
  subst hN
  obtain ⟨i0, hi, hz0, hz1, hz2⟩ := info_parts infoS
  obtain ⟨w', e, ho', hg⟩ := run_make_own (P := Try.prog) w w.heap.size 22 24 i0 _ 2 Try.underlying22 hi hz0 hz1 .i64 .i64 n (by rw [hz2]; omega) (by unfold maxLen; omega) (Nat.le_refl _)
  have hb : Below w.heap.size w w' := ⟨hg.os, hg.tape, hg.output, hg.size, fun k hk => hg.block k hk (by simp)⟩
  refine wpList_plain hgd fun K hK => wp_of_run (v := .slice (some ⟨w.heap.size, 0, none⟩) 0 n) (w' := w') ?_ (hK _ _ (h _ ho' hb))
  simp [execOp, ho, hl, hc]
  rw [e]
  rfl
def lenV : Value → Nat
  | .slice _ n _ => n
  | _ => 0
theorem sms_tail {w : World} {b o l c : Nat} {x : Sm} {A : List Sm} (h : SmsAt w (some ⟨b, o, none⟩) l c (x :: A)) : ∃ z, (if c = 1 then some ⟨b, o, none⟩ else some ⟨b, o + 2, none⟩) = z ∧ SmsAt w z (l - 1) (c - 1) A := by
  have hl : 1 ≤ l := by have := h.1; simp at this; omega
  refine ⟨_, rfl, ?_⟩
  have := sms_drop h 1 hl
  simpa [addr_add2] using this
theorem sms_front {w : World} {a : Option Addr} {l c : Nat} {A : List Sm} (h : SmsAt w a l c A) (hl : 0 < l) : ∃ b o x A', a = some ⟨b, o, none⟩ ∧ A = x :: A' ∧ b < w.heap.size ∧ w.cell? ⟨b, o, none⟩ = some (.int .i64 x.1) ∧ w.cell? ⟨b, o + 1, none⟩ = some (.int .i64 x.2) := by
  obtain ⟨b, o, rfl, hb, hc⟩ := h.some hl
  cases A with
  | nil => have := h.1; simp at this; omega
  | cons x A' =>
    obtain ⟨q0, q1⟩ := hc 0 hl
    exact ⟨b, o, x, A', rfl, rfl, hb, by simpa using q0, by simpa using q1⟩
/-- behind zip -/
def ZipPost (r : Option (List Sm)) (w : World) (e : Ending) (w' : World) : Prop :=
  Below w.heap.size w w' ∧ ((r = none ∧ e = .returned (.tuple #[.slice none 0 0, .int .i64 8])) ∨ ∃ m xa xl xc, r = some m ∧ e = .returned (.tuple #[.slice xa xl xc, .int .i64 0]) ∧ SmsAt w' xa xl xc m)
/-- in the midst of zip -/
def ZipIn (r : Option (List Sm)) (A B : List Sm) (w : World) (n : Nat) (v : Value) (wr : World) : Prop :=
  Below w.heap.size w wr ∧ ∃ M, (zipP A B).map (M ++ ·) = r ∧ wr.ownsRow w.heap.size 24 2 v n (cellsS M)
theorem map_snoc (r : Option (List Sm)) (M : List Sm) (x : Sm) : (r.map (x :: ·)).map (M ++ ·) = r.map (M ++ [x] ++ ·) := by
  cases r with
  | none => rfl
  | some m => simp
set_option maxHeartbeats 4000000 in
set_option maxRecDepth 60000 in
theorem zip_any (a : Option Addr) (al ac : Nat) (b : Option Addr) (bl bc : Nat) (A0 B0 : List Sm) (w : World) (h1 : SmsAt w a al ac A0) (h2 : SmsAt w b bl bc B0) (hal : al ≤ 64) (hbl : bl ≤ 64) :
    Calls Try.prog 27 #[.slice a al ac, .slice b bl bc] w fun e w' => ZipPost (zipP A0 B0) w e w' := by
  have H1 := Hid.mk9 h1
  have H2 := Hid.mk9 h2
  obtain ⟨N, hN⟩ : ∃ N : Nat, Hid (N = al + bl) := ⟨_, Hid.mk9 rfl⟩
  have hN' : (al : Int) + (bl : Int) = (N : Int) := by have := hN.out; omega
  have hN2 : N ≤ 128 := by have := hN.out; omega
  have ha' : (al : Int) ≤ 64 := by omega
  have hb' : (bl : Int) ≤ 64 := by omega
  clear h1 h2
  go_enter Try.func27, Try.ntmps27
  go_wp2_with (refine wpList_makeS rfl _ _ rfl N (N : Int) rfl rfl rfl (by omega) ?_; intro w1 ho1 hb1)
  have H0 : Hid (ZipIn (zipP A0 B0) A0 B0 w 0 (.slice (some ⟨w.heap.size, 0, none⟩) 0 N) w1) := ⟨hb1, [], by simp, ho1⟩
  clear ho1 hb1 hN'
  go_loopw [0, 1, 6] (fun v0 v1 v wr => ∃ (pa : Option Addr) (la ca : Nat) (A : List Sm) (qa : Option Addr) (lb cb : Nat) (B : List Sm) (n : Nat), v0 = .slice pa la ca ∧ v1 = .slice qa lb cb ∧ n + la + lb ≤ 128 ∧ Hid (SmsAt w pa la ca A) ∧ Hid (SmsAt w qa lb cb B) ∧ Hid (ZipIn (zipP A0 B0) A B w n v wr)) (fun v0 v1 _ _ => lenV v0 + lenV v1)
  case atStart => exact ⟨a, al, ac, A0, b, bl, bc, B0, 0, rfl, rfl, by omega, H1, H2, H0⟩
  case round =>
    clear H0 H1 H2 ha' hb' hal hbl hN hN2
    obtain ⟨pa, la, ca, A, qa, lb, cb, B, n, rfl, rfl, hn, HA, HBb, HP⟩ := hrel
    obtain ⟨hbr, M, hM, hO⟩ := HP.out
    have HB := Hid.mk9 hbr
    have HM := Hid.mk9 hM
    have HO := Hid.mk9 hO
    have hla := HA.out.2.1
    have hlb := HBb.out.2.1
    have hca := HA.out.2.2.1
    have hcb := HBb.out.2.2.1
    unfold maxLen at hca hcb
    clear HP hbr hM hO
    by_cases ha0 : la = 0
    · subst ha0
      obtain rfl : A = [] := List.length_eq_zero_iff.1 HA.out.1
      have HR : Hid (zipP A0 B0 = some (M ++ [] ++ B)) := Hid.mk9 (by rw [← HM.out, zip_nil']; simp)
      clear HM
      go_upto_region 10 with fail
      go_wp2_with (first | (at_builtin; refine append_sms (w0 := w) rfl _ _ rfl _ _ _ rfl HO.out HB.out _ _ _ [] rfl (HA.out.below HB.out) (by omega) (by omega) ?_; intro v4 w4 ho4 hb4; replace HO := Hid.mk9 ho4; replace HB := Hid.mk9 hb4; clear ho4 hb4) | (at_builtin; refine append_sms (w0 := w) rfl _ _ rfl _ _ _ rfl HO.out HB.out _ _ _ B rfl (HBb.out.below HB.out) (by omega) (by omega) ?_; intro v4 w4 ho4 hb4; replace HO := Hid.mk9 ho4; replace HB := Hid.mk9 hb4; clear ho4 hb4))
      obtain ⟨xa, xc, rfl, hs⟩ := own_sms' HO.out
      go_returns
      exact ⟨HB.out, .inr ⟨_, _, _, _, HR.out, rfl, hs⟩⟩
    by_cases hb0 : lb = 0
    · subst hb0
      obtain rfl : B = [] := List.length_eq_zero_iff.1 HBb.out.1
      have HR : Hid (zipP A0 B0 = some (M ++ A ++ [])) := Hid.mk9 (by rw [← HM.out, zip_nil]; simp)
      have ha1 : (0 : Int) < (la : Int) := by omega
      clear HM
      go_upto_region 10 with fail
      go_wp2_with (first | (at_builtin; refine append_sms (w0 := w) rfl _ _ rfl _ _ _ rfl HO.out HB.out _ _ _ A rfl (HA.out.below HB.out) (by omega) (by omega) ?_; intro v4 w4 ho4 hb4; replace HO := Hid.mk9 ho4; replace HB := Hid.mk9 hb4; clear ho4 hb4) | (at_builtin; refine append_sms (w0 := w) rfl _ _ rfl _ _ _ rfl HO.out HB.out _ _ _ [] rfl (HBb.out.below HB.out) (by omega) (by omega) ?_; intro v4 w4 ho4 hb4; replace HO := Hid.mk9 ho4; replace HB := Hid.mk9 hb4; clear ho4 hb4))
      obtain ⟨xa, xc, rfl, hs⟩ := own_sms' HO.out
      go_returns
      exact ⟨HB.out, .inr ⟨_, _, _, _, HR.out, rfl, hs⟩⟩
    have ha1 : (0 : Int) < (la : Int) := by omega
    have hb1 : (0 : Int) < (lb : Int) := by omega
    obtain ⟨pb, po, x, A', rfl, rfl, hpb, e0, e1⟩ := sms_front HA.out (by omega)
    obtain ⟨qb, qo, y, B', rfl, rfl, hqb, f0, f1⟩ := sms_front HBb.out (by omega)
    obtain ⟨za, hza, hA'⟩ := sms_tail HA.out
    obtain ⟨zb, hzb, hB'⟩ := sms_tail HBb.out
    have HA' := Hid.mk9 hA'
    have HB' := Hid.mk9 hB'
    have ZA := Hid.mk9 hza
    have ZB := Hid.mk9 hzb
    clear hza hzb hA' hB'
    replace e0 := kept3 e0 HB.out
    replace e1 := kept3 e1 HB.out
    replace f0 := kept3 f0 HB.out
    replace f1 := kept3 f1 HB.out
    have hbs := World.block_lt_of_cell? wr _ e0
    have hbs' := World.block_lt_of_cell? wr _ f0
    obtain ⟨x1', x2'⟩ := x
    obtain ⟨y1', y2'⟩ := y
    simp only at e0 e1 f0 f1 hbs hbs'
    have x0 := cell_grown (w := wr) (a := ⟨pb, po, none⟩) hbs e0
    have x1 := cell_grown (w := wr) (a := ⟨pb, po + 1, none⟩) hbs e1
    have x2 := cell_grown (w := wr) (a := ⟨qb, qo, none⟩) hbs' f0
    have x3 := cell_grown (w := wr) (a := ⟨qb, qo + 1, none⟩) hbs' f1
    by_cases ht : x1' = y1'
    · subst ht
      by_cases hv : x2' = y2'
      · subst hv
        have HR : Hid ((zipP A' B').map (M ++ [(x1', x2')] ++ ·) = zipP A0 B0) := Hid.mk9 (by rw [← HM.out, zip_same, map_snoc])
        clear HM
        go_upto_region 4 with fail
        refine wp_region_QW mixed5 (by kernel_rfl) ?_
        repeat (refine QW_step (fun K hK => ?_); go_simp; first | (refine hK _ ?_; clear hK K) | (apply Exists.intro; refine ⟨fun _ => ?_, hK _ ?_⟩; fail; clear hK K))
        refine QW_nil ?_
        intro _ hw9
        obtain ⟨⟨nq, osq⟩, hw8⟩ := hw9
        subst hw8
        have bG := below_grow wr nq osq
        replace HO := Hid.mk9 (own_below HO.out bG)
        replace HB := Hid.mk9 (HB.out.trans (bG.mono HB.out.size))
        replace e0 := kept3 e0 bG
        replace e1 := kept3 e1 bG
        replace f0 := kept3 f0 bG
        replace f1 := kept3 f1 bG
        clear bG x0 x1 x2 x3
        generalize Go.Sort.grow (wr.drewN nq) osq = wr at *
        replace hbs := World.block_lt_of_cell? wr _ e0
        replace hbs' := World.block_lt_of_cell? wr _ f0
        have x0 := cell_grown (w := wr) (a := ⟨pb, po, none⟩) hbs e0
        have x1 := cell_grown (w := wr) (a := ⟨pb, po + 1, none⟩) hbs e1
        have x2 := cell_grown (w := wr) (a := ⟨qb, qo, none⟩) hbs' f0
        have x3 := cell_grown (w := wr) (a := ⟨qb, qo + 1, none⟩) hbs' f1
        go_upto_region 5 with fail
        refine zip_5 _ _ _ _ _ _ _ _ _ _ _ _ _ _ _ _ _ _ _ _ _ _ _ _ _ _ _ _ _ _ _ _ _ _ _ _ _ _ _ _ _ _ _ _ _ _ _ _ _ _ _ _ _ _ _ _ _ _ _ _ _ _ _ _ _ _ _ _ _ _ _ _ _ _ _ _ _ pb po la ca za qb qo lb cb zb x1' x2' _ n M w wr _ (by omega) hla (by omega) ZA.out (by omega) hlb (by omega) ZB.out e0 e1 hpb HO.out (by omega) HB.out (Hid.mk9 (fun u37 u38 u39 u40 u41 u42 u43 u44 u45 u46 v' wC ho hb => ?_))
        have HF : Hid (ZipIn (zipP A0 B0) A' B' w (n + 1) v' wC) := ⟨hb, _, HR.out, ho⟩
        clear ho hb HR HO HB e0 e1 f0 f1 x0 x1 x2 x3 hbs hbs'
        go_wp2_with fail
        exact ⟨⟨za, la - 1, ca - 1, A', zb, lb - 1, cb - 1, B', n + 1, rfl, rfl, by omega, HA', HB', HF⟩, by simp [lenV]; omega⟩
      · have HR : Hid (zipP A0 B0 = none) := Hid.mk9 (by rw [← HM.out, zip_clash (x := (x1', x2')) (y := (x1', y2')) A' B' (fun e => hv (congrArg Prod.snd e)) rfl]; rfl)
        clear HM
        go_upto_region 4 with fail
        refine wp_region_QW mixed5 (by kernel_rfl) ?_
        repeat (refine QW_step (fun K hK => ?_); go_simp; first | (refine hK _ ?_; clear hK K) | (apply Exists.intro; refine ⟨fun _ => ?_, hK _ ?_⟩; fail; clear hK K))
        refine QW_nil ?_
        intro _ hw9
        obtain ⟨⟨nq, osq⟩, hw8⟩ := hw9
        subst hw8
        have bG := below_grow wr nq osq
        replace HO := Hid.mk9 (own_below HO.out bG)
        replace HB := Hid.mk9 (HB.out.trans (bG.mono HB.out.size))
        replace e0 := kept3 e0 bG
        replace e1 := kept3 e1 bG
        replace f0 := kept3 f0 bG
        replace f1 := kept3 f1 bG
        clear bG x0 x1 x2 x3
        generalize Go.Sort.grow (wr.drewN nq) osq = wr at *
        replace hbs := World.block_lt_of_cell? wr _ e0
        replace hbs' := World.block_lt_of_cell? wr _ f0
        have x0 := cell_grown (w := wr) (a := ⟨pb, po, none⟩) hbs e0
        have x1 := cell_grown (w := wr) (a := ⟨pb, po + 1, none⟩) hbs e1
        have x2 := cell_grown (w := wr) (a := ⟨qb, qo, none⟩) hbs' f0
        have x3 := cell_grown (w := wr) (a := ⟨qb, qo + 1, none⟩) hbs' f1
        go_upto_region 6 with fail
        refine wp_region_QW mixed5 (by kernel_rfl) ?_
        repeat (refine QW_step (fun K hK => ?_); go_simp; first | (refine hK _ ?_; clear hK K) | (apply Exists.intro; refine ⟨fun _ => ?_, hK _ ?_⟩; fail; clear hK K))
        refine QW_nil ?_
        intro _ hw9
        obtain ⟨⟨nq, osq⟩, hw8⟩ := hw9
        subst hw8
        have bG := below_grow wr nq osq
        replace HO := Hid.mk9 (own_below HO.out bG)
        replace HB := Hid.mk9 (HB.out.trans (bG.mono HB.out.size))
        replace e0 := kept3 e0 bG
        replace e1 := kept3 e1 bG
        replace f0 := kept3 f0 bG
        replace f1 := kept3 f1 bG
        clear bG x0 x1 x2 x3
        generalize Go.Sort.grow (wr.drewN nq) osq = wr at *
        replace hbs := World.block_lt_of_cell? wr _ e0
        replace hbs' := World.block_lt_of_cell? wr _ f0
        have x0 := cell_grown (w := wr) (a := ⟨pb, po, none⟩) hbs e0
        have x1 := cell_grown (w := wr) (a := ⟨pb, po + 1, none⟩) hbs e1
        have x2 := cell_grown (w := wr) (a := ⟨qb, qo, none⟩) hbs' f0
        have x3 := cell_grown (w := wr) (a := ⟨qb, qo + 1, none⟩) hbs' f1
        go_wp2_with fail
        go_returns
        exact ⟨HB.out, .inl ⟨HR.out, rfl⟩⟩
    · by_cases hlt : x1' < y1'
      · have HR : Hid ((zipP A' ((y1', y2') :: B')).map (M ++ [(x1', x2')] ++ ·) = zipP A0 B0) := Hid.mk9 (by rw [← HM.out, zip_left A' B' hlt, map_snoc])
        clear HM
        go_upto_region 4 with fail
        refine wp_region_QW mixed5 (by kernel_rfl) ?_
        repeat (refine QW_step (fun K hK => ?_); go_simp; first | (refine hK _ ?_; clear hK K) | (apply Exists.intro; refine ⟨fun _ => ?_, hK _ ?_⟩; fail; clear hK K))
        refine QW_nil ?_
        intro _ hw9
        obtain ⟨⟨nq, osq⟩, hw8⟩ := hw9
        subst hw8
        have bG := below_grow wr nq osq
        replace HO := Hid.mk9 (own_below HO.out bG)
        replace HB := Hid.mk9 (HB.out.trans (bG.mono HB.out.size))
        replace e0 := kept3 e0 bG
        replace e1 := kept3 e1 bG
        replace f0 := kept3 f0 bG
        replace f1 := kept3 f1 bG
        clear bG x0 x1 x2 x3
        generalize Go.Sort.grow (wr.drewN nq) osq = wr at *
        replace hbs := World.block_lt_of_cell? wr _ e0
        replace hbs' := World.block_lt_of_cell? wr _ f0
        have x0 := cell_grown (w := wr) (a := ⟨pb, po, none⟩) hbs e0
        have x1 := cell_grown (w := wr) (a := ⟨pb, po + 1, none⟩) hbs e1
        have x2 := cell_grown (w := wr) (a := ⟨qb, qo, none⟩) hbs' f0
        have x3 := cell_grown (w := wr) (a := ⟨qb, qo + 1, none⟩) hbs' f1
        go_upto_region 6 with fail
        refine wp_region_QW mixed5 (by kernel_rfl) ?_
        repeat (refine QW_step (fun K hK => ?_); go_simp; first | (refine hK _ ?_; clear hK K) | (apply Exists.intro; refine ⟨fun _ => ?_, hK _ ?_⟩; fail; clear hK K))
        refine QW_nil ?_
        intro _ hw9
        obtain ⟨⟨nq, osq⟩, hw8⟩ := hw9
        subst hw8
        have bG := below_grow wr nq osq
        replace HO := Hid.mk9 (own_below HO.out bG)
        replace HB := Hid.mk9 (HB.out.trans (bG.mono HB.out.size))
        replace e0 := kept3 e0 bG
        replace e1 := kept3 e1 bG
        replace f0 := kept3 f0 bG
        replace f1 := kept3 f1 bG
        clear bG x0 x1 x2 x3
        generalize Go.Sort.grow (wr.drewN nq) osq = wr at *
        replace hbs := World.block_lt_of_cell? wr _ e0
        replace hbs' := World.block_lt_of_cell? wr _ f0
        have x0 := cell_grown (w := wr) (a := ⟨pb, po, none⟩) hbs e0
        have x1 := cell_grown (w := wr) (a := ⟨pb, po + 1, none⟩) hbs e1
        have x2 := cell_grown (w := wr) (a := ⟨qb, qo, none⟩) hbs' f0
        have x3 := cell_grown (w := wr) (a := ⟨qb, qo + 1, none⟩) hbs' f1
        go_upto_region 8 with fail
        refine wp_region_QW mixed5 (by kernel_rfl) ?_
        repeat (refine QW_step (fun K hK => ?_); go_simp; first | (refine hK _ ?_; clear hK K) | (apply Exists.intro; refine ⟨fun _ => ?_, hK _ ?_⟩; fail; clear hK K))
        refine QW_nil ?_
        intro _ hw9
        obtain ⟨⟨nq, osq⟩, hw8⟩ := hw9
        subst hw8
        have bG := below_grow wr nq osq
        replace HO := Hid.mk9 (own_below HO.out bG)
        replace HB := Hid.mk9 (HB.out.trans (bG.mono HB.out.size))
        replace e0 := kept3 e0 bG
        replace e1 := kept3 e1 bG
        replace f0 := kept3 f0 bG
        replace f1 := kept3 f1 bG
        clear bG x0 x1 x2 x3
        generalize Go.Sort.grow (wr.drewN nq) osq = wr at *
        replace hbs := World.block_lt_of_cell? wr _ e0
        replace hbs' := World.block_lt_of_cell? wr _ f0
        have x0 := cell_grown (w := wr) (a := ⟨pb, po, none⟩) hbs e0
        have x1 := cell_grown (w := wr) (a := ⟨pb, po + 1, none⟩) hbs e1
        have x2 := cell_grown (w := wr) (a := ⟨qb, qo, none⟩) hbs' f0
        have x3 := cell_grown (w := wr) (a := ⟨qb, qo + 1, none⟩) hbs' f1
        go_upto_region 9 with fail
        refine zip_9 _ _ _ _ _ _ _ _ _ _ _ _ _ _ _ _ _ _ _ _ _ _ _ _ _ _ _ _ _ _ _ _ _ _ _ _ _ _ _ _ _ _ _ _ _ _ _ _ _ _ _ _ _ _ _ _ _ _ _ _ _ _ _ _ _ _ _ _ _ _ _ _ _ _ _ _ _ _ pb po la ca za x1' x2' _ n M w wr _ (by omega) hla (by omega) ZA.out e0 e1 hpb HO.out (by omega) HB.out (Hid.mk9 (fun u67 u68 u69 u70 u71 u72 u73 u74 v' wC ho hb => ?_))
        have HF : Hid (ZipIn (zipP A0 B0) A' ((y1', y2') :: B') w (n + 1) v' wC) := ⟨hb, _, HR.out, ho⟩
        clear ho hb HR HO HB e0 e1 f0 f1 x0 x1 x2 x3 hbs hbs'
        go_wp2_with fail
        exact ⟨⟨za, la - 1, ca - 1, A', some ⟨qb, qo, none⟩, lb, cb, (y1', y2') :: B', n + 1, rfl, rfl, by omega, HA', HBb, HF⟩, by simp [lenV]; omega⟩
      · have hgt : y1' < x1' := by omega
        have hd : decide (x1' < y1') = false := decide_eq_false hlt
        have HR : Hid ((zipP ((x1', x2') :: A') B').map (M ++ [(y1', y2')] ++ ·) = zipP A0 B0) := Hid.mk9 (by rw [← HM.out, zip_right A' B' hgt, map_snoc])
        clear HM
        go_upto_region 4 with fail
        refine wp_region_QW mixed5 (by kernel_rfl) ?_
        repeat (refine QW_step (fun K hK => ?_); go_simp; first | (refine hK _ ?_; clear hK K) | (apply Exists.intro; refine ⟨fun _ => ?_, hK _ ?_⟩; fail; clear hK K))
        refine QW_nil ?_
        intro _ hw9
        obtain ⟨⟨nq, osq⟩, hw8⟩ := hw9
        subst hw8
        have bG := below_grow wr nq osq
        replace HO := Hid.mk9 (own_below HO.out bG)
        replace HB := Hid.mk9 (HB.out.trans (bG.mono HB.out.size))
        replace e0 := kept3 e0 bG
        replace e1 := kept3 e1 bG
        replace f0 := kept3 f0 bG
        replace f1 := kept3 f1 bG
        clear bG x0 x1 x2 x3
        generalize Go.Sort.grow (wr.drewN nq) osq = wr at *
        replace hbs := World.block_lt_of_cell? wr _ e0
        replace hbs' := World.block_lt_of_cell? wr _ f0
        have x0 := cell_grown (w := wr) (a := ⟨pb, po, none⟩) hbs e0
        have x1 := cell_grown (w := wr) (a := ⟨pb, po + 1, none⟩) hbs e1
        have x2 := cell_grown (w := wr) (a := ⟨qb, qo, none⟩) hbs' f0
        have x3 := cell_grown (w := wr) (a := ⟨qb, qo + 1, none⟩) hbs' f1
        go_upto_region 6 with fail
        refine wp_region_QW mixed5 (by kernel_rfl) ?_
        repeat (refine QW_step (fun K hK => ?_); go_simp; first | (refine hK _ ?_; clear hK K) | (apply Exists.intro; refine ⟨fun _ => ?_, hK _ ?_⟩; fail; clear hK K))
        refine QW_nil ?_
        intro _ hw9
        obtain ⟨⟨nq, osq⟩, hw8⟩ := hw9
        subst hw8
        have bG := below_grow wr nq osq
        replace HO := Hid.mk9 (own_below HO.out bG)
        replace HB := Hid.mk9 (HB.out.trans (bG.mono HB.out.size))
        replace e0 := kept3 e0 bG
        replace e1 := kept3 e1 bG
        replace f0 := kept3 f0 bG
        replace f1 := kept3 f1 bG
        clear bG x0 x1 x2 x3
        generalize Go.Sort.grow (wr.drewN nq) osq = wr at *
        replace hbs := World.block_lt_of_cell? wr _ e0
        replace hbs' := World.block_lt_of_cell? wr _ f0
        have x0 := cell_grown (w := wr) (a := ⟨pb, po, none⟩) hbs e0
        have x1 := cell_grown (w := wr) (a := ⟨pb, po + 1, none⟩) hbs e1
        have x2 := cell_grown (w := wr) (a := ⟨qb, qo, none⟩) hbs' f0
        have x3 := cell_grown (w := wr) (a := ⟨qb, qo + 1, none⟩) hbs' f1
        go_upto_region 8 with fail
        refine wp_region_QW mixed5 (by kernel_rfl) ?_
        repeat (refine QW_step (fun K hK => ?_); go_simp; first | (refine hK _ ?_; clear hK K) | (apply Exists.intro; refine ⟨fun _ => ?_, hK _ ?_⟩; fail; clear hK K))
        refine QW_nil ?_
        intro _ hw9
        obtain ⟨⟨nq, osq⟩, hw8⟩ := hw9
        subst hw8
        have bG := below_grow wr nq osq
        replace HO := Hid.mk9 (own_below HO.out bG)
        replace HB := Hid.mk9 (HB.out.trans (bG.mono HB.out.size))
        replace e0 := kept3 e0 bG
        replace e1 := kept3 e1 bG
        replace f0 := kept3 f0 bG
        replace f1 := kept3 f1 bG
        clear bG x0 x1 x2 x3
        generalize Go.Sort.grow (wr.drewN nq) osq = wr at *
        replace hbs := World.block_lt_of_cell? wr _ e0
        replace hbs' := World.block_lt_of_cell? wr _ f0
        have x0 := cell_grown (w := wr) (a := ⟨pb, po, none⟩) hbs e0
        have x1 := cell_grown (w := wr) (a := ⟨pb, po + 1, none⟩) hbs e1
        have x2 := cell_grown (w := wr) (a := ⟨qb, qo, none⟩) hbs' f0
        have x3 := cell_grown (w := wr) (a := ⟨qb, qo + 1, none⟩) hbs' f1
        go_upto_region 3 with fail
        refine zip_3 _ _ _ _ _ _ _ _ _ _ _ _ _ _ _ _ _ _ _ _ _ _ _ _ _ _ _ _ _ _ _ _ _ _ _ _ _ _ _ _ _ _ _ _ _ _ _ _ _ _ _ _ _ _ _ _ _ _ _ _ _ _ _ _ _ _ _ _ _ _ _ _ _ _ _ _ _ _ qb qo lb cb zb y1' y2' _ n M w wr _ (by omega) hlb (by omega) ZB.out f0 f1 hqb HO.out (by omega) HB.out (Hid.mk9 (fun u21 u22 u23 u24 u25 u26 u27 u28 v' wC ho hb => ?_))
        have HF : Hid (ZipIn (zipP A0 B0) ((x1', x2') :: A') B' w (n + 1) v' wC) := ⟨hb, _, HR.out, ho⟩
        clear ho hb HR HO HB e0 e1 f0 f1 x0 x1 x2 x3 hbs hbs'
        go_wp2_with fail
        exact ⟨⟨some ⟨pb, po, none⟩, la, ca, (x1', x2') :: A', zb, lb - 1, cb - 1, B', n + 1, rfl, rfl, by omega, HA, HB', HF⟩, by simp [lenV]; omega⟩
end Go.Proofs.Ytppajhjfnlhmaaa.Bk
