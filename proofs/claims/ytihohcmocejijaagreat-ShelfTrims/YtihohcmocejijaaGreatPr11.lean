/-
  The contracts of refusal, slices.Grow, slices.Concat and Put.
  A row of one's own with samples behind; the contracts of slices.Grow and slices.Concat.
-/
import Derived.Test.YtihohcmocejijaaGreatPr10
namespace Go.Proofs.YtihohcmocejijaaGreat.Bk
open Go.ChangeShapes Go.WideShapes Go.ChangeAt Go.RowKit
set_option maxHeartbeats 1000000 in
set_option maxRecDepth 60000 in
theorem refusal_any (a : Option Addr) (len cap : Nat) (ls : List Sm) (x y : Int) (w : World) (h : SmsAt w a len cap ls) (hM : MayS ls) :
    Calls Tryz.prog 131 #[.slice a len cap, .agg #[.int .i64 x, .int .i64 y]] w fun e w' => e = .returned (.int .i64 (putE ls (x, y))) ∧ Below w.heap.size w w' := by
  have hl : ls.length = len := h.1
  have hm : len ≤ 64 := by have := hM.1; omega
  have HL := Hid.mk9 h
  have b0 := below_alloc w (.cells #[.int .i64 x, .int .i64 y] 27)
  have b1 := below2 b0 (below_alloc _ (.cells #[.int .i64 x, .int .i64 y] 27))
  have HX := Hid.mk9 ((SmBox.new w x y).below (below_alloc _ (.cells #[.int .i64 x, .int .i64 y] 27)))
  have HO : Hid (SmsAt ((w.alloc (.cells #[.int .i64 x, .int .i64 y] 27)).alloc (.cells #[.int .i64 x, .int .i64 y] 27)) (some ⟨w.heap.size + 1, 0, none⟩) 1 1 [(x, y)]) := by
    have := sms_lit (w.alloc (.cells #[.int .i64 x, .int .i64 y] 27)) x y
    rw [show (w.alloc (.cells #[.int .i64 x, .int .i64 y] 27)).heap.size = w.heap.size + 1 from by simp] at this
    exact this
  have HF : Hid (∀ W, Below w.heap.size w W → Calls Tryz.prog 90 #[.slice a len cap, .int .i64 x] W fun e w' => FindPost (findP ls x) W e w') := fun W hb => find_any a len cap ls x W (h.below hb) ((may_iff ls).1 hM).2.2
  clear h hM
  by_cases hin : InS (x, y)
  · have HC := Hid.mk9 (check_yes HO.out ((may_one _).2 hin))
    have HE7 : Hid (findP ls x = some (x, y) → putE ls (x, y) = 7) := fun h => putE_same hin h
    have HE8 : Hid (∀ z, findP ls x = some z → z ≠ (x, y) → putE ls (x, y) = 8) := fun z h hz => putE_other hin h hz
    have HE6 : Hid (findP ls x = none → 64 ≤ ls.length → putE ls (x, y) = 6) := fun h hz => putE_full hin h hz
    have HE0 : Hid (findP ls x = none → ls.length < 64 → putE ls (x, y) = 0) := fun h hz => putE_ok hin h hz
    clear hin HO
    go_enter Tryz.func131, Tryz.ntmps131
    go_upto_region 4 with (go_at_call 53; refine HC.out.mono ?_; rintro e w1 ⟨rfl, hb1⟩)
    have HB := Hid.mk9 (below2 b1 hb1)
    have HX1 := Hid.mk9 (HX.out.below hb1)
    have c0 := HX1.out.c0
    clear hb1 b0 b1 HC HX
    cases hf : findP ls x with
    | none =>
      rw [hf] at HF HE6 HE0
      clear HE7 HE8
      by_cases h64 : 64 ≤ len
      · have HE := Hid.mk9 (HE6.out rfl (by omega))
        have h64' : (64 : Int) ≤ (len : Int) := by omega
        clear HE6 HE0 hf
        go_wp2_with (go_at_call 90; refine (HF.out _ HB.out).mono ?_; rintro e w2 ⟨hb2, rfl⟩; replace HB := Hid.mk9 (below2 HB.out hb2); clear hb2)
        go_ret
        exact ⟨ret_int HE.out.symm, below2 HB.out (below_alloc _ _)⟩
      · have HE := Hid.mk9 (HE0.out rfl (by omega))
        have h64' : decide ((64 : Int) ≤ (len : Int)) = false := by simp; omega
        clear HE6 HE0 hf
        go_wp2_with (go_at_call 90; refine (HF.out _ HB.out).mono ?_; rintro e w2 ⟨hb2, rfl⟩; replace HB := Hid.mk9 (below2 HB.out hb2); clear hb2)
        go_ret
        exact ⟨ret_int HE.out.symm, below2 HB.out (below_alloc _ _)⟩
    | some z =>
      rw [hf] at HF HE7 HE8
      clear HE6 HE0
      obtain ⟨z1, z2⟩ := z
      obtain rfl : z1 = x := (find_mem hf).2
      by_cases hy : z2 = y
      · subst hy
        have HE := Hid.mk9 (HE7.out rfl)
        clear HE7 HE8 hf
        go_wp2_with (go_at_call 90; refine (HF.out _ HB.out).mono ?_; rintro e w2 ⟨hb2, rfl⟩; replace HB := Hid.mk9 (below2 HB.out hb2); replace HX1 := Hid.mk9 (HX1.out.below hb2); have d0 := HX1.out.c0; have d1 := HX1.out.c1; have d2 := HX1.out.lt; clear hb2)
        go_ret
        exact ⟨ret_int HE.out.symm, below2 HB.out (below_alloc _ _)⟩
      · have HE := Hid.mk9 (HE8.out _ rfl fun e => hy (congrArg Prod.snd e))
        clear HE7 HE8 hf
        go_wp2_with (go_at_call 90; refine (HF.out _ HB.out).mono ?_; rintro e w2 ⟨hb2, rfl⟩; replace HB := Hid.mk9 (below2 HB.out hb2); replace HX1 := Hid.mk9 (HX1.out.below hb2); have d0 := HX1.out.c0; have d1 := HX1.out.c1; have d2 := HX1.out.lt; clear hb2)
        go_ret
        exact ⟨ret_int HE.out.symm, below2 HB.out (below_alloc _ _)⟩
  · have HC := Hid.mk9 (check_no HO.out (fun h => hin ((may_one _).1 h)))
    have HE := Hid.mk9 (putE_arg (ls := ls) hin)
    clear hin HO HF
    go_enter Tryz.func131, Tryz.ntmps131
    go_wp2_with (go_at_call 53; refine HC.out.mono ?_; rintro e w1 ⟨rfl, hb1⟩)
    go_ret
    exact ⟨ret_int HE.out.symm, below2 b1 hb1⟩
end Go.Proofs.YtihohcmocejijaaGreat.Bk
namespace Go.Proofs.YtihohcmocejijaaGreat.Bk
open Go.ChangeShapes Go.WideShapes Go.ChangeAt Go.RowKit
theorem append_sms {w w0 : World} {ops : Array Oper} {rest : List Oper} {o : Oper} {a : Act} {Q : Exit → Act → World → Prop} (hgd : o.guard = none) (s x : Operand)
    (ho : o.op = .call { callee := .builtin .append, args := #[s, x], argTypes := #[53, 53] })
    (v : Value) (n : Nat) (L : List Sm) (hs : a.eval s = v) (hown : w.ownsRow w0.heap.size 27 2 v n (cellsS L)) (hb : Below w0.heap.size w0 w)
    (ad : Option Addr) (m c : Nat) (M : List Sm) (hx : a.eval x = .slice ad m c) (hM : SmsAt w ad m c M) (hn : (n : Int) ≤ 1000) (hm : (m : Int) ≤ 1000)
    (h : ∀ v' w', w'.ownsRow w0.heap.size 27 2 v' (n + m) (cellsS (L ++ M)) → Below w0.heap.size w0 w' → wpList Tryz.prog ops Q rest (a.put o.dst v') w') : wpList Tryz.prog ops Q (o :: rest) a w := by
  obtain ⟨i0, hi, hz0, hz1, hz2⟩ := info_parts infoS
  by_cases h0 : m = 0
  · subst h0
    have hM0 : M = [] := List.length_eq_zero_iff.1 hM.1
    subst hM0
    refine wpList_append_zero hgd s x 53 ho w0.heap.size 27 i0 2 Tryz.underlying53 hi v n (cellsS L) hs hown ad c hx ?_
    exact h v w (by rw [List.append_nil]; exact hown) hb
  · obtain ⟨b, off, rfl, -, -⟩ := hM.some (by omega)
    refine wpList_append_own _ hgd s x 53 ho w0.heap.size 27 i0 (.agg #[.int .i64 0, .int .i64 0]) 2 16 Tryz.underlying53 hi hz0 hz1 hz2 rfl (by decide) v n (cellsS L) hs hown ⟨b, off, none⟩ m c (cellsS M) hx (by rw [cellsS_length, hM.1]) (sms_cells hM) (cellsS_one M) (by unfold maxLen; omega) (by omega) hb.size ?_
    intro v' w' hown' hg _
    refine h v' w' (by rw [cellsS_append]; exact hown') ?_
    exact hb.grown hg hb.size (fun k hk => (hown.lt k hk).1)
def GrPost (w w' : World) (e : Ending) : Prop := ∃ cap, e = .returned (.slice (some ⟨w.heap.size, 0, none⟩) 0 cap) ∧ w'.ownsRow w.heap.size 27 2 (.slice (some ⟨w.heap.size, 0, none⟩) 0 cap) 0 [] ∧ Below w.heap.size w w'
set_option maxHeartbeats 4000000 in
set_option maxRecDepth 100000 in
theorem growS_any (n : Nat) (hn : 0 < n) (hn2 : (n : Int) ≤ 1000000) (w : World) :
    Calls Tryz.prog 141 #[.slice none 0 0, .int .i64 (n : Int)] w fun e w' => GrPost w w' e := by
  obtain ⟨i0, hi, hz0, hz1, hz2⟩ := info_parts infoS
  have hrz : ∀ ty, (Builtin.append_ #[53, 3] ty #[.slice none 0 0, .int .i64 (n : Int)]).run Tryz.prog w = .ok (.slice (some ⟨w.heap.size, 0, none⟩) n (grownCap w n 0 27)) (w.drew.alloc (.cells (#[] ++ Builtin.zeroCells (Value.agg #[.int .i64 0, .int .i64 0]).cells n ++ Builtin.zeroCells (Value.agg #[.int .i64 0, .int .i64 0]).cells (grownCap w n 0 27 - n)) 27)) := fun ty => by
    have h := Lib.run_append_grow_zeros (P := Tryz.prog) w 53 3 ty 27 i0 (.agg #[.int .i64 0, .int .i64 0]) .i64 .i64 Tryz.underlying53 Tryz.underlying3 hi hz0 none 0 0 [] (by rw [hz1]; exact run_firstCells_none w.drew 2 0 0 0) n hn (by rw [hz1]; decide) (by omega) (by omega) (by rw [hz2]; omega) (by rw [hz2]; exact growslice_fits (by omega) (by omega))
    rw [Nat.zero_add] at h
    exact h
  have hG1 : n ≤ grownCap w n 0 27 := grownCap_ge w _ _ _
  have hG2 : grownCap w n 0 27 ≤ maxLen := grownCap_le_maxLen w n 0 27 (by unfold maxLen; omega)
  generalize grownCap w n 0 27 = G at *
  have hG3 : (G : Int) ≤ 9223372036854775807 := by unfold maxLen at hG2; omega
  have hb : Below w.heap.size w (w.drew.alloc (.cells (#[] ++ Builtin.zeroCells (Value.agg #[.int .i64 0, .int .i64 0]).cells n ++ Builtin.zeroCells (Value.agg #[.int .i64 0, .int .i64 0]).cells (G - n)) 27)) := (below_drew w).alloc (Nat.le_refl _) _
  have hsz : (#[] ++ Builtin.zeroCells (Value.agg #[.int .i64 0, .int .i64 0]).cells n ++ Builtin.zeroCells (Value.agg #[.int .i64 0, .int .i64 0]).cells (G - n) : Array Value).size = G * 2 := by
    have hz : ∀ k, (Builtin.zeroCells (Value.agg #[.int .i64 0, .int .i64 0]).cells k).size = k * 2 := fun k => by simp [Builtin.zeroCells, Value.cells]
    rw [Array.size_append, Array.size_append, hz, hz]
    simp
    omega
  have HO : Hid ((w.drew.alloc (.cells (#[] ++ Builtin.zeroCells (Value.agg #[.int .i64 0, .int .i64 0]).cells n ++ Builtin.zeroCells (Value.agg #[.int .i64 0, .int .i64 0]).cells (G - n)) 27)).ownsRow w.heap.size 27 2 (.slice (some ⟨w.heap.size, 0, none⟩) 0 G) 0 []) := ⟨rfl, .inr ⟨w.heap.size, G, _, rfl, Nat.le_refl _, heap_alloc_new w.drew _, Nat.zero_le _, hG2, hsz, rfl⟩⟩
  have HB : Hid (Below w.heap.size w (w.drew.alloc (.cells (#[] ++ Builtin.zeroCells (Value.agg #[.int .i64 0, .int .i64 0]).cells n ++ Builtin.zeroCells (Value.agg #[.int .i64 0, .int .i64 0]).cells (G - n)) 27))) := hb
  have h1 : ¬ ((n : Int) < 0) := by omega
  have h2 : (n : Int) > 0 := by omega
  clear hsz hb hG2 hn2
  generalize w.drew.alloc (.cells (#[] ++ Builtin.zeroCells (Value.agg #[.int .i64 0, .int .i64 0]).cells n ++ Builtin.zeroCells (Value.agg #[.int .i64 0, .int .i64 0]).cells (G - n)) 27) = wg at *
  go_enter Tryz.func141, Tryz.ntmps141
  go_wp2_with (at_builtin; refine Lib.wpList_append_run _ rfl _ _ _ _ rfl _ _ rfl rfl _ _ (hrz _) ?_)
  all_goals (go_ret; exact ⟨G, rfl, HO.out, HB.out⟩)
theorem kept3 {w w' : World} {g : Nat} {i : Nat} {u : Value} (h : w.cell? ⟨g, i, none⟩ = some u) (hb : Below w.heap.size w w') : w'.cell? ⟨g, i, none⟩ = some u :=
  (hb.cell (p := ⟨g, i, none⟩) (World.block_lt_of_cell? w ⟨g, i, none⟩ h)).trans h
set_option maxHeartbeats 4000000 in
set_option maxRecDepth 60000 in
theorem concat_any (g : Nat) (a1 a2 a3 : Option Addr) (n1 c1 n2 c2 n3 c3 N2 N3 : Nat) (L1 L2 L3 : List Sm) (w : World) (h0 : w.cell? ⟨g, 0, none⟩ = some (.slice a1 n1 c1)) (h1 : w.cell? ⟨g, 1, none⟩ = some (.slice a2 n2 c2)) (h2 : w.cell? ⟨g, 2, none⟩ = some (.slice a3 n3 c3))
    (s1 : SmsAt w a1 n1 c1 L1) (s2 : SmsAt w a2 n2 c2 L2) (s3 : SmsAt w a3 n3 c3 L3) (e2 : n1 + n2 = N2) (e3 : N2 + n3 = N3) (hN : (N3 : Int) ≤ 100) (hp : 0 < N3) :
    Calls Tryz.prog 132 #[.slice (some ⟨g, 0, none⟩) 3 3] w fun e w' => CopyPost (L1 ++ L2 ++ L3) w e w' := by
  have HL : Hid ((L1 ++ L2 ++ L3).length = N3) := Hid.mk9 (by simp only [List.length_append]; have := s1.1; have := s2.1; have := s3.1; omega)
  have K0 := Hid.mk9 h0
  have K1 := Hid.mk9 h1
  have K2 := Hid.mk9 h2
  have S1 := Hid.mk9 s1
  have S2 := Hid.mk9 s2
  have S3 := Hid.mk9 s3
  have HG := Hid.mk9 (growS_any N3 hp (by omega) w)
  have E2 := Hid.mk9 e2
  have E3 := Hid.mk9 e3
  have q1 : (n1 : Int) ≤ 100 := by omega
  have q2 : (n2 : Int) ≤ 100 := by omega
  have q3 : (n3 : Int) ≤ 100 := by omega
  have q4 : (N2 : Int) ≤ 100 := by omega
  have r2 : (n1 : Int) + (n2 : Int) = (N2 : Int) := by omega
  have r3 : (N2 : Int) + (n3 : Int) = (N3 : Int) := by omega
  have z1 : ¬ (n1 : Int) < 0 := by omega
  have z2 : ¬ (N2 : Int) < 0 := by omega
  have z3 : ¬ (N3 : Int) < 0 := by omega
  clear s1 s2 s3 e2 e3 hp
  go_enter Tryz.func132, Tryz.ntmps132
  go_wp2_with fail
  refine wp_loop_rounds 4 ?_
  rw [rounds_succ]
  go_wp2_with fail
  rw [rounds_succ]
  go_wp2_with fail
  rw [rounds_succ]
  go_wp2_with fail
  rw [rounds_succ]
  go_wp2_with (go_at_call 141; refine HG.out.mono ?_; rintro e w2 ⟨cap, rfl, hown2, hb2⟩)
  have k0 := kept3 K0.out hb2
  have k1 := kept3 K1.out hb2
  have k2 := kept3 K2.out hb2
  have HB := Hid.mk9 hb2
  have HO : Hid (w2.ownsRow w.heap.size 27 2 (.slice (some ⟨w.heap.size, 0, none⟩) 0 cap) 0 (cellsS [])) := hown2
  clear hb2 hown2 HG h0 h1 h2
  refine wp_loop_rounds 4 ?_
  rw [rounds_succ]
  go_wp2_with (at_builtin; refine append_sms (w0 := w) rfl (.tmp 31) (.tmp 32) rfl _ 0 [] rfl HO.out HB.out a1 n1 c1 L1 rfl (S1.out.below HB.out) (by omega) (by omega) ?_; intro v3 w3 ho3 hb3)
  rw [List.nil_append, Nat.zero_add] at ho3
  replace HO := Hid.mk9 ho3
  replace HB := Hid.mk9 hb3
  clear k0 k1 k2
  have k1 := kept3 K1.out hb3
  have k2 := kept3 K2.out hb3
  clear hb3 ho3
  rw [rounds_succ]
  go_wp2_with (at_builtin; refine append_sms (w0 := w) rfl (.tmp 31) (.tmp 32) rfl _ n1 L1 rfl HO.out HB.out a2 n2 c2 L2 rfl (S2.out.below HB.out) (by omega) (by omega) ?_; intro v4 w4 ho4 hb4)
  rw [E2.out] at ho4
  replace HO := Hid.mk9 ho4
  replace HB := Hid.mk9 hb4
  clear k1 k2
  have k2 := kept3 K2.out hb4
  clear hb4 ho4
  rw [rounds_succ]
  go_wp2_with (at_builtin; refine append_sms (w0 := w) rfl (.tmp 31) (.tmp 32) rfl _ N2 (L1 ++ L2) rfl HO.out HB.out a3 n3 c3 L3 rfl (S3.out.below HB.out) (by omega) (by omega) ?_; intro v5 w5 ho5 hb5)
  rw [E3.out] at ho5
  replace HO := Hid.mk9 ho5
  replace HB := Hid.mk9 hb5
  clear k2 hb5 ho5
  rw [rounds_succ]
  go_wp2
  go_ret
  exact ⟨HB.out, _, rfl, by rw [HL.out]; exact HO.out⟩
end Go.Proofs.YtihohcmocejijaaGreat.Bk
