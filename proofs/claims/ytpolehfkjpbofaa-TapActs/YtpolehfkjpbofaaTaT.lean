/-
  The answer's Put and Take by the plain machine; its Next.
-/
import Derived.Test.YtpolehfkjpbofaaTaS
namespace Go.Proofs.Ytpolehfkjpbofaa.Ta
open Go.ChangeShapes Go.WideShapes Go.ChangeAt Go.RowKit
/-- no pipe has more than there is room for -/
def OkP (P : List (List Int)) (R : Nat) : Prop := ∀ i, (P.getD i []).length ≤ R
theorem OkP.set {P : List (List Int)} {R i : Nat} {l : List Int} (h : OkP P R) (hl : l.length ≤ R) : OkP (P.set i l) R := by
  intro j
  by_cases e : i = j
  · subst e
    by_cases hi : i < P.length
    · simp only [List.getD_eq_getElem?_getD]; rw [List.getElem?_set_self hi]; exact hl
    · simp only [List.getD_eq_getElem?_getD]; rw [List.getElem?_eq_none (by simp; omega)]; simp
  · have : (P.set i l).getD j [] = P.getD j [] := by simp only [List.getD_eq_getElem?_getD]; rw [List.getElem?_set_ne e]
    rw [this]; exact h j
section
variable {w : World} {v : Value} {P : List (List Int)} {R t : Nat}
theorem rput_any (h : TpV w v P R t) (hk : P.length ≤ 8) (hR : R ≤ 64) (hO : OkP P R) (pipe n : Int) : Calls Try.prog 10 #[v, .int .i64 pipe, .int .i64 n] w fun e w' => RpPost (putS P R pipe n).1 R t (putS P R pipe n).2 w e w' := by
  obtain ⟨ra, c, rfl, hr⟩ := h
  unfold putS
  split
  · rename_i hp
    obtain ⟨h1, h2⟩ := hasP_nat hp
    have ho := hO pipe.toNat
    rw [h2]
    split
    · rename_i hl
      exact rput_ok ra _ c _ P R t n w hr h1 hk (by omega) (by first | omega | (simp only [Int.toNat_natCast] at *; omega))
    · rename_i hl
      exact rput_full ra _ c _ P R t n w hr h1 hk (by have := hO pipe.toNat; simp only [Int.toNat_natCast] at *; omega)
  · rename_i hp
    by_cases h0 : pipe < 0
    · exact rput_neg ra _ c P R t pipe n w hr h0
    · exact rput_far ra _ c P R t pipe n w hr h0 (by simp [hasP] at hp; omega)
theorem rtake_any (h : TpV w v P R t) (hk : P.length ≤ 8) (hR : R ≤ 64) (hO : OkP P R) (pipe : Int) : Calls Try.prog 12 #[v, .int .i64 pipe] w fun e w' => RtPost (takeS P pipe).1 R t (takeS P pipe).2.1 (takeS P pipe).2.2 w e w' := by
  obtain ⟨ra, c, rfl, hr⟩ := h
  unfold takeS
  split
  · rename_i hp
    obtain ⟨h1, h2⟩ := hasP_nat hp
    have ho := hO pipe.toNat
    rw [h2]
    simp only [Int.toNat_natCast]
    cases hl : P.getD pipe.toNat [] with
    | nil => exact rtake_none ra _ c _ P R t w hr h1 hk (by rw [hl]; rfl)
    | cons x l => exact rtake_ok ra _ c _ P R t x l w hr h1 hk (by omega) hl
  · rename_i hp
    by_cases h0 : pipe < 0
    · exact rtake_neg ra _ c P R t pipe w hr h0
    · exact rtake_far ra _ c P R t pipe w hr h0 (by simp [hasP] at hp; omega)
end
theorem next_hit {P : List (List Int)} {t d : Nat} {x : Int} {l : List Int} (h : fndS P t P.length 0 = some d) (hl : P.getD ((t + d) % P.length) [] = x :: l) : nextS P t = (P.set ((t + d) % P.length) l, ((t + d) % P.length + 1) % P.length, (((t + d) % P.length : Nat) : Int), x, 0) := by
  unfold nextS; rw [h]; simp only [hl]; rfl
theorem next_miss {P : List (List Int)} {t : Nat} (h : fndS P t P.length 0 = none) : nextS P t = (P, t, -1, 0, 5) := by
  unfold nextS; rw [h]
def RnPost (R : Int) (q : List (List Int) × Nat × Int × Int × Int) (w : World) (e : Ending) (w' : World) : Prop := Below w.heap.size w w' ∧ ∃ v, e = .returned (.tuple #[v, .int .i64 q.2.2.1, .int .i64 q.2.2.2.1, .int .i64 q.2.2.2.2]) ∧ TpV w' v q.1 R q.2.1
set_option maxHeartbeats 4000000 in
set_option maxRecDepth 60000 in
theorem rnext_any (ra : Option Addr) (k c : Nat) (P : List (List Int)) (R t : Nat) (w : World) (h : RowsAt w ra k c P) (hk : k ≤ 8) (h0 : 0 < k) (hR : R ≤ 64) (hO : OkP P R) (ht : t < k) : Calls Try.prog 14 #[.agg #[.slice ra k c, .int .i64 R, .int .i64 t]] w fun e w' => RnPost R (nextS P t) w e w' := by
  have hlk := h.len
  obtain ⟨b, off, vs, rfl, hvs, hv⟩ := h.open h0
  have HR := Hid.mk9 h
  have HVS := Hid.mk9 hvs
  have HV := Hid.mk9 hv
  have HK : Hid (P.length = k ∧ k ≤ 8 ∧ 0 < k ∧ R ≤ 64 ∧ t < k ∧ OkP P R) := ⟨hlk, hk, h0, hR, ht, hO⟩
  clear h hvs hv hO hR ht hk h0 hlk
  have b1 := below_alloc w (.cells #[.slice (some ⟨b, off, none⟩) k c, .int .i64 R, .int .i64 t] 30)
  have b2 := below_alloc (w.alloc (.cells #[.slice (some ⟨b, off, none⟩) k c, .int .i64 R, .int .i64 t] 30)) (.cells #[.slice none 0 0, .int .i64 0, .int .i64 0] 30)
  have HB := Hid.mk9 (below2 b1 b2)
  have HX0 := Hid.mk9 ((Bx3.new w 30 (.slice (some ⟨b, off, none⟩) k c) (.int .i64 R) (.int .i64 t)).below b2)
  have hx1 := Bx3.new (w.alloc (.cells #[.slice (some ⟨b, off, none⟩) k c, .int .i64 R, .int .i64 t] 30)) 30 (.slice none 0 0) (.int .i64 0) (.int .i64 0)
  rw [show (w.alloc (.cells #[.slice (some ⟨b, off, none⟩) k c, .int .i64 R, .int .i64 t] 30)).heap.size = w.heap.size + 1 by simp] at hx1
  have HX1 := Hid.mk9 hx1
  have HQ : Hid (w.heap.size ≠ w.heap.size + 1) := ⟨by omega⟩
  have HQ0 : Hid (w.heap.size ≤ w.heap.size) := ⟨by omega⟩
  have HQ1 : Hid (w.heap.size ≤ w.heap.size + 1) := ⟨by omega⟩
  clear hx1 b1 b2
  go_enter Try.func14, Try.ntmps14
  go_upto_region 1 with fail
  generalize ((w.alloc (.cells #[.slice (some ⟨b, off, none⟩) k c, .int .i64 R, .int .i64 t] 30)).alloc (.cells #[.slice none 0 0, .int .i64 0, .int .i64 0] 30)) = wA at *
  generalize w.heap.size + 1 = q1 at *
  generalize hq : w.heap.size = q0 at HX0 HQ HQ0 HQ1 ⊢
  obtain ⟨c0, c1, c2⟩ := HX0.out.cells
  obtain ⟨f0, f1, f2⟩ := HX1.out.frz
  obtain ⟨d0, d1, d2⟩ := HX1.out.cells
  go_wp2_with fail
  go_loopw [6, 7] (fun p i wr => ∃ n : Nat, n ≤ k ∧ i = .int .i64 n ∧ p = .int .i64 (((t + n) % k : Nat) : Int) ∧ wr = wA ∧ Hid (fndS P t k 0 = fndS P t (k - n) n)) (fun _ i _ => k - (intOf i).toNat)
  case atStart => exact ⟨0, Nat.zero_le _, rfl, by rw [Nat.add_zero, Nat.mod_eq_of_lt HK.out.2.2.2.2.1], rfl, ⟨rfl⟩⟩
  case round =>
    obtain ⟨n, hn, rfl, rfl, rfl, HF⟩ := hrel
    by_cases hlt : n < k
    · have n1 : (n : Int) < (k : Int) := by omega
      have n2' : (n : Int) + 1 ≤ 8 := by have := HK.out.2.1; omega
      obtain ⟨p, hp⟩ : ∃ p, Hid ((t + n) % k = p) := ⟨_, ⟨rfl⟩⟩
      have hpk : p < k := by rw [← hp.out]; exact Nat.mod_lt _ HK.out.2.2.1
      have hp2 : Hid ((t + (n + 1)) % k = (p + 1) % k) := ⟨by rw [← hp.out, ← Nat.add_assoc]; simp [Nat.add_mod]⟩
      have p1 : (p : Int) < (k : Int) := by omega
      have p8 : (p : Int) + 1 ≤ 8 := by have := HK.out.2.1; omega
      obtain ⟨a2, m2, k2, e2, hr2⟩ := HV.out p hpk
      have g1 := (HVS.out.below HB.out).get e2
      have hl2 := hr2.len
      have HF2 : Hid (fndS P t k 0 = if P.getD p [] = [] then fndS P t (k - (n + 1)) (n + 1) else some n) := ⟨by rw [HF.out, show k - n = k - (n + 1) + 1 by omega, fndS, HK.out.1, hp.out]⟩
      have hpe : (((t + n) % k : Nat) : Int) = (p : Int) := by rw [hp.out]
      rw [hpe]
      by_cases hz : m2 = 0
      · subst hz
        have HF3 : Hid (fndS P t k 0 = fndS P t (k - (n + 1)) (n + 1)) := ⟨by rw [HF2.out, if_pos (List.length_eq_zero_iff.1 hl2)]⟩
        clear HF2 hr2 hl2 hpe e2 HF hn hq
        by_cases he : p + 1 = k
        · have he1 : (p : Int) + 1 = (k : Int) := by omega
          have hf : Hid (((t + (n + 1)) % k : Nat) = 0) := ⟨by rw [hp2.out, he]; simp⟩
          clear hlt hpk he
          go_wp2_with fail
          exact ⟨⟨n + 1, by omega, by go_num, by rw [hf.out]; rfl, by trivial, HF3⟩, by simp [intOf]; omega⟩
        · have he1 : ¬ ((p : Int) + 1 = (k : Int)) := by omega
          have hf : Hid (((t + (n + 1)) % k : Nat) = p + 1) := ⟨by rw [hp2.out]; exact Nat.mod_eq_of_lt (by omega)⟩
          clear hlt hpk he
          go_wp2_with fail
          exact ⟨⟨n + 1, by omega, by go_num, by rw [hf.out]; go_num, by trivial, HF3⟩, by simp [intOf]; omega⟩
      · have m0 : (0 : Int) < (m2 : Int) := by omega
        obtain ⟨x, l, hxl⟩ : ∃ x l, P.getD p [] = x :: l := by
          cases hg : P.getD p [] with
          | nil => rw [hg] at hl2; simp at hl2; omega
          | cons x l => exact ⟨x, l, rfl⟩
        have hfs : fndS P t P.length 0 = some n := by rw [HK.out.1, HF2.out, if_neg (by rw [hxl]; simp)]
        have hN : nextS P t = (P.set p l, (p + 1) % k, (p : Int), x, 0) := by
          have := next_hit hfs (x := x) (l := l) (by rw [HK.out.1, hp.out]; exact hxl)
          rw [HK.out.1, hp.out] at this
          exact this
        have HT := Hid.mk9 (rtake_ok (some ⟨b, off, none⟩) k c p P R t x l wr (HR.out.below HB.out) hpk HK.out.2.1 (by have h1 := HK.out.2.2.2.2.2 p; have h2 := HK.out.2.2.2.1; omega) hxl)
        have HN := Hid.mk9 hN
        have hlL : Hid ((P.set p l).length = k) := ⟨by rw [List.length_set, HK.out.1]⟩
        clear hxl hfs hN HF2 hr2 hl2 e2 HF hn hlt hpe hz
        go_upto_region 7 with (go_at_call 12; refine HT.out.mono ?_; rintro e W2 ⟨hb2, v, rfl, hT⟩; obtain ⟨ra2, c3, rfl, hR⟩ := hT.is hlL.out; clear hT HT)
        have hb3 := below_alloc W2 (.cells #[.slice ra2 k c3, .int .i64 R, .int .i64 t] 30)
        have HX3 := Hid.mk9 (Bx3.new W2 30 (.slice ra2 k c3) (.int .i64 R) (.int .i64 t))
        have HX14 := Hid.mk9 ((HX1.out.below hb2).below hb3)
        have HX04 := Hid.mk9 ((HX0.out.below hb2).below hb3)
        have HB4 := Hid.mk9 (below2 (below2 HB.out hb2) hb3)
        have HR4 := Hid.mk9 (hR.below hb3)
        have hq02 : Hid (q0 < W2.heap.size ∧ q1 < W2.heap.size ∧ w.heap.size ≤ W2.heap.size) := ⟨by have h1 := HX0.out.lt; have h2 := HX1.out.lt; have h3 := hb2.size; have h4 := HB.out.size; omega⟩
        clear c0 c1 c2 d0 d1 d2 f0 f1 f2 g1 HX0 HX1 hR hb2 hb3
        generalize W2.alloc (.cells #[.slice ra2 k c3, .int .i64 R, .int .i64 t] 30) = W4 at *
        generalize W2.heap.size = q2 at *
        by_cases he : p + 1 = k
        · have hmd : Hid ((p + 1) % k = 0) := ⟨by rw [he]; simp⟩
          have he1 : (p : Int) + 1 = (k : Int) := by omega
          clear he hpk
          have HX5 : Hid (Bx3 (W4.setCell ⟨q2, 2, none⟩ (.int .i64 (k : Int))) q2 30 (.slice ra2 k c3) (.int .i64 R) (.int .i64 (k : Int))) := ⟨heap_setCell_same W4 q2 2 _ _ _ HX3.out⟩
          have HX15 : Hid (Bx3 (W4.setCell ⟨q2, 2, none⟩ (.int .i64 (k : Int))) q1 30 (.slice none 0 0) (.int .i64 0) (.int .i64 0)) := ⟨HX14.out.kept (heap_setCell_other W4 ⟨q2, 2, none⟩ q1 _ (by have := hq02.out; show q1 ≠ q2; omega))⟩
          have HX05 : Hid (Bx3 (W4.setCell ⟨q2, 2, none⟩ (.int .i64 (k : Int))) q0 30 (.slice (some ⟨b, off, none⟩) k c) (.int .i64 R) (.int .i64 t)) := ⟨HX04.out.kept (heap_setCell_other W4 ⟨q2, 2, none⟩ q0 _ (by have := hq02.out; show q0 ≠ q2; omega))⟩
          have HB5 : Hid (Below w.heap.size w (W4.setCell ⟨q2, 2, none⟩ (.int .i64 (k : Int)))) := ⟨HB4.out.setCell (p := ⟨q2, 2, none⟩) (by have := hq02.out; show w.heap.size ≤ q2; omega) _⟩
          have HR5 : Hid (RowsAt (W4.setCell ⟨q2, 2, none⟩ (.int .i64 (k : Int))) ra2 k c3 (P.set p l)) := ⟨HR4.out.kept (keep_set (T := 30) HX3.out (by decide) _ _) (keep_set (T := 30) HX3.out (by decide) _ _)⟩
          obtain ⟨c0, c1, c2⟩ := HX3.out.cells
          obtain ⟨f0, f1, f2⟩ := HX3.out.frz
          go_upto_region 8 with fail
          clear c0 c1 c2 f0 f1 f2 HX3 HX14 HX04 HB4 HR4
          generalize W4.setCell ⟨q2, 2, none⟩ (.int .i64 (k : Int)) = W5 at *
          obtain ⟨c0, c1, c2⟩ := HX5.out.cells
          obtain ⟨f0, f1, f2⟩ := HX5.out.frz
          obtain ⟨d0, d1, d2⟩ := HX05.out.cells
          have HX6 : Hid (Bx3 (W5.setCell ⟨q2, 2, none⟩ (.int .i64 0)) q2 30 (.slice ra2 k c3) (.int .i64 R) (.int .i64 0)) := ⟨heap_setCell_same W5 q2 2 _ _ _ HX5.out⟩
          have HX16 : Hid (Bx3 (W5.setCell ⟨q2, 2, none⟩ (.int .i64 0)) q1 30 (.slice none 0 0) (.int .i64 0) (.int .i64 0)) := ⟨HX15.out.kept (heap_setCell_other W5 ⟨q2, 2, none⟩ q1 _ (by have := hq02.out; show q1 ≠ q2; omega))⟩
          have HB6 : Hid (Below w.heap.size w (W5.setCell ⟨q2, 2, none⟩ (.int .i64 0))) := ⟨HB5.out.setCell (p := ⟨q2, 2, none⟩) (by have := hq02.out; show w.heap.size ≤ q2; omega) _⟩
          have HR6 : Hid (RowsAt (W5.setCell ⟨q2, 2, none⟩ (.int .i64 0)) ra2 k c3 (P.set p l)) := ⟨HR5.out.kept (keep_set (T := 30) HX5.out (by decide) _ _) (keep_set (T := 30) HX5.out (by decide) _ _)⟩
          go_upto_region 10 with fail
          clear c0 c1 c2 f0 f1 f2 d0 d1 d2 HX5 HX15 HX05 HB5 HR5
          generalize W5.setCell ⟨q2, 2, none⟩ (.int .i64 0) = W6 at *
          obtain ⟨c0, c1, c2⟩ := HX6.out.cells
          obtain ⟨d0, d1, d2⟩ := HX16.out.cells
          obtain ⟨f0, f1, f2⟩ := HX16.out.frz
          have HX7 := Hid.mk9 (HX16.out.set (.slice ra2 k c3) (.int .i64 R) (.int .i64 0))
          have HP9 : Hid (RnPost R (nextS P t) w (.returned (.tuple #[.agg #[.slice ra2 k c3, .int .i64 R, .int .i64 0], .int .i64 (p : Int), .int .i64 x, .int .i64 0])) (put3 W6 q1 (.slice ra2 k c3) (.int .i64 R) (.int .i64 0))) := ⟨put3_below HB6.out (by rw [hq]; exact HQ1.out) _ _ _, _, by rw [HN.out], ra2, c3, by rw [HN.out]; simp only [hlL.out, hmd.out]; rfl, by rw [HN.out]; simp only [hlL.out]; exact HR6.out.kept (keep_put3 HX16.out (by decide) _ _ _) (keep_put3 HX16.out (by decide) _ _ _)⟩
          clear hq HN
          go_wp2_with fail
          refine bodyPost_ret (ret_bx3u rfl _ _ q1 (.slice ra2 k c3) (.int .i64 R) (.int .i64 0) (.int .i64 (p : Int)) (.int .i64 x) (.int .i64 0) rfl rfl rfl rfl HX7.out) rfl ?_
          exact HP9.out
        · have hmd : Hid ((p + 1) % k = (p + 1 : Nat)) := ⟨Nat.mod_eq_of_lt (by omega)⟩
          have he1 : ¬ ((p : Int) + 1 = (k : Int)) := by omega
          clear he hpk
          have HX5 : Hid (Bx3 (W4.setCell ⟨q2, 2, none⟩ (.int .i64 ((p : Int) + 1))) q2 30 (.slice ra2 k c3) (.int .i64 R) (.int .i64 ((p : Int) + 1))) := ⟨heap_setCell_same W4 q2 2 _ _ _ HX3.out⟩
          have HX15 : Hid (Bx3 (W4.setCell ⟨q2, 2, none⟩ (.int .i64 ((p : Int) + 1))) q1 30 (.slice none 0 0) (.int .i64 0) (.int .i64 0)) := ⟨HX14.out.kept (heap_setCell_other W4 ⟨q2, 2, none⟩ q1 _ (by have := hq02.out; show q1 ≠ q2; omega))⟩
          have HX05 : Hid (Bx3 (W4.setCell ⟨q2, 2, none⟩ (.int .i64 ((p : Int) + 1))) q0 30 (.slice (some ⟨b, off, none⟩) k c) (.int .i64 R) (.int .i64 t)) := ⟨HX04.out.kept (heap_setCell_other W4 ⟨q2, 2, none⟩ q0 _ (by have := hq02.out; show q0 ≠ q2; omega))⟩
          have HB5 : Hid (Below w.heap.size w (W4.setCell ⟨q2, 2, none⟩ (.int .i64 ((p : Int) + 1)))) := ⟨HB4.out.setCell (p := ⟨q2, 2, none⟩) (by have := hq02.out; show w.heap.size ≤ q2; omega) _⟩
          have HR5 : Hid (RowsAt (W4.setCell ⟨q2, 2, none⟩ (.int .i64 ((p : Int) + 1))) ra2 k c3 (P.set p l)) := ⟨HR4.out.kept (keep_set (T := 30) HX3.out (by decide) _ _) (keep_set (T := 30) HX3.out (by decide) _ _)⟩
          obtain ⟨c0, c1, c2⟩ := HX3.out.cells
          obtain ⟨f0, f1, f2⟩ := HX3.out.frz
          go_upto_region 8 with fail
          clear c0 c1 c2 f0 f1 f2 HX3 HX14 HX04 HB4 HR4
          generalize W4.setCell ⟨q2, 2, none⟩ (.int .i64 ((p : Int) + 1)) = W5 at *
          obtain ⟨c0, c1, c2⟩ := HX5.out.cells
          obtain ⟨f0, f1, f2⟩ := HX5.out.frz
          obtain ⟨d0, d1, d2⟩ := HX05.out.cells
          go_upto_region 10 with fail
          clear c0 c1 c2 f0 f1 f2 d0 d1 d2 HX05
          have HX6 := HX5
          have HX16 := HX15
          have HB6 := HB5
          have HR6 := HR5
          clear HX5 HX15 HB5 HR5
          generalize W5 = W6 at *
          obtain ⟨c0, c1, c2⟩ := HX6.out.cells
          obtain ⟨d0, d1, d2⟩ := HX16.out.cells
          obtain ⟨f0, f1, f2⟩ := HX16.out.frz
          have HX7 := Hid.mk9 (HX16.out.set (.slice ra2 k c3) (.int .i64 R) (.int .i64 ((p : Int) + 1)))
          have HP9 : Hid (RnPost R (nextS P t) w (.returned (.tuple #[.agg #[.slice ra2 k c3, .int .i64 R, .int .i64 ((p : Int) + 1)], .int .i64 (p : Int), .int .i64 x, .int .i64 0])) (put3 W6 q1 (.slice ra2 k c3) (.int .i64 R) (.int .i64 ((p : Int) + 1)))) := ⟨put3_below HB6.out (by rw [hq]; exact HQ1.out) _ _ _, _, by rw [HN.out], ra2, c3, by rw [HN.out]; simp only [hlL.out, hmd.out]; rfl, by rw [HN.out]; simp only [hlL.out]; exact HR6.out.kept (keep_put3 HX16.out (by decide) _ _ _) (keep_put3 HX16.out (by decide) _ _ _)⟩
          clear hq HN
          go_wp2_with fail
          refine bodyPost_ret (ret_bx3u rfl _ _ q1 (.slice ra2 k c3) (.int .i64 R) (.int .i64 ((p : Int) + 1)) (.int .i64 (p : Int)) (.int .i64 x) (.int .i64 0) rfl rfl rfl rfl HX7.out) rfl ?_
          exact HP9.out
    · obtain rfl : n = k := by omega
      have hF : fndS P t P.length 0 = none := by rw [HK.out.1, HF.out, Nat.sub_self]; rfl
      have HX2 := Hid.mk9 (HX1.out.set (.slice (some ⟨b, off, none⟩) n c) (.int .i64 R) (.int .i64 t))
      have HP9 : Hid (RnPost R (nextS P t) w (.returned (.tuple #[.agg #[.slice (some ⟨b, off, none⟩) n c, .int .i64 R, .int .i64 t], .int .i64 (-1), .int .i64 0, .int .i64 5])) (put3 wr q1 (.slice (some ⟨b, off, none⟩) n c) (.int .i64 R) (.int .i64 t))) := ⟨put3_below HB.out (by rw [hq]; exact HQ1.out) _ _ _, _, by rw [next_miss hF], some ⟨b, off, none⟩, c, by rw [next_miss hF, HK.out.1], by rw [next_miss hF]; show RowsAt _ _ P.length c P; rw [HK.out.1]; exact (HR.out.below HB.out).kept (keep_put3 HX1.out (by decide) _ _ _) (keep_put3 HX1.out (by decide) _ _ _)⟩
      clear hF HF hn hlt hq
      go_wp2_with fail
      refine bodyPost_ret (ret_bx3u rfl _ _ q1 (.slice (some ⟨b, off, none⟩) n c) (.int .i64 R) (.int .i64 t) (.int .i64 (-1)) (.int .i64 0) (.int .i64 5) rfl rfl rfl rfl HX2.out) rfl ?_
      exact HP9.out
end Go.Proofs.Ytpolehfkjpbofaa.Ta
