/-
  The theorem of once, plainly; the contracts of Short and Entries.
  Whether samples are alike: the contracts of the answer's Same, of slices.Equal and of Same.
-/
import Derived.Test.YtihohcmocejijaaGreatPr36
import Derived.Test.YtihohcmocejijaaGreatPr06
namespace Go.Proofs.YtihohcmocejijaaGreat.Bk
open Go.ChangeShapes Go.WideShapes Go.ChangeAt Go.RowKit
def ShortP (s : ByteArray) : Prop := s.size ≤ 500
set_option maxRecDepth 60000 in
theorem short_any (o : Opp) (w : World) : Calls Tryz.prog 8 #[opV o] w fun e w' => BoolPost (ShortP o.s) w e w' := by
  obtain ⟨k, s, t, v, f, u, m⟩ := o
  simp only [opV]
  have HP : Hid (BoolPost (ShortP s) w (.returned (.bool (decide ((s.size : Int) ≤ 500)))) (w.alloc (.cells #[.int .i64 k, .string s, .int .i64 t, .int .i64 v, .int .i64 f, .int .i64 u, .int .i64 m] 29))) := Hid.mk9 ⟨below_alloc _ _, _, rfl, by unfold ShortP; simp; omega⟩
  go_enter Tryz.func8, Tryz.ntmps8
  go_wp2
  go_ret
  exact HP.out
def EnsPost (len : Nat) (w : World) (e : Ending) (w' : World) : Prop := Below w.heap.size w w' ∧ ∃ q, e = .returned (.bool q) ∧ (q = true → len ≤ 80)
set_option maxHeartbeats 4000000 in
set_option maxRecDepth 60000 in
theorem entries_any (a : Option Addr) (len cap : Nat) (es : List Ent) (w : World) (h : EnsAt w a len cap es) : Calls Tryz.prog 20 #[.slice a len cap] w fun x w' => EnsPost len w x w' := by
  have hm : (len : Int) ≤ 9223372036854775807 := by have h1 := h.2.1; have h2 := h.2.2.1; unfold maxLen at h2; omega
  have HE := Hid.mk9 h
  clear h
  go_enter Tryz.func20, Tryz.ntmps20
  go_wp2_with fail
  go_loopw [3] (fun si wr => ∃ k : Nat, si = .int .i64 k ∧ k ≤ len ∧ k ≤ 80 ∧ Hid (Below w.heap.size w wr)) (fun si _ => 80 - (intOf si).toNat)
  case atStart => exact ⟨0, rfl, Nat.zero_le _, Nat.zero_le _, Hid.mk9 (Below.refl _ _)⟩
  case round =>
    obtain ⟨k, rfl, hk, h80, HB⟩ := hrel
    by_cases hlt : k < len ∧ k < 80
    · obtain ⟨hlt, hl8⟩ := hlt
      have k1 : (k : Int) < (len : Int) := by omega
      have k2 : (k : Int) < 80 := by omega
      have k0 : (0 : Int) ≤ (k : Int) := by omega
      obtain ⟨b, off, rfl, hbs, hcell⟩ := (HE.out.below HB.out).some (by omega)
      have hc := hcell k hlt
      obtain ⟨e, he⟩ : ∃ e, es.getD k en0 = e := ⟨_, rfl⟩
      rw [he] at hc
      have HS := Hid.mk9 (short_any e.op wr)
      clear hcell he
      obtain ⟨ep, cl, id, ok, os, ot, ov, of, ou, om⟩ := e
      simp only [opV] at HS
      obtain ⟨c0, c1, c2, c3, c4, c5, c6, c7, c8, c9⟩ := hc
      simp only at c0 c1 c2 c3 c4 c5 c6 c7 c8 c9
      go_upto_region 4 with fail
      by_cases hs : ShortP os
      · have HC := Hid.mk9 (HS.out.mono fun _ _ hp => bp_yes hp hs)
        go_wp2_with (go_at_call 8; refine HC.out.mono ?_; rintro e wC ⟨rfl, hbC⟩; have HB2 := Hid.mk9 (below2 HB.out hbC); clear hbC)
        exact ⟨⟨k + 1, by go_num, by omega, by omega, HB2⟩, by simp [intOf]; omega⟩
      · have HC := Hid.mk9 (HS.out.mono fun _ _ hp => bp_no hp hs)
        go_wp2_with (go_at_call 8; refine HC.out.mono ?_; rintro e wC ⟨rfl, hbC⟩; have HB2 := Hid.mk9 (below2 HB.out hbC); clear hbC)
        go_ret
        exact ⟨HB2.out, false, rfl, fun h => by cases h⟩
    · have HP : Hid (EnsPost len w (.returned (.bool (decide ((len : Int) ≤ 80)))) wr) := Hid.mk9 ⟨HB.out, _, rfl, fun h => by simp at h; omega⟩
      have hor : (len : Int) ≤ (k : Int) ∨ ((k : Int) < (len : Int) ∧ (80 : Int) ≤ (k : Int)) := by omega
      clear hlt
      rcases hor with hor | ⟨hor, hor2⟩
      all_goals
        go_wp2_with fail
        go_ret
        exact HP.out
end Go.Proofs.YtihohcmocejijaaGreat.Bk
namespace Go.Proofs.YtihohcmocejijaaGreat.Bk
open Go.ChangeShapes Go.WideShapes Go.ChangeAt Go.RowKit
theorem sms_take {l m : List Sm} {k : Nat} (h : ∀ j, j < k → l.getD j sm0 = m.getD j sm0) (h1 : l.length = k) (h2 : m.length = k) : l = m := by
  refine List.ext_getElem (by omega) fun i h3 h4 => ?_
  have := h i (by omega)
  rw [List.getD_eq_getElem?_getD, List.getElem?_eq_getElem h3, List.getD_eq_getElem?_getD, List.getElem?_eq_getElem h4] at this
  simpa using this
set_option maxHeartbeats 2000000 in
set_option maxRecDepth 60000 in
theorem refSameS_any (a : Option Addr) (n1 c1 : Nat) (a' : Option Addr) (n2 c2 : Nat) (l m : List Sm) (w : World) (h1 : SmsAt w a n1 c1 l) (h2 : SmsAt w a' n2 c2 m) :
    Calls Tryz.prog 23 #[.slice a n1 c1, .slice a' n2 c2] w fun e w' => BoolPost (l = m) w e w' := by
  have hl : l.length = n1 := h1.1
  have hm : m.length = n2 := h2.1
  have hx : n1 ≤ maxLen := Nat.le_trans h1.2.1 h1.2.2.1
  have hy : n2 ≤ maxLen := Nat.le_trans h2.2.1 h2.2.2.1
  unfold maxLen at hx hy
  have H1 : Hid (SmsAt w a n1 c1 l) := h1
  have H2 : Hid (SmsAt w a' n2 c2 m) := h2
  clear h1 h2
  by_cases hne : n1 = n2
  · subst hne
    go_enter Tryz.func23, Tryz.ntmps23
    go_wp2_with fail
    go_loopw [5] (fun i wr => ∃ k : Nat, k ≤ n1 ∧ i = .int .i64 k ∧ Hid (∀ j, j < k → l.getD j sm0 = m.getD j sm0) ∧ Below w.heap.size w wr) (fun i _ => n1 - (intOf i).toNat)
    case atStart => exact ⟨0, Nat.zero_le _, rfl, (fun j hj => absurd hj (Nat.not_lt_zero _)), Below.refl _ _⟩
    case round =>
      obtain ⟨k, hk, rfl, hT, hbel⟩ := hrel
      by_cases hlt : k < n1
      · obtain ⟨b, off, rfl, hbs, hcell⟩ := (H1.out.below hbel).some (by omega)
        obtain ⟨b', off', rfl, hbs', hcell'⟩ := (H2.out.below hbel).some (by omega)
        obtain ⟨e0, e1⟩ := hcell k hlt
        obtain ⟨f0, f1⟩ := hcell' k hlt
        clear hcell hcell'
        have hk1 : (k : Int) < (n1 : Int) := by omega
        have hk0 : (0 : Int) ≤ (k : Int) := by omega
        have HYES : Hid (l.getD k sm0 = m.getD k sm0 → ∀ j, j < k + 1 → l.getD j sm0 = m.getD j sm0) := fun h j hj => by
          rcases Nat.lt_succ_iff_lt_or_eq.1 hj with h' | rfl
          · exact hT.out j h'
          · exact h
        have HNO : Hid (¬ l.getD k sm0 = m.getD k sm0 → ¬ l = m) := fun h e => h (by rw [e])
        have HB1 : Hid (∀ n os, Below w.heap.size w (Go.Sort.grow (wr.drewN n) os)) := fun n os => below2 hbel (below_grow _ _ _)
        generalize l.getD k sm0 = p at *
        generalize m.getD k sm0 = q at *
        obtain ⟨p1, p2⟩ := p
        obtain ⟨q1, q2⟩ := q
        have x0 := cell_grown (a := ⟨b, off + k * 2, none⟩) hbs e0
        have x1 := cell_grown (a := ⟨b, off + k * 2 + 1, none⟩) hbs e1
        have x2 := cell_grown (a := ⟨b', off' + k * 2, none⟩) hbs' f0
        have x3 := cell_grown (a := ⟨b', off' + k * 2 + 1, none⟩) hbs' f1
        clear hT
        by_cases g1 : p1 = q1
        · by_cases g2 : p2 = q2
          · subst g1 g2
            have HY : Hid (∀ j, j < k + 1 → l.getD j sm0 = m.getD j sm0) := HYES.out rfl
            clear HYES HNO
            go_wp2_with fail
            refine wp_region_QW mixed5 (by kernel_rfl) ?_
            repeat (refine QW_step (fun K hK => ?_); go_simp; first | (refine hK _ ?_; clear hK K) | (apply Exists.intro; refine ⟨fun _ => ?_, hK _ ?_⟩; fail; clear hK K))
            refine QW_nil ?_
            intro _ hw9
            obtain ⟨⟨nq, osq⟩, hw8⟩ := hw9
            subst hw8
            have hb := HB1.out nq osq
            go_wp2_with fail
            exact ⟨⟨k + 1, by omega, by go_num, HY, hb⟩, by simp [intOf]; omega⟩
          · have HN : Hid (¬ l = m) := HNO.out fun e => g2 (congrArg Prod.snd e)
            subst g1
            clear HYES HNO
            go_wp2_with fail
            refine wp_region_QW mixed5 (by kernel_rfl) ?_
            repeat (refine QW_step (fun K hK => ?_); go_simp; first | (refine hK _ ?_; clear hK K) | (apply Exists.intro; refine ⟨fun _ => ?_, hK _ ?_⟩; fail; clear hK K))
            refine QW_nil ?_
            intro _ hw9
            obtain ⟨⟨nq, osq⟩, hw8⟩ := hw9
            subst hw8
            have hb := HB1.out nq osq
            go_wp2_with fail
            go_ret
            exact bool_no hb HN.out
        · have HN : Hid (¬ l = m) := HNO.out fun e => g1 (congrArg Prod.fst e)
          clear HYES HNO
          go_wp2_with fail
          refine wp_region_QW mixed5 (by kernel_rfl) ?_
          repeat (refine QW_step (fun K hK => ?_); go_simp; first | (refine hK _ ?_; clear hK K) | (apply Exists.intro; refine ⟨fun _ => ?_, hK _ ?_⟩; fail; clear hK K))
          refine QW_nil ?_
          intro _ hw9
          obtain ⟨⟨nq, osq⟩, hw8⟩ := hw9
          subst hw8
          have hb := HB1.out nq osq
          go_wp2_with fail
          go_ret
          exact bool_no hb HN.out
      · obtain rfl : k = n1 := by omega
        have HY : Hid (l = m) := sms_take hT.out hl hm
        clear hT
        go_wp2_with fail
        go_ret
        exact bool_yes hbel HY.out
  · have HN : Hid (¬ l = m) := fun e => hne (by rw [← hl, ← hm, e])
    have hne' : ¬ (n1 : Int) = (n2 : Int) := by omega
    go_enter Tryz.func23, Tryz.ntmps23
    go_wp2_with fail
    go_ret
    exact bool_no (Below.refl _ _) HN.out
end Go.Proofs.YtihohcmocejijaaGreat.Bk
