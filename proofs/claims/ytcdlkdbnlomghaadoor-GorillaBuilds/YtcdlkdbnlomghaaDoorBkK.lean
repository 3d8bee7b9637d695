/-
  Whether samples are alike: the contracts of the answer's Same, of slices.Equal and of Same.
-/
import Derived.Test.YtcdlkdbnlomghaaDoorBkP
namespace Go.Proofs.YtcdlkdbnlomghaaDoor.Bk
open Go.ChangeShapes Go.WideShapes Go.ChangeAt Go.RowKit
theorem Hid.mk8 {P : Prop} (h : P) : Hid P := h
theorem sms_take {l m : List Sm} {k : Nat} (h : ∀ j, j < k → l.getD j sm0 = m.getD j sm0) (h1 : l.length = k) (h2 : m.length = k) : l = m := by
  refine List.ext_getElem (by omega) fun i h3 h4 => ?_
  have := h i (by omega)
  rw [List.getD_eq_getElem?_getD, List.getElem?_eq_getElem h3, List.getD_eq_getElem?_getD, List.getElem?_eq_getElem h4] at this
  simpa using this
set_option maxHeartbeats 2000000 in
set_option maxRecDepth 60000 in
theorem refSameS_any (a : Option Addr) (n1 c1 : Nat) (a' : Option Addr) (n2 c2 : Nat) (l m : List Sm) (w : World) (h1 : SmsAt w a n1 c1 l) (h2 : SmsAt w a' n2 c2 m) :
    Calls Tryd.prog 15 #[.slice a n1 c1, .slice a' n2 c2] w fun e w' => BoolPost (l = m) w e w' := by
  have hl : l.length = n1 := h1.1
  have hm : m.length = n2 := h2.1
  have hx : n1 ≤ maxLen := Nat.le_trans h1.2.1 h1.2.2.1
  have hy : n2 ≤ maxLen := Nat.le_trans h2.2.1 h2.2.2.1
  unfold maxLen at hx hy
  have H1 : Hid (SmsAt w a n1 c1 l) := h1
  have H2 : Hid (SmsAt w a' n2 c2 m) := h2
  clear h1 h2
  by_cases hne : n1 = n2
  · subst hne
    go_enter Tryd.func15, Tryd.ntmps15
    go_wp2_with fail
    go_loopw [5] (fun i wr => ∃ k : Nat, k ≤ n1 ∧ i = .int .i64 k ∧ Hid (∀ j, j < k → l.getD j sm0 = m.getD j sm0) ∧ Below w.heap.size w wr) (fun i _ => n1 - (intOf i).toNat)
    case atStart => exact ⟨0, Nat.zero_le _, rfl, (fun j hj => absurd hj (Nat.not_lt_zero _)), Below.refl _ _⟩
    case round =>
      obtain ⟨k, hk, rfl, hT, hbel⟩ := hrel
      by_cases hlt : k < n1
      · obtain ⟨b, off, rfl, hbs, hcell⟩ := (H1.out.below hbel).some (by omega)
        obtain ⟨b', off', rfl, hbs', hcell'⟩ := (H2.out.below hbel).some (by omega)
        obtain ⟨e0, e1⟩ := hcell k hlt
        obtain ⟨f0, f1⟩ := hcell' k hlt
        clear hcell hcell'
        have hk1 : (k : Int) < (n1 : Int) := by omega
        have hk0 : (0 : Int) ≤ (k : Int) := by omega
        have HYES : Hid (l.getD k sm0 = m.getD k sm0 → ∀ j, j < k + 1 → l.getD j sm0 = m.getD j sm0) := fun h j hj => by
          rcases Nat.lt_succ_iff_lt_or_eq.1 hj with h' | rfl
          · exact hT.out j h'
          · exact h
        have HNO : Hid (¬ l.getD k sm0 = m.getD k sm0 → ¬ l = m) := fun h e => h (by rw [e])
        have HB1 : Hid (∀ n os, Below w.heap.size w (Go.Sort.grow (wr.drewN n) os)) := fun n os => below2 hbel (below_grow _ _ _)
        generalize l.getD k sm0 = p at *
        generalize m.getD k sm0 = q at *
        obtain ⟨p1, p2⟩ := p
        obtain ⟨q1, q2⟩ := q
        have x0 := cell_grown (a := ⟨b, off + k * 2, none⟩) hbs e0
        have x1 := cell_grown (a := ⟨b, off + k * 2 + 1, none⟩) hbs e1
        have x2 := cell_grown (a := ⟨b', off' + k * 2, none⟩) hbs' f0
        have x3 := cell_grown (a := ⟨b', off' + k * 2 + 1, none⟩) hbs' f1
        clear hT
        by_cases g1 : p1 = q1
        · by_cases g2 : p2 = q2
          · subst g1 g2
            have HY : Hid (∀ j, j < k + 1 → l.getD j sm0 = m.getD j sm0) := HYES.out rfl
            clear HYES HNO
            go_wp2_with fail
            refine wp_region_QW mixed5 (by kernel_rfl) ?_
            repeat (refine QW_step (fun K hK => ?_); go_simp; first | (refine hK _ ?_; clear hK K) | (apply Exists.intro; refine ⟨fun _ => ?_, hK _ ?_⟩; fail; clear hK K))
            refine QW_nil ?_
            intro _ hw9
            obtain ⟨⟨nq, osq⟩, hw8⟩ := hw9
            subst hw8
            have hb := HB1.out nq osq
            go_wp2_with fail
            exact ⟨⟨k + 1, by omega, by go_num, HY, hb⟩, by simp [intOf]; omega⟩
          · have HN : Hid (¬ l = m) := HNO.out fun e => g2 (congrArg Prod.snd e)
            subst g1
            clear HYES HNO
            go_wp2_with fail
            refine wp_region_QW mixed5 (by kernel_rfl) ?_
            repeat (refine QW_step (fun K hK => ?_); go_simp; first | (refine hK _ ?_; clear hK K) | (apply Exists.intro; refine ⟨fun _ => ?_, hK _ ?_⟩; fail; clear hK K))
            refine QW_nil ?_
            intro _ hw9
            obtain ⟨⟨nq, osq⟩, hw8⟩ := hw9
            subst hw8
            have hb := HB1.out nq osq
            go_wp2_with fail
            go_ret
            exact bool_no hb HN.out
        · have HN : Hid (¬ l = m) := HNO.out fun e => g1 (congrArg Prod.fst e)
          clear HYES HNO
          go_wp2_with fail
          refine wp_region_QW mixed5 (by kernel_rfl) ?_
          repeat (refine QW_step (fun K hK => ?_); go_simp; first | (refine hK _ ?_; clear hK K) | (apply Exists.intro; refine ⟨fun _ => ?_, hK _ ?_⟩; fail; clear hK K))
          refine QW_nil ?_
          intro _ hw9
          obtain ⟨⟨nq, osq⟩, hw8⟩ := hw9
          subst hw8
          have hb := HB1.out nq osq
          go_wp2_with fail
          go_ret
          exact bool_no hb HN.out
      · obtain rfl : k = n1 := by omega
        have HY : Hid (l = m) := sms_take hT.out hl hm
        clear hT
        go_wp2_with fail
        go_ret
        exact bool_yes hbel HY.out
  · have HN : Hid (¬ l = m) := fun e => hne (by rw [← hl, ← hm, e])
    have hne' : ¬ (n1 : Int) = (n2 : Int) := by omega
    go_enter Tryd.func15, Tryd.ntmps15
    go_wp2_with fail
    go_ret
    exact bool_no (Below.refl _ _) HN.out
end Go.Proofs.YtcdlkdbnlomghaaDoor.Bk
