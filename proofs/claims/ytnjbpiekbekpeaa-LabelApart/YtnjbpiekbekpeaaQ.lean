/-
  The law of names: series that may be are alike just if their texts are.
-/
import Derived.Test.YtnjbpiekbekpeaaR
import Derived.Test.YtnjbpiekbekpeaaS
import Derived.Test.YtnjbpiekbekpeaaL
namespace Go.Proofs.Ytnjbpiekbekpeaa
open Go.ChangeShapes Go.WideShapes Go.ChangeAt Go.RowKit
/-- the rest of the law is awake's -/
theorem texts_eq {nm nm' : ByteArray} {ls ls' : List Lab} (h : MayS nm ls) (h' : MayS nm' ls') {q : Bool} (hq : q = true ↔ nm = nm' ∧ ls = ls') :
    ((⟨(textL nm ls).toArray⟩ : ByteArray).toList == (⟨(textL nm' ls').toArray⟩ : ByteArray).toList) = q := by
  rw [eqB]
  cases q with
  | true =>
    obtain ⟨rfl, rfl⟩ := hq.1 rfl
    simp
  | false =>
    apply decide_eq_false
    intro e
    have e2 : textL nm ls = textL nm' ls' := by
      have := congrArg sg e
      rw [show sg ⟨(textL nm ls).toArray⟩ = textL nm ls from sg_baL _, show sg ⟨(textL nm' ls').toArray⟩ = textL nm' ls' from sg_baL _] at this
      exact this
    have := hq.2 (text_inj h h' e2)
    cases this
set_option maxHeartbeats 8000000 in
set_option maxRecDepth 60000 in
theorem labelApart_any (v v' : Value) (nm nm' : ByteArray) (ls ls' : List Lab) (w : World) (h : SerAt w v nm ls) (h' : SerAt w v' nm' ls') :
    Calls Try.prog 7 #[v, v'] w fun e w' => e = .returned (.bool true) ∧ Below w.heap.size w w' := by
  have H1 : Hid (SerAt w v nm ls) := h
  have H2 : Hid (SerAt w v' nm' ls') := h'
  obtain ⟨a, n1, c1, rfl, -, -, -⟩ := h
  obtain ⟨b, n2, c2, rfl, -, -, -⟩ := h'
  have B0 : Below w.heap.size w ((w.alloc (.cells #[.string nm, .slice a n1 c1] 24)).alloc (.cells #[.string nm', .slice b n2 c2] 24)) := (below_alloc w _).alloc (by simp) _
  go_enter Try.func7, Try.ntmps7
  go_wp2_with fail
  generalize hw1 : (w.alloc (.cells #[.string nm, .slice a n1 c1] 24)).alloc (.cells #[.string nm', .slice b n2 c2] 24) = w1 at *
  have a0 : w1.cell? ⟨w.heap.size, 0, none⟩ = some (.string nm) := by rw [← hw1]; simp
  have a1 : w1.cell? ⟨w.heap.size, 1, none⟩ = some (.slice a n1 c1) := by rw [← hw1]; simp
  have b0 : w1.cell? ⟨w.heap.size + 1, 0, none⟩ = some (.string nm') := by rw [← hw1]; simp
  have b1 : w1.cell? ⟨w.heap.size + 1, 1, none⟩ = some (.slice b n2 c2) := by rw [← hw1]; simp
  have hs1 : w.heap.size + 1 < w1.heap.size := by rw [← hw1]; simp
  have HK : Hid (∀ w', Below w1.heap.size w1 w' → (w'.cell? ⟨w.heap.size, 0, none⟩ = some (.string nm) ∧ w'.cell? ⟨w.heap.size, 1, none⟩ = some (.slice a n1 c1)) ∧ (w'.cell? ⟨w.heap.size + 1, 0, none⟩ = some (.string nm') ∧ w'.cell? ⟨w.heap.size + 1, 1, none⟩ = some (.slice b n2 c2)) ∧ Below w.heap.size w w') := fun w' hb => by
    have hs0 : w.heap.size < w1.heap.size := by omega
    exact ⟨⟨(hb.cell (p := ⟨w.heap.size, 0, none⟩) hs0).trans a0, (hb.cell (p := ⟨w.heap.size, 1, none⟩) hs0).trans a1⟩, ⟨(hb.cell (p := ⟨w.heap.size + 1, 0, none⟩) hs1).trans b0, (hb.cell (p := ⟨w.heap.size + 1, 1, none⟩) hs1).trans b1⟩, B0.trans (hb.mono (by omega))⟩
  have HS1 : Hid (∀ w', Below w1.heap.size w1 w' → SerAt w' (.agg #[.string nm, .slice a n1 c1]) nm ls) := fun w' hb => H1.out.below (B0.trans (hb.mono (by omega)))
  have HS2 : Hid (∀ w', Below w1.heap.size w1 w' → SerAt w' (.agg #[.string nm', .slice b n2 c2]) nm' ls') := fun w' hb => H2.out.below (B0.trans (hb.mono (by omega)))
  clear hw1 H1 H2
  refine (light_any _ nm ls _ (HS1.out _ (Below.refl _ _))).mono ?_
  rintro e w2 ⟨hb2, q2, rfl⟩
  obtain ⟨⟨x0, x1⟩, ⟨y0, y1⟩, hw02⟩ := HK.out w2 hb2
  clear a0 a1 b0 b1
  cases q2 with
  | false =>
    go_wp2_with fail
    refine (awake_any _).mono ?_
    rintro e w9 ⟨rfl, hb9⟩
    have HB : Hid (Below w.heap.size w w9) := below2 hw02 hb9
    clear hb9
    go_wp2
    go_ret
    exact ⟨rfl, HB.out⟩
  | true =>
    go_wp2_with fail
    refine (light_any _ nm' ls' _ (HS2.out _ hb2)).mono ?_
    rintro e w3 ⟨hb3', q3, rfl⟩
    have hb3 := below2 hb2 hb3'
    clear x0 x1 y0 y1 hb3' hb2 hw02
    obtain ⟨⟨x0, x1⟩, ⟨y0, y1⟩, hw03⟩ := HK.out w3 hb3
    cases q3 with
    | false =>
      go_wp2_with fail
      refine (awake_any _).mono ?_
      rintro e w9 ⟨rfl, hb9⟩
      have HB : Hid (Below w.heap.size w w9) := below2 hw03 hb9
      clear hb9
      go_wp2
      go_ret
      exact ⟨rfl, HB.out⟩
    | true =>
      go_wp2_with fail
      refine (refMay_any _ nm ls _ (HS1.out _ hb3)).mono ?_
      rintro e w4 ⟨hb4', q4, rfl, hq4⟩
      have HQ4 : Hid (q4 = true ↔ MayS nm ls) := hq4
      have hb4 := below2 hb3 hb4'
      clear x0 x1 y0 y1 hb4' hb3 hw03 hq4
      obtain ⟨⟨x0, x1⟩, ⟨y0, y1⟩, hw04⟩ := HK.out w4 hb4
      cases q4 with
      | false =>
        clear HQ4
        go_wp2_with fail
        refine (awake_any _).mono ?_
        rintro e w9 ⟨rfl, hb9⟩
        have HB : Hid (Below w.heap.size w w9) := below2 hw04 hb9
        clear hb9
        go_wp2
        go_ret
        exact ⟨rfl, HB.out⟩
      | true =>
        have HM1 : Hid (MayS nm ls) := HQ4.out.1 rfl
        clear HQ4
        go_wp2_with fail
        refine (refMay_any _ nm' ls' _ (HS2.out _ hb4)).mono ?_
        rintro e w5 ⟨hb5', q5, rfl, hq5⟩
        have HQ5 : Hid (q5 = true ↔ MayS nm' ls') := hq5
        have hb5 := below2 hb4 hb5'
        clear x0 x1 y0 y1 hb5' hb4 hw04 hq5
        obtain ⟨⟨x0, x1⟩, ⟨y0, y1⟩, hw05⟩ := HK.out w5 hb5
        cases q5 with
        | false =>
          clear HQ5
          go_wp2_with fail
          refine (awake_any _).mono ?_
          rintro e w9 ⟨rfl, hb9⟩
          have HB : Hid (Below w.heap.size w w9) := below2 hw05 hb9
          clear hb9
          go_wp2
          go_ret
          exact ⟨rfl, HB.out⟩
        | true =>
          have HM2 : Hid (MayS nm' ls') := HQ5.out.1 rfl
          clear HQ5
          go_wp2_with fail
          refine (print_any _ nm ls _ (HS1.out _ hb5)).mono ?_
          rintro e w6 ⟨hb6', ⟨_, rfl⟩ | ⟨hno, rfl⟩⟩
          rotate_left
          · exact absurd HM1.out hno
          have hb6 := below2 hb5 hb6'
          clear x0 x1 y0 y1 hb6' hb5 hw05
          obtain ⟨⟨x0, x1⟩, ⟨y0, y1⟩, hw06⟩ := HK.out w6 hb6
          go_wp2_with fail
          refine (print_any _ nm' ls' _ (HS2.out _ hb6)).mono ?_
          rintro e w7 ⟨hb7', ⟨_, rfl⟩ | ⟨hno, rfl⟩⟩
          rotate_left
          · exact absurd HM2.out hno
          have hb7 := below2 hb6 hb7'
          clear x0 x1 y0 y1 hb7' hb6 hw06
          obtain ⟨⟨x0, x1⟩, ⟨y0, y1⟩, hw07⟩ := HK.out w7 hb7
          have HTX : Hid (∀ q : Bool, (q = true ↔ nm = nm' ∧ ls = ls') → ((⟨(textL nm ls).toArray⟩ : ByteArray).toList == (⟨(textL nm' ls').toArray⟩ : ByteArray).toList) = q) := fun q hq => texts_eq HM1.out HM2.out hq
          generalize (⟨(textL nm ls).toArray⟩ : ByteArray) = T1 at *
          generalize (⟨(textL nm' ls').toArray⟩ : ByteArray) = T2 at *
          go_wp2_with fail
          refine (refSame_any _ _ nm nm' ls ls' _ (HS1.out _ hb7) (HS2.out _ hb7)).mono ?_
          rintro e w8 ⟨hb8', q8, rfl, hq8⟩
          have hT := HTX.out q8 hq8
          have HQ8 : Hid (q8 = true ↔ nm = nm' ∧ ls = ls') := hq8
          have hb8 := below2 hb7 hb8'
          clear x0 x1 y0 y1 hb8' hb7 hw07 hq8 HTX
          obtain ⟨⟨x0, x1⟩, ⟨y0, y1⟩, hw08⟩ := HK.out w8 hb8
          have HEQ : Hid (∀ q9 : Bool, (q9 = true ↔ nm = nm' ∧ ls = ls') → q9 = q8) := fun q9 h9 => by
            have h8 := HQ8.out
            cases q9 <;> cases q8
            · rfl
            · have := h9.2 (h8.1 rfl); cases this
            · have := h8.2 (h9.1 rfl); cases this
            · rfl
          clear HQ8
          cases q8
          all_goals
            go_wp2_with fail
            refine (same_any _ _ nm nm' ls ls' _ (HS1.out _ hb8) (HS2.out _ hb8)).mono ?_
            rintro e w9 ⟨hb9', q9, rfl, hq9⟩
            obtain rfl := HEQ.out q9 hq9
            have hw09 := below2 hw08 hb9'
            clear x0 x1 y0 y1 hb9' hq9 HEQ
            go_wp2_with fail
            refine (awake_any _).mono ?_
            rintro e w10 ⟨rfl, hb10⟩
            have HB : Hid (Below w.heap.size w w10) := below2 hw09 hb10
            clear hb10
            go_wp2
            go_ret
            exact ⟨rfl, HB.out⟩
end Go.Proofs.Ytnjbpiekbekpeaa
