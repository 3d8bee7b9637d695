/-
  The law of texts: which series may be, their texts, and that they are read back.
-/
import Derived.Test.YtnjbpiekbekpeaaR
import Derived.Test.YtnjbpiekbekpeaaS
import Derived.Test.YtnjbpiekbekpeaaL
import Derived.Test.YtnjbpiekbekpeaaT
namespace Go.Proofs.Ytnjbpiekbekpeaa
open Go.ChangeShapes Go.WideShapes Go.ChangeAt Go.RowKit
def IntIs (z : Int) (w : World) (e : Ending) (w' : World) : Prop := e = .returned (.int .i64 z) ∧ Below w.heap.size w w'
def BoolIsU (q : Bool) (w : World) (e : Ending) (w' : World) : Prop := e = .returned (.bool q) ∧ Below w.heap.size w w'
set_option maxHeartbeats 8000000 in
set_option maxRecDepth 60000 in
theorem labelPrints_any (v : Value) (nm : ByteArray) (ls : List Lab) (w : World) (h : SerAt w v nm ls) :
    Calls Try.prog 3 #[v] w fun e w' => e = .returned (.bool true) ∧ Below w.heap.size w w' := by
  have H1 : Hid (SerAt w v nm ls) := h
  obtain ⟨a, n1, c1, rfl, -, -, -⟩ := h
  have B0 : Below w.heap.size w (w.alloc (.cells #[.string nm, .slice a n1 c1] 24)) := below_alloc w _
  go_enter Try.func3, Try.ntmps3
  go_wp2_with fail
  generalize hw1 : w.alloc (.cells #[.string nm, .slice a n1 c1] 24) = w1 at *
  have a0 : w1.cell? ⟨w.heap.size, 0, none⟩ = some (.string nm) := by rw [← hw1]; simp
  have a1 : w1.cell? ⟨w.heap.size, 1, none⟩ = some (.slice a n1 c1) := by rw [← hw1]; simp
  have hs1 : w.heap.size < w1.heap.size := by rw [← hw1]; simp
  have HK : Hid (∀ w', Below w1.heap.size w1 w' → (w'.cell? ⟨w.heap.size, 0, none⟩ = some (.string nm) ∧ w'.cell? ⟨w.heap.size, 1, none⟩ = some (.slice a n1 c1)) ∧ Below w.heap.size w w') := fun w' hb =>
    ⟨⟨(hb.cell (p := ⟨w.heap.size, 0, none⟩) hs1).trans a0, (hb.cell (p := ⟨w.heap.size, 1, none⟩) hs1).trans a1⟩, B0.trans (hb.mono (by omega))⟩
  have HS1 : Hid (∀ w', Below w1.heap.size w1 w' → SerAt w' (.agg #[.string nm, .slice a n1 c1]) nm ls) := fun w' hb => H1.out.below (B0.trans (hb.mono (by omega)))
  clear hw1 H1
  refine (light_any _ nm ls _ (HS1.out _ (Below.refl _ _))).mono ?_
  rintro e w2 ⟨hb2, q2, rfl⟩
  obtain ⟨⟨x0, x1⟩, hw02⟩ := HK.out w2 hb2
  clear a0 a1
  cases q2 with
  | false =>
    go_wp2_with fail
    refine (awake_any _).mono ?_
    rintro e w9 ⟨rfl, hb9⟩
    have HB : Hid (Below w.heap.size w w9) := below2 hw02 hb9
    clear hb9
    go_wp2
    go_ret
    exact ⟨rfl, HB.out⟩
  | true =>
    by_cases hM : MayS nm ls
    · have H11 : Hid (∀ w', Below w1.heap.size w1 w' → Calls Try.prog 11 #[.agg #[.string nm, .slice a n1 c1]] w' fun e w'' => IntIs 0 w' e w'') := fun w' hb => (check_any _ nm ls w' (HS1.out w' hb)).mono (by
        rintro e w'' ⟨hb', ⟨rfl, _⟩ | ⟨_, hno⟩⟩
        · exact ⟨rfl, hb'⟩
        · exact absurd hM hno)
      have H12 : Hid (∀ w', Below w1.heap.size w1 w' → Calls Try.prog 12 #[.agg #[.string nm, .slice a n1 c1]] w' fun e w'' => BoolIsU true w' e w'') := fun w' hb => (refMay_any _ nm ls w' (HS1.out w' hb)).mono (by
        rintro e w'' ⟨hb', q, rfl, hq⟩
        have := hq.2 hM
        subst this
        exact ⟨rfl, hb'⟩)
      have HM : Hid (MayS nm ls) := hM
      go_wp2_with fail
      refine (print_any _ nm ls _ (HS1.out _ hb2)).mono ?_
      rintro e w3 ⟨hb3', ⟨_, rfl⟩ | ⟨hno, rfl⟩⟩
      rotate_left
      · exact absurd hM hno
      have hb3 := below2 hb2 hb3'
      clear hM x0 x1 hw02 hb2 hb3'
      obtain ⟨⟨x0, x1⟩, hw03⟩ := HK.out w3 hb3
      have HTP : Hid (ParsesTo ⟨(textL nm ls).toArray⟩ nm ls) := parses_text HM.out
      have HTO : Hid (∀ nm' ls', ParsesTo ⟨(textL nm ls).toArray⟩ nm' ls' → nm' = nm ∧ ls' = ls) := fun nm' ls' hp => parses_only HM.out hp
      have H14 : Hid (∀ w', Below w1.heap.size w1 w' → Calls Try.prog 14 #[.agg #[.string nm, .slice a n1 c1]] w' fun e w'' => e = .returned (.string ⟨(textL nm ls).toArray⟩) ∧ Below w'.heap.size w' w'') := fun w' hb => refText_any _ nm ls w' (HS1.out w' hb) HM.out
      generalize (⟨(textL nm ls).toArray⟩ : ByteArray) = T1 at *
      have HK3 : Hid (∀ w', Below w3.heap.size w3 w' → (w'.cell? ⟨w.heap.size, 0, none⟩ = some (.string nm) ∧ w'.cell? ⟨w.heap.size, 1, none⟩ = some (.slice a n1 c1)) ∧ Below w1.heap.size w1 w' ∧ Below w3.heap.size w3 w') := fun w' hb => ⟨(HK.out w' (below2 hb3 hb)).1, below2 hb3 hb, hb⟩
      go_wp2_with fail
      go_region_held3 (fun w' => (w'.cell? ⟨w.heap.size, 0, none⟩ = some (.string nm) ∧ w'.cell? ⟨w.heap.size, 1, none⟩ = some (.slice a n1 c1)) ∧ Below w1.heap.size w1 w' ∧ Below w3.heap.size w3 w')
        (first | exact HK3.out _ (below_drew _) | (go_split_ands; exact HK3.out _ (by assumption)) | (go_split_ands; exact HK3.out _ (below2 (by assumption) (by assumption))))
        ((first
          | (go_at_call 11; refine (H11.out _ (by go_split_ands; assumption)).mono ?_; rintro en w6 ⟨rfl, hb6⟩)
          | (go_at_call 12; refine (H12.out _ (by go_split_ands; assumption)).mono ?_; rintro en w7 ⟨rfl, hb7⟩)))
      all_goals
        have hb4 : Below w1.heap.size w1 w7 := below2 hb3 (below2 (below_drew w3) (below2 hb6 hb7))
        clear x0 x1 HK3 hb6 hb7
        obtain ⟨⟨x0, x1⟩, hw04⟩ := HK.out w7 hb4
        go_wp2_with fail
        refine (H12.out _ hb4).mono ?_
        rintro en w8 ⟨rfl, hb8'⟩
        have hb8 := below2 hb4 hb8'
        clear x0 x1 hb8' hw04 hb4
        obtain ⟨⟨x0, x1⟩, hw08⟩ := HK.out w8 hb8
        go_wp2_with fail
        refine (parse_any T1 _).mono ?_
        rintro en w9 ⟨hb9', ⟨vx, nmx, lsx, rfl, hser, hto⟩ | ⟨rfl, hno⟩⟩
        rotate_left
        · exact absurd HTP.out (hno _ _)
        obtain ⟨rfl, rfl⟩ := HTO.out _ _ hto
        obtain ⟨ax, nx, cx, rfl, hLx, hnx, hFx⟩ := hser
        have hb9 := below2 hb8 hb9'
        clear x0 x1 hb9' hw08 hb8 hto
        have BX : Below w9.heap.size w9 (w9.alloc (.cells #[.string nmx, .slice ax nx cx] 24)) := below_alloc _ _
        have hbx := below2 hb9 BX
        have y0 : (w9.alloc (.cells #[.string nmx, .slice ax nx cx] 24)).cell? ⟨w9.heap.size, 0, none⟩ = some (.string nmx) := by simp
        have y1 : (w9.alloc (.cells #[.string nmx, .slice ax nx cx] 24)).cell? ⟨w9.heap.size, 1, none⟩ = some (.slice ax nx cx) := by simp
        have hsx : w9.heap.size < (w9.alloc (.cells #[.string nmx, .slice ax nx cx] 24)).heap.size := by simp
        have HSX : Hid (SerAt (w9.alloc (.cells #[.string nmx, .slice ax nx cx] 24)) (.agg #[.string nmx, .slice ax nx cx]) nmx lsx) := ⟨ax, nx, cx, rfl, hLx.below BX, hnx, hFx⟩
        clear hLx hnx hFx
        obtain ⟨⟨x0, x1⟩, hw0x⟩ := HK.out _ hbx
        go_wp2_with fail
        generalize w9.alloc (.cells #[.string nmx, .slice ax nx cx] 24) = wx at *
        generalize w9.heap.size = bx at *
        refine (H14.out _ hbx).mono ?_
        rintro en w10 ⟨rfl, hb10'⟩
        have hb10 := below2 hbx hb10'
        have z0 : w10.cell? ⟨bx, 0, none⟩ = some (.string nmx) := (hb10'.cell (p := ⟨bx, 0, none⟩) hsx).trans y0
        have z1 : w10.cell? ⟨bx, 1, none⟩ = some (.slice ax nx cx) := (hb10'.cell (p := ⟨bx, 1, none⟩) hsx).trans y1
        have HSY : Hid (SerAt w10 (.agg #[.string nmx, .slice ax nx cx]) nmx lsx) := HSX.out.below hb10'
        have hTT : (T1.toList == T1.toList) = true := by simp
        clear x0 x1 y0 y1 hb10' hbx hw0x HSX
        obtain ⟨⟨x0, x1⟩, hw10⟩ := HK.out w10 hb10
        go_wp2_with fail
        refine (refSame_any _ _ nmx nmx lsx lsx _ HSY.out (HS1.out _ hb10)).mono ?_
        rintro en w11 ⟨hb11', q11, rfl, hq11⟩
        have hq : q11 = true := hq11.2 ⟨rfl, rfl⟩
        subst hq
        have hw11 := below2 hw10 hb11'
        clear hq11 hb11' x0 x1 z0 z1
        go_wp2_with fail
        refine (awake_any _).mono ?_
        rintro en w12 ⟨rfl, hb12⟩
        have HB : Hid (Below w.heap.size w w12) := below2 hw11 hb12
        clear hb12
        go_wp2
        go_ret
        exact ⟨rfl, HB.out⟩
    · have H11 : Hid (∀ w', Below w1.heap.size w1 w' → Calls Try.prog 11 #[.agg #[.string nm, .slice a n1 c1]] w' fun e w'' => IntIs 1 w' e w'') := fun w' hb => (check_any _ nm ls w' (HS1.out w' hb)).mono (by
        rintro e w'' ⟨hb', ⟨_, hy⟩ | ⟨rfl, _⟩⟩
        · exact absurd hy hM
        · exact ⟨rfl, hb'⟩)
      have H12 : Hid (∀ w', Below w1.heap.size w1 w' → Calls Try.prog 12 #[.agg #[.string nm, .slice a n1 c1]] w' fun e w'' => BoolIsU false w' e w'') := fun w' hb => (refMay_any _ nm ls w' (HS1.out w' hb)).mono (by
        rintro e w'' ⟨hb', q, rfl, hq⟩
        cases q with
        | true => exact absurd (hq.1 rfl) hM
        | false => exact ⟨rfl, hb'⟩)
      go_wp2_with fail
      refine (print_any _ nm ls _ (HS1.out _ hb2)).mono ?_
      rintro e w3 ⟨hb3', ⟨hy, _⟩ | ⟨_, rfl⟩⟩
      · exact absurd hy hM
      have hb3 := below2 hb2 hb3'
      clear hM x0 x1 hw02 hb2 hb3'
      obtain ⟨⟨x0, x1⟩, hw03⟩ := HK.out w3 hb3
      have HK3 : Hid (∀ w', Below w3.heap.size w3 w' → (w'.cell? ⟨w.heap.size, 0, none⟩ = some (.string nm) ∧ w'.cell? ⟨w.heap.size, 1, none⟩ = some (.slice a n1 c1)) ∧ Below w1.heap.size w1 w' ∧ Below w3.heap.size w3 w') := fun w' hb => ⟨(HK.out w' (below2 hb3 hb)).1, below2 hb3 hb, hb⟩
      go_wp2_with fail
      go_region_held3 (fun w' => (w'.cell? ⟨w.heap.size, 0, none⟩ = some (.string nm) ∧ w'.cell? ⟨w.heap.size, 1, none⟩ = some (.slice a n1 c1)) ∧ Below w1.heap.size w1 w' ∧ Below w3.heap.size w3 w')
        (first | exact HK3.out _ (below_drew _) | (go_split_ands; exact HK3.out _ (by assumption)) | (go_split_ands; exact HK3.out _ (below2 (by assumption) (by assumption))))
        ((first
          | (go_at_call 11; refine (H11.out _ (by go_split_ands; assumption)).mono ?_; rintro en w6 ⟨rfl, hb6⟩)
          | (go_at_call 12; refine (H12.out _ (by go_split_ands; assumption)).mono ?_; rintro en w7 ⟨rfl, hb7⟩)))
      all_goals
        have hb4 : Below w1.heap.size w1 w7 := below2 hb3 (below2 (below_drew w3) (below2 hb6 hb7))
        clear x0 x1 HK3 hb6 hb7
        obtain ⟨⟨x0, x1⟩, hw04⟩ := HK.out w7 hb4
        go_wp2_with fail
        refine (H12.out _ hb4).mono ?_
        rintro en w8 ⟨rfl, hb8'⟩
        have hw08 := below2 hw04 hb8'
        clear x0 x1 hb8' hw04 hb4
        go_wp2_with fail
        refine (awake_any _).mono ?_
        rintro en w12 ⟨rfl, hb12⟩
        have HB : Hid (Below w.heap.size w w12) := below2 hw08 hb12
        clear hb12
        go_wp2
        go_ret
        exact ⟨rfl, HB.out⟩
end Go.Proofs.Ytnjbpiekbekpeaa
