/-
  The law of a series with a label's value.
-/
import Derived.Test.YtnjbpiekbekpeaaX
import Derived.Test.YtnjbpiekbekpeaaS
import Derived.Test.YtnjbpiekbekpeaaL
namespace Go.Proofs.Ytnjbpiekbekpeaa
open Go.ChangeShapes Go.WideShapes Go.ChangeAt Go.RowKit
theorem noSer_at (w : World) : SerAt w noSer ⟨#[]⟩ [] := ⟨none, 0, 0, rfl, ⟨rfl, Nat.le_refl _, Nat.zero_le _, .inl rfl⟩, Nat.zero_le _, fun x hx => by simp at hx⟩
theorem same_yes (v v' : Value) (nm : ByteArray) (ls : List Lab) (w : World) (h : SerAt w v nm ls) (h' : SerAt w v' nm ls) :
    Calls Try.prog 15 #[v, v'] w fun e w' => e = .returned (.bool true) ∧ Below w.heap.size w w' := by
  refine (refSame_any v v' nm nm ls ls w h h').mono ?_
  rintro e w' ⟨hb, q, rfl, hq⟩
  have := hq.2 ⟨rfl, rfl⟩
  subst this
  exact ⟨rfl, hb⟩
set_option maxHeartbeats 8000000 in
set_option maxRecDepth 60000 in
theorem labelWith_any (vs : Value) (nm : ByteArray) (ls : List Lab) (n v : ByteArray) (w : World) (h : SerAt w vs nm ls) (hn : n.size ≤ maxLen) (hv : v.size ≤ maxLen) :
    Calls Try.prog 6 #[vs, .string n, .string v] w fun e w' => e = .returned (.bool true) ∧ Below w.heap.size w w' := by
  have H1 : Hid (SerAt w vs nm ls) := h
  obtain ⟨a, n1, c1, rfl, -, -, -⟩ := h
  have HNV : Hid (n.size ≤ maxLen ∧ v.size ≤ maxLen) := ⟨hn, hv⟩
  clear hn hv
  have B0 : Below w.heap.size w (w.alloc (.cells #[.string nm, .slice a n1 c1] 24)) := below_alloc w _
  go_enter Try.func6, Try.ntmps6
  go_wp2_with fail
  generalize hw1 : w.alloc (.cells #[.string nm, .slice a n1 c1] 24) = w1 at *
  have a0 : w1.cell? ⟨w.heap.size, 0, none⟩ = some (.string nm) := by rw [← hw1]; simp
  have a1 : w1.cell? ⟨w.heap.size, 1, none⟩ = some (.slice a n1 c1) := by rw [← hw1]; simp
  have hs1 : w.heap.size < w1.heap.size := by rw [← hw1]; simp
  have HK : Hid (∀ w', Below w1.heap.size w1 w' → (w'.cell? ⟨w.heap.size, 0, none⟩ = some (.string nm) ∧ w'.cell? ⟨w.heap.size, 1, none⟩ = some (.slice a n1 c1)) ∧ Below w.heap.size w w') := fun w' hb =>
    ⟨⟨(hb.cell (p := ⟨w.heap.size, 0, none⟩) hs1).trans a0, (hb.cell (p := ⟨w.heap.size, 1, none⟩) hs1).trans a1⟩, B0.trans (hb.mono (by omega))⟩
  have HS1 : Hid (∀ w', Below w1.heap.size w1 w' → SerAt w' (.agg #[.string nm, .slice a n1 c1]) nm ls) := fun w' hb => H1.out.below (B0.trans (hb.mono (by omega)))
  clear hw1 H1
  refine (light_any _ nm ls _ (HS1.out _ (Below.refl _ _))).mono ?_
  rintro e w2 ⟨hb2, q2, rfl⟩
  obtain ⟨⟨x0, x1⟩, hw2⟩ := HK.out w2 hb2
  clear a0 a1
  cases q2 with
  | false =>
    go_wp2_with fail
    refine (awake_any _).mono ?_
    rintro e w20 ⟨rfl, hb20⟩
    have HB : Hid (Below w.heap.size w w20) := below2 hw2 hb20
    clear hb20
    go_wp2
    go_ret
    exact ⟨rfl, HB.out⟩
  | true =>
    by_cases hln : (3000 : Int) < (n.size : Int)
    · go_wp2_with fail
      refine (awake_any _).mono ?_
      rintro e w20 ⟨rfl, hb20⟩
      have HB : Hid (Below w.heap.size w w20) := below2 hw2 hb20
      clear hb20
      go_wp2
      go_ret
      exact ⟨rfl, HB.out⟩
    by_cases hlv : (3000 : Int) < (v.size : Int)
    · go_wp2_with fail
      refine (awake_any _).mono ?_
      rintro e w20 ⟨rfl, hb20⟩
      have HB : Hid (Below w.heap.size w w20) := below2 hw2 hb20
      clear hb20
      go_wp2
      go_ret
      exact ⟨rfl, HB.out⟩
    go_wp2_with fail
    refine (with_any _ nm ls n v _ (HS1.out _ hb2) HNV.out.1 HNV.out.2).mono ?_
    rintro e w3 ⟨hb3', hW⟩
    have hb3 := below2 hb2 hb3'
    clear x0 x1 hw2 hb2 hb3'
    obtain ⟨ve, xv, hve, HX⟩ : ∃ (c : Int) (xv : Value), e = .returned (.tuple #[xv, .int .i64 c]) ∧ Hid (∃ nmx lsx, SerAt w3 xv nmx lsx ∧ ((¬ GoodW nm ls n v ∧ c = 1 ∧ nmx = ⟨#[]⟩ ∧ lsx = []) ∨ (GoodW nm ls n v ∧ 4 < (ansL ls n v).length ∧ c = 6 ∧ nmx = ⟨#[]⟩ ∧ lsx = []) ∨ (GoodW nm ls n v ∧ (ansL ls n v).length ≤ 4 ∧ c = 0 ∧ nmx = nm ∧ lsx = ansL ls n v))) := by
      rcases hW with ⟨hg, rfl⟩ | ⟨hg, h4, rfl⟩ | ⟨hg, h4, val, ls', rfl, hs, hp, ho⟩
      · exact ⟨1, noSer, rfl, ⟨#[]⟩, [], noSer_at _, .inl ⟨hg, rfl, rfl, rfl⟩⟩
      · exact ⟨6, noSer, rfl, ⟨#[]⟩, [], noSer_at _, .inr (.inl ⟨hg, by rw [(ans_perm ls n v).length_eq]; exact h4, rfl, rfl, rfl⟩)⟩
      · refine ⟨0, val, rfl, nm, ls', hs, .inr (.inr ⟨hg, by rw [(ans_perm ls n v).length_eq]; exact h4, rfl, rfl, ans_only hg.1 hp ho⟩)⟩
    subst hve
    clear hW
    obtain ⟨nmx, lsx, hserx, hcase⟩ := HX.out
    have HCASE : Hid _ := hcase
    obtain ⟨ax, nx, cx, rfl, hLx, hnx, hFx⟩ := hserx
    clear HX hcase
    have BX : Below w3.heap.size w3 (w3.alloc (.cells #[.string nmx, .slice ax nx cx] 24)) := below_alloc _ _
    have hbx := below2 hb3 BX
    have p0 : (w3.alloc (.cells #[.string nmx, .slice ax nx cx] 24)).cell? ⟨w3.heap.size, 0, none⟩ = some (.string nmx) := by simp
    have p1 : (w3.alloc (.cells #[.string nmx, .slice ax nx cx] 24)).cell? ⟨w3.heap.size, 1, none⟩ = some (.slice ax nx cx) := by simp
    have hsx : w3.heap.size < (w3.alloc (.cells #[.string nmx, .slice ax nx cx] 24)).heap.size := by simp
    have HSX : Hid (SerAt (w3.alloc (.cells #[.string nmx, .slice ax nx cx] 24)) (.agg #[.string nmx, .slice ax nx cx]) nmx lsx) := ⟨ax, nx, cx, rfl, hLx.below BX, hnx, hFx⟩
    clear hLx hnx hFx
    obtain ⟨⟨x0, x1⟩, hwx⟩ := HK.out _ hbx
    go_wp2_with fail
    generalize w3.alloc (.cells #[.string nmx, .slice ax nx cx] 24) = wx at *
    generalize w3.heap.size = bx at *
    have HKX : Hid (∀ w', Below wx.heap.size wx w' → ((w'.cell? ⟨w.heap.size, 0, none⟩ = some (.string nm) ∧ w'.cell? ⟨w.heap.size, 1, none⟩ = some (.slice a n1 c1)) ∧ (w'.cell? ⟨bx, 0, none⟩ = some (.string nmx) ∧ w'.cell? ⟨bx, 1, none⟩ = some (.slice ax nx cx))) ∧ (Below w.heap.size w w' ∧ Below w1.heap.size w1 w' ∧ SerAt w' (.agg #[.string nmx, .slice ax nx cx]) nmx lsx)) := fun w' hb =>
      ⟨⟨(HK.out w' (below2 hbx hb)).1, (hb.cell (p := ⟨bx, 0, none⟩) hsx).trans p0, (hb.cell (p := ⟨bx, 1, none⟩) hsx).trans p1⟩, (HK.out w' (below2 hbx hb)).2, below2 hbx hb, HSX.out.below hb⟩
    refine (refMay_any _ nm ls _ (HS1.out _ hbx)).mono ?_
    rintro e w4 ⟨hb4, q4, rfl, hq4⟩
    have HQ4 : Hid (q4 = true ↔ MayS nm ls) := hq4
    clear x0 x1 hwx p0 p1 hq4
    obtain ⟨⟨⟨x0, x1⟩, p0, p1⟩, hw4, hb14, hsy4⟩ := HKX.out w4 hb4
    have HSY4 : Hid (SerAt w4 (.agg #[.string nmx, .slice ax nx cx]) nmx lsx) := hsy4
    clear hsy4
    cases q4 with
    | false =>
      have HBAD : Hid (ve = 1 ∧ nmx = ⟨#[]⟩ ∧ lsx = []) := by
        have hno : ¬ GoodW nm ls n v := fun h => by have := HQ4.out.2 h.1; cases this
        rcases HCASE.out with ⟨_, h⟩ | ⟨h, _⟩ | ⟨h, _⟩
        · exact h
        · exact absurd h hno
        · exact absurd h hno
      obtain ⟨rfl, rfl, rfl⟩ := HBAD.out
      clear HBAD HCASE HQ4
      go_wp2_with fail
      refine (same_yes _ _ ⟨#[]⟩ [] _ HSY4.out (noSer_at _)).mono ?_
      rintro e w5 ⟨rfl, hb5⟩
      have hw5 := below2 hw4 hb5
      clear x0 x1 p0 p1 hb5
      go_wp2_with fail
      refine (awake_any _).mono ?_
      rintro e w20 ⟨rfl, hb20⟩
      have HB : Hid (Below w.heap.size w w20) := below2 hw5 hb20
      clear hb20
      go_wp2
      go_ret
      exact ⟨rfl, HB.out⟩
    | true =>
      have HM : Hid (MayS nm ls) := HQ4.out.1 rfl
      clear HQ4
      go_wp2_with fail
      refine (refName_any n _ HNV.out.1).mono ?_
      rintro e w5 ⟨rfl, rfl⟩
      cases hnn : nameL (sg n) with
      | false =>
        have HBAD : Hid (ve = 1 ∧ nmx = ⟨#[]⟩ ∧ lsx = []) := by
          have hno : ¬ GoodW nm ls n v := fun h => by have := h.2.1; rw [hnn] at this; cases this
          rcases HCASE.out with ⟨_, h⟩ | ⟨h, _⟩ | ⟨h, _⟩
          · exact h
          · exact absurd h hno
          · exact absurd h hno
        obtain ⟨rfl, rfl, rfl⟩ := HBAD.out
        clear HBAD HCASE
        go_wp2_with fail
        refine (same_yes _ _ ⟨#[]⟩ [] _ HSY4.out (noSer_at _)).mono ?_
        rintro e w6 ⟨rfl, hb6⟩
        have hw6 := below2 hw4 hb6
        clear x0 x1 p0 p1 hb6
        go_wp2_with fail
        refine (awake_any _).mono ?_
        rintro e w20 ⟨rfl, hb20⟩
        have HB : Hid (Below w.heap.size w w20) := below2 hw6 hb20
        clear hb20
        go_wp2
        go_ret
        exact ⟨rfl, HB.out⟩
      | true =>
        go_wp2_with fail
        refine (refVal_any v _ HNV.out.2).mono ?_
        rintro e w6 ⟨rfl, rfl⟩
        cases hvv : valL (sg v) with
        | false =>
          have HBAD : Hid (ve = 1 ∧ nmx = ⟨#[]⟩ ∧ lsx = []) := by
            have hno : ¬ GoodW nm ls n v := fun h => by have := h.2.2; rw [hvv] at this; cases this
            rcases HCASE.out with ⟨_, h⟩ | ⟨h, _⟩ | ⟨h, _⟩
            · exact h
            · exact absurd h hno
            · exact absurd h hno
          obtain ⟨rfl, rfl, rfl⟩ := HBAD.out
          clear HBAD HCASE
          go_wp2_with fail
          refine (same_yes _ _ ⟨#[]⟩ [] _ HSY4.out (noSer_at _)).mono ?_
          rintro e w7 ⟨rfl, hb7⟩
          have hw7 := below2 hw4 hb7
          clear x0 x1 p0 p1 hb7
          go_wp2_with fail
          refine (awake_any _).mono ?_
          rintro e w20 ⟨rfl, hb20⟩
          have HB : Hid (Below w.heap.size w w20) := below2 hw7 hb20
          clear hb20
          go_wp2
          go_ret
          exact ⟨rfl, HB.out⟩
        | true =>
          have HG : Hid (GoodW nm ls n v) := ⟨HM.out, hnn, hvv⟩
          clear hnn hvv
          go_wp2_with fail
          refine (refWith_any _ nm ls n v _ (HS1.out _ hb14) HNV.out.1 HNV.out.2 HM.out).mono ?_
          rintro e w7 ⟨hb7, val, rfl, hser7⟩
          obtain ⟨ay, ny, cy, rfl, hLy, hny, hFy⟩ := hser7
          have hlen : (ansL ls n v).length = ny := hLy.1
          have BY : Below w7.heap.size w7 (w7.alloc (.cells #[.string nm, .slice ay ny cy] 24)) := below_alloc _ _
          have q0 : (w7.alloc (.cells #[.string nm, .slice ay ny cy] 24)).cell? ⟨w7.heap.size, 0, none⟩ = some (.string nm) := by simp
          have q1 : (w7.alloc (.cells #[.string nm, .slice ay ny cy] 24)).cell? ⟨w7.heap.size, 1, none⟩ = some (.slice ay ny cy) := by simp
          have hsy : w7.heap.size < (w7.alloc (.cells #[.string nm, .slice ay ny cy] 24)).heap.size := by simp
          have HSW : Hid (SerAt (w7.alloc (.cells #[.string nm, .slice ay ny cy] 24)) (.agg #[.string nm, .slice ay ny cy]) nm (ansL ls n v)) := ⟨ay, ny, cy, rfl, hLy.below BY, hny, hFy⟩
          have hb47 := below2 (below2 hb4 hb7) BY
          clear x0 x1 p0 p1 hLy hny hFy HSY4 hw4 hb14
          obtain ⟨⟨⟨x0, x1⟩, p0, p1⟩, hwy, hb1y, hsyy⟩ := HKX.out _ hb47
          have HSYY : Hid _ := hsyy
          clear hsyy
          by_cases h4 : (4 : Int) < (ny : Int)
          · have HFULL : Hid (ve = 6 ∧ nmx = ⟨#[]⟩ ∧ lsx = []) := by
              rcases HCASE.out with ⟨h, _⟩ | ⟨_, _, h⟩ | ⟨_, h, _⟩
              · exact absurd HG.out h
              · exact h
              · omega
            obtain ⟨rfl, rfl, rfl⟩ := HFULL.out
            clear HFULL HCASE hlen
            go_wp2_with fail
            generalize w7.alloc (.cells #[.string nm, .slice ay ny cy] 24) = wy at *
            refine (same_yes _ _ ⟨#[]⟩ [] _ HSYY.out (noSer_at _)).mono ?_
            rintro e w8 ⟨rfl, hb8⟩
            have hw8 := below2 hwy hb8
            clear x0 x1 p0 p1 q0 q1 hb8
            go_wp2_with fail
            refine (awake_any _).mono ?_
            rintro e w20 ⟨rfl, hb20⟩
            have HB : Hid (Below w.heap.size w w20) := below2 hw8 hb20
            clear hb20
            go_wp2
            go_ret
            exact ⟨rfl, HB.out⟩
          · have HOK : Hid (ve = 0 ∧ nmx = nm ∧ lsx = ansL ls n v) := by
              rcases HCASE.out with ⟨h, _⟩ | ⟨_, h, _⟩ | ⟨_, _, h⟩
              · exact absurd HG.out h
              · omega
              · exact h
            obtain ⟨rfl, hnmx, hlsx⟩ := HOK.out
            subst hnmx hlsx
            clear HOK HCASE hlen
            go_wp2_with fail
            generalize w7.alloc (.cells #[.string nmx, .slice ay ny cy] 24) = wy at *
            refine (same_yes _ _ nmx (ansL ls n v) _ HSYY.out HSW.out).mono ?_
            rintro e w8 ⟨rfl, hb8⟩
            have hw8 := below2 hwy hb8
            have r0 : w8.cell? ⟨bx, 0, none⟩ = some (.string nmx) := ((HKX.out _ (below2 hb47 hb8)).1.2).1
            have r1 : w8.cell? ⟨bx, 1, none⟩ = some (.slice ax nx cx) := ((HKX.out _ (below2 hb47 hb8)).1.2).2
            have HS8 : Hid (SerAt w8 (.agg #[.string nmx, .slice ax nx cx]) nmx (ansL ls n v)) := SerAt.below HSYY.out hb8
            have hVA := ans_value ls n v
            have hvv : (v.toList == v.toList) = true := by simp
            clear x0 x1 p0 p1 q0 q1 hb8
            go_wp2_with fail
            refine (value_any _ nmx (ansL ls n v) n _ HS8.out).mono ?_
            rintro e w9 ⟨rfl, hb9⟩
            rw [hVA]
            have hw9 := below2 hw8 hb9
            clear r0 r1 hb9
            go_wp2_with fail
            refine (awake_any _).mono ?_
            rintro e w20 ⟨rfl, hb20⟩
            have HB : Hid (Below w.heap.size w w20) := below2 hw9 hb20
            clear hb20
            go_wp2
            go_ret
            exact ⟨rfl, HB.out⟩
end Go.Proofs.Ytnjbpiekbekpeaa
