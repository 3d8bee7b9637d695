/-
  The law of texts read, given the contract of the answer's Parse.
-/
import Derived.Test.YtnjbpiekbekpeaaK
import Derived.Test.YtnjbpiekbekpeaaS
import Derived.Test.YtnjbpiekbekpeaaL
namespace Go.Proofs.Ytnjbpiekbekpeaa
open Go.ChangeShapes Go.WideShapes Go.ChangeAt Go.RowKit
theorem empty_at (w : World) : SerAt w noSer ⟨#[]⟩ [] := ⟨none, 0, 0, rfl, ⟨rfl, Nat.le_refl _, Nat.zero_le _, .inl rfl⟩, Nat.zero_le _, fun x hx => by simp at hx⟩
theorem alike_yes (v v' : Value) (nm : ByteArray) (ls : List Lab) (w : World) (h : SerAt w v nm ls) (h' : SerAt w v' nm ls) :
    Calls Try.prog 15 #[v, v'] w fun e w' => e = .returned (.bool true) ∧ Below w.heap.size w w' := by
  refine (refSame_any v v' nm nm ls ls w h h').mono ?_
  rintro e w' ⟨hb, q, rfl, hq⟩
  have := hq.2 ⟨rfl, rfl⟩
  subst this
  exact ⟨rfl, hb⟩
/-- a text is read as one series at most -/
theorem parses_one {s nm nm' : ByteArray} {ls ls' : List Lab} (h : ParsesTo s nm ls) (h' : ParsesTo s nm' ls') : nm = nm' ∧ ls = ls' := by
  obtain ⟨st, a1, a2, a3, a4, a5, a6⟩ := h
  obtain ⟨st', b1, b2, b3, b4, b5, b6⟩ := h'
  rw [a1] at b1
  obtain rfl := Option.some.inj b1
  exact ⟨a3.trans b3.symm, uniq (a4.trans b4.symm) (may_pair a6) b5.pair⟩
/-- what is asked of the answer's Parse -/
def RefParsePost (w : World) (s : ByteArray) (e : Ending) (w' : World) : Prop :=
  Below w.heap.size w w' ∧ ((∃ v nm ls, e = .returned (.tuple #[v, .bool true]) ∧ SerAt w' v nm ls ∧ ParsesTo s nm ls) ∨ (e = .returned (.tuple #[noSer, .bool false]) ∧ ∀ nm ls, ¬ ParsesTo s nm ls))
set_option maxHeartbeats 8000000 in
set_option maxRecDepth 60000 in
theorem labelParses_of (HR : ∀ (s : ByteArray) (w : World), Hid (s.size ≤ 2000) → Calls Try.prog 16 #[.string s] w fun e w' => RefParsePost w s e w') (s : ByteArray) (w : World) :
    Calls Try.prog 4 #[.string s] w fun e w' => e = .returned (.bool true) ∧ Below w.heap.size w w' := by
  by_cases hl : (2000 : Int) < (s.size : Int)
  · go_enter Try.func4, Try.ntmps4
    go_wp2_with fail
    refine (awake_any _).mono ?_
    rintro e w20 ⟨rfl, hb20⟩
    have HB : Hid (Below w.heap.size w w20) := hb20
    clear hb20
    go_wp2
    go_ret
    exact ⟨rfl, HB.out⟩
  have HS : Hid (s.size ≤ 2000) := by show _ ≤ _; omega
  go_enter Try.func4, Try.ntmps4
  go_wp2_with fail
  refine (parse_any s _).mono ?_
  rintro e w1 ⟨hb1, hP⟩
  obtain ⟨c, xv, nmx, lsx, hve, hserx, hcase⟩ : ∃ (c : Int) (xv : Value) (nmx : ByteArray) (lsx : List Lab), e = .returned (.tuple #[xv, .int .i64 c]) ∧ SerAt w1 xv nmx lsx ∧ ((c = 0 ∧ ParsesTo s nmx lsx) ∨ (c = 2 ∧ nmx = ⟨#[]⟩ ∧ lsx = [] ∧ ∀ nm ls, ¬ ParsesTo s nm ls)) := by
    rcases hP with ⟨v, nm, ls, rfl, hs, hp⟩ | ⟨rfl, hno⟩
    · exact ⟨0, v, nm, ls, rfl, hs, .inl ⟨rfl, hp⟩⟩
    · exact ⟨2, noSer, ⟨#[]⟩, [], rfl, empty_at _, .inr ⟨rfl, rfl, rfl, hno⟩⟩
  subst hve
  have HCASE : Hid _ := hcase
  clear hP hcase
  obtain ⟨ax, nx, cx, rfl, hLx, hnx, hFx⟩ := hserx
  have BX : Below w1.heap.size w1 (w1.alloc (.cells #[.string nmx, .slice ax nx cx] 24)) := below_alloc _ _
  have p0 : (w1.alloc (.cells #[.string nmx, .slice ax nx cx] 24)).cell? ⟨w1.heap.size, 0, none⟩ = some (.string nmx) := by simp
  have p1 : (w1.alloc (.cells #[.string nmx, .slice ax nx cx] 24)).cell? ⟨w1.heap.size, 1, none⟩ = some (.slice ax nx cx) := by simp
  have hsx : w1.heap.size < (w1.alloc (.cells #[.string nmx, .slice ax nx cx] 24)).heap.size := by simp
  have HSX : Hid (SerAt (w1.alloc (.cells #[.string nmx, .slice ax nx cx] 24)) (.agg #[.string nmx, .slice ax nx cx]) nmx lsx) := ⟨ax, nx, cx, rfl, hLx.below BX, hnx, hFx⟩
  have hbx := below2 hb1 BX
  clear hLx hnx hFx
  go_wp2_with fail
  generalize w1.alloc (.cells #[.string nmx, .slice ax nx cx] 24) = wx at *
  generalize w1.heap.size = bx at *
  refine (HR s _ HS).mono ?_
  rintro e w2 ⟨hb2, hQ⟩
  obtain ⟨q, yv, nmy, lsy, hve, hsery, hcase⟩ : ∃ (q : Bool) (yv : Value) (nmy : ByteArray) (lsy : List Lab), e = .returned (.tuple #[yv, .bool q]) ∧ SerAt w2 yv nmy lsy ∧ ((q = true ∧ ParsesTo s nmy lsy) ∨ (q = false ∧ ∀ nm ls, ¬ ParsesTo s nm ls)) := by
    rcases hQ with ⟨v, nm, ls, rfl, hs, hp⟩ | ⟨rfl, hno⟩
    · exact ⟨true, v, nm, ls, rfl, hs, .inl ⟨rfl, hp⟩⟩
    · exact ⟨false, noSer, ⟨#[]⟩, [], rfl, empty_at _, .inr ⟨rfl, hno⟩⟩
  subst hve
  have HCASE2 : Hid _ := hcase
  clear hQ hcase
  obtain ⟨ay, ny, cy, rfl, hLy, hny, hFy⟩ := hsery
  have BY : Below w2.heap.size w2 (w2.alloc (.cells #[.string nmy, .slice ay ny cy] 24)) := below_alloc _ _
  have q0 : (w2.alloc (.cells #[.string nmy, .slice ay ny cy] 24)).cell? ⟨w2.heap.size, 0, none⟩ = some (.string nmy) := by simp
  have q1 : (w2.alloc (.cells #[.string nmy, .slice ay ny cy] 24)).cell? ⟨w2.heap.size, 1, none⟩ = some (.slice ay ny cy) := by simp
  have HSY : Hid (SerAt (w2.alloc (.cells #[.string nmy, .slice ay ny cy] 24)) (.agg #[.string nmy, .slice ay ny cy]) nmy lsy) := ⟨ay, ny, cy, rfl, hLy.below BY, hny, hFy⟩
  have hb2y := below2 hb2 BY
  have r0 : (w2.alloc (.cells #[.string nmy, .slice ay ny cy] 24)).cell? ⟨bx, 0, none⟩ = some (.string nmx) := (hb2y.cell (p := ⟨bx, 0, none⟩) hsx).trans p0
  have r1 : (w2.alloc (.cells #[.string nmy, .slice ay ny cy] 24)).cell? ⟨bx, 1, none⟩ = some (.slice ax nx cx) := (hb2y.cell (p := ⟨bx, 1, none⟩) hsx).trans p1
  have HSX2 : Hid (SerAt (w2.alloc (.cells #[.string nmy, .slice ay ny cy] 24)) (.agg #[.string nmx, .slice ax nx cx]) nmx lsx) := SerAt.below HSX.out hb2y
  have hwy := below2 hbx hb2y
  clear hLy hny hFy p0 p1
  cases q with
  | false =>
    have HNO : Hid (c = 2 ∧ nmx = ⟨#[]⟩ ∧ lsx = []) := by
      have hno : ∀ nm ls, ¬ ParsesTo s nm ls := by
        rcases HCASE2.out with ⟨h, _⟩ | ⟨_, h⟩
        · cases h
        · exact h
      rcases HCASE.out with ⟨_, h⟩ | ⟨h1, h2, h3, _⟩
      · exact absurd h (hno _ _)
      · exact ⟨h1, h2, h3⟩
    obtain ⟨rfl, rfl, rfl⟩ := HNO.out
    clear HNO HCASE HCASE2
    go_wp2_with fail
    generalize w2.alloc (.cells #[.string nmy, .slice ay ny cy] 24) = wy at *
    refine (alike_yes _ _ ⟨#[]⟩ [] _ HSX2.out (empty_at _)).mono ?_
    rintro e w8 ⟨rfl, hb8⟩
    have hw8 := below2 hwy hb8
    clear q0 q1 r0 r1 hb8
    go_wp2_with fail
    refine (awake_any _).mono ?_
    rintro e w20 ⟨rfl, hb20⟩
    have HB : Hid (Below w.heap.size w w20) := below2 hw8 hb20
    clear hb20
    go_wp2
    go_ret
    exact ⟨rfl, HB.out⟩
  | true =>
    have HYES : Hid (c = 0 ∧ nmx = nmy ∧ lsx = lsy) := by
      have hy : ParsesTo s nmy lsy := by
        rcases HCASE2.out with ⟨_, h⟩ | ⟨h, _⟩
        · exact h
        · cases h
      rcases HCASE.out with ⟨h1, h⟩ | ⟨_, _, _, hno⟩
      · exact ⟨h1, parses_one h hy⟩
      · exact absurd hy (hno _ _)
    obtain ⟨rfl, h1, h2⟩ := HYES.out
    subst h1 h2
    clear HYES HCASE HCASE2
    go_wp2_with fail
    generalize w2.alloc (.cells #[.string nmx, .slice ay ny cy] 24) = wy at *
    refine (alike_yes _ _ nmx lsx _ HSX2.out HSY.out).mono ?_
    rintro e w8 ⟨rfl, hb8⟩
    have hw8 := below2 hwy hb8
    clear q0 q1 r0 r1 hb8
    go_wp2_with fail
    refine (awake_any _).mono ?_
    rintro e w20 ⟨rfl, hb20⟩
    have HB : Hid (Below w.heap.size w w20) := below2 hw8 hb20
    clear hb20
    go_wp2
    go_ret
    exact ⟨rfl, HB.out⟩
end Go.Proofs.Ytnjbpiekbekpeaa
