/-
  The contracts of covers, weight, where a node stands, and compare.
-/
import Derived.Test.YtcncbjknfcjnmaaGreatTpB
namespace Go.Proofs.YtcncbjknfcjnmaaGreat.Tp
open Go.ChangeShapes Go.WideShapes Go.ChangeAt Go.RowKit
theorem coversEq : ∀ z n : Int, (z == 0 || z == n) = true ↔ (z = 0 ∨ z = n) := fun z n => by simp
def coversB (z n : Int) : Bool := z == 0 || z == n
theorem covers_any (z n : Int) (w : World) : Calls Tryz.prog 203 #[.int .i64 z, .int .i64 n] w fun e w' => e = .returned (.bool (coversB z n)) ∧ w' = w := by
  by_cases h1 : z = 0
  · have hr : coversB z n = true := by simp [coversB, h1]
    rw [hr]
    subst h1
    go_enter Tryz.func203, Tryz.ntmps203
    go_wp2
    go_ret
    exact ⟨rfl, rfl⟩
  · have d1 : (z == 0) = false := by simpa using h1
    by_cases h2 : z = n
    · have hr : coversB z n = true := by simp [coversB, h2]
      rw [hr]
      subst h2
      go_enter Tryz.func203, Tryz.ntmps203
      go_wp2
      go_ret
      exact ⟨rfl, rfl⟩
    · have hr : coversB z n = false := by simp [coversB, h1, h2]
      have d2 : (z == n) = false := by simpa using h2
      rw [hr]
      go_enter Tryz.func203, Tryz.ntmps203
      go_wp2
      go_ret
      exact ⟨rfl, rfl⟩
/-- what a node weighs -/
def wtN (x : Nd) : Int := if x.inn then x.weight else 0
theorem weight_any (c1 c2 c3 c4 : Int) (c5 c6 : Bool) (w : World) : Calls Tryz.prog 204 #[.agg #[.int .i64 c1, .int .i64 c2, .int .i64 c3, .int .i64 c4, .bool c5, .bool c6]] w fun e w' => e = .returned (.int .i64 (wtN ⟨c1, c2, c3, c4, c5, c6⟩)) ∧ Grown w w' := by
  have HB : Hid (Grown w (w.alloc (.cells #[.int .i64 c1, .int .i64 c2, .int .i64 c3, .int .i64 c4, .bool c5, .bool c6] 72))) := grown_alloc _ _
  cases c6 with
  | true =>
    go_enter Tryz.func204, Tryz.ntmps204
    go_wp2
    go_ret
    exact ⟨rfl, HB.out⟩
  | false =>
    go_enter Tryz.func204, Tryz.ntmps204
    go_wp2
    go_ret
    exact ⟨rfl, HB.out⟩
theorem ret_spot {fn : Func} {p : Tmp} (h : fn.results = #[.cell p 200]) (tmps : Array Value) (w : World) (b : Nat) (x y : Value) (hp : tmps.getD p undef = .pointer (some ⟨b, 0, none⟩))
    (h0 : w.cell? ⟨b, 0, none⟩ = some x) (h1 : w.cell? ⟨b, 1, none⟩ = some y) : (results fn tmps).run Tryz.prog w = .ok (.agg #[x, y]) w := by
  simp only [Array.getD_eq_getD_getElem?] at hp
  simp only [results, h]
  simp [go_sem, hp, h0, h1]
set_option maxRecDepth 60000 in
theorem zoneOf_any (c1 c2 c3 c4 : Int) (c5 c6 : Bool) (w : World) : Calls Tryz.prog 180 #[.agg #[.int .i64 c1, .int .i64 c2, .int .i64 c3, .int .i64 c4, .bool c5, .bool c6]] w fun e w' => e = .returned (.agg #[.int .i64 c2, .int .i64 c2]) ∧ Grown w w' := by
  have HB : Hid (Grown w ((w.alloc (.cells #[.int .i64 c1, .int .i64 c2, .int .i64 c3, .int .i64 c4, .bool c5, .bool c6] 72)).alloc (.cells #[.int .i64 c2, .int .i64 c2] 200))) := grown2 (grown_alloc _ _) (grown_alloc _ _)
  go_enter Tryz.func180, Tryz.ntmps180
  go_wp2
  try simp only [Exit.inBlock, Exit.then]
  refine bodyPost_ret (ret_spot rfl _ _ (w.heap.size + 1) (.int .i64 c2) (.int .i64 c2) rfl (by simp) (by simp)) rfl ?_
  exact ⟨rfl, HB.out⟩
set_option maxRecDepth 60000 in
theorem leafOf_any (c1 c2 c3 c4 : Int) (c5 c6 : Bool) (w : World) : Calls Tryz.prog 182 #[.agg #[.int .i64 c1, .int .i64 c2, .int .i64 c3, .int .i64 c4, .bool c5, .bool c6]] w fun e w' => e = .returned (.agg #[.int .i64 c1, .int .i64 c2]) ∧ Grown w w' := by
  have HB : Hid (Grown w ((w.alloc (.cells #[.int .i64 c1, .int .i64 c2, .int .i64 c3, .int .i64 c4, .bool c5, .bool c6] 72)).alloc (.cells #[.int .i64 c1, .int .i64 c2] 200))) := grown2 (grown_alloc _ _) (grown_alloc _ _)
  go_enter Tryz.func182, Tryz.ntmps182
  go_wp2
  try simp only [Exit.inBlock, Exit.then]
  refine bodyPost_ret (ret_spot rfl _ _ (w.heap.size + 1) (.int .i64 c1) (.int .i64 c2) rfl (by simp) (by simp)) rfl ?_
  exact ⟨rfl, HB.out⟩
set_option maxRecDepth 60000 in
theorem rackOf_any (c1 c2 c3 c4 : Int) (c5 c6 : Bool) (w : World) : Calls Tryz.prog 181 #[.agg #[.int .i64 c1, .int .i64 c2, .int .i64 c3, .int .i64 c4, .bool c5, .bool c6]] w fun e w' => e = .returned (.agg #[.int .i64 c3, .int .i64 c2]) ∧ Grown w w' := by
  have HB : Hid (Grown w ((w.alloc (.cells #[.int .i64 c1, .int .i64 c2, .int .i64 c3, .int .i64 c4, .bool c5, .bool c6] 72)).alloc (.cells #[.int .i64 c3, .int .i64 c2] 200))) := grown2 (grown_alloc _ _) (grown_alloc _ _)
  go_enter Tryz.func181, Tryz.ntmps181
  go_wp2
  try simp only [Exit.inBlock, Exit.then]
  refine bodyPost_ret (ret_spot rfl _ _ (w.heap.size + 1) (.int .i64 c3) (.int .i64 c2) rfl (by simp) (by simp)) rfl ?_
  exact ⟨rfl, HB.out⟩
def cmpI (x y : Int) : Int := if x < y then -1 else if y < x then 1 else 0
theorem isNaN_any (x : Int) (w : World) : Calls Tryz.prog 111 #[.int .i64 x] w fun e w' => e = .returned (.bool false) ∧ w' = w := by
  go_enter Tryz.func111, Tryz.ntmps111
  go_wp2
  go_ret
  exact ⟨rfl, rfl⟩
set_option maxHeartbeats 1000000 in
theorem cmpInt_any (x y : Int) (w : World) : Calls Tryz.prog 91 #[.int .i64 x, .int .i64 y] w fun e w' => e = .returned (.int .i64 (cmpI x y)) ∧ w' = w := by
  by_cases h1 : x < y
  · have hc : cmpI x y = -1 := by unfold cmpI; rw [if_pos h1]
    rw [hc]
    go_enter Tryz.func91, Tryz.ntmps91
    go_wp2_with (go_at_call 111; refine (isNaN_any _ _).mono ?_; rintro e w' ⟨rfl, rfl⟩)
    go_ret
    exact ⟨rfl, rfl⟩
  · have d1 : decide (x < y) = false := decide_eq_false h1
    by_cases h2 : y < x
    · have hc : cmpI x y = 1 := by unfold cmpI; rw [if_neg h1, if_pos h2]
      rw [hc]
      go_enter Tryz.func91, Tryz.ntmps91
      go_wp2_with (go_at_call 111; refine (isNaN_any _ _).mono ?_; rintro e w' ⟨rfl, rfl⟩)
      go_ret
      exact ⟨rfl, rfl⟩
    · have d2 : decide (y < x) = false := decide_eq_false h2
      have hc : cmpI x y = 0 := by unfold cmpI; rw [if_neg h1, if_neg h2]
      rw [hc]
      go_enter Tryz.func91, Tryz.ntmps91
      go_wp2_with (go_at_call 111; refine (isNaN_any _ _).mono ?_; rintro e w' ⟨rfl, rfl⟩)
      go_ret
      exact ⟨rfl, rfl⟩
/-- the first that is not nought -/
def orI (x y : Int) : Int := if x = 0 then y else x
set_option maxHeartbeats 1000000 in
theorem or_any (g : Nat) (x y : Int) (w : World) (h0 : w.cell? ⟨g, 0, none⟩ = some (.int .i64 x)) (h1 : w.cell? ⟨g, 1, none⟩ = some (.int .i64 y)) : Calls Tryz.prog 206 #[.slice (some ⟨g, 0, none⟩) 2 2] w fun e w' => e = .returned (.int .i64 (orI x y)) ∧ w' = w := by
  have HO : Hid (orI x y = if x = 0 then y else x) := rfl
  generalize orI x y = r at *
  go_enter Tryz.func206, Tryz.ntmps206
  go_wp2_with fail
  go_loopw [8] (fun i wr => ∃ k : Nat, k ≤ 2 ∧ i = .int .i64 k ∧ wr = w ∧ (1 ≤ k → x = 0) ∧ (2 ≤ k → y = 0)) (fun i _ => 2 - (intOf i).toNat)
  case atStart => exact ⟨0, by omega, rfl, rfl, by omega, by omega⟩
  case round =>
    obtain ⟨k, hk, rfl, rfl, hx, hy⟩ := hrel
    have hk3 : k = 0 ∨ k = 1 ∨ k = 2 := by omega
    rcases hk3 with rfl | rfl | rfl
    · clear hx hy
      by_cases hx0 : x = 0
      · subst hx0
        go_wp2_with fail
        exact ⟨⟨1, by omega, by go_num, by simp, by simp, by omega⟩, by simp [intOf]⟩
      · have hd : (x == 0) = false := by simpa using hx0
        have HR : Hid (x = r) := by show _ = _; rw [HO.out, if_neg hx0]
        go_wp2_with fail
        go_ret
        exact ⟨ret_int HR.out, rfl⟩
    · obtain rfl := hx (by omega)
      clear hx hy
      by_cases hy0 : y = 0
      · subst hy0
        go_wp2_with fail
        exact ⟨⟨2, by omega, by go_num, by simp, by simp, by simp⟩, by simp [intOf]⟩
      · have hd : (y == 0) = false := by simpa using hy0
        have HR : Hid (y = r) := by show _ = _; rw [HO.out, if_pos rfl]
        go_wp2_with fail
        go_ret
        exact ⟨ret_int HR.out, rfl⟩
    · obtain rfl := hx (by omega)
      obtain rfl := hy (by omega)
      have HR : Hid (0 = r) := by show _ = _; rw [HO.out, if_pos rfl]
      clear hx hy
      go_wp2_with fail
      go_ret
      exact ⟨ret_int HR.out, rfl⟩
/-- a zone, a rack or a node, its zone, and what it weighs -/
abbrev Ld := Int × Int × Int
def ld0 : Ld := (0, 0, 0)
def ldCells (x : Ld) : List Value := [.int .i64 x.1, .int .i64 x.2.1, .int .i64 x.2.2]
def cfL (a b : Ld) : Int := orI (cmpI a.1 b.1) (cmpI a.2.1 b.2.1)
set_option maxHeartbeats 1000000 in
set_option maxRecDepth 60000 in
theorem compare_any (a b : Ld) (W : World) : Calls Tryz.prog 198 #[.agg (ldCells a).toArray, .agg (ldCells b).toArray] W fun e w' => e = .returned (.int .i64 (cfL a b)) ∧ Grown W w' := by
  obtain ⟨a1, a2, a3⟩ := a
  obtain ⟨b1, b2, b3⟩ := b
  show Calls Tryz.prog 198 #[.agg #[.int .i64 a1, .int .i64 a2, .int .i64 a3], .agg #[.int .i64 b1, .int .i64 b2, .int .i64 b3]] W _
  have HC : Hid (cfL (a1, a2, a3) (b1, b2, b3) = orI (cmpI a1 b1) (cmpI a2 b2)) := rfl
  have H1 : Hid (∀ w : World, Calls Tryz.prog 91 #[.int .i64 a1, .int .i64 b1] w fun e w' => e = .returned (.int .i64 (cmpI a1 b1)) ∧ w' = w) := cmpInt_any a1 b1
  have H2 : Hid (∀ w : World, Calls Tryz.prog 91 #[.int .i64 a2, .int .i64 b2] w fun e w' => e = .returned (.int .i64 (cmpI a2 b2)) ∧ w' = w) := cmpInt_any a2 b2
  generalize cfL (a1, a2, a3) (b1, b2, b3) = r at *
  generalize cmpI a1 b1 = p at *
  generalize cmpI a2 b2 = q at *
  have HG : Hid (Grown W ((W.alloc (.cells #[.int .i64 a1, .int .i64 a2, .int .i64 a3] 212)).alloc (.cells #[.int .i64 b1, .int .i64 b2, .int .i64 b3] 212))) := grown2 (grown_alloc _ _) (grown_alloc _ _)
  go_enter Tryz.func198, Tryz.ntmps198
  go_wp2_with fail
  generalize hw1 : (W.alloc (.cells #[.int .i64 a1, .int .i64 a2, .int .i64 a3] 212)).alloc (.cells #[.int .i64 b1, .int .i64 b2, .int .i64 b3] 212) = w1 at *
  have y0 : w1.cell? ⟨W.heap.size, 0, none⟩ = some (.int .i64 a1) := by rw [← hw1]; simp
  have y1 : w1.cell? ⟨W.heap.size, 1, none⟩ = some (.int .i64 a2) := by rw [← hw1]; simp
  have y2 : w1.cell? ⟨W.heap.size + 1, 0, none⟩ = some (.int .i64 b1) := by rw [← hw1]; simp
  have y3 : w1.cell? ⟨W.heap.size + 1, 1, none⟩ = some (.int .i64 b2) := by rw [← hw1]; simp
  have hs : W.heap.size + 1 < w1.heap.size := by rw [← hw1]; simp
  clear hw1
  have HK : Hid (∀ w', Below w1.heap.size w1 w' → ((w'.cell? ⟨W.heap.size, 0, none⟩ = some (.int .i64 a1) ∧ w'.cell? ⟨W.heap.size, 1, none⟩ = some (.int .i64 a2)) ∧ (w'.cell? ⟨W.heap.size + 1, 0, none⟩ = some (.int .i64 b1) ∧ w'.cell? ⟨W.heap.size + 1, 1, none⟩ = some (.int .i64 b2)) ∧ Below w1.heap.size w1 w')) := fun w' hb =>
    ⟨⟨(hb.cell (p := ⟨W.heap.size, 0, none⟩) (by show W.heap.size < _; omega)).trans y0, (hb.cell (p := ⟨W.heap.size, 1, none⟩) (by show W.heap.size < _; omega)).trans y1⟩, ⟨(hb.cell (p := ⟨W.heap.size + 1, 0, none⟩) hs).trans y2, (hb.cell (p := ⟨W.heap.size + 1, 1, none⟩) hs).trans y3⟩, hb⟩
  have HOR : Hid (Calls Tryz.prog 206 #[.slice (some ⟨w1.heap.size, 0, none⟩) 2 2] (w1.drew.alloc (.cells #[.int .i64 p, .int .i64 q] 3)) fun e w' => e = .returned (.int .i64 (orI p q)) ∧ w' = w1.drew.alloc (.cells #[.int .i64 p, .int .i64 q] 3)) := or_any _ p q _ (by have := cells_lit w1.drew [.int .i64 p, .int .i64 q] 3 0 _ rfl; rw [addr_add] at this; exact this) (by have := cells_lit w1.drew [.int .i64 p, .int .i64 q] 3 1 _ rfl; rw [addr_add] at this; exact this)
  generalize orI p q = z at *
  clear y0 y1 y2 y3
  go_region_held3 (fun w' => (w'.cell? ⟨W.heap.size, 0, none⟩ = some (.int .i64 a1) ∧ w'.cell? ⟨W.heap.size, 1, none⟩ = some (.int .i64 a2)) ∧ (w'.cell? ⟨W.heap.size + 1, 0, none⟩ = some (.int .i64 b1) ∧ w'.cell? ⟨W.heap.size + 1, 1, none⟩ = some (.int .i64 b2)) ∧ Below w1.heap.size w1 w')
    (first | exact HK.out _ (below_drew _) | (go_split_ands; exact HK.out _ (by assumption)) | (go_split_ands; exact HK.out _ (below2 (by assumption) (below_alloc _ _))))
    ((first
      | (go_at_call 206; refine HOR.out.mono ?_; rintro en w6 ⟨rfl, rfl⟩)
      | (go_at_call_of 91 a1; refine (H1.out _).mono ?_; rintro en w6 ⟨rfl, rfl⟩)
      | (go_at_call_of 91 a2; refine (H2.out _).mono ?_; rintro en w6 ⟨rfl, rfl⟩)))
  all_goals
    have HG2 : Hid (Grown W (w1.drew.alloc (.cells #[.int .i64 p, .int .i64 q] 3))) := grown2 HG.out (grown2 ⟨1, #[], by rw [Go.Sort.grow_empty]; rfl⟩ (grown_alloc _ _))
    clear HK H1 H2 HOR HG
    go_wp2
    go_ret
    exact ⟨ret_int HC.out.symm, HG2.out⟩
end Go.Proofs.YtcncbjknfcjnmaaGreat.Tp
