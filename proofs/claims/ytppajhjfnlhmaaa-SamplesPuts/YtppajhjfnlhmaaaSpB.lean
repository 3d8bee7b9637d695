/-
  The contracts of since, find, Get and copied.
-/
import Derived.Test.YtppajhjfnlhmaaaSpA
namespace Go.Proofs.Ytppajhjfnlhmaaa.Bk
open Go.ChangeShapes Go.WideShapes Go.ChangeAt Go.RowKit
/-- behind since -/
def SincePost (ls : List Sm) (t : Int) (w : World) (e : Ending) (w' : World) : Prop := Grown w w' ∧ ∃ k : Nat, e = .returned (.int .i64 k) ∧ Since ls t k
set_option maxHeartbeats 1000000 in
set_option maxRecDepth 60000 in
theorem since_any (a : Option Addr) (len cap : Nat) (ls : List Sm) (t : Int) (w : World) (h : SmsAt w a len cap ls) :
    Calls Try.prog 23 #[.slice a len cap, .int .i64 t] w fun e w' => SincePost ls t w e w' := by
  have hl : ls.length = len := h.1
  have hm : len ≤ maxLen := Nat.le_trans h.2.1 h.2.2.1
  unfold maxLen at hm
  have HL : Hid (SmsAt w a len cap ls) := h
  clear h
  go_enter Try.func23, Try.ntmps23
  go_wp2_with fail
  go_loopw [5] (fun i wr => ∃ k : Nat, k ≤ len ∧ i = .int .i64 k ∧ Hid (∀ j, j < k → (ls.getD j sm0).1 < t) ∧ Hid (Grown w wr)) (fun i _ => len - (intOf i).toNat)
  case atStart => exact ⟨0, Nat.zero_le _, rfl, (fun j hj => absurd hj (Nat.not_lt_zero _)), Hid.mk9 (grown_refl _)⟩
  case round =>
    obtain ⟨k, hk, rfl, hT, hbel⟩ := hrel
    by_cases hlt : k < len
    · obtain ⟨b, off, rfl, hbs, hcell⟩ := (HL.out.below (grown_below hbel.out)).some (by omega)
      obtain ⟨e0, -⟩ := hcell k hlt
      clear hcell
      have hk1 : (k : Int) < (len : Int) := by omega
      have hk0 : (0 : Int) ≤ (k : Int) := by omega
      have HY : Hid ((ls.getD k sm0).1 < t → ∀ j, j < k + 1 → (ls.getD j sm0).1 < t) := fun h j hj => by
        rcases Nat.lt_succ_iff_lt_or_eq.1 hj with h' | rfl
        · exact hT.out j h'
        · exact h
      have HN : Hid (t ≤ (ls.getD k sm0).1 → Since ls t k) := fun h => ⟨by omega, hT.out, fun _ => h⟩
      generalize (ls.getD k sm0).1 = x at *
      clear hT
      by_cases hx : x < t
      · have HY' := Hid.mk9 (HY.out hx)
        clear HY HN
        go_wp2_with fail
        exact ⟨⟨k + 1, by omega, by go_num, HY', hbel⟩, by simp [intOf]; omega⟩
      · have HN' := Hid.mk9 (HN.out (by omega))
        have hd : decide (x < t) = false := decide_eq_false hx
        clear HY HN
        go_wp2_with fail
        go_ret
        exact ⟨hbel.out, k, rfl, HN'.out⟩
    · obtain rfl : k = len := by omega
      have HN' : Hid (Since ls t k) := ⟨by omega, hT.out, fun h => absurd h (by omega)⟩
      clear hT HL
      go_wp2_with fail
      go_ret
      exact ⟨hbel.out, k, rfl, HN'.out⟩
/-- behind find: the sample and whether it is there -/
def FindPost (o : Option Sm) (w : World) (e : Ending) (w' : World) : Prop := Below w.heap.size w w' ∧ e = .returned (.tuple #[.agg #[.int .i64 (o.getD sm0).1, .int .i64 (o.getD sm0).2], .bool o.isSome])
theorem ret_find {fn : Func} {p q : Tmp} (h : fn.results = #[.cell p 24, .tmp q]) (tmps : Array Value) (w : World) (b : Nat) (x y : Int) (f : Value) (hp : tmps.getD p undef = .pointer (some ⟨b, 0, none⟩)) (hq : tmps.getD q undef = f)
    (hb : SmBox w b x y) : (results fn tmps).run Try.prog w = .ok (.tuple #[.agg #[.int .i64 x, .int .i64 y], f]) w := by
  have h0 := hb.c0
  have h1 := hb.c1
  simp only [Array.getD_eq_getD_getElem?] at hp hq
  simp only [results, h]
  simp [go_sem, hp, hq, h0, h1]
theorem findP_yes {o : Option Sm} {x : Sm} {w w' : World} (h : o = some x) (hb : Below w.heap.size w w') : FindPost o w (.returned (.tuple #[.agg #[.int .i64 x.1, .int .i64 x.2], .bool true])) w' := by subst h; exact ⟨hb, rfl⟩
theorem findP_no {o : Option Sm} {w w' : World} (h : o = none) (hb : Below w.heap.size w w') : FindPost o w (.returned (.tuple #[.agg #[.int .i64 0, .int .i64 0], .bool false])) w' := by subst h; exact ⟨hb, rfl⟩
set_option maxHeartbeats 1000000 in
set_option maxRecDepth 60000 in
theorem find_any (a : Option Addr) (len cap : Nat) (ls : List Sm) (t : Int) (w : World) (h : SmsAt w a len cap ls) (hs : Sorted ls) :
    Calls Try.prog 26 #[.slice a len cap, .int .i64 t] w fun e w' => FindPost (findP ls t) w e w' := by
  have hl : ls.length = len := h.1
  have hm : len ≤ maxLen := Nat.le_trans h.2.1 h.2.2.1
  unfold maxLen at hm
  have HL : Hid (SmsAt w a len cap ls) := h
  have HX := Hid.mk9 (SmBox.new w 0 0)
  have b0 := below_alloc w (.cells #[.int .i64 0, .int .i64 0] 24)
  have HC := Hid.mk9 (since_any a len cap ls t _ (h.below b0))
  have HS := Hid.mk9 hs
  clear h hs
  go_enter Try.func26, Try.ntmps26
  go_upto_region 2 with (go_at_call 23; refine HC.out.mono ?_; rintro e w1 ⟨hg, k, rfl, hk⟩)
  have hb1 := grown_below hg
  have HX1 := Hid.mk9 (HX.out.below hb1)
  have HB := Hid.mk9 (below2 b0 hb1)
  have HK := Hid.mk9 hk
  have hkl : k ≤ len := by have := hk.1; omega
  clear hg hb1 hk HX HC b0
  by_cases hlt : k < len
  · obtain ⟨b, off, rfl, hbs, hcell⟩ := (HL.out.below HB.out).some (by omega)
    obtain ⟨e0, e1⟩ := hcell k hlt
    clear hcell
    have hk1 : (k : Int) < (len : Int) := by omega
    have hk0 : (0 : Int) ≤ (k : Int) := by omega
    have hk2 : ¬ (k : Int) = (len : Int) := by omega
    have HY : Hid ((ls.getD k sm0).1 = t → findP ls t = some (ls.getD k sm0)) := fun e => find_at HS.out (by omega) e
    have HN : Hid (¬ (ls.getD k sm0).1 = t → findP ls t = none) := fun e => find_not HK.out HS.out fun _ => e
    generalize ls.getD k sm0 = x at *
    obtain ⟨x1, x2⟩ := x
    have c0 := HX1.out.c0
    have c1 := HX1.out.c1
    have c2 := HX1.out.f0
    have c3 := HX1.out.f1
    by_cases hx : x1 = t
    · have HF := Hid.mk9 (HY.out hx)
      clear HY HN
      subst hx
      have HXs := Hid.mk9 (HX1.out.set x1 x2)
      have HBs := Hid.mk9 (set2_below HB.out (b := w.heap.size) (Nat.le_refl _) (.int .i64 x1) (.int .i64 x2))
      go_wp2_with fail
      refine bodyPost_ret (ret_find rfl _ _ w.heap.size x1 x2 (.bool true) rfl rfl HXs.out) rfl ?_
      exact findP_yes (x := (x1, x2)) HF.out HBs.out
    · have HF := Hid.mk9 (HN.out hx)
      clear HY HN
      have hd : (x1 != t) = true := by simp [hx]
      have HXs := Hid.mk9 (HX1.out.set 0 0)
      have HBs := Hid.mk9 (set2_below HB.out (b := w.heap.size) (Nat.le_refl _) (.int .i64 0) (.int .i64 0))
      go_wp2_with fail
      refine bodyPost_ret (ret_find rfl _ _ w.heap.size 0 0 (.bool false) rfl rfl HXs.out) rfl ?_
      exact findP_no HF.out HBs.out
  · obtain rfl : k = len := by omega
    have HF : Hid (findP ls t = none) := find_not HK.out HS.out fun h => absurd h (by omega)
    have c0 := HX1.out.c0
    have c1 := HX1.out.c1
    have c2 := HX1.out.f0
    have c3 := HX1.out.f1
    have HXs := Hid.mk9 (HX1.out.set 0 0)
    have HBs := Hid.mk9 (set2_below HB.out (b := w.heap.size) (Nat.le_refl _) (.int .i64 0) (.int .i64 0))
    go_wp2_with fail
    refine bodyPost_ret (ret_find rfl _ _ w.heap.size 0 0 (.bool false) rfl rfl HXs.out) rfl ?_
    exact findP_no HF.out HBs.out
end Go.Proofs.Ytppajhjfnlhmaaa.Bk
