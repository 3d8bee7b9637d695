/-
  The answer's Of.
-/
import Derived.Test.YtmifdjkaclgibaaGreatPj
import Derived.Test.YtmifdjkaclgibaaGreatTpD
namespace Go.Proofs.YtmifdjkaclgibaaGreat.Tp
open Go.ChangeShapes Go.WideShapes Go.ChangeAt Go.RowKit
/-- what the answer's Of tells -/
theorem refOf_any (a : Option Addr) (len cap : Nat) (ls : List Nd) (g size : Int) (w : World) (h : NdsAt w a len cap ls) : Calls Tryz.prog 7 #[.slice a len cap, .int .i64 g, .int .i64 size] w fun e w' => OfPost ls g size w e w' := by
  have HMY : Hid (Calls Tryz.prog 8 #[.slice a len cap] w fun e w' => BoolPost (MayN ls) w e w') := refMay_any a len cap ls w h
  have HL : Hid (NdsAt w a len cap ls) := h
  clear h
  go_enter Tryz.func7, Tryz.ntmps7
  go_wp2_with fail
  refine HMY.out.mono ?_
  rintro e w2 ⟨hb2, q, rfl, hq⟩
  clear HMY
  cases q with
  | false =>
    have HO : Hid (OfIs ls g size []) := .inr ⟨fun hh => absurd (hq.2 hh.1.1) (by decide), rfl⟩
    clear hq
    go_wp2_with fail
    go_ret
    exact ⟨hb2, none, 0, [], rfl, .inl rfl, HO.out⟩
  | true =>
    have HM : Hid (MayN ls) := hq.1 rfl
    clear hq
    by_cases hg0 : g < 0
    · have HO : Hid (OfIs ls g size []) := .inr ⟨fun hh => by have := hh.1.2.1; omega, rfl⟩
      have d0 : decide (g < 0) = true := by simpa using hg0
      go_wp2_with fail
      go_ret
      exact ⟨hb2, none, 0, [], rfl, .inl rfl, HO.out⟩
    have d0 : decide (g < 0) = false := decide_eq_false hg0
    by_cases hg7 : 7 < g
    · have HO : Hid (OfIs ls g size []) := .inr ⟨fun hh => by have := hh.1.2.2; omega, rfl⟩
      have d7 : decide (7 < g) = true := by simpa using hg7
      go_wp2_with fail
      go_ret
      exact ⟨hb2, none, 0, [], rfl, .inl rfl, HO.out⟩
    have d7 : decide (7 < g) = false := decide_eq_false hg7
    by_cases hs1 : size < 1
    · have HO : Hid (OfIs ls g size []) := .inr ⟨fun hh => by have := hh.2.1; omega, rfl⟩
      have d1 : decide (size < 1) = true := by simpa using hs1
      go_wp2_with fail
      go_ret
      exact ⟨hb2, none, 0, [], rfl, .inl rfl, HO.out⟩
    have d1 : decide (size < 1) = false := decide_eq_false hs1
    by_cases hs3 : 3 < size
    · have HO : Hid (OfIs ls g size []) := .inr ⟨fun hh => by have := hh.2.2; omega, rfl⟩
      have d3 : decide (3 < size) = true := by simpa using hs3
      go_wp2_with fail
      go_ret
      exact ⟨hb2, none, 0, [], rfl, .inl rfl, HO.out⟩
    have d3 : decide (3 < size) = false := decide_eq_false hs3
    obtain ⟨n, rfl⟩ : ∃ n : Nat, size = (n : Int) := ⟨size.toNat, by omega⟩
    have HO : Hid (OfIs ls g (n : Int) (ofP ls g n)) := .inl ⟨⟨⟨HM.out, by omega, by omega⟩, by omega, by omega⟩, rfl⟩
    have HCM : Hid (∀ W : World, Calls Tryz.prog 15 #[.int .i64 (n : Int)] W fun e w' => e = .returned (.slice (some ⟨W.heap.size, 0, none⟩) 5 5) ∧ w' = W.alloc (.cells (comCells (n : Int)).toArray 50)) := refCommon_any n
    have HRN : Hid (Calls Tryz.prog 14 #[.slice a len cap, .slice (some ⟨w2.heap.size, 0, none⟩) 5 5, .int .i64 g, .int .i64 (n : Int)] (w2.alloc (.cells (comCells (n : Int)).toArray 50)) fun e w' => IntsPost (ofP ls g n) (w2.alloc (.cells (comCells (n : Int)).toArray 50)) e w') := refRun_com a len cap ls w2.heap.size g n _ ((HL.out.below hb2).below (below_alloc _ _)) (com_new w2 n) HM.out (by omega)
    have hb3 := below2 hb2 (below_alloc w2 (.cells (comCells (n : Int)).toArray 50))
    go_wp2_with fail
    refine (HCM.out _).mono ?_
    rintro e w' ⟨rfl, hw'⟩
    subst hw'
    generalize w2.alloc (.cells (comCells (n : Int)).toArray 50) = w3 at *
    go_wp2_with fail
    refine HRN.out.mono ?_
    rintro e w4 ⟨hb4, a4, c4, rfl, hI⟩
    have HI : Hid (IntsAt w4 a4 (ofP ls g n)) := hI
    clear hI HRN HCM
    go_wp2_with fail
    go_ret
    exact ⟨below2 hb3 hb4, a4, c4, _, rfl, HI.out, HO.out⟩
end Go.Proofs.YtmifdjkaclgibaaGreat.Tp
