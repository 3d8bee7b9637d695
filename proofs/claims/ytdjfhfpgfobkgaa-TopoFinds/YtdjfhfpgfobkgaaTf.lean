/-
  TopoFinds is true.
-/
import Derived.Test.YtdjfhfpgfobkgaaAw
import Derived.Test.YtdjfhfpgfobkgaaF
import Derived.Test.YtdjfhfpgfobkgaaD
namespace Go.Proofs.Ytdjfhfpgfobkgaa
open Go.ChangeShapes Go.WideShapes Go.ChangeAt Go.RowKit
theorem six_new (w : World) (v0 v1 v2 v3 v4 v5 : Value) (T : TypeId) : Six (w.alloc (.cells #[v0, v1, v2, v3, v4, v5] T)) w.heap.size v0 v1 v2 v3 v4 v5 := by
  unfold Six; simp
set_option maxHeartbeats 2000000 in
set_option maxRecDepth 60000 in
theorem topoFinds_any (a : Option Addr) (len cap : Nat) (ls : List Nd) (id : Int) (w : World) (h : NdsAt w a len cap ls) :
    Calls Try.prog 3 #[.slice a len cap, .int .i64 id] w fun e w' => TruePost w e w' := by
  by_cases h40 : (40 : Int) < (len : Int)
  · clear h
    go_enter Try.func3, Try.ntmps3
    go_wp2_with fail
    refine (awake_any _).mono ?_
    rintro e w2 ⟨rfl, hb2⟩
    go_wp2_with fail
    go_ret
    exact ⟨rfl, hb2⟩
  have HL : Hid (NdsAt w a len cap ls) := h
  have HF : Hid (Calls Try.prog 6 #[.slice a len cap, .int .i64 id] w fun e w' => ∃ r, FindIs ls id r ∧ FindPost r w e w') := find_any a len cap ls id w h
  clear h
  go_enter Try.func3, Try.ntmps3
  go_wp2_with fail
  refine HF.out.mono ?_
  rintro e w2 ⟨r, hR, hb2, rfl⟩
  clear HF
  by_cases hM : MayN ls
  · have hr : r = findN ls id := by
      rcases hR with ⟨_, h⟩ | ⟨h, _⟩
      · exact h
      · exact absurd hM h
    subst hr
    have HM : Hid (MayN ls) := hM
    have HRF : Hid (∀ W, Below w.heap.size w W → Calls Try.prog 9 #[.slice a len cap, .int .i64 id] W fun e w' => FindPost (findN ls id) W e w') := fun W hb => refFind_any a len cap ls id W (HL.out.below hb)
    clear hR hM
    unfold FindPost at HRF
    generalize (findN ls id).isSome = q at *
    generalize (findN ls id).getD nd0 = x at *
    obtain ⟨c1, c2, c3, c4, c5, c6⟩ := x
    have hcs : (ndCells ⟨c1, c2, c3, c4, c5, c6⟩).toArray = #[.int .i64 c1, .int .i64 c2, .int .i64 c3, .int .i64 c4, .bool c5, .bool c6] := rfl
    rw [hcs]
    clear hcs
    have HRG : Hid (∀ W, Below w.heap.size w W → Calls Try.prog 9 #[.slice a len cap, .int .i64 id] W fun e w' => Below W.heap.size W w' ∧ e = .returned (.tuple #[.agg #[.int .i64 c1, .int .i64 c2, .int .i64 c3, .int .i64 c4, .bool c5, .bool c6], .bool q])) := HRF
    clear HRF
    go_wp2_with fail
    have hb3 : Below w.heap.size w (w2.alloc (.cells #[.int .i64 c1, .int .i64 c2, .int .i64 c3, .int .i64 c4, .bool c5, .bool c6] 25)) := below2 hb2 (below_alloc _ _)
    have HX : Hid (Six (w2.alloc (.cells #[.int .i64 c1, .int .i64 c2, .int .i64 c3, .int .i64 c4, .bool c5, .bool c6] 25)) w2.heap.size (.int .i64 c1) (.int .i64 c2) (.int .i64 c3) (.int .i64 c4) (.bool c5) (.bool c6)) := six_new _ _ _ _ _ _ _ _
    generalize w2.alloc (.cells #[.int .i64 c1, .int .i64 c2, .int .i64 c3, .int .i64 c4, .bool c5, .bool c6] 25) = w3 at *
    generalize w2.heap.size = X at *
    clear hb2
    refine (check_yes (HL.out.below hb3) HM.out).mono ?_
    rintro e w4 ⟨rfl, hb4⟩
    go_wp2_with fail
    refine (refMay_yes (HL.out.below (below2 hb3 hb4)) HM.out).mono ?_
    rintro e w5 ⟨rfl, hb5⟩
    go_wp2_with fail
    refine (refMay_yes (HL.out.below (below2 hb3 (below2 hb4 hb5))) HM.out).mono ?_
    rintro e w6 ⟨rfl, hb6⟩
    have hb36 : Below w3.heap.size w3 w6 := below2 hb4 (below2 hb5 hb6)
    clear hb4 hb5 hb6
    go_wp2_with fail
    refine (HRG.out w6 (below2 hb3 hb36)).mono ?_
    rintro e w7 ⟨hb7, rfl⟩
    have hb8 : Below w3.heap.size w3 (w7.alloc (.cells #[.int .i64 c1, .int .i64 c2, .int .i64 c3, .int .i64 c4, .bool c5, .bool c6] 25)) := below2 (below2 hb36 hb7) (below_alloc _ _)
    obtain ⟨s0, s1, s2, s3, s4, s5⟩ := HX.out.below hb8
    obtain ⟨r0, r1, r2, r3, r4, r5⟩ := six_new w7 (.int .i64 c1) (.int .i64 c2) (.int .i64 c3) (.int .i64 c4) (.bool c5) (.bool c6) 25
    have hb9 : Below w.heap.size w (w7.alloc (.cells #[.int .i64 c1, .int .i64 c2, .int .i64 c3, .int .i64 c4, .bool c5, .bool c6] 25)) := below2 hb3 hb8
    clear HX HRG hb36 hb7 hb8 hb3
    go_upto_region 9 with fail
    generalize w7.alloc (.cells #[.int .i64 c1, .int .i64 c2, .int .i64 c3, .int .i64 c4, .bool c5, .bool c6] 25) = w8 at *
    generalize w7.heap.size = Y at *
    go_wp2_with fail
    refine (awake_any _).mono ?_
    rintro e w9 ⟨rfl, hbA⟩
    go_wp2_with fail
    go_ret
    exact ⟨rfl, below2 hb9 hbA⟩
  · have hr : r = none := by
      rcases hR with ⟨h, _⟩ | ⟨_, h⟩
      · exact absurd h hM
      · exact h
    subst hr
    have HM : Hid (¬ MayN ls) := hM
    clear hR hM
    have hcs : (ndCells ((none : Option Nd).getD nd0)).toArray = #[.int .i64 0, .int .i64 0, .int .i64 0, .int .i64 0, .bool false, .bool false] := rfl
    have hq : (none : Option Nd).isSome = false := rfl
    rw [hcs, hq]
    clear hcs hq
    go_wp2_with fail
    have hb3 : Below w.heap.size w (w2.alloc (.cells #[.int .i64 0, .int .i64 0, .int .i64 0, .int .i64 0, .bool false, .bool false] 25)) := below2 hb2 (below_alloc _ _)
    have HX : Hid (Six (w2.alloc (.cells #[.int .i64 0, .int .i64 0, .int .i64 0, .int .i64 0, .bool false, .bool false] 25)) w2.heap.size (.int .i64 0) (.int .i64 0) (.int .i64 0) (.int .i64 0) (.bool false) (.bool false)) := six_new _ _ _ _ _ _ _ _
    generalize w2.alloc (.cells #[.int .i64 0, .int .i64 0, .int .i64 0, .int .i64 0, .bool false, .bool false] 25) = w3 at *
    generalize w2.heap.size = X at *
    clear hb2
    refine (check_no (HL.out.below hb3) HM.out).mono ?_
    rintro e w4 ⟨rfl, hb4⟩
    go_wp2_with fail
    refine (refMay_no (HL.out.below (below2 hb3 hb4)) HM.out).mono ?_
    rintro e w5 ⟨rfl, hb5⟩
    go_wp2_with fail
    refine (refMay_no (HL.out.below (below2 hb3 (below2 hb4 hb5))) HM.out).mono ?_
    rintro e w6 ⟨rfl, hb6⟩
    have hb36 : Below w3.heap.size w3 w6 := below2 hb4 (below2 hb5 hb6)
    obtain ⟨s0, s1, s2, s3, s4, s5⟩ := HX.out.below hb36
    have hb9 : Below w.heap.size w w6 := below2 hb3 hb36
    clear hb4 hb5 hb6 hb36 HX hb3
    go_wp2_with fail
    refine (awake_any _).mono ?_
    rintro e w9 ⟨rfl, hbA⟩
    go_wp2_with fail
    go_ret
    exact ⟨rfl, below2 hb9 hbA⟩
end Go.Proofs.Ytdjfhfpgfobkgaa
