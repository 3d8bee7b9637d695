/-
  The contract of the answer's May, of whatever map.
-/
import Derived.Test.YtcncbjknfcjnmaaGreatPr46
namespace Go.Proofs.YtcncbjknfcjnmaaGreat.Tp
open Go.ChangeShapes Go.WideShapes Go.ChangeAt Go.RowKit
set_option maxHeartbeats 2000000 in
set_option maxRecDepth 60000 in
theorem refMay_any8 {m : Mp} {s : MV} (w : World) (h : MapAt w m s) : Calls Tryz.prog 13 #[.agg (mapCells m s).toArray] w fun e w' => BoolPost (MayM m) w e w' := by
 by_cases hec : (0 <= m.ep /\ m.ep <= 2147483647) /\ CountOk m.size m.mn m.gr
 ·by_cases hM : MayN m.nds
  ·exact refMayTemps hec.1 hec.2 hM w h
  ·have HF : Hid (¬ MayM m) := fun h => hM h.nds
   have HN : Hid (∀ W,Below w.heap.size w W -> Calls Tryz.prog 33 #[.slice s.aN s.lN s.cN] W fun e w' => e = .returned (.bool false) /\ Below W.heap.size W w') := fun W hb => refMay_no (h.nds.below hb) hM
   obtain ⟨⟨k1,k2⟩,⟨k3,k4⟩,⟨k5,k6⟩,k7,k8⟩ := hec
   rw [map_split]
   have x0 : decide (m.ep < 0) = false := by simp; omega
   have x1 : decide (2147483648 <= m.ep) = false := by simp; omega
   have x2 : decide (m.size < 1) = false := by simp; omega
   have x3 : decide (3 < m.size) = false := by simp; omega
   have x4 : decide (m.mn < 1) = false := by simp; omega
   have x5 : decide (m.size < m.mn) = false := by simp; omega
   have x6 : decide (m.gr < 1) = false := by simp; omega
   have x7 : decide (8 < m.gr) = false := by simp; omega
   have hb1 := below_alloc w (.cells #[.int .i64 m.ep,.int .i64 m.size,.int .i64 m.mn,.int .i64 m.gr,.slice s.aN s.lN s.cN,.slice s.aT s.lT s.cT,.slice s.aR s.lR s.cR] 26)
   clear h hM
   go_enter Tryz.func13,Tryz.ntmps13
   go_wp2_with (go_at_call 33; refine (HN.out _ hb1).mono ?_; rintro e w2 ⟨rfl,hb2⟩)
   go_ret
   exact bool_no (below2 hb1 hb2) HF.out
 ·have HF : Hid (¬ MayM m) := fun h => hec ⟨h.ep,h.cnt⟩
  have hb1 := below_alloc w (.cells #[.int .i64 m.ep,.int .i64 m.size,.int .i64 m.mn,.int .i64 m.gr,.slice s.aN s.lN s.cN,.slice s.aT s.lT s.cT,.slice s.aR s.lR s.cR] 26)
  have key : ∀ (b0 b1 b2 b3 b4 b5 b6 b7 : Bool),decide (m.ep < 0) = b0 -> decide (2147483648 <= m.ep) = b1 -> decide (m.size < 1) = b2 -> decide (3 < m.size) = b3 -> decide (m.mn < 1) = b4 -> decide (m.size < m.mn) = b5 -> decide (m.gr < 1) = b6 -> decide (8 < m.gr) = b7 -> (b0 || (b1 || (b2 || (b3 || (b4 || (b5 || (b6 || b7))))))) = true -> Calls Tryz.prog 13 #[.agg #[.int .i64 m.ep,.int .i64 m.size,.int .i64 m.mn,.int .i64 m.gr,.slice s.aN s.lN s.cN,.slice s.aT s.lT s.cT,.slice s.aR s.lR s.cR]] w fun e w' => BoolPost (MayM m) w e w' := by
   intro b0 b1 b2 b3 b4 b5 b6 b7 h0 h1 h2 h3 h4 h5 h6 h7 hor
   clear hec h
   cases b0 with
   | true =>
    go_enter Tryz.func13,Tryz.ntmps13
    go_wp2_with fail
    go_ret
    exact bool_no hb1 HF.out
   | false =>
    cases b1 with
    | true =>
     go_enter Tryz.func13,Tryz.ntmps13
     go_wp2_with fail
     go_ret
     exact bool_no hb1 HF.out
    | false =>
     cases b2 with
     | true =>
      go_enter Tryz.func13,Tryz.ntmps13
      go_wp2_with fail
      go_ret
      exact bool_no hb1 HF.out
     | false =>
      cases b3 with
      | true =>
       go_enter Tryz.func13,Tryz.ntmps13
       go_wp2_with fail
       go_ret
       exact bool_no hb1 HF.out
      | false =>
       cases b4 with
       | true =>
        go_enter Tryz.func13,Tryz.ntmps13
        go_wp2_with fail
        go_ret
        exact bool_no hb1 HF.out
       | false =>
        cases b5 with
        | true =>
         go_enter Tryz.func13,Tryz.ntmps13
         go_wp2_with fail
         go_ret
         exact bool_no hb1 HF.out
        | false =>
         cases b6 with
         | true =>
          go_enter Tryz.func13,Tryz.ntmps13
          go_wp2_with fail
          go_ret
          exact bool_no hb1 HF.out
         | false =>
          cases b7 with
          | true =>
           go_enter Tryz.func13,Tryz.ntmps13
           go_wp2_with fail
           go_ret
           exact bool_no hb1 HF.out
          | false =>
           exact absurd hor (by decide)
  rw [map_split]
  refine key _ _ _ _ _ _ _ _ rfl rfl rfl rfl rfl rfl rfl rfl ?_
  simp only [Bool.or_eq_true,decide_eq_true_eq]
  unfold CountOk at hec
  omega
end Go.Proofs.YtcncbjknfcjnmaaGreat.Tp
