/-
  Asked, of whatever delta.
-/
import Derived.Test.YtejhmacbbdnlbaaAcC1
import Derived.Test.YtejhmacbbdnlbaaAcC2
import Derived.Test.YtejhmacbbdnlbaaAcC3
import Derived.Test.YtejhmacbbdnlbaaAcC4
import Derived.Test.YtejhmacbbdnlbaaAcC5
namespace Go.Proofs.Ytejhmacbbdnlbaa.Ac
open Go.ChangeShapes Go.WideShapes Go.ChangeAt Go.RowKit
theorem asked_any (d : Dl) (a : Option Addr) (l c : Nat) (w : World) (h : RowI w a l c d.ns) : Calls Try.prog 28 #[.agg #[.int .i64 d.k, .int .i64 d.id, .int .i64 d.zn, .int .i64 d.rk, .int .i64 d.wt, .int .i64 d.g, .slice a l c]] w fun e w' => AskPost d w e w' := by
  obtain ⟨k, id, z, r, wt, g, ns⟩ := d
  by_cases hin : inB k 1 10 = true
  · have hk := (inB_iff k 1 10).1 hin
    have hc : k = 1 ∨ k = 2 ∨ k = 3 ∨ k = 4 ∨ k = 5 ∨ k = 6 ∨ k = 7 ∨ k = 8 ∨ k = 9 ∨ k = 10 := by omega
    rcases hc with e | e | e | e | e | e | e | e | e | e
    · subst e
      exact asked_1 id z r wt g a l c ns w h
    · subst e
      exact asked_2 id z r wt g a l c ns w h
    · subst e
      exact asked_3 id z r wt g a l c ns w h
    · subst e
      exact asked_4 id z r wt g a l c ns w h
    · subst e
      exact asked_5 id z r wt g a l c ns w h
    · subst e
      exact asked_6 id z r wt g a l c ns w h
    · subst e
      exact asked_7 id z r wt g a l c ns w h
    · subst e
      exact asked_8 id z r wt g a l c ns w h
    · subst e
      exact asked_9 id z r wt g a l c ns w h
    · subst e
      exact asked_10 id z r wt g a l c ns w h
  · exact asked_0 k id z r wt g (by simpa using hin) a l c ns w h
end Go.Proofs.Ytejhmacbbdnlbaa.Ac
