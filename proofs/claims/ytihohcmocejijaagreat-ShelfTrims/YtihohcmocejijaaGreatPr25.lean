/-
  Ops, what was told and answers held against each other.
  asked, mayBeDone, CheckOp: which ops may be.
-/
import Derived.Test.YtihohcmocejijaaGreatPr13
import Derived.Laws.StructEq
import Derived.Test.YtihohcmocejijaaGreatPr24
namespace Go.Proofs.YtihohcmocejijaaGreat.Bk
open Go.ChangeShapes Go.WideShapes Go.ChangeAt Go.RowKit
end Go.Proofs.YtihohcmocejijaaGreat.Bk
namespace Go.Proofs.YtihohcmocejijaaGreat.Bk
open Go.ChangeShapes Go.WideShapes Go.ChangeAt Go.RowKit
def askP (o : Opp) : Opp := if o.k = 1 then ⟨o.k, o.s, o.t, o.v, 0, 0, 0⟩ else if o.k = 2 then ⟨o.k, ⟨#[]⟩, 0, 0, o.f, 0, 0⟩ else if o.k = 3 then ⟨o.k, o.s, 0, 0, o.f, o.u, o.m⟩ else if o.k = 4 then ⟨o.k, o.s, 0, 0, o.f, 0, 0⟩ else ⟨o.k, ⟨#[]⟩, 0, 0, 0, 0, 0⟩
set_option maxHeartbeats 4000000 in
set_option maxRecDepth 60000 in
theorem asked_any (o : Opp) (w : World) : Calls Tryz.prog 34 #[opV o] w fun e w' => e = .returned (opV (askP o)) ∧ Below w.heap.size w w' := by
  obtain ⟨k, s, t, v, f, u, m⟩ := o
  unfold opV
  by_cases h1 : k = 1
  · subst h1
    have HA : Hid (askP ⟨1, s, t, v, f, u, m⟩ = ⟨1, s, t, v, 0, 0, 0⟩) := by show _ = _; unfold askP; simp
    have HS := Hid.mk9 (Bx7.new (w.alloc (.cells #[.int .i64 1, .string s, .int .i64 t, .int .i64 v, .int .i64 f, .int .i64 u, .int .i64 m] 29)) 29 (.int .i64 1) (.string s) (.int .i64 t) (.int .i64 v) (.int .i64 0) (.int .i64 0) (.int .i64 0))
    rw [show (w.alloc (.cells #[.int .i64 1, .string s, .int .i64 t, .int .i64 v, .int .i64 f, .int .i64 u, .int .i64 m] 29)).heap.size = w.heap.size + 1 from by simp] at HS
    have HBs := Hid.mk9 (below2 (below_alloc w (.cells #[.int .i64 1, .string s, .int .i64 t, .int .i64 v, .int .i64 f, .int .i64 u, .int .i64 m] 29)) (below_alloc (w.alloc (.cells #[.int .i64 1, .string s, .int .i64 t, .int .i64 v, .int .i64 f, .int .i64 u, .int .i64 m] 29)) (.cells #[.int .i64 1, .string s, .int .i64 t, .int .i64 v, .int .i64 0, .int .i64 0, .int .i64 0] 29)))
    go_enter Tryz.func34, Tryz.ntmps34
    go_wp2_with fail
    refine bodyPost_ret (retO rfl _ _ (w.heap.size + 1) (.int .i64 1) (.string s) (.int .i64 t) (.int .i64 v) (.int .i64 0) (.int .i64 0) (.int .i64 0) rfl HS.out) rfl ?_
    exact ⟨by rw [HA.out], HBs.out⟩
  · skip
    by_cases h2 : k = 2
    · subst h2
      have HA : Hid (askP ⟨2, s, t, v, f, u, m⟩ = ⟨2, ⟨#[]⟩, 0, 0, f, 0, 0⟩) := by show _ = _; unfold askP; simp
      have HS := Hid.mk9 (Bx7.new (w.alloc (.cells #[.int .i64 2, .string s, .int .i64 t, .int .i64 v, .int .i64 f, .int .i64 u, .int .i64 m] 29)) 29 (.int .i64 2) (.string ⟨#[]⟩) (.int .i64 0) (.int .i64 0) (.int .i64 f) (.int .i64 0) (.int .i64 0))
      rw [show (w.alloc (.cells #[.int .i64 2, .string s, .int .i64 t, .int .i64 v, .int .i64 f, .int .i64 u, .int .i64 m] 29)).heap.size = w.heap.size + 1 from by simp] at HS
      have HBs := Hid.mk9 (below2 (below_alloc w (.cells #[.int .i64 2, .string s, .int .i64 t, .int .i64 v, .int .i64 f, .int .i64 u, .int .i64 m] 29)) (below_alloc (w.alloc (.cells #[.int .i64 2, .string s, .int .i64 t, .int .i64 v, .int .i64 f, .int .i64 u, .int .i64 m] 29)) (.cells #[.int .i64 2, .string ⟨#[]⟩, .int .i64 0, .int .i64 0, .int .i64 f, .int .i64 0, .int .i64 0] 29)))
      go_enter Tryz.func34, Tryz.ntmps34
      go_wp2_with fail
      refine bodyPost_ret (retO rfl _ _ (w.heap.size + 1) (.int .i64 2) (.string ⟨#[]⟩) (.int .i64 0) (.int .i64 0) (.int .i64 f) (.int .i64 0) (.int .i64 0) rfl HS.out) rfl ?_
      exact ⟨by rw [HA.out], HBs.out⟩
    · skip
      by_cases h3 : k = 3
      · subst h3
        have HA : Hid (askP ⟨3, s, t, v, f, u, m⟩ = ⟨3, s, 0, 0, f, u, m⟩) := by show _ = _; unfold askP; simp
        have HS := Hid.mk9 (Bx7.new (w.alloc (.cells #[.int .i64 3, .string s, .int .i64 t, .int .i64 v, .int .i64 f, .int .i64 u, .int .i64 m] 29)) 29 (.int .i64 3) (.string s) (.int .i64 0) (.int .i64 0) (.int .i64 f) (.int .i64 u) (.int .i64 m))
        rw [show (w.alloc (.cells #[.int .i64 3, .string s, .int .i64 t, .int .i64 v, .int .i64 f, .int .i64 u, .int .i64 m] 29)).heap.size = w.heap.size + 1 from by simp] at HS
        have HBs := Hid.mk9 (below2 (below_alloc w (.cells #[.int .i64 3, .string s, .int .i64 t, .int .i64 v, .int .i64 f, .int .i64 u, .int .i64 m] 29)) (below_alloc (w.alloc (.cells #[.int .i64 3, .string s, .int .i64 t, .int .i64 v, .int .i64 f, .int .i64 u, .int .i64 m] 29)) (.cells #[.int .i64 3, .string s, .int .i64 0, .int .i64 0, .int .i64 f, .int .i64 u, .int .i64 m] 29)))
        go_enter Tryz.func34, Tryz.ntmps34
        go_wp2_with fail
        refine bodyPost_ret (retO rfl _ _ (w.heap.size + 1) (.int .i64 3) (.string s) (.int .i64 0) (.int .i64 0) (.int .i64 f) (.int .i64 u) (.int .i64 m) rfl HS.out) rfl ?_
        exact ⟨by rw [HA.out], HBs.out⟩
      · skip
        by_cases h4 : k = 4
        · subst h4
          have HA : Hid (askP ⟨4, s, t, v, f, u, m⟩ = ⟨4, s, 0, 0, f, 0, 0⟩) := by show _ = _; unfold askP; simp
          have HS := Hid.mk9 (Bx7.new (w.alloc (.cells #[.int .i64 4, .string s, .int .i64 t, .int .i64 v, .int .i64 f, .int .i64 u, .int .i64 m] 29)) 29 (.int .i64 4) (.string s) (.int .i64 0) (.int .i64 0) (.int .i64 f) (.int .i64 0) (.int .i64 0))
          rw [show (w.alloc (.cells #[.int .i64 4, .string s, .int .i64 t, .int .i64 v, .int .i64 f, .int .i64 u, .int .i64 m] 29)).heap.size = w.heap.size + 1 from by simp] at HS
          have HBs := Hid.mk9 (below2 (below_alloc w (.cells #[.int .i64 4, .string s, .int .i64 t, .int .i64 v, .int .i64 f, .int .i64 u, .int .i64 m] 29)) (below_alloc (w.alloc (.cells #[.int .i64 4, .string s, .int .i64 t, .int .i64 v, .int .i64 f, .int .i64 u, .int .i64 m] 29)) (.cells #[.int .i64 4, .string s, .int .i64 0, .int .i64 0, .int .i64 f, .int .i64 0, .int .i64 0] 29)))
          go_enter Tryz.func34, Tryz.ntmps34
          go_wp2_with fail
          refine bodyPost_ret (retO rfl _ _ (w.heap.size + 1) (.int .i64 4) (.string s) (.int .i64 0) (.int .i64 0) (.int .i64 f) (.int .i64 0) (.int .i64 0) rfl HS.out) rfl ?_
          exact ⟨by rw [HA.out], HBs.out⟩
        · skip
          have HA : Hid (askP ⟨k, s, t, v, f, u, m⟩ = ⟨k, ⟨#[]⟩, 0, 0, 0, 0, 0⟩) := by show _ = _; unfold askP; simp [h1, h2, h3, h4]
          have HS := Hid.mk9 (Bx7.new (w.alloc (.cells #[.int .i64 k, .string s, .int .i64 t, .int .i64 v, .int .i64 f, .int .i64 u, .int .i64 m] 29)) 29 (.int .i64 k) (.string ⟨#[]⟩) (.int .i64 0) (.int .i64 0) (.int .i64 0) (.int .i64 0) (.int .i64 0))
          rw [show (w.alloc (.cells #[.int .i64 k, .string s, .int .i64 t, .int .i64 v, .int .i64 f, .int .i64 u, .int .i64 m] 29)).heap.size = w.heap.size + 1 from by simp] at HS
          have HBs := Hid.mk9 (below2 (below_alloc w (.cells #[.int .i64 k, .string s, .int .i64 t, .int .i64 v, .int .i64 f, .int .i64 u, .int .i64 m] 29)) (below_alloc (w.alloc (.cells #[.int .i64 k, .string s, .int .i64 t, .int .i64 v, .int .i64 f, .int .i64 u, .int .i64 m] 29)) (.cells #[.int .i64 k, .string ⟨#[]⟩, .int .i64 0, .int .i64 0, .int .i64 0, .int .i64 0, .int .i64 0] 29)))
          have d1 : (k == 1) = false := by simpa using h1
          have d2 : (k == 2) = false := by simpa using h2
          have d3 : (k == 3) = false := by simpa using h3
          have d4 : (k == 4) = false := by simpa using h4
          clear h1 h2 h3 h4
          go_enter Tryz.func34, Tryz.ntmps34
          go_wp2_with fail
          refine bodyPost_ret (retO rfl _ _ (w.heap.size + 1) (.int .i64 k) (.string ⟨#[]⟩) (.int .i64 0) (.int .i64 0) (.int .i64 0) (.int .i64 0) (.int .i64 0) rfl HS.out) rfl ?_
          exact ⟨by rw [HA.out], HBs.out⟩
end Go.Proofs.YtihohcmocejijaaGreat.Bk
