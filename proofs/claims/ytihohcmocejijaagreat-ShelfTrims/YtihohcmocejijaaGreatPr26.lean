/-
  asked, mayBeDone, CheckOp: which ops may be.
  asked, mayBeDone, CheckOp: which ops may be.
-/
import Derived.Test.YtihohcmocejijaaGreatPr24
import Derived.Test.YtihohcmocejijaaGreatPr25
namespace Go.Proofs.YtihohcmocejijaaGreat.Bk
open Go.ChangeShapes Go.WideShapes Go.ChangeAt Go.RowKit
def DoneP (o : Opp) : Prop := (o.k = 1 ∧ IsSer o.s ∧ InS (o.t, o.v)) ∨ (o.k = 2 ∧ 0 ≤ o.f ∧ o.f ≤ 1099511627776) ∨ (o.k = 3 ∧ IsSer o.s ∧ 1 ≤ o.m ∧ o.m ≤ 5) ∨ (o.k = 4 ∧ IsSer o.s)
set_option maxHeartbeats 4000000 in
set_option maxRecDepth 60000 in
theorem mayBeDone_any (o : Opp) (w : World) : Calls Tryz.prog 35 #[opV o] w fun e w' => BoolPost (DoneP o) w e w' := by
  obtain ⟨k, s, t, v, f, u, m⟩ := o
  unfold opV
  have HB := Hid.mk9 (below_alloc w (.cells #[.int .i64 k, .string s, .int .i64 t, .int .i64 v, .int .i64 f, .int .i64 u, .int .i64 m] 29))
  have HX := Hid.mk9 (Bx7.new w 29 (.int .i64 k) (.string s) (.int .i64 t) (.int .i64 v) (.int .i64 f) (.int .i64 u) (.int .i64 m))
  have HSE := Hid.mk9 (isSeries_any s (w.alloc (.cells #[.int .i64 k, .string s, .int .i64 t, .int .i64 v, .int .i64 f, .int .i64 u, .int .i64 m] 29)))
  by_cases h1 : k = 1
  · subst h1
    have HP : Hid (DoneP ⟨1, s, t, v, f, u, m⟩ ↔ IsSer s ∧ InS (t, v)) := Hid.mk9 (by unfold DoneP; simp)
    by_cases hs : IsSer s
    · have HC := Hid.mk9 (bool_true HSE.out hs)
      have HQ : Hid (DoneP ⟨1, s, t, v, f, u, m⟩ ↔ MayS [(t, v)]) := Hid.mk9 (by rw [HP.out, may_one]; exact ⟨fun h => h.2, fun h => ⟨hs, h⟩⟩)
      clear HSE hs HP
      generalize DoneP ⟨1, s, t, v, f, u, m⟩ = P at *
      go_enter Tryz.func35, Tryz.ntmps35
      go_wp2_with (first
        | (go_at_call 49; refine HC.out.mono ?_; rintro e w1 ⟨rfl, hb1⟩; replace HB := Hid.mk9 (below2 HB.out hb1); obtain ⟨c0, c1, c2, c3, -⟩ := (HX.out.below hb1).cells; have HSM := Hid.mk9 (sms_lit w1 t v); clear hb1)
        | (go_at_call 53; refine (check_any _ _ _ [(t, v)] _ HSM.out).mono ?_; rintro e w2 ⟨hb2, hq⟩; obtain ⟨c, rfl, hc⟩ : ∃ c : Int, e = .returned (.int .i64 c) ∧ ((c == 0) = true ↔ MayS [(t, v)]) := (by rcases hq with ⟨rfl, h⟩ | ⟨rfl, h⟩; exact ⟨0, rfl, by simp [h]⟩; exact ⟨1, rfl, by simp [h]⟩); replace HB := Hid.mk9 (below2 (below2 HB.out (below_alloc w1 _)) hb2); have HCC := Hid.mk9 hc; clear hb2 hq hc))
      go_ret
      exact ⟨HB.out, _, rfl, by rw [HQ.out]; exact HCC.out⟩
    · have HC := Hid.mk9 (bool_false HSE.out hs)
      have HN : Hid (¬ DoneP ⟨1, s, t, v, f, u, m⟩) := Hid.mk9 fun h => hs (HP.out.1 h).1
      clear HSE hs HP HX
      go_enter Tryz.func35, Tryz.ntmps35
      go_wp2_with (go_at_call 49; refine HC.out.mono ?_; rintro e w1 ⟨rfl, hb1⟩; replace HB := Hid.mk9 (below2 HB.out hb1); clear hb1)
      go_ret
      exact bool_no HB.out HN.out
  · by_cases h2 : k = 2
    · subst h2
      have HP : Hid (DoneP ⟨2, s, t, v, f, u, m⟩ ↔ 0 ≤ f ∧ f ≤ 1099511627776) := Hid.mk9 (by unfold DoneP; simp)
      clear HSE HX h1
      go_enter Tryz.func35, Tryz.ntmps35
      go_wp2_with (go_at_call 28; refine (within_any _ _ _ _).mono ?_; rintro e w1 ⟨rfl, rfl⟩)
      go_ret
      exact ⟨HB.out, _, rfl, by rw [HP.out]; simp⟩
    · by_cases h3 : k = 3
      · subst h3
        have HP : Hid (DoneP ⟨3, s, t, v, f, u, m⟩ ↔ IsSer s ∧ 1 ≤ m ∧ m ≤ 5) := Hid.mk9 (by unfold DoneP; simp)
        clear h1 h2
        by_cases hs : IsSer s
        · have HC := Hid.mk9 (bool_true HSE.out hs)
          have HQ : Hid (DoneP ⟨3, s, t, v, f, u, m⟩ ↔ 1 ≤ m ∧ m ≤ 5) := Hid.mk9 (by rw [HP.out]; exact ⟨fun h => h.2, fun h => ⟨hs, h⟩⟩)
          clear HSE hs HP
          go_enter Tryz.func35, Tryz.ntmps35
          go_wp2_with (first
            | (go_at_call 49; refine HC.out.mono ?_; rintro e w1 ⟨rfl, hb1⟩; replace HB := Hid.mk9 (below2 HB.out hb1); obtain ⟨c0, c1, c2, c3, c4, c5, c6⟩ := (HX.out.below hb1).cells; clear hb1)
            | (go_at_call 28; refine (within_any _ _ _ _).mono ?_; rintro e w2 ⟨rfl, rfl⟩))
          go_ret
          exact ⟨HB.out, _, rfl, by rw [HQ.out]; simp⟩
        · have HC := Hid.mk9 (bool_false HSE.out hs)
          have HN : Hid (¬ DoneP ⟨3, s, t, v, f, u, m⟩) := Hid.mk9 fun h => hs (HP.out.1 h).1
          clear HSE hs HP HX
          go_enter Tryz.func35, Tryz.ntmps35
          go_wp2_with (go_at_call 49; refine HC.out.mono ?_; rintro e w1 ⟨rfl, hb1⟩; replace HB := Hid.mk9 (below2 HB.out hb1); clear hb1)
          go_ret
          exact bool_no HB.out HN.out
      · by_cases h4 : k = 4
        · subst h4
          have HP : Hid (DoneP ⟨4, s, t, v, f, u, m⟩ ↔ IsSer s) := Hid.mk9 (by unfold DoneP; simp)
          clear h1 h2 h3 HX
          go_enter Tryz.func35, Tryz.ntmps35
          go_wp2_with (go_at_call 49; refine HSE.out.mono ?_; rintro e w1 ⟨hb1, q, rfl, hq⟩; replace HB := Hid.mk9 (below2 HB.out hb1); have HQ := Hid.mk9 hq; clear hb1 hq)
          go_ret
          exact ⟨HB.out, _, rfl, by rw [HP.out]; exact HQ.out⟩
        · have HN : Hid (¬ DoneP ⟨k, s, t, v, f, u, m⟩) := Hid.mk9 (by unfold DoneP; simp [h1, h2, h3, h4])
          have d1 : (k == 1) = false := by simpa using h1
          have d2 : (k == 2) = false := by simpa using h2
          have d3 : (k == 3) = false := by simpa using h3
          have d4 : (k == 4) = false := by simpa using h4
          clear h1 h2 h3 h4 HX HSE
          go_enter Tryz.func35, Tryz.ntmps35
          go_wp2_with fail
          go_ret
          exact bool_no HB.out HN.out
end Go.Proofs.YtihohcmocejijaaGreat.Bk
namespace Go.Proofs.YtihohcmocejijaaGreat.Bk
open Go.ChangeShapes Go.WideShapes Go.ChangeAt Go.RowKit
set_option maxHeartbeats 4000000 in
set_option maxRecDepth 60000 in
theorem co_no (t0 t2 t3 t4 t5 t6 t7 t8 t9 t10 t11 : Value) (bx : Nat) (s s' : ByteArray) (k k' t t' v v' f f' u u' m m' : Int) (w1 : World) (Q : Exit → Act → World → Prop)
    (hX : Bx7 w1 bx 29 (.int .i64 k) (.string s) (.int .i64 t) (.int .i64 v) (.int .i64 f) (.int .i64 u) (.int .i64 m)) (HA : Hid (∀ W, Calls Tryz.prog 34 #[.agg #[.int .i64 k, .string s, .int .i64 t, .int .i64 v, .int .i64 f, .int .i64 u, .int .i64 m]] W fun e w' => e = .returned (.agg #[.int .i64 k', .string s', .int .i64 t', .int .i64 v', .int .i64 f', .int .i64 u', .int .i64 m']) ∧ Below W.heap.size W w')) (hne : (!(k == k' && (s.toList == s'.toList && ((t == t' && v == v') && (f == f' && (u == u' && m == m')))))) = true)
    (hQ : Hid (∀ (u3 u4 u5 u6 u7 u8 u9 u10 : Value) (wC : World), Below w1.heap.size w1 wC → Q .normal ⟨#[t0, .pointer (some ⟨bx, 0, none⟩), t2, u3, u4, u5, u6, u7, u8, u9, u10, .bool true], []⟩ wC)) :
    Code.wp Tryz.prog ((Tryz.f13.body.bind (regionOf 1)).getD .skip) Q ⟨#[t0, .pointer (some ⟨bx, 0, none⟩), t2, t3, t4, t5, t6, t7, t8, t9, t10, t11], []⟩ w1 := by
  have hS : (fun w' => Below w1.heap.size w1 w' ∧ Bx7 w' bx 29 (.int .i64 k) (.string s) (.int .i64 t) (.int .i64 v) (.int .i64 f) (.int .i64 u) (.int .i64 m)) w1.drew := ⟨below_drew _, hX⟩
  conv => arg 2; whnf
  refine held_start (S := fun w' => Below w1.heap.size w1 w' ∧ Bx7 w' bx 29 (.int .i64 k) (.string s) (.int .i64 t) (.int .i64 v) (.int .i64 f) (.int .i64 u) (.int .i64 m)) mixed9 ?_
  refine held_take (i := 0) (v := .agg #[.int .i64 k, .string s, .int .i64 t, .int .i64 v, .int .i64 f, .int .i64 u, .int .i64 m]) rfl (by kernel_rfl) (fun _ _ _ h => h) (.inl ⟨rfl, fun w hS => ?_⟩) hS ?_
  · obtain ⟨-, q⟩ := hS
    obtain ⟨c0, c1, c2, c3, c4, c5, c6⟩ := q.cells
    go_simp
  try simp only [Act.put, List.setIfInBounds_toArray, List.set_cons_zero, List.set_cons_succ]
  refine held_take (i := 1) (v := .agg #[.int .i64 k, .string s, .int .i64 t, .int .i64 v, .int .i64 f, .int .i64 u, .int .i64 m]) rfl (by kernel_rfl) (fun _ _ _ h => h) (.inl ⟨rfl, fun w hS => ?_⟩) hS ?_
  · obtain ⟨-, q⟩ := hS
    obtain ⟨c0, c1, c2, c3, c4, c5, c6⟩ := q.cells
    go_simp
  try simp only [Act.put, List.setIfInBounds_toArray, List.set_cons_zero, List.set_cons_succ]
  refine held_one (i := 2) (by kernel_rfl) rfl rfl ?_
  intro K hK
  go_simp
  go_at_call 34
  refine (HA.out _).mono ?_
  rintro e w2 ⟨rfl, hb2⟩
  have hN : (fun w' => Below w1.heap.size w1 w' ∧ Bx7 w' bx 29 (.int .i64 k) (.string s) (.int .i64 t) (.int .i64 v) (.int .i64 f) (.int .i64 u) (.int .i64 m)) w2 := ⟨below2 hS.1 hb2, hS.2.below hb2⟩
  refine hK.out _ _ (hN) ?_
  have hS9 := hN
  clear hK hS
  have hS := hS9
  clear hS9
  try simp only [Act.put, List.setIfInBounds_toArray, List.set_cons_zero, List.set_cons_succ]
  refine held_take (i := 3) (v := .bool true) rfl (by kernel_rfl) (fun _ _ _ h => h) (.inl ⟨rfl, fun w hS => ?_⟩) hS ?_
  · clear hS
    go_simp
    intro h1 h2 h3 h4 h5 h6 h7
    simp [h1, h2, h3, h4, h5, h6, h7] at hne
  try simp only [Act.put, List.setIfInBounds_toArray, List.set_cons_zero, List.set_cons_succ]
  refine held_take (i := 4) (v := .bool true) rfl (by kernel_rfl) (fun _ _ _ h => h) (.inl ⟨rfl, fun w hS => ?_⟩) hS ?_
  · obtain ⟨-, q⟩ := hS
    go_simp
  try simp only [Act.put, List.setIfInBounds_toArray, List.set_cons_zero, List.set_cons_succ]
  refine held_take (i := 5) (v := undef) rfl (by kernel_rfl) (fun _ _ _ h => h) (.inr ⟨rfl, rfl⟩) hS ?_
  try simp only [Act.put, List.setIfInBounds_toArray, List.set_cons_zero, List.set_cons_succ]
  refine held_take (i := 6) (v := undef) rfl (by kernel_rfl) (fun _ _ _ h => h) (.inr ⟨rfl, rfl⟩) hS ?_
  try simp only [Act.put, List.setIfInBounds_toArray, List.set_cons_zero, List.set_cons_succ]
  refine held_take (i := 7) (v := undef) rfl (by kernel_rfl) (fun _ _ _ h => h) (.inr ⟨rfl, rfl⟩) hS ?_
  try simp only [Act.put, List.setIfInBounds_toArray, List.set_cons_zero, List.set_cons_succ]
  refine held_take (i := 8) (v := .bool true) rfl (by kernel_rfl) (fun _ _ _ h => h) (.inl ⟨rfl, fun w hS => ?_⟩) hS ?_
  · obtain ⟨-, q⟩ := hS
    go_simp
  try simp only [Act.put, List.setIfInBounds_toArray, List.set_cons_zero, List.set_cons_succ]
  refine wpAnyH_done (by kernel_rfl) ?_ _
  refine NoPanic.normal ?_
  exact hQ.out _ _ _ _ _ _ _ _ _ hS.1
set_option maxHeartbeats 4000000 in
set_option maxRecDepth 60000 in
theorem co_yes (t0 t2 t3 t4 t5 t6 t7 t8 t9 t10 t11 : Value) (bx : Nat) (s s' : ByteArray) (k k' t t' v v' f f' u u' m m' : Int) (P : Prop) (w1 : World) (Q : Exit → Act → World → Prop)
    (hX : Bx7 w1 bx 29 (.int .i64 k) (.string s) (.int .i64 t) (.int .i64 v) (.int .i64 f) (.int .i64 u) (.int .i64 m)) (HA : Hid (∀ W, Calls Tryz.prog 34 #[.agg #[.int .i64 k, .string s, .int .i64 t, .int .i64 v, .int .i64 f, .int .i64 u, .int .i64 m]] W fun e w' => e = .returned (.agg #[.int .i64 k', .string s', .int .i64 t', .int .i64 v', .int .i64 f', .int .i64 u', .int .i64 m']) ∧ Below W.heap.size W w')) (hne : (!(k == k' && (s.toList == s'.toList && ((t == t' && v == v') && (f == f' && (u == u' && m == m')))))) = false) (HM : Hid (∀ W, Calls Tryz.prog 35 #[.agg #[.int .i64 k, .string s, .int .i64 t, .int .i64 v, .int .i64 f, .int .i64 u, .int .i64 m]] W fun e w' => BoolPost P W e w'))
    (hQ : Hid (∀ (u3 u4 u5 u6 u7 u8 u9 u10 : Value) (q : Bool) (wC : World), Below w1.heap.size w1 wC → (q = true ↔ P) → Q .normal ⟨#[t0, .pointer (some ⟨bx, 0, none⟩), t2, u3, u4, u5, u6, u7, u8, u9, u10, .bool (!q)], []⟩ wC)) :
    Code.wp Tryz.prog ((Tryz.f13.body.bind (regionOf 1)).getD .skip) Q ⟨#[t0, .pointer (some ⟨bx, 0, none⟩), t2, t3, t4, t5, t6, t7, t8, t9, t10, t11], []⟩ w1 := by
  have hS : (fun w' => Below w1.heap.size w1 w' ∧ Bx7 w' bx 29 (.int .i64 k) (.string s) (.int .i64 t) (.int .i64 v) (.int .i64 f) (.int .i64 u) (.int .i64 m)) w1.drew := ⟨below_drew _, hX⟩
  conv => arg 2; whnf
  refine held_start (S := fun w' => Below w1.heap.size w1 w' ∧ Bx7 w' bx 29 (.int .i64 k) (.string s) (.int .i64 t) (.int .i64 v) (.int .i64 f) (.int .i64 u) (.int .i64 m)) mixed9 ?_
  refine held_take (i := 0) (v := .agg #[.int .i64 k, .string s, .int .i64 t, .int .i64 v, .int .i64 f, .int .i64 u, .int .i64 m]) rfl (by kernel_rfl) (fun _ _ _ h => h) (.inl ⟨rfl, fun w hS => ?_⟩) hS ?_
  · obtain ⟨-, q⟩ := hS
    obtain ⟨c0, c1, c2, c3, c4, c5, c6⟩ := q.cells
    go_simp
  try simp only [Act.put, List.setIfInBounds_toArray, List.set_cons_zero, List.set_cons_succ]
  refine held_take (i := 1) (v := .agg #[.int .i64 k, .string s, .int .i64 t, .int .i64 v, .int .i64 f, .int .i64 u, .int .i64 m]) rfl (by kernel_rfl) (fun _ _ _ h => h) (.inl ⟨rfl, fun w hS => ?_⟩) hS ?_
  · obtain ⟨-, q⟩ := hS
    obtain ⟨c0, c1, c2, c3, c4, c5, c6⟩ := q.cells
    go_simp
  try simp only [Act.put, List.setIfInBounds_toArray, List.set_cons_zero, List.set_cons_succ]
  refine held_one (i := 2) (by kernel_rfl) rfl rfl ?_
  intro K hK
  go_simp
  go_at_call 34
  refine (HA.out _).mono ?_
  rintro e w2 ⟨rfl, hb2⟩
  have hN : (fun w' => Below w1.heap.size w1 w' ∧ Bx7 w' bx 29 (.int .i64 k) (.string s) (.int .i64 t) (.int .i64 v) (.int .i64 f) (.int .i64 u) (.int .i64 m)) w2 := ⟨below2 hS.1 hb2, hS.2.below hb2⟩
  refine hK.out _ _ (hN) ?_
  have hS9 := hN
  clear hK hS
  have hS := hS9
  clear hS9
  try simp only [Act.put, List.setIfInBounds_toArray, List.set_cons_zero, List.set_cons_succ]
  refine held_take (i := 3) (v := .bool false) rfl (by kernel_rfl) (fun _ _ _ h => h) (.inl ⟨rfl, fun w hS => ?_⟩) hS ?_
  · clear hS
    obtain ⟨h1, h2, ⟨h3, h4⟩, h5, h6, h7⟩ : k = k' ∧ s.toList = s'.toList ∧ (t = t' ∧ v = v') ∧ f = f' ∧ u = u' ∧ m = m' := by simpa using hne
    go_simp
  try simp only [Act.put, List.setIfInBounds_toArray, List.set_cons_zero, List.set_cons_succ]
  refine held_take (i := 4) (v := .bool false) rfl (by kernel_rfl) (fun _ _ _ h => h) (.inl ⟨rfl, fun w hS => ?_⟩) hS ?_
  · obtain ⟨-, q⟩ := hS
    go_simp
  try simp only [Act.put, List.setIfInBounds_toArray, List.set_cons_zero, List.set_cons_succ]
  refine held_take (i := 5) (v := .agg #[.int .i64 k, .string s, .int .i64 t, .int .i64 v, .int .i64 f, .int .i64 u, .int .i64 m]) rfl (by kernel_rfl) (fun _ _ _ h => h) (.inl ⟨rfl, fun w hS => ?_⟩) hS ?_
  · obtain ⟨-, q⟩ := hS
    obtain ⟨c0, c1, c2, c3, c4, c5, c6⟩ := q.cells
    go_simp
  try simp only [Act.put, List.setIfInBounds_toArray, List.set_cons_zero, List.set_cons_succ]
  refine held_one (i := 6) (by kernel_rfl) rfl rfl ?_
  intro K hK
  go_simp
  go_at_call 35
  refine (HM.out _).mono ?_
  rintro e w2 ⟨hb2, q, rfl, hq⟩
  have hN : (fun w' => Below w1.heap.size w1 w' ∧ Bx7 w' bx 29 (.int .i64 k) (.string s) (.int .i64 t) (.int .i64 v) (.int .i64 f) (.int .i64 u) (.int .i64 m)) w2 := ⟨below2 hS.1 hb2, hS.2.below hb2⟩
  refine hK.out _ _ (hN) ?_
  have hS9 := hN
  clear hK hS
  have hS := hS9
  clear hS9
  try simp only [Act.put, List.setIfInBounds_toArray, List.set_cons_zero, List.set_cons_succ]
  refine held_take (i := 7) (v := .bool (!q)) rfl (by kernel_rfl) (fun _ _ _ h => h) (.inl ⟨rfl, fun w hS => ?_⟩) hS ?_
  · obtain ⟨-, q⟩ := hS
    go_simp
  try simp only [Act.put, List.setIfInBounds_toArray, List.set_cons_zero, List.set_cons_succ]
  refine held_take (i := 8) (v := .bool (!q)) rfl (by kernel_rfl) (fun _ _ _ h => h) (.inl ⟨rfl, fun w hS => ?_⟩) hS ?_
  · obtain ⟨-, q⟩ := hS
    go_simp
  try simp only [Act.put, List.setIfInBounds_toArray, List.set_cons_zero, List.set_cons_succ]
  refine wpAnyH_done (by kernel_rfl) ?_ _
  refine NoPanic.normal ?_
  exact hQ.out _ _ _ _ _ _ _ _ q _ hS.1 hq
end Go.Proofs.YtihohcmocejijaaGreat.Bk
