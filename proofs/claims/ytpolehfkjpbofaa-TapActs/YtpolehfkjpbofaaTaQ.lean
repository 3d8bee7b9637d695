/-
  The answer's Put's region 5, Take's region 5.
-/
import Derived.Test.YtpolehfkjpbofaaTaP
namespace Go.Proofs.Ytpolehfkjpbofaa.Ta
open Go.ChangeShapes Go.WideShapes Go.ChangeAt Go.RowKit
theorem VsAt.get {T : Nat} {w : World} {b off m c : Nat} {xs : List Value} (h : VsAt T w (some ⟨b, off, none⟩) m c xs) {i : Nat} {v : Value} (hv : xs[i]? = some v) : w.cell? ⟨b, off + i, none⟩ = some v := by
  have hi : i < m := by rw [← h.1]; exact (List.getElem?_eq_some_iff.1 hv).1
  rcases h.2.2.2 with h0 | ⟨b', off', e, _, hc⟩
  · omega
  · simp at e
    obtain ⟨rfl, rfl⟩ := e
    exact hc i v hv
theorem TpV.is {w : World} {v : Value} {P : List (List Int)} {R t : Int} {k : Nat} (h : TpV w v P R t) (hk : P.length = k) : ∃ ra c, v = .agg #[.slice ra k c, .int .i64 R, .int .i64 t] ∧ RowsAt w ra k c P := by subst hk; exact h
theorem ret_bx3s {fn : Func} {p q : Tmp} {T : Nat} (h : fn.results = #[.cell p 30, .tmp q]) (tmps : Array Value) (w : World) (b : Nat) (v0 v1 v2 z : Value) (hp : tmps.getD p undef = .pointer (some ⟨b, 0, none⟩)) (hq : tmps.getD q undef = z)
    (hb : Bx3 w b T v0 v1 v2) : (results fn tmps).run Try.prog w = .ok (.tuple #[.agg #[v0, v1, v2], z]) w := by
  obtain ⟨h0, h1, h2⟩ := hb.cells
  simp only [Array.getD_eq_getD_getElem?] at hp hq
  simp only [results, h]
  simp [go_sem, hp, hq, h0, h1, h2]
theorem ret_bx3t {fn : Func} {p q r : Tmp} {T : Nat} (h : fn.results = #[.cell p 30, .tmp q, .tmp r]) (tmps : Array Value) (w : World) (b : Nat) (v0 v1 v2 z z2 : Value) (hp : tmps.getD p undef = .pointer (some ⟨b, 0, none⟩)) (hq : tmps.getD q undef = z) (hr : tmps.getD r undef = z2)
    (hb : Bx3 w b T v0 v1 v2) : (results fn tmps).run Try.prog w = .ok (.tuple #[.agg #[v0, v1, v2], z, z2]) w := by
  obtain ⟨h0, h1, h2⟩ := hb.cells
  simp only [Array.getD_eq_getD_getElem?] at hp hq hr
  simp only [results, h]
  simp [go_sem, hp, hq, hr, h0, h1, h2]
theorem ret_bx3u {fn : Func} {p q r s : Tmp} {T : Nat} (h : fn.results = #[.cell p 30, .tmp q, .tmp r, .tmp s]) (tmps : Array Value) (w : World) (b : Nat) (v0 v1 v2 z z2 z3 : Value) (hp : tmps.getD p undef = .pointer (some ⟨b, 0, none⟩)) (hq : tmps.getD q undef = z) (hr : tmps.getD r undef = z2) (hs : tmps.getD s undef = z3)
    (hb : Bx3 w b T v0 v1 v2) : (results fn tmps).run Try.prog w = .ok (.tuple #[.agg #[v0, v1, v2], z, z2, z3]) w := by
  obtain ⟨h0, h1, h2⟩ := hb.cells
  simp only [Array.getD_eq_getD_getElem?] at hp hq hr hs
  simp only [results, h]
  simp [go_sem, hp, hq, hr, hs, h0, h1, h2]
theorem below_drew (w : World) : Below w.heap.size w w.drew := ⟨rfl, rfl, rfl, Nat.le_refl _, fun _ _ => rfl⟩
theorem own_down {w : World} {B B' T s n : Nat} {v : Value} {L : List Value} (h : w.ownsRow B' T s v n L) (hB : B ≤ B') : w.ownsRow B T s v n L := by
  obtain ⟨h1, ⟨rfl, h2⟩ | ⟨g, cap, cur, rfl, h2, h3⟩⟩ := h
  · exact ⟨h1, .inl ⟨rfl, h2⟩⟩
  · exact ⟨h1, .inr ⟨g, cap, cur, rfl, Nat.le_trans hB h2, h3⟩⟩
set_option maxHeartbeats 4000000 in
set_option maxRecDepth 60000 in
theorem put_5 (t0 t4 t5 t7 t8 t9 t10 t11 t12 t13 t14 t15 t16 t17 t18 t19 t20 t21 t22 t23 t24 t25 t26 t27 t28 t29 t30 t31 t32 t33 t34 t35 t36 t37 t38 t39 t40 : Value) (b off k c i r3 r6 : Nat) (R t n : Int) (a2 : Option Addr) (n2 c2 : Nat) (vs xs : List Value) (P : List (List Int)) (w1 : World) (Q : Exit → Act → World → Prop)
    (hx3 : Hid (Bx3 w1 r3 30 (.slice (some ⟨b, off, none⟩) k c) (.int .i64 R) (.int .i64 t))) (hX6 : Bx3 w1 r6 30 (.slice none 0 0) (.int .i64 0) (.int .i64 0)) (hX6w : Hid (Bx3 w1 r6 30 (.slice none 0 0) (.int .i64 0) (.int .i64 0))) (h36 : Hid (r3 ≠ r6)) (hvs : Hid (VsAt 44 w1 (some ⟨b, off, none⟩) k c vs)) (hv : Hid (vs[i]? = some (.slice a2 n2 c2))) (hxs : Hid (VsAt 3 w1 a2 n2 c2 xs)) (h1x : Hid (∀ u ∈ xs, u.oneCell' = true)) (hn2 : Hid ((n2 : Int) ≤ 1000)) (hi : (i : Int) < (k : Int)) (hkP : Hid (P.length = k)) (HPw : Hid (∀ W la lc, Below w1.heap.size w1 W → VsAt 3 W la (n2 + 1) lc (xs ++ [.int .i64 n]) → Calls Try.prog 20 #[.agg #[.slice (some ⟨b, off, none⟩) k c, .int .i64 R, .int .i64 t], .int .i64 (i : Int), .slice la (n2 + 1) lc] W fun e w' => WiPost P R t W e w'))
    (hQ : Hid (∀ (u28 u29 u30 u31 u32 u33 u34 u35 u36 u37 u38 u39 u40 : Value) (ra2 : Option Addr) (c3 : Nat) (wC : World), Below w1.heap.size w1 wC → Bx3 wC r6 30 (.slice none 0 0) (.int .i64 0) (.int .i64 0) → RowsAt wC ra2 k c3 P → Q .normal ⟨#[t0, .int .i64 (i : Int), .int .i64 n, .pointer (some ⟨r3, 0, none⟩), t4, t5, .pointer (some ⟨r6, 0, none⟩), .int .i64 0, t8, t9, t10, t11, t12, t13, t14, t15, t16, t17, t18, t19, t20, t21, t22, t23, t24, t25, t26, t27, u28, u29, u30, u31, u32, u33, u34, u35, u36, u37, u38, u39, u40], []⟩ (put3 wC r6 (.slice ra2 k c3) (.int .i64 R) (.int .i64 t)))) :
    Code.wp Try.prog ((Try.f10.body.bind (regionOf 5)).getD .skip) Q ⟨#[t0, .int .i64 (i : Int), .int .i64 n, .pointer (some ⟨r3, 0, none⟩), t4, t5, .pointer (some ⟨r6, 0, none⟩), t7, t8, t9, t10, t11, t12, t13, t14, t15, t16, t17, t18, t19, t20, t21, t22, t23, t24, t25, t26, t27, t28, t29, t30, t31, t32, t33, t34, t35, t36, t37, t38, t39, t40], []⟩ w1 := by
  have hS : (fun w' => Bx3 w' r3 30 (.slice (some ⟨b, off, none⟩) k c) (.int .i64 R) (.int .i64 t) ∧ VsAt 44 w' (some ⟨b, off, none⟩) k c vs ∧ VsAt 3 w' a2 n2 c2 xs) w1.drew := ⟨hx3.out, hvs.out, hxs.out⟩
  conv => arg 2; whnf
  refine held_start (S := fun w' => Bx3 w' r3 30 (.slice (some ⟨b, off, none⟩) k c) (.int .i64 R) (.int .i64 t) ∧ VsAt 44 w' (some ⟨b, off, none⟩) k c vs ∧ VsAt 3 w' a2 n2 c2 xs) mixed9 ?_
  replace hX6 : Bx3 w1.drew r6 30 (.slice none 0 0) (.int .i64 0) (.int .i64 0) := hX6
  have hb : Below w1.heap.size w1 w1.drew := below_drew _
  generalize w1.drew = wz at *
  refine held_take (i := 0) (v := .agg #[.slice (some ⟨b, off, none⟩) k c, .int .i64 R, .int .i64 t]) rfl (by kernel_rfl) (fun _ _ _ h => h) (.inl ⟨rfl, fun w hS => ?_⟩) hS ?_
  · obtain ⟨q, -, -⟩ := hS
    obtain ⟨c0, c1, c2⟩ := q.cells
    go_simp
  try simp only [Act.put, List.setIfInBounds_toArray, List.set_cons_zero, List.set_cons_succ]
  refine held_take (i := 1) (v := .int .i64 (i : Int)) rfl (by kernel_rfl) (fun _ _ _ h => h) (.inl ⟨rfl, fun w hS => ?_⟩) hS ?_
  · go_simp
  try simp only [Act.put, List.setIfInBounds_toArray, List.set_cons_zero, List.set_cons_succ]
  refine held_take (i := 3) (v := .pointer (some ⟨r3, 0, none⟩)) rfl (by kernel_rfl) (fun _ _ _ h => h) (.inl ⟨rfl, fun w hS => ?_⟩) hS ?_
  · go_simp
  try simp only [Act.put, List.setIfInBounds_toArray, List.set_cons_zero, List.set_cons_succ]
  refine held_take (i := 4) (v := .slice (some ⟨b, off, none⟩) k c) rfl (by kernel_rfl) (fun _ _ _ h => h) (.inl ⟨rfl, fun w hS => ?_⟩) hS ?_
  · obtain ⟨q, -, -⟩ := hS
    obtain ⟨c0, c1, c2⟩ := q.cells
    go_simp
  try simp only [Act.put, List.setIfInBounds_toArray, List.set_cons_zero, List.set_cons_succ]
  refine held_take (i := 5) (v := .int .i64 (i : Int)) rfl (by kernel_rfl) (fun _ _ _ h => h) (.inl ⟨rfl, fun w hS => ?_⟩) hS ?_
  · go_simp
  try simp only [Act.put, List.setIfInBounds_toArray, List.set_cons_zero, List.set_cons_succ]
  refine held_take (i := 6) (v := .pointer (some ⟨b, off + i, none⟩)) rfl (by kernel_rfl) (fun _ _ _ h => h) (.inl ⟨rfl, fun w hS => ?_⟩) hS ?_
  · go_simp
  try simp only [Act.put, List.setIfInBounds_toArray, List.set_cons_zero, List.set_cons_succ]
  refine held_take (i := 7) (v := .slice a2 n2 c2) rfl (by kernel_rfl) (fun _ _ _ h => h) (.inl ⟨rfl, fun w hS => ?_⟩) hS ?_
  · obtain ⟨-, q, -⟩ := hS
    have qq := q.get hv.out
    go_simp
  try simp only [Act.put, List.setIfInBounds_toArray, List.set_cons_zero, List.set_cons_succ]
  refine held_take (i := 9) (v := .int .i64 n) rfl (by kernel_rfl) (fun _ _ _ h => h) (.inl ⟨rfl, fun w hS => ?_⟩) hS ?_
  · go_simp
  try simp only [Act.put, List.setIfInBounds_toArray, List.set_cons_zero, List.set_cons_succ]
  refine held_two (i := 2) (j := 10) (by kernel_rfl) rfl rfl rfl rfl ?_ ?_
  · intro K hK
    go_simp
    have hb2 := below_alloc wz (.cells #[] 3)
    have hO := own_down (own_empty wz 3) hb.size
    have hg1 : Hid (wz.heap.size < (wz.alloc (.cells #[] 3)).heap.size) := ⟨by simp⟩
    generalize wz.alloc (.cells #[] 3) = wv1 at *
    replace hb := below2 hb hb2
    replace hX6 := hX6.below hb2
    have hN : (fun w' => Bx3 w' r3 30 (.slice (some ⟨b, off, none⟩) k c) (.int .i64 R) (.int .i64 t) ∧ VsAt 44 w' (some ⟨b, off, none⟩) k c vs ∧ VsAt 3 w' a2 n2 c2 xs) wv1 := ⟨hx3.out.below hb, hvs.out.below hb, hxs.out.below hb⟩
    refine hK.out _ _ hN ?_
    clear hK hS
    have hS := hN
    clear hN
    clear hb2
    generalize wz.heap.size = g1 at *
    try simp only [Act.put, List.setIfInBounds_toArray, List.set_cons_zero, List.set_cons_succ]
    refine held_two (i := 8) (j := 10) (by kernel_rfl) rfl rfl rfl rfl ?_ ?_
    · intro K hK
      refine wp_append_vs (w0 := w1) Try.underlying44 info3z rfl (by decide) _ _ rfl _ 0 [] rfl hO hb _ n2 c2 xs rfl hS.2.2 h1x.out (by decide) hn2.out ?_
      intro v4 wv2 hO4 hb4 hg4
      replace hX6 := hX6w.out.below hb4
      clear hb hO hg4
      have hb := hb4
      have hO := hO4
      clear hb4 hO4
      simp only [Nat.zero_add, List.nil_append] at hO
      have hN : (fun w' => Bx3 w' r3 30 (.slice (some ⟨b, off, none⟩) k c) (.int .i64 R) (.int .i64 t) ∧ VsAt 44 w' (some ⟨b, off, none⟩) k c vs ∧ VsAt 3 w' a2 n2 c2 xs) wv2 := ⟨hx3.out.below hb, hvs.out.below hb, hxs.out.below hb⟩
      refine hK.out _ _ hN ?_
      clear hK hS
      have hS := hN
      clear hN
      try simp only [Act.put, List.setIfInBounds_toArray, List.set_cons_zero, List.set_cons_succ]
      refine held_one (i := 10) (by kernel_rfl) rfl rfl ?_
      intro K hK
      go_simp
      have hb2 := below_alloc wv2 (.cells #[.int .i64 n] 3)
      have hL := vs_lit wv2 n
      replace hO := own_alloc hO (.cells #[.int .i64 n] 3)
      have hg2 : Hid (wv2.heap.size < (wv2.alloc (.cells #[.int .i64 n] 3)).heap.size) := ⟨by simp⟩
      generalize wv2.alloc (.cells #[.int .i64 n] 3) = wv3 at *
      replace hb := below2 hb hb2
      replace hX6 := hX6.below hb2
      have hN : (fun w' => Bx3 w' r3 30 (.slice (some ⟨b, off, none⟩) k c) (.int .i64 R) (.int .i64 t) ∧ VsAt 44 w' (some ⟨b, off, none⟩) k c vs ∧ VsAt 3 w' a2 n2 c2 xs) wv3 := ⟨hx3.out.below hb, hvs.out.below hb, hxs.out.below hb⟩
      refine hK.out _ _ hN ?_
      clear hK hS
      have hS := hN
      clear hN
      clear hb2
      generalize wv2.heap.size = g2 at *
      try simp only [Act.put, List.setIfInBounds_toArray, List.set_cons_zero, List.set_cons_succ]
      refine held_one (i := 11) (by kernel_rfl) rfl rfl ?_
      intro K hK
      refine wp_append_vs (w0 := w1) Try.underlying44 info3z rfl (by decide) _ _ rfl _ n2 xs rfl hO hb _ 1 1 [.int .i64 n] rfl hL (by intro u hu; simp at hu; subst hu; rfl) hn2.out (by decide) ?_
      intro v5 wv4 hO5 hb5 _
      replace hX6 := hX6w.out.below hb5
      clear hb hO hL
      have hb := hb5
      clear hb5
      obtain ⟨a5, c5, rfl, hV5⟩ := own_vs hO5
      clear hO5
      have hN : (fun w' => Bx3 w' r3 30 (.slice (some ⟨b, off, none⟩) k c) (.int .i64 R) (.int .i64 t) ∧ VsAt 44 w' (some ⟨b, off, none⟩) k c vs ∧ VsAt 3 w' a2 n2 c2 xs) wv4 := ⟨hx3.out.below hb, hvs.out.below hb, hxs.out.below hb⟩
      refine hK.out _ _ hN ?_
      clear hK hS
      have hS := hN
      clear hN
      try simp only [Act.put, List.setIfInBounds_toArray, List.set_cons_zero, List.set_cons_succ]
      refine held_one (i := 12) (by kernel_rfl) rfl rfl ?_
      intro K hK
      go_simp
      go_at_call 20
      refine (HPw.out _ a5 c5 hb hV5).mono ?_
      rintro e wC ⟨hb2, v, rfl, hT⟩
      obtain ⟨ra2, c3, rfl, hR⟩ := hT.is hkP.out
      clear hT hV5
      replace hb := below2 hb hb2
      replace hX6 := hX6.below hb2
      clear hb2
      have hN : (fun w' => Bx3 w' r3 30 (.slice (some ⟨b, off, none⟩) k c) (.int .i64 R) (.int .i64 t) ∧ VsAt 44 w' (some ⟨b, off, none⟩) k c vs ∧ VsAt 3 w' a2 n2 c2 xs) wC := ⟨hx3.out.below hb, hvs.out.below hb, hxs.out.below hb⟩
      refine hK.out _ _ hN ?_
      clear hK hS
      have hS := hN
      clear hN
      try simp only [Act.put, List.setIfInBounds_toArray, List.set_cons_zero, List.set_cons_succ]
      refine held_one (i := 13) (by kernel_rfl) rfl rfl ?_
      intro K hK
      obtain ⟨d0, d1, d2⟩ := hX6.cells
      obtain ⟨f0, f1, f2⟩ := hX6.frz
      go_simp
      have hN : (fun w' => Bx3 w' r3 30 (.slice (some ⟨b, off, none⟩) k c) (.int .i64 R) (.int .i64 t) ∧ VsAt 44 w' (some ⟨b, off, none⟩) k c vs ∧ VsAt 3 w' a2 n2 c2 xs) (put3 wC r6 (.slice ra2 k c3) (.int .i64 R) (.int .i64 t)) := ⟨hS.1.kept (put3_else _ _ _ h36.out), hS.2.1.kept (keep_put3 hX6 (by decide) _ _ _), hS.2.2.kept (keep_put3 hX6 (by decide) _ _ _)⟩
      show K _ (put3 wC r6 (.slice ra2 k c3) (.int .i64 R) (.int .i64 t))
      refine hK.out _ _ hN ?_
      clear hK hS d0 d1 d2 f0 f1 f2
      have hS := hN
      clear hN
      try simp only [Act.put, List.setIfInBounds_toArray, List.set_cons_zero, List.set_cons_succ]
      refine held_take (i := 14) (v := .int .i64 0) rfl (by kernel_rfl) (fun _ _ _ h => h) (.inl ⟨rfl, fun w hS => ?_⟩) hS ?_
      · go_simp
      try simp only [Act.put, List.setIfInBounds_toArray, List.set_cons_zero, List.set_cons_succ]
      refine wpAnyH_done (by kernel_rfl) ?_ _
      refine NoPanic.normal ?_
      exact hQ.out _ _ _ _ _ _ _ _ _ _ _ _ _ ra2 c3 wC hb hX6 hR
    · intro K hK
      go_simp
      have hb2 := below_alloc wv1 (.cells #[.int .i64 n] 3)
      have hL := vs_lit wv1 n
      have hgg : g1 ≠ wv1.heap.size := by have := hg1.out; omega
      replace hO := own_alloc hO (.cells #[.int .i64 n] 3)
      have hg2 : Hid (wv1.heap.size < (wv1.alloc (.cells #[.int .i64 n] 3)).heap.size) := ⟨by simp⟩
      generalize wv1.alloc (.cells #[.int .i64 n] 3) = wv5 at *
      replace hb := below2 hb hb2
      replace hX6 := hX6.below hb2
      have hN : (fun w' => Bx3 w' r3 30 (.slice (some ⟨b, off, none⟩) k c) (.int .i64 R) (.int .i64 t) ∧ VsAt 44 w' (some ⟨b, off, none⟩) k c vs ∧ VsAt 3 w' a2 n2 c2 xs) wv5 := ⟨hx3.out.below hb, hvs.out.below hb, hxs.out.below hb⟩
      refine hK.out _ _ hN ?_
      clear hK hS
      have hS := hN
      clear hN
      clear hb2
      generalize wv1.heap.size = g2 at *
      try simp only [Act.put, List.setIfInBounds_toArray, List.set_cons_zero, List.set_cons_succ]
      refine held_one (i := 8) (by kernel_rfl) rfl rfl ?_
      intro K hK
      refine wp_append_vs (w0 := w1) Try.underlying44 info3z rfl (by decide) _ _ rfl _ 0 [] rfl hO hb _ n2 c2 xs rfl hS.2.2 h1x.out (by decide) hn2.out ?_
      intro v4 wv6 hO4 hb4 hg4
      replace hL := hL.grown (by decide) hg4 (show (some g1 : Option Nat) ≠ some g2 from fun e => hgg (Option.some.inj e))
      replace hX6 := hX6w.out.below hb4
      clear hb hO hg4
      have hb := hb4
      have hO := hO4
      clear hb4 hO4
      simp only [Nat.zero_add, List.nil_append] at hO
      have hN : (fun w' => Bx3 w' r3 30 (.slice (some ⟨b, off, none⟩) k c) (.int .i64 R) (.int .i64 t) ∧ VsAt 44 w' (some ⟨b, off, none⟩) k c vs ∧ VsAt 3 w' a2 n2 c2 xs) wv6 := ⟨hx3.out.below hb, hvs.out.below hb, hxs.out.below hb⟩
      refine hK.out _ _ hN ?_
      clear hK hS
      have hS := hN
      clear hN
      try simp only [Act.put, List.setIfInBounds_toArray, List.set_cons_zero, List.set_cons_succ]
      refine held_one (i := 11) (by kernel_rfl) rfl rfl ?_
      intro K hK
      refine wp_append_vs (w0 := w1) Try.underlying44 info3z rfl (by decide) _ _ rfl _ n2 xs rfl hO hb _ 1 1 [.int .i64 n] rfl hL (by intro u hu; simp at hu; subst hu; rfl) hn2.out (by decide) ?_
      intro v5 wv7 hO5 hb5 _
      replace hX6 := hX6w.out.below hb5
      clear hb hO hL
      have hb := hb5
      clear hb5
      obtain ⟨a5, c5, rfl, hV5⟩ := own_vs hO5
      clear hO5
      have hN : (fun w' => Bx3 w' r3 30 (.slice (some ⟨b, off, none⟩) k c) (.int .i64 R) (.int .i64 t) ∧ VsAt 44 w' (some ⟨b, off, none⟩) k c vs ∧ VsAt 3 w' a2 n2 c2 xs) wv7 := ⟨hx3.out.below hb, hvs.out.below hb, hxs.out.below hb⟩
      refine hK.out _ _ hN ?_
      clear hK hS
      have hS := hN
      clear hN
      try simp only [Act.put, List.setIfInBounds_toArray, List.set_cons_zero, List.set_cons_succ]
      refine held_one (i := 12) (by kernel_rfl) rfl rfl ?_
      intro K hK
      go_simp
      go_at_call 20
      refine (HPw.out _ a5 c5 hb hV5).mono ?_
      rintro e wC ⟨hb2, v, rfl, hT⟩
      obtain ⟨ra2, c3, rfl, hR⟩ := hT.is hkP.out
      clear hT hV5
      replace hb := below2 hb hb2
      replace hX6 := hX6.below hb2
      clear hb2
      have hN : (fun w' => Bx3 w' r3 30 (.slice (some ⟨b, off, none⟩) k c) (.int .i64 R) (.int .i64 t) ∧ VsAt 44 w' (some ⟨b, off, none⟩) k c vs ∧ VsAt 3 w' a2 n2 c2 xs) wC := ⟨hx3.out.below hb, hvs.out.below hb, hxs.out.below hb⟩
      refine hK.out _ _ hN ?_
      clear hK hS
      have hS := hN
      clear hN
      try simp only [Act.put, List.setIfInBounds_toArray, List.set_cons_zero, List.set_cons_succ]
      refine held_one (i := 13) (by kernel_rfl) rfl rfl ?_
      intro K hK
      obtain ⟨d0, d1, d2⟩ := hX6.cells
      obtain ⟨f0, f1, f2⟩ := hX6.frz
      go_simp
      have hN : (fun w' => Bx3 w' r3 30 (.slice (some ⟨b, off, none⟩) k c) (.int .i64 R) (.int .i64 t) ∧ VsAt 44 w' (some ⟨b, off, none⟩) k c vs ∧ VsAt 3 w' a2 n2 c2 xs) (put3 wC r6 (.slice ra2 k c3) (.int .i64 R) (.int .i64 t)) := ⟨hS.1.kept (put3_else _ _ _ h36.out), hS.2.1.kept (keep_put3 hX6 (by decide) _ _ _), hS.2.2.kept (keep_put3 hX6 (by decide) _ _ _)⟩
      show K _ (put3 wC r6 (.slice ra2 k c3) (.int .i64 R) (.int .i64 t))
      refine hK.out _ _ hN ?_
      clear hK hS d0 d1 d2 f0 f1 f2
      have hS := hN
      clear hN
      try simp only [Act.put, List.setIfInBounds_toArray, List.set_cons_zero, List.set_cons_succ]
      refine held_take (i := 14) (v := .int .i64 0) rfl (by kernel_rfl) (fun _ _ _ h => h) (.inl ⟨rfl, fun w hS => ?_⟩) hS ?_
      · go_simp
      try simp only [Act.put, List.setIfInBounds_toArray, List.set_cons_zero, List.set_cons_succ]
      refine wpAnyH_done (by kernel_rfl) ?_ _
      refine NoPanic.normal ?_
      exact hQ.out _ _ _ _ _ _ _ _ _ _ _ _ _ ra2 c3 wC hb hX6 hR
  · intro K hK
    go_simp
    have hb2 := below_alloc wz (.cells #[.int .i64 n] 3)
    have hL := vs_lit wz n
    have hg2 : Hid (wz.heap.size < (wz.alloc (.cells #[.int .i64 n] 3)).heap.size) := ⟨by simp⟩
    generalize wz.alloc (.cells #[.int .i64 n] 3) = wv8 at *
    replace hb := below2 hb hb2
    replace hX6 := hX6.below hb2
    have hN : (fun w' => Bx3 w' r3 30 (.slice (some ⟨b, off, none⟩) k c) (.int .i64 R) (.int .i64 t) ∧ VsAt 44 w' (some ⟨b, off, none⟩) k c vs ∧ VsAt 3 w' a2 n2 c2 xs) wv8 := ⟨hx3.out.below hb, hvs.out.below hb, hxs.out.below hb⟩
    refine hK.out _ _ hN ?_
    clear hK hS
    have hS := hN
    clear hN
    clear hb2
    generalize wz.heap.size = g2 at *
    try simp only [Act.put, List.setIfInBounds_toArray, List.set_cons_zero, List.set_cons_succ]
    refine held_one (i := 2) (by kernel_rfl) rfl rfl ?_
    intro K hK
    go_simp
    have hb2 := below_alloc wv8 (.cells #[] 3)
    have hO := own_down (own_empty wv8 3) hb.size
    have hgg : wv8.heap.size ≠ g2 := by have := hg2.out; omega
    replace hL := hL.below hb2
    have hg1 : Hid (wv8.heap.size < (wv8.alloc (.cells #[] 3)).heap.size) := ⟨by simp⟩
    generalize wv8.alloc (.cells #[] 3) = wv9 at *
    replace hb := below2 hb hb2
    replace hX6 := hX6.below hb2
    have hN : (fun w' => Bx3 w' r3 30 (.slice (some ⟨b, off, none⟩) k c) (.int .i64 R) (.int .i64 t) ∧ VsAt 44 w' (some ⟨b, off, none⟩) k c vs ∧ VsAt 3 w' a2 n2 c2 xs) wv9 := ⟨hx3.out.below hb, hvs.out.below hb, hxs.out.below hb⟩
    refine hK.out _ _ hN ?_
    clear hK hS
    have hS := hN
    clear hN
    clear hb2
    generalize wv8.heap.size = g1 at *
    try simp only [Act.put, List.setIfInBounds_toArray, List.set_cons_zero, List.set_cons_succ]
    refine held_one (i := 8) (by kernel_rfl) rfl rfl ?_
    intro K hK
    refine wp_append_vs (w0 := w1) Try.underlying44 info3z rfl (by decide) _ _ rfl _ 0 [] rfl hO hb _ n2 c2 xs rfl hS.2.2 h1x.out (by decide) hn2.out ?_
    intro v4 wv10 hO4 hb4 hg4
    replace hL := hL.grown (by decide) hg4 (show (some g1 : Option Nat) ≠ some g2 from fun e => hgg (Option.some.inj e))
    replace hX6 := hX6w.out.below hb4
    clear hb hO hg4
    have hb := hb4
    have hO := hO4
    clear hb4 hO4
    simp only [Nat.zero_add, List.nil_append] at hO
    have hN : (fun w' => Bx3 w' r3 30 (.slice (some ⟨b, off, none⟩) k c) (.int .i64 R) (.int .i64 t) ∧ VsAt 44 w' (some ⟨b, off, none⟩) k c vs ∧ VsAt 3 w' a2 n2 c2 xs) wv10 := ⟨hx3.out.below hb, hvs.out.below hb, hxs.out.below hb⟩
    refine hK.out _ _ hN ?_
    clear hK hS
    have hS := hN
    clear hN
    try simp only [Act.put, List.setIfInBounds_toArray, List.set_cons_zero, List.set_cons_succ]
    refine held_one (i := 11) (by kernel_rfl) rfl rfl ?_
    intro K hK
    refine wp_append_vs (w0 := w1) Try.underlying44 info3z rfl (by decide) _ _ rfl _ n2 xs rfl hO hb _ 1 1 [.int .i64 n] rfl hL (by intro u hu; simp at hu; subst hu; rfl) hn2.out (by decide) ?_
    intro v5 wv11 hO5 hb5 _
    replace hX6 := hX6w.out.below hb5
    clear hb hO hL
    have hb := hb5
    clear hb5
    obtain ⟨a5, c5, rfl, hV5⟩ := own_vs hO5
    clear hO5
    have hN : (fun w' => Bx3 w' r3 30 (.slice (some ⟨b, off, none⟩) k c) (.int .i64 R) (.int .i64 t) ∧ VsAt 44 w' (some ⟨b, off, none⟩) k c vs ∧ VsAt 3 w' a2 n2 c2 xs) wv11 := ⟨hx3.out.below hb, hvs.out.below hb, hxs.out.below hb⟩
    refine hK.out _ _ hN ?_
    clear hK hS
    have hS := hN
    clear hN
    try simp only [Act.put, List.setIfInBounds_toArray, List.set_cons_zero, List.set_cons_succ]
    refine held_one (i := 12) (by kernel_rfl) rfl rfl ?_
    intro K hK
    go_simp
    go_at_call 20
    refine (HPw.out _ a5 c5 hb hV5).mono ?_
    rintro e wC ⟨hb2, v, rfl, hT⟩
    obtain ⟨ra2, c3, rfl, hR⟩ := hT.is hkP.out
    clear hT hV5
    replace hb := below2 hb hb2
    replace hX6 := hX6.below hb2
    clear hb2
    have hN : (fun w' => Bx3 w' r3 30 (.slice (some ⟨b, off, none⟩) k c) (.int .i64 R) (.int .i64 t) ∧ VsAt 44 w' (some ⟨b, off, none⟩) k c vs ∧ VsAt 3 w' a2 n2 c2 xs) wC := ⟨hx3.out.below hb, hvs.out.below hb, hxs.out.below hb⟩
    refine hK.out _ _ hN ?_
    clear hK hS
    have hS := hN
    clear hN
    try simp only [Act.put, List.setIfInBounds_toArray, List.set_cons_zero, List.set_cons_succ]
    refine held_one (i := 13) (by kernel_rfl) rfl rfl ?_
    intro K hK
    obtain ⟨d0, d1, d2⟩ := hX6.cells
    obtain ⟨f0, f1, f2⟩ := hX6.frz
    go_simp
    have hN : (fun w' => Bx3 w' r3 30 (.slice (some ⟨b, off, none⟩) k c) (.int .i64 R) (.int .i64 t) ∧ VsAt 44 w' (some ⟨b, off, none⟩) k c vs ∧ VsAt 3 w' a2 n2 c2 xs) (put3 wC r6 (.slice ra2 k c3) (.int .i64 R) (.int .i64 t)) := ⟨hS.1.kept (put3_else _ _ _ h36.out), hS.2.1.kept (keep_put3 hX6 (by decide) _ _ _), hS.2.2.kept (keep_put3 hX6 (by decide) _ _ _)⟩
    show K _ (put3 wC r6 (.slice ra2 k c3) (.int .i64 R) (.int .i64 t))
    refine hK.out _ _ hN ?_
    clear hK hS d0 d1 d2 f0 f1 f2
    have hS := hN
    clear hN
    try simp only [Act.put, List.setIfInBounds_toArray, List.set_cons_zero, List.set_cons_succ]
    refine held_take (i := 14) (v := .int .i64 0) rfl (by kernel_rfl) (fun _ _ _ h => h) (.inl ⟨rfl, fun w hS => ?_⟩) hS ?_
    · go_simp
    try simp only [Act.put, List.setIfInBounds_toArray, List.set_cons_zero, List.set_cons_succ]
    refine wpAnyH_done (by kernel_rfl) ?_ _
    refine NoPanic.normal ?_
    exact hQ.out _ _ _ _ _ _ _ _ _ _ _ _ _ ra2 c3 wC hb hX6 hR
set_option maxHeartbeats 4000000 in
set_option maxRecDepth 60000 in
theorem take_5 (t0 t3 t5 t6 t7 t8 t9 t10 t11 t12 t13 t14 t15 t16 t17 t18 t19 t20 t21 t22 t23 t24 t25 t26 t27 t28 t29 t30 t31 t32 t33 t34 t35 t36 t37 t38 t39 t40 : Value) (b off k c i r3 r6 b2 off2 : Nat) (R t x : Int) (a3 : Option Addr) (n2 c2 : Nat) (vs xs : List Value) (P : List (List Int)) (w1 : World) (Q : Exit → Act → World → Prop)
    (hx3 : Hid (Bx3 w1 r3 30 (.slice (some ⟨b, off, none⟩) k c) (.int .i64 R) (.int .i64 t))) (hX6 : Bx3 w1 r6 30 (.slice none 0 0) (.int .i64 0) (.int .i64 0)) (h36 : Hid (r3 ≠ r6)) (hvs : Hid (VsAt 44 w1 (some ⟨b, off, none⟩) k c vs)) (hv : Hid (vs[i]? = some (.slice (some ⟨b2, off2, none⟩) n2 c2))) (hxs : Hid (VsAt 3 w1 (some ⟨b2, off2, none⟩) n2 c2 xs)) (hx : Hid (xs[0]? = some (.int .i64 x))) (hif : (if c2 = 1 then (some ⟨b2, off2, none⟩ : Option Addr) else some ⟨b2, off2 + 1, none⟩) = a3) (hn0 : n2 ≠ 0) (hn1 : (1 : Int) ≤ (n2 : Int)) (hi : (i : Int) < (k : Int)) (hkP : Hid (P.length = k)) (HPw : Hid (∀ W, Below w1.heap.size w1 W → Calls Try.prog 20 #[.agg #[.slice (some ⟨b, off, none⟩) k c, .int .i64 R, .int .i64 t], .int .i64 (i : Int), .slice a3 (n2 - 1) (c2 - 1)] W fun e w' => WiPost P R t W e w'))
    (hQ : Hid (∀ (u25 u26 u27 u28 u29 u30 u31 u32 u33 u34 u35 u36 u37 u38 u39 u40 : Value) (ra2 : Option Addr) (c3 : Nat) (wC : World), Below w1.heap.size w1 wC → Bx3 wC r6 30 (.slice none 0 0) (.int .i64 0) (.int .i64 0) → RowsAt wC ra2 k c3 P → Q .normal ⟨#[t0, .int .i64 (i : Int), .pointer (some ⟨r3, 0, none⟩), t3, .pointer (some ⟨r6, 0, none⟩), .int .i64 x, .int .i64 0, t7, t8, t9, t10, t11, t12, t13, t14, t15, t16, t17, t18, t19, t20, t21, t22, t23, t24, u25, u26, u27, u28, u29, u30, u31, u32, u33, u34, u35, u36, u37, u38, u39, u40], []⟩ (put3 wC r6 (.slice ra2 k c3) (.int .i64 R) (.int .i64 t)))) :
    Code.wp Try.prog ((Try.f12.body.bind (regionOf 5)).getD .skip) Q ⟨#[t0, .int .i64 (i : Int), .pointer (some ⟨r3, 0, none⟩), t3, .pointer (some ⟨r6, 0, none⟩), t5, t6, t7, t8, t9, t10, t11, t12, t13, t14, t15, t16, t17, t18, t19, t20, t21, t22, t23, t24, t25, t26, t27, t28, t29, t30, t31, t32, t33, t34, t35, t36, t37, t38, t39, t40], []⟩ w1 := by
  have hS : (fun w' => Bx3 w' r3 30 (.slice (some ⟨b, off, none⟩) k c) (.int .i64 R) (.int .i64 t) ∧ VsAt 44 w' (some ⟨b, off, none⟩) k c vs ∧ VsAt 3 w' (some ⟨b2, off2, none⟩) n2 c2 xs) w1.drew := ⟨hx3.out, hvs.out, hxs.out⟩
  conv => arg 2; whnf
  refine held_start (S := fun w' => Bx3 w' r3 30 (.slice (some ⟨b, off, none⟩) k c) (.int .i64 R) (.int .i64 t) ∧ VsAt 44 w' (some ⟨b, off, none⟩) k c vs ∧ VsAt 3 w' (some ⟨b2, off2, none⟩) n2 c2 xs) mixed9 ?_
  replace hX6 : Bx3 w1.drew r6 30 (.slice none 0 0) (.int .i64 0) (.int .i64 0) := hX6
  have hb : Below w1.heap.size w1 w1.drew := below_drew _
  generalize w1.drew = wz at *
  refine held_take (i := 0) (v := .agg #[.slice (some ⟨b, off, none⟩) k c, .int .i64 R, .int .i64 t]) rfl (by kernel_rfl) (fun _ _ _ h => h) (.inl ⟨rfl, fun w hS => ?_⟩) hS ?_
  · obtain ⟨q, -, -⟩ := hS
    obtain ⟨c0, c1, c2⟩ := q.cells
    go_simp
  try simp only [Act.put, List.setIfInBounds_toArray, List.set_cons_zero, List.set_cons_succ]
  refine held_take (i := 1) (v := .int .i64 (i : Int)) rfl (by kernel_rfl) (fun _ _ _ h => h) (.inl ⟨rfl, fun w hS => ?_⟩) hS ?_
  · go_simp
  try simp only [Act.put, List.setIfInBounds_toArray, List.set_cons_zero, List.set_cons_succ]
  refine held_take (i := 2) (v := .pointer (some ⟨r3, 0, none⟩)) rfl (by kernel_rfl) (fun _ _ _ h => h) (.inl ⟨rfl, fun w hS => ?_⟩) hS ?_
  · go_simp
  try simp only [Act.put, List.setIfInBounds_toArray, List.set_cons_zero, List.set_cons_succ]
  refine held_take (i := 3) (v := .slice (some ⟨b, off, none⟩) k c) rfl (by kernel_rfl) (fun _ _ _ h => h) (.inl ⟨rfl, fun w hS => ?_⟩) hS ?_
  · obtain ⟨q, -, -⟩ := hS
    obtain ⟨c0, c1, c2⟩ := q.cells
    go_simp
  try simp only [Act.put, List.setIfInBounds_toArray, List.set_cons_zero, List.set_cons_succ]
  refine held_take (i := 4) (v := .int .i64 (i : Int)) rfl (by kernel_rfl) (fun _ _ _ h => h) (.inl ⟨rfl, fun w hS => ?_⟩) hS ?_
  · go_simp
  try simp only [Act.put, List.setIfInBounds_toArray, List.set_cons_zero, List.set_cons_succ]
  refine held_take (i := 5) (v := .pointer (some ⟨b, off + i, none⟩)) rfl (by kernel_rfl) (fun _ _ _ h => h) (.inl ⟨rfl, fun w hS => ?_⟩) hS ?_
  · go_simp
  try simp only [Act.put, List.setIfInBounds_toArray, List.set_cons_zero, List.set_cons_succ]
  refine held_take (i := 6) (v := .slice (some ⟨b2, off2, none⟩) n2 c2) rfl (by kernel_rfl) (fun _ _ _ h => h) (.inl ⟨rfl, fun w hS => ?_⟩) hS ?_
  · obtain ⟨-, q, -⟩ := hS
    have qq := q.get hv.out
    go_simp
  try simp only [Act.put, List.setIfInBounds_toArray, List.set_cons_zero, List.set_cons_succ]
  refine held_take (i := 7) (v := .slice a3 (n2 - 1) (c2 - 1)) rfl (by kernel_rfl) (fun _ _ _ h => h) (.inl ⟨rfl, fun w hS => ?_⟩) hS ?_
  · go_simp
    try simp only [hif.out]
    try go_simp
  try simp only [Act.put, List.setIfInBounds_toArray, List.set_cons_zero, List.set_cons_succ]
  refine held_take (i := 9) (v := .pointer (some ⟨r3, 0, none⟩)) rfl (by kernel_rfl) (fun _ _ _ h => h) (.inl ⟨rfl, fun w hS => ?_⟩) hS ?_
  · go_simp
  try simp only [Act.put, List.setIfInBounds_toArray, List.set_cons_zero, List.set_cons_succ]
  refine held_take (i := 10) (v := .slice (some ⟨b, off, none⟩) k c) rfl (by kernel_rfl) (fun _ _ _ h => h) (.inl ⟨rfl, fun w hS => ?_⟩) hS ?_
  · obtain ⟨q, -, -⟩ := hS
    obtain ⟨c0, c1, c2⟩ := q.cells
    go_simp
  try simp only [Act.put, List.setIfInBounds_toArray, List.set_cons_zero, List.set_cons_succ]
  refine held_take (i := 11) (v := .int .i64 (i : Int)) rfl (by kernel_rfl) (fun _ _ _ h => h) (.inl ⟨rfl, fun w hS => ?_⟩) hS ?_
  · go_simp
  try simp only [Act.put, List.setIfInBounds_toArray, List.set_cons_zero, List.set_cons_succ]
  refine held_take (i := 12) (v := .pointer (some ⟨b, off + i, none⟩)) rfl (by kernel_rfl) (fun _ _ _ h => h) (.inl ⟨rfl, fun w hS => ?_⟩) hS ?_
  · go_simp
  try simp only [Act.put, List.setIfInBounds_toArray, List.set_cons_zero, List.set_cons_succ]
  refine held_take (i := 13) (v := .slice (some ⟨b2, off2, none⟩) n2 c2) rfl (by kernel_rfl) (fun _ _ _ h => h) (.inl ⟨rfl, fun w hS => ?_⟩) hS ?_
  · obtain ⟨-, q, -⟩ := hS
    have qq := q.get hv.out
    go_simp
  try simp only [Act.put, List.setIfInBounds_toArray, List.set_cons_zero, List.set_cons_succ]
  refine held_take (i := 14) (v := .pointer (some ⟨b2, off2, none⟩)) rfl (by kernel_rfl) (fun _ _ _ h => h) (.inl ⟨rfl, fun w hS => ?_⟩) hS ?_
  · have hn9 : (0 : Int) < (n2 : Int) := by omega
    go_simp
    try exact fun h => absurd h hn0
  try simp only [Act.put, List.setIfInBounds_toArray, List.set_cons_zero, List.set_cons_succ]
  refine held_take (i := 15) (v := .int .i64 x) rfl (by kernel_rfl) (fun _ _ _ h => h) (.inl ⟨rfl, fun w hS => ?_⟩) hS ?_
  · obtain ⟨-, -, q⟩ := hS
    have qq := q.get hx.out
    rw [Nat.add_zero] at qq
    go_simp
  try simp only [Act.put, List.setIfInBounds_toArray, List.set_cons_zero, List.set_cons_succ]
  refine held_one (i := 8) (by kernel_rfl) rfl rfl ?_
  intro K hK
  go_simp
  go_at_call 20
  refine (HPw.out _ hb).mono ?_
  rintro e wC ⟨hb2, v, rfl, hT⟩
  obtain ⟨ra2, c3, rfl, hR⟩ := hT.is hkP.out
  clear hT
  replace hb := below2 hb hb2
  replace hX6 := hX6.below hb2
  clear hb2
  have hN : (fun w' => Bx3 w' r3 30 (.slice (some ⟨b, off, none⟩) k c) (.int .i64 R) (.int .i64 t) ∧ VsAt 44 w' (some ⟨b, off, none⟩) k c vs ∧ VsAt 3 w' (some ⟨b2, off2, none⟩) n2 c2 xs) wC := ⟨hx3.out.below hb, hvs.out.below hb, hxs.out.below hb⟩
  refine hK.out _ _ hN ?_
  clear hK hS
  have hS := hN
  clear hN
  try simp only [Act.put, List.setIfInBounds_toArray, List.set_cons_zero, List.set_cons_succ]
  refine held_one (i := 16) (by kernel_rfl) rfl rfl ?_
  intro K hK
  obtain ⟨d0, d1, d2⟩ := hX6.cells
  obtain ⟨f0, f1, f2⟩ := hX6.frz
  go_simp
  have hN : (fun w' => Bx3 w' r3 30 (.slice (some ⟨b, off, none⟩) k c) (.int .i64 R) (.int .i64 t) ∧ VsAt 44 w' (some ⟨b, off, none⟩) k c vs ∧ VsAt 3 w' (some ⟨b2, off2, none⟩) n2 c2 xs) (put3 wC r6 (.slice ra2 k c3) (.int .i64 R) (.int .i64 t)) := ⟨hS.1.kept (put3_else _ _ _ h36.out), hS.2.1.kept (keep_put3 hX6 (by decide) _ _ _), hS.2.2.kept (keep_put3 hX6 (by decide) _ _ _)⟩
  show K _ (put3 wC r6 (.slice ra2 k c3) (.int .i64 R) (.int .i64 t))
  refine hK.out _ _ hN ?_
  clear hK hS d0 d1 d2 f0 f1 f2
  have hS := hN
  clear hN
  try simp only [Act.put, List.setIfInBounds_toArray, List.set_cons_zero, List.set_cons_succ]
  refine held_take (i := 17) (v := .int .i64 x) rfl (by kernel_rfl) (fun _ _ _ h => h) (.inl ⟨rfl, fun w hS => ?_⟩) hS ?_
  · go_simp
  try simp only [Act.put, List.setIfInBounds_toArray, List.set_cons_zero, List.set_cons_succ]
  refine held_take (i := 18) (v := .int .i64 0) rfl (by kernel_rfl) (fun _ _ _ h => h) (.inl ⟨rfl, fun w hS => ?_⟩) hS ?_
  · go_simp
  try simp only [Act.put, List.setIfInBounds_toArray, List.set_cons_zero, List.set_cons_succ]
  refine wpAnyH_done (by kernel_rfl) ?_ _
  refine NoPanic.normal ?_
  exact hQ.out _ _ _ _ _ _ _ _ _ _ _ _ _ _ _ _ ra2 c3 wC hb hX6 hR
end Go.Proofs.Ytpolehfkjpbofaa.Ta
