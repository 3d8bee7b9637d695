/-
  Prepare's region 10.
-/
import Derived.Test.YtejhmacbbdnlbaaAcJ
namespace Go.Proofs.Ytejhmacbbdnlbaa.Ac
open Go.ChangeShapes Go.WideShapes Go.ChangeAt Go.RowKit
theorem celsV_drop (L : List Cel) (k j : Nat) : (celsV (L.drop k))[j]? = (celsV L)[k * 8 + j]? := by
  rw [celsV_at, celsV_at, List.getElem?_drop, show (k * 8 + j) / 8 = k + j / 8 by omega, show (k * 8 + j) % 8 = j % 8 by omega]
theorem acs_drop {w : World} {a : Option Addr} {len cap : Nat} {ls : List Acd} (h : AcsAt w a len cap ls) (k : Nat) (hk : k ≤ len) : AcsAt w (if cap = k then a else Option.map (fun x => x.add (k * 8)) a) (len - k) (cap - k) (ls.drop k) := by
  obtain ⟨h1, h2, h3, h4, L, h5, h6, h7⟩ := h
  refine ⟨by rw [List.length_drop, h1], by omega, by omega, fun hn => ?_, L.drop k, by rw [List.map_drop, h5], ?_, fun c hc => h7 c (List.mem_of_mem_drop hc)⟩
  · by_cases e : cap = k
    · omega
    · rw [if_neg e] at hn
      cases a with
      | none => have := h4 rfl; omega
      | some x => simp at hn
  · by_cases e : cap = k
    · exact .inl (by omega)
    · rw [if_neg e]
      rcases h6 with h0 | ⟨b, off, rfl, hc⟩
      · exact .inl (by omega)
      · refine .inr ⟨b, off + k * 8, by simp [Addr.add], fun j u hj => ?_⟩
        rw [celsV_drop] at hj
        rw [Nat.add_assoc]
        exact hc _ u hj
theorem slice_fromA (a : Option Addr) (len cap : Nat) (ls : List Acd) (k : Nat) (hk : k ≤ len) :
    ∃ a', (if cap = k then a else Option.map (fun x => x.add (k * 8)) a) = a' ∧ ∀ w, AcsAt w a len cap ls → AcsAt w a' (len - k) (cap - k) (ls.drop k) :=
  ⟨_, rfl, fun _ h => acs_drop h k hk⟩
theorem Slim.drop {ls : List Acd} (h : Slim ls) (k : Nat) : Slim (ls.drop k) := ⟨by have := h.1; rw [List.length_drop]; omega, fun x hx => h.2 x (List.mem_of_mem_drop hx)⟩
set_option maxHeartbeats 4000000 in
set_option maxRecDepth 60000 in
theorem prepare_10 (t0 t1 t2 t4 t5 t7 t8 t11 t12 t13 t14 t15 t16 t17 t18 t19 t20 t21 t22 t23 t24 t25 t26 t27 t28 t29 t30 t31 t32 t33 t34 t35 t36 t37 t38 t39 t40 t41 t42 t43 t44 : Value) (X Y R : Nat) (p P : Int) (a a' ay : Option Addr) (len cap ly cy k : Nat) (ls : List Acd) (r0 r1 : Value) (w1 : World) (Q : Exit → Act → World → Prop)
    (hXR : X ≠ R) (hYR : Y ≠ R) (hk : (k : Int) ≤ (len : Int)) (hif : (if cap = k then a else Option.map (fun x => x.add (k * 8)) a) = a')
    (HX : B2 w1 X 24 (.int .i64 p) (.slice a len cap)) (HY : B2 w1 Y 24 (.int .i64 P) (.slice ay ly cy)) (HR : Hid (B2 w1 R 24 r0 r1)) (HA : Hid (AcsAt w1 a' (len - k) (cap - k) (ls.drop k))) (HSl : Hid (Slim (ls.drop k)))
    (hQ : Hid (∀ (u39 u40 u41 u42 u43 u44 : Value) (v3 : Value) (w3 : World), Below w1.heap.size w1 w3 → OwnA w3 w1.heap.size v3 (ls.drop k) → B2 (set2 w3 R (.int .i64 P) (.slice ay ly cy)) R 24 (.int .i64 P) (.slice ay ly cy) → Q .normal ⟨#[t0, t1, t2, .pointer (some ⟨X, 0, none⟩), t4, t5, .pointer (some ⟨R, 0, none⟩), v3, .int .i64 0, .pointer (some ⟨Y, 0, none⟩), .int .i64 (k : Int), t11, t12, t13, t14, t15, t16, t17, t18, t19, t20, t21, t22, t23, t24, t25, t26, t27, t28, t29, t30, t31, t32, t33, t34, t35, t36, t37, t38, u39, u40, u41, u42, u43, u44], []⟩ (set2 w3 R (.int .i64 P) (.slice ay ly cy)))) :
    Code.wp Try.prog ((Try.f7.body.bind (regionOf 10)).getD .skip) Q ⟨#[t0, t1, t2, .pointer (some ⟨X, 0, none⟩), t4, t5, .pointer (some ⟨R, 0, none⟩), t7, t8, .pointer (some ⟨Y, 0, none⟩), .int .i64 (k : Int), t11, t12, t13, t14, t15, t16, t17, t18, t19, t20, t21, t22, t23, t24, t25, t26, t27, t28, t29, t30, t31, t32, t33, t34, t35, t36, t37, t38, t39, t40, t41, t42, t43, t44], []⟩ w1 := by
  have hS : (fun w' => B2 w' X 24 (.int .i64 p) (.slice a len cap) ∧ B2 w' Y 24 (.int .i64 P) (.slice ay ly cy)) w1.drew := ⟨HX, HY⟩
  conv => arg 2; whnf
  refine held_start (S := fun w' => B2 w' X 24 (.int .i64 p) (.slice a len cap) ∧ B2 w' Y 24 (.int .i64 P) (.slice ay ly cy)) mixed5 ?_
  refine held_take (i := 0) (v := .agg #[.int .i64 P, .slice ay ly cy]) rfl (by kernel_rfl) (fun _ _ _ h => h) (.inl ⟨rfl, fun w hS => ?_⟩) hS ?_
  · obtain ⟨-, q⟩ := hS
    obtain ⟨c0, c1⟩ := q.cells
    go_simp
  try simp only [Act.put, List.setIfInBounds_toArray, List.set_cons_zero, List.set_cons_succ]
  refine held_take (i := 1) (v := .pointer (some ⟨X, 1, none⟩)) rfl (by kernel_rfl) (fun _ _ _ h => h) (.inl ⟨rfl, fun w hS => ?_⟩) hS ?_
  · clear hS
    go_simp
  try simp only [Act.put, List.setIfInBounds_toArray, List.set_cons_zero, List.set_cons_succ]
  refine held_take (i := 2) (v := .slice a len cap) rfl (by kernel_rfl) (fun _ _ _ h => h) (.inl ⟨rfl, fun w hS => ?_⟩) hS ?_
  · obtain ⟨q, -⟩ := hS
    obtain ⟨c0, c1⟩ := q.cells
    go_simp
  try simp only [Act.put, List.setIfInBounds_toArray, List.set_cons_zero, List.set_cons_succ]
  refine held_take (i := 3) (v := .int .i64 (k : Int)) rfl (by kernel_rfl) (fun _ _ _ h => h) (.inl ⟨rfl, fun w hS => ?_⟩) hS ?_
  · clear hS
    go_simp
  try simp only [Act.put, List.setIfInBounds_toArray, List.set_cons_zero, List.set_cons_succ]
  refine held_take (i := 4) (v := (.slice a' (len - k) (cap - k))) rfl (by kernel_rfl) (fun _ _ _ h => h) (.inl ⟨rfl, fun w hS => ?_⟩) hS ?_
  · clear hS
    go_simp
  try simp only [Act.put, List.setIfInBounds_toArray, List.set_cons_zero, List.set_cons_succ]
  refine held_one (i := 5) (by kernel_rfl) rfl rfl ?_
  intro K hK
  go_simp
  go_at_call 22
  refine (copies_any a' (len - k) (cap - k) (ls.drop k) w1.drew (HA.out.below (below_drew w1)) HSl.out).mono ?_
  rintro en w3 ⟨hb3, v3, rfl, ho3⟩
  have hN : (fun w' => B2 w' X 24 (.int .i64 p) (.slice a len cap) ∧ B2 w' Y 24 (.int .i64 P) (.slice ay ly cy)) w3 := ⟨hS.1.below hb3, hS.2.below hb3⟩
  refine hK.out _ _ hN ?_
  clear hK hS
  have hS := hN
  have HRs := HR.out.below (below2 (below_drew w1) hb3)
  clear hN
  try simp only [Act.put, List.setIfInBounds_toArray, List.set_cons_zero, List.set_cons_succ]
  refine held_one (i := 6) (by kernel_rfl) rfl rfl ?_
  intro K hK
  obtain ⟨c0, c1⟩ := HRs.cells
  obtain ⟨f0, f1⟩ := HRs.frz
  go_simp
  have hN : (fun w' => B2 w' X 24 (.int .i64 p) (.slice a len cap) ∧ B2 w' Y 24 (.int .i64 P) (.slice ay ly cy)) (set2 w3 R (.int .i64 P) (.slice ay ly cy)) := ⟨hS.1.kept (set2_else _ _ hXR), hS.2.kept (set2_else _ _ hYR)⟩
  show K _ (set2 w3 R (.int .i64 P) (.slice ay ly cy))
  refine hK.out _ _ hN ?_
  clear hK hS
  have hS := hN
  have HR7 := HRs.set (.int .i64 P) (.slice ay ly cy)
  clear hN c0 c1 f0 f1
  try simp only [Act.put, List.setIfInBounds_toArray, List.set_cons_zero, List.set_cons_succ]
  refine held_take (i := 7) (v := v3) rfl (by kernel_rfl) (fun _ _ _ h => h) (.inl ⟨rfl, fun w hS => ?_⟩) hS ?_
  · clear hS
    go_simp
  try simp only [Act.put, List.setIfInBounds_toArray, List.set_cons_zero, List.set_cons_succ]
  refine held_take (i := 8) (v := .int .i64 0) rfl (by kernel_rfl) (fun _ _ _ h => h) (.inl ⟨rfl, fun w hS => ?_⟩) hS ?_
  · clear hS
    go_simp
  try simp only [Act.put, List.setIfInBounds_toArray, List.set_cons_zero, List.set_cons_succ]
  refine wpAnyH_done (by kernel_rfl) ?_ _
  refine NoPanic.normal ?_
  exact hQ.out _ _ _ _ _ _ v3 w3 (below2 (below_drew w1) hb3) ho3 HR7
end Go.Proofs.Ytejhmacbbdnlbaa.Ac
