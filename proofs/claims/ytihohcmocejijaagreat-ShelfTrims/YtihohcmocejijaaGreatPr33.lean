/-
  clone: a shelf of one's own.
  Do, Look.
-/
import Derived.Test.YtihohcmocejijaaGreatPr32
namespace Go.Proofs.YtihohcmocejijaaGreat.Bk
open Go.ChangeShapes Go.WideShapes Go.ChangeAt Go.RowKit
set_option maxHeartbeats 4000000 in
set_option maxRecDepth 60000 in
theorem cl_5 (t0 t2 t5 t6 t7 t8 t9 t10 t11 t12 t13 t14 t15 t16 t17 t18 t19 t20 t21 t22 t23 t24 t25 t26 t27 t28 t29 t30 : Value) (bx lb g k N lc n c : Nat) (a : Option Addr) (u0 : Value) (xs : List Sm) (w1 : World) (Q : Exit → Act → World → Prop)
    (h0 : w1.cell? ⟨bx, 0, none⟩ = some (.slice (some ⟨g, 0, none⟩) N lc)) (h1 : w1.cell? ⟨lb, 1, none⟩ = some (.slice a n c)) (h2 : w1.cell? ⟨g, k * 2 + 1, none⟩ = some u0) (h3 : w1.frozen? ⟨g, k * 2 + 1, none⟩ = false) (hk0 : (0 : Int) ≤ (k : Int)) (hkN : (k : Int) < (N : Int)) (hs : SmsAt w1 a n c xs) (hn : n ≤ 1000)
    (hQ : Hid (∀ (u17 u18 u19 u20 u21 u22 u23 u24 : Value) (a2 : Option Addr) (c2 : Nat) (w2 wC : World), Below w1.heap.size w1 w2 → (∃ B, w2.ownsRow B 27 2 (.slice a2 xs.length c2) xs.length (cellsS xs)) → wC = w2.setCell ⟨g, k * 2 + 1, none⟩ (.slice a2 xs.length c2) → Q .normal ⟨#[t0, .pointer (some ⟨bx, 0, none⟩), t2, .int .i64 (k : Int), .pointer (some ⟨lb, 0, none⟩), t5, t6, t7, t8, t9, t10, t11, t12, t13, t14, t15, t16, u17, u18, u19, u20, u21, u22, u23, u24, t25, t26, t27, t28, t29, t30], []⟩ wC)) :
    Code.wp Tryz.prog ((Tryz.f26.body.bind (regionOf 5)).getD .skip) Q ⟨#[t0, .pointer (some ⟨bx, 0, none⟩), t2, .int .i64 (k : Int), .pointer (some ⟨lb, 0, none⟩), t5, t6, t7, t8, t9, t10, t11, t12, t13, t14, t15, t16, t17, t18, t19, t20, t21, t22, t23, t24, t25, t26, t27, t28, t29, t30], []⟩ w1 := by
  have hS : (fun w' => Below w1.heap.size w1 w' ∧ w'.cell? ⟨bx, 0, none⟩ = some (.slice (some ⟨g, 0, none⟩) N lc) ∧ w'.cell? ⟨lb, 1, none⟩ = some (.slice a n c) ∧ (w'.cell? ⟨g, k * 2 + 1, none⟩ = some u0 ∧ w'.frozen? ⟨g, k * 2 + 1, none⟩ = false)) w1.drew := ⟨below_drew _, h0, h1, h2, h3⟩
  conv => arg 2; whnf
  refine wp_region_but (S := fun w' => Below w1.heap.size w1 w' ∧ w'.cell? ⟨bx, 0, none⟩ = some (.slice (some ⟨g, 0, none⟩) N lc) ∧ w'.cell? ⟨lb, 1, none⟩ = some (.slice a n c) ∧ (w'.cell? ⟨g, k * 2 + 1, none⟩ = some u0 ∧ w'.frozen? ⟨g, k * 2 + 1, none⟩ = false)) (n := 8) mixed9 ?_
  refine but_take (i := 0) (v := .pointer (some ⟨bx, 0, none⟩)) rfl (by kernel_rfl) (fun _ _ _ h => h) (.inl ⟨rfl, fun w hS => ?_⟩) hS ?_
  · obtain ⟨-, q0, q1, q2, q3⟩ := hS
    go_simp
  try simp only [Act.put, List.setIfInBounds_toArray, List.set_cons_zero, List.set_cons_succ]
  refine but_take (i := 1) (v := .slice (some ⟨g, 0, none⟩) N lc) rfl (by kernel_rfl) (fun _ _ _ h => h) (.inl ⟨rfl, fun w hS => ?_⟩) hS ?_
  · obtain ⟨-, q0, q1, q2, q3⟩ := hS
    go_simp
  try simp only [Act.put, List.setIfInBounds_toArray, List.set_cons_zero, List.set_cons_succ]
  refine but_take (i := 2) (v := .int .i64 (k : Int)) rfl (by kernel_rfl) (fun _ _ _ h => h) (.inl ⟨rfl, fun w hS => ?_⟩) hS ?_
  · obtain ⟨-, q0, q1, q2, q3⟩ := hS
    go_simp
  try simp only [Act.put, List.setIfInBounds_toArray, List.set_cons_zero, List.set_cons_succ]
  refine but_take (i := 3) (v := .pointer (some ⟨lb, 1, none⟩)) rfl (by kernel_rfl) (fun _ _ _ h => h) (.inl ⟨rfl, fun w hS => ?_⟩) hS ?_
  · obtain ⟨-, q0, q1, q2, q3⟩ := hS
    go_simp
  try simp only [Act.put, List.setIfInBounds_toArray, List.set_cons_zero, List.set_cons_succ]
  refine but_take (i := 4) (v := .slice a n c) rfl (by kernel_rfl) (fun _ _ _ h => h) (.inl ⟨rfl, fun w hS => ?_⟩) hS ?_
  · obtain ⟨-, q0, q1, q2, q3⟩ := hS
    go_simp
  try simp only [Act.put, List.setIfInBounds_toArray, List.set_cons_zero, List.set_cons_succ]
  refine but_one (i := 5) (by kernel_rfl) rfl rfl ?_
  intro K hK
  go_simp
  go_at_call 44
  refine (copiedS_any a n c xs _ (hs.below hS.1) hn).mono ?_
  rintro e w2 ⟨hb2, a2, c2, rfl, hO2⟩
  have hN : (fun w' => Below w1.heap.size w1 w' ∧ w'.cell? ⟨bx, 0, none⟩ = some (.slice (some ⟨g, 0, none⟩) N lc) ∧ w'.cell? ⟨lb, 1, none⟩ = some (.slice a n c) ∧ (w'.cell? ⟨g, k * 2 + 1, none⟩ = some u0 ∧ w'.frozen? ⟨g, k * 2 + 1, none⟩ = false)) w2 := ⟨below2 hS.1 hb2, kept3 hS.2.1 hb2, kept3 hS.2.2.1 hb2, kept3 hS.2.2.2.1 hb2, frz_kept hS.2.2.2.1 hS.2.2.2.2 hb2⟩
  refine hK.out _ _ (fun _ => hN) ?_
  have hS9 := hN
  clear hK hS
  have hS := hS9
  clear hS9
  try simp only [Act.put, List.setIfInBounds_toArray, List.set_cons_zero, List.set_cons_succ]
  refine but_take (i := 6) (v := .pointer (some ⟨g, k * 2, none⟩)) rfl (by kernel_rfl) (fun _ _ _ h => h) (.inl ⟨rfl, fun w hS => ?_⟩) hS ?_
  · obtain ⟨-, q0, q1, q2, q3⟩ := hS
    go_simp
  try simp only [Act.put, List.setIfInBounds_toArray, List.set_cons_zero, List.set_cons_succ]
  refine but_take (i := 7) (v := .pointer (some ⟨g, k * 2 + 1, none⟩)) rfl (by kernel_rfl) (fun _ _ _ h => h) (.inl ⟨rfl, fun w hS => ?_⟩) hS ?_
  · obtain ⟨-, q0, q1, q2, q3⟩ := hS
    go_simp
  try simp only [Act.put, List.setIfInBounds_toArray, List.set_cons_zero, List.set_cons_succ]
  refine but_one (i := 8) (by kernel_rfl) rfl rfl ?_
  intro K hK
  obtain ⟨qb, -, -, q0, q1⟩ := hS
  go_simp
  refine hK.out _ _ (fun h => absurd rfl h) ?_
  clear hK
  try simp only [Act.put, List.setIfInBounds_toArray, List.set_cons_zero, List.set_cons_succ]
  refine AnyBut.done (by kernel_rfl) ?_ _
  refine NoPanic.normal ?_
  exact hQ.out _ _ _ _ _ _ _ _ a2 c2 w2 _ qb ⟨_, hO2⟩ rfl
theorem getD_set1 {α : Type} {l : List α} {i : Nat} {x d : α} (h : i < l.length) : (l.set i x).getD i d = x := by
  rw [List.getD_eq_getElem?_getD, List.getElem?_set_self h]; rfl
theorem getD_set2 {α : Type} {l : List α} {i j : Nat} {x d : α} (h : i ≠ j) : (l.set i x).getD j d = l.getD j d := by
  rw [List.getD_eq_getElem?_getD, List.getElem?_set_ne h, ← List.getD_eq_getElem?_getD]
theorem getD_app1 {α : Type} {l m : List α} {i : Nat} {d : α} (h : i < l.length) : (l ++ m).getD i d = l.getD i d := by
  rw [List.getD_eq_getElem?_getD, List.getElem?_append_left h, ← List.getD_eq_getElem?_getD]
theorem getD_app2 {α : Type} {l m : List α} {i : Nat} {d : α} (h : l.length ≤ i) : (l ++ m).getD i d = m.getD (i - l.length) d := by
  rw [List.getD_eq_getElem?_getD, List.getElem?_append_right h, ← List.getD_eq_getElem?_getD]
theorem own_le {w : World} {B B' s n : Nat} {E : TypeId} {v : Value} {xs : List Value} (h : w.ownsRow B E s v n xs) (hb : B' ≤ B) : w.ownsRow B' E s v n xs := by
  obtain ⟨h1, h2 | ⟨g, cap, cur, e, h3, h4⟩⟩ := h
  · exact ⟨h1, .inl h2⟩
  · exact ⟨h1, .inr ⟨g, cap, cur, e, Nat.le_trans hb h3, h4⟩⟩
theorem own_row {w : World} {B c : Nat} {a : Option Addr} {L : List Sm} (h : w.ownsRow B 27 2 (.slice a L.length c) L.length (cellsS L)) : SmsAt w a L.length c L ∧ TyS w a := by
  obtain ⟨a', c', e, hs⟩ := own_sms' h
  injection e with e1 e2 e3
  subst e1 e3
  refine ⟨hs, fun p hp => ?_⟩
  obtain ⟨h1, ⟨e, h0⟩ | ⟨g, cap, cur, e, hr'⟩⟩ := id h
  · injection e with e1 _ _
    rw [e1] at hp
    cases hp
  · injection e with e1 _ _
    rw [e1] at hp
    injection hp with hp
    subst hp
    exact ⟨cur, (0, 0), hr'.2.1⟩
theorem raw_of {w : World} {a : Option Addr} {len cap : Nat} {ls : List Ln} (h : LnsAt w a len cap ls) : ∃ L : List LX, RawX w a len cap L ∧ lnsX L = ls ∧ ∀ x ∈ L, ∃ a' n' c', x.2.1 = .slice a' n' c' ∧ SmsAt w a' n' c' x.2.2 := by
  obtain ⟨h1, h2, h3, h4⟩ := h
  rcases h4 with h0 | ⟨b, off, e, hc⟩
  · obtain rfl : ls = [] := List.length_eq_zero_iff.1 (by omega)
    exact ⟨[], ⟨by simpa using h1, h2, h3, .inl h0, fun u hu => by simp [cellsX] at hu⟩, rfl, fun x hx => by simp at hx⟩
  · have key : ∀ k, k ≤ len → ∃ L : List LX, L.length = k ∧ lnsX L = ls.take k ∧ (∀ i, i < k → w.cell? ⟨b, off + i * 2, none⟩ = some (.string (L.getD i lx0).1) ∧ w.cell? ⟨b, off + i * 2 + 1, none⟩ = some (L.getD i lx0).2.1) ∧ ∀ x ∈ L, ∃ a' n' c', x.2.1 = .slice a' n' c' ∧ SmsAt w a' n' c' x.2.2 := by
      intro k
      induction k with
      | zero => intro _; exact ⟨[], rfl, by simp [lnsX], fun i hi => absurd hi (Nat.not_lt_zero _), fun x hx => by simp at hx⟩
      | succ k ih =>
        intro hk
        obtain ⟨L, l1, l2, l3, l4⟩ := ih (by omega)
        obtain ⟨c0, a', n', c', c1, hs⟩ := hc k (by omega)
        refine ⟨L ++ [((ls.getD k ln0).1, .slice a' n' c', (ls.getD k ln0).2)], by simp [l1], ?_, fun i hi => ?_, fun x hx => ?_⟩
        · rw [lnsX_app, l2, List.take_succ_eq_append_getElem (by omega : k < ls.length), getDn (by omega : k < ls.length)]
          rfl
        · by_cases hik : i < k
          · rw [getD_app1 (by omega)]
            exact l3 i hik
          · obtain rfl : i = k := by omega
            rw [getD_app2 (by omega), l1, Nat.sub_self]
            exact ⟨c0, c1⟩
        · rcases List.mem_append.1 hx with hx | hx
          · exact l4 x hx
          · obtain rfl := List.mem_singleton.1 hx
            exact ⟨a', n', c', rfl, hs⟩
    obtain ⟨L, l1, l2, l3, l4⟩ := key len (Nat.le_refl _)
    refine ⟨L, ⟨l1, h2, h3, .inr ⟨b, off, e, fun j u hj => ?_⟩, fun u hu => ?_⟩, by rw [l2, List.take_of_length_le (by omega)], l4⟩
    · rw [addr_add]
      have hjl : j < (cellsX L).length := (List.getElem?_eq_some_iff.1 hj).1
      rw [cellsX_length] at hjl
      obtain ⟨q1, q2⟩ := cellsX_at L (j / 2) (by omega)
      obtain ⟨c0, c1⟩ := l3 (j / 2) (by omega)
      by_cases hp : j % 2 = 0
      · have ej : j / 2 * 2 = j := by omega
        rw [ej] at q1 c0
        rw [q1] at hj
        rw [← hj]; exact c0
      · have ej : j / 2 * 2 + 1 = j := by omega
        rw [ej] at q2
        rw [Nat.add_assoc, ej] at c1
        rw [q2] at hj
        rw [← hj]; exact c1
    · unfold cellsX at hu
      rw [List.mem_flatMap] at hu
      obtain ⟨x, hx, hu⟩ := hu
      obtain ⟨a', n', c', e', _⟩ := l4 x hx
      simp only [List.mem_cons, List.mem_nil_iff, or_false] at hu
      rcases hu with rfl | rfl
      · rfl
      · rw [e']; rfl
def ClPost (s : Shf) (w : World) (e : Ending) (w' : World) : Prop := ∃ la lc X da dc, e = .returned (.agg #[.slice la X.length lc, .slice da s.ds.length dc, .int .i64 s.fl]) ∧ lnsX X = s.ls ∧ LvR w.heap.size la lc X da dc s.ds w' ∧ Below w.heap.size w w'
def ClIn (w : World) (L : List LX) (la : Option Addr) (lc N k : Nat) (Y : List LX) (wr : World) : Prop :=
  Y.length = N ∧ lnsX Y = lnsX L ∧ wr.ownsRow w.heap.size 55 2 (.slice la N lc) N (cellsX Y) ∧ (∀ i, i < k → RowX wr (Y.getD i lx0)) ∧ ∀ i, k ≤ i → i < N → Y.getD i lx0 = L.getD i lx0
theorem ClIn.step {w wr wD w2 : World} {L Y : List LX} {g lc N k : Nat} {a2 : Option Addr} {c2 : Nat} (h : ClIn w L (some ⟨g, 0, none⟩) lc N k Y wr) (hk : k < N) (hL : L.length = N) (hD : Below wr.heap.size wr wD) (h2 : Below wD.heap.size wD w2) (hO : ∃ B, w2.ownsRow B 27 2 (.slice a2 (L.getD k lx0).2.2.length c2) (L.getD k lx0).2.2.length (cellsS (L.getD k lx0).2.2)) :
    ClIn w L (some ⟨g, 0, none⟩) lc N (k + 1) (Y.set k ((Y.getD k lx0).1, .slice a2 (L.getD k lx0).2.2.length c2, (L.getD k lx0).2.2)) (w2.setCell ⟨g, k * 2 + 1, none⟩ (.slice a2 (L.getD k lx0).2.2.length c2)) := by
  obtain ⟨h1, h3, h4, h5, h6⟩ := h
  obtain ⟨B, hO⟩ := hO
  have hb := below2 hD h2
  have hO2 := own_below h4 hb
  obtain ⟨cc, fz, hh⟩ := Lib.ownsRow_kind hO2 g rfl
  have hK := KS.set (j := k * 2 + 1) hh (by decide) (.slice a2 (L.getD k lx0).2.2.length c2)
  have hYL := h6 k (Nat.le_refl _) hk
  refine ⟨by rw [List.length_set]; exact h1, ?_, ?_, fun i hi => ?_, fun i hi hN => ?_⟩
  · rw [lnsX_set, ← h3]
    refine List.ext_getElem (by simp) fun i hi1 hi2 => ?_
    rw [List.getElem_set]
    split
    · rename_i e
      subst e
      rw [← getDn (d := ln0) hi2, lnsX_getD, hYL]
    · rfl
  · rw [← cellsX_set1 Y k _ (L.getD k lx0).2.2 (by omega)]
    exact (hO2.stored (k * 2 + 1) _).1
  · by_cases hik : i = k
    · subst hik
      rw [getD_set1 (by omega)]
      obtain ⟨r1, r2⟩ := own_row hO
      exact RowX.ks (x := ((Y.getD i lx0).1, .slice a2 (L.getD i lx0).2.2.length c2, (L.getD i lx0).2.2)) ⟨_, _, _, rfl, r1, r2⟩ hK
    · rw [getD_set2 (fun e => hik e.symm)]
      exact (h5 i (by omega)).ks ((KS.of_below hb).trans hK)
  · rw [getD_set2 (by omega)]
    exact h6 i (by omega) hN
set_option maxHeartbeats 4000000 in
set_option maxRecDepth 60000 in
theorem clone_any (v : Value) (s : Shf) (w : World) (h : ShAt w v s) (hM : ShMay s) : Calls Tryz.prog 26 #[v] w fun e w' => ClPost s w e w' := by
  obtain ⟨la0, n0, c0, da0, m0, d0, rfl, hL, hDn⟩ := h
  obtain ⟨L, hRaw, hLe, hLs⟩ := raw_of hL
  have hl16 : n0 ≤ 16 := by have := hM.2.1.1; have := hL.1; omega
  have hd8 : m0 ≤ 8 := by have := hM.2.2.1; have := hDn.1; omega
  obtain ⟨ls, ds, fl⟩ := s
  simp only at hL hDn hLe
  have b0 := below2 (below_alloc w (.cells #[.slice la0 n0 c0, .slice da0 m0 d0, .int .i64 fl] 25)) (below_alloc _ (.cells #[.slice none 0 0, .slice none 0 0, .int .i64 0] 25))
  have HX := Hid.mk9 ((Bx3.new w 25 (.slice la0 n0 c0) (.slice da0 m0 d0) (.int .i64 fl)).below (below_alloc _ (.cells #[.slice none 0 0, .slice none 0 0, .int .i64 0] 25)))
  have HR : Hid (Bx3 ((w.alloc (.cells #[.slice la0 n0 c0, .slice da0 m0 d0, .int .i64 fl] 25)).alloc (.cells #[.slice none 0 0, .slice none 0 0, .int .i64 0] 25)) (w.heap.size + 1) 25 (.slice none 0 0) (.slice none 0 0) (.int .i64 0)) := by
    have := Bx3.new (w.alloc (.cells #[.slice la0 n0 c0, .slice da0 m0 d0, .int .i64 fl] 25)) 25 (.slice none 0 0) (.slice none 0 0) (.int .i64 0)
    rw [show (w.alloc (.cells #[.slice la0 n0 c0, .slice da0 m0 d0, .int .i64 fl] 25)).heap.size = w.heap.size + 1 from by simp] at this
    exact this
  have HRaw : Hid (∀ W, Below w.heap.size w W → RawX W la0 n0 c0 L) := Hid.mk9 (fun W hb => ⟨hRaw.1, hRaw.2.1, hRaw.2.2.1, hRaw.2.2.2.1.imp id (fun ⟨b, off, e, hc⟩ => ⟨b, off, e, fun j u hj => (hb.cell (World.block_lt_of_cell? w _ (hc j u hj))).trans (hc j u hj)⟩), hRaw.2.2.2.2⟩)
  have HLL : Hid (L.length = n0) := Hid.mk9 hRaw.1
  have HB := Hid.mk9 b0
  have HM := Hid.mk9 hM
  have HLs := Hid.mk9 hLs
  have HLe := Hid.mk9 hLe
  have HD := Hid.mk9 hDn
  clear b0 hRaw hM hLs hLe hDn hL
  go_enter Tryz.func26, Tryz.ntmps26
  go_upto_region 1 with fail
  generalize ((w.alloc (.cells #[.slice la0 n0 c0, .slice da0 m0 d0, .int .i64 fl] 25)).alloc (.cells #[.slice none 0 0, .slice none 0 0, .int .i64 0] 25)) = wA at *
  have HC := Hid.mk9 (copiedX_any la0 n0 c0 L wA (HRaw.out wA HB.out) (by omega))
  obtain ⟨x0, x1, x2⟩ := HX.out.cells
  have hn16 : (n0 : Int) ≤ 16 := by omega
  rw [HLL.out] at HC
  go_upto_region 2 with (go_at_call 43; refine HC.out.mono ?_; rintro e wB ⟨hbB, la, lc, rfl, hO⟩; (have y0 := (HX.out.below hbB).cells.1); (have f0 := (HX.out.below hbB).frz.1))
  have HX2 : Hid (Bx3 (wB.setCell ⟨w.heap.size, 0, none⟩ (.slice la n0 lc)) w.heap.size 25 (.slice la n0 lc) (.slice da0 m0 d0) (.int .i64 fl)) := Hid.mk9 (heap_setCell_same wB w.heap.size 0 _ _ (.slice la n0 lc) (HX.out.below hbB))
  have HR2 := Hid.mk9 ((HR.out.below hbB).kept (set_heap wB w.heap.size 0 (.slice la n0 lc) (w.heap.size + 1) (by omega)))
  have HB2 := Hid.mk9 ((below2 HB.out hbB).setCell (p := ⟨w.heap.size, 0, none⟩) (Nat.le_refl _) (.slice la n0 lc))
  have HI : Hid (ClIn w L la lc n0 0 L (wB.setCell ⟨w.heap.size, 0, none⟩ (.slice la n0 lc))) := Hid.mk9 ⟨HLL.out, rfl, own_box (own_le hO HB.out.size) (HX.out.below hbB) (by decide) _, fun i hi => absurd hi (Nat.not_lt_zero _), fun i _ _ => rfl⟩
  clear hbB hO y0 f0 x0 x1 x2 HX HR HB HC
  generalize (wB.setCell ⟨w.heap.size, 0, none⟩ (.slice la n0 lc)) = wC at *
  have x0 := HX2.out.cells.1
  go_wp2_with fail
  go_loopw [12] (fun si wr => ∃ (k : Nat) (Y : List LX), si = .int .i64 k ∧ k ≤ n0 ∧ Hid (ClIn w L la lc n0 k Y wr) ∧ Hid (Bx3 wr w.heap.size 25 (.slice la n0 lc) (.slice da0 m0 d0) (.int .i64 fl)) ∧ Hid (Bx3 wr (w.heap.size + 1) 25 (.slice none 0 0) (.slice none 0 0) (.int .i64 0)) ∧ Hid (Below w.heap.size w wr)) (fun i _ => n0 - (intOf i).toNat)
  case atStart => exact ⟨0, L, rfl, Nat.zero_le _, HI, HX2, HR2, HB2⟩
  case round =>
    obtain ⟨k, Y, rfl, hkN, hI, hX, hR, hB⟩ := hrel
    clear HI HX2 HR2 HB2 x0
    by_cases hlt : k < n0
    · have hk1 : (k : Int) < (n0 : Int) := by omega
      have hk0 : (0 : Int) ≤ (k : Int) := by omega
      have hYk := hI.out.2.2.2.2 k (Nat.le_refl _) hlt
      obtain ⟨g, cp, eg, hgl⟩ := own_some hI.out.2.2.1 (by omega)
      injection eg with e1 e2 e3
      subst e1 e3
      have hm : L.getD k lx0 ∈ L := by rw [getDn (by have := HLL.out; omega)]; exact List.getElem_mem _
      obtain ⟨a, n, c, e4, hs⟩ := HLs.out _ hm
      have q := cellsX_at Y k (by have := hI.out.1; omega)
      have c3 := (hI.out.2.2.1.cellAt (k * 2) (by omega)).trans q.1
      have c4 := (hI.out.2.2.1.cellAt (k * 2 + 1) (by omega)).trans q.2
      rw [hYk] at c3 c4
      rw [e4] at c4
      have HSW := Hid.mk9 (hs.below hB.out)
      have hn64 : n ≤ 1000 := by
        have h1 := hs.1
        have h2 : ((lnsX L).getD k ln0).2.length ≤ 64 := by
          rw [HLe.out]
          exact (HM.out.2.1.2 k (by have := congrArg List.length HLe.out; simp [lnsX] at this; have := HLL.out; simp only; omega)).2.2.2.1.1
        rw [lnsX_getD] at h2
        simp only at h2
        omega
      obtain ⟨sn, hsn⟩ : ∃ sn, (L.getD k lx0).1 = sn := ⟨_, rfl⟩
      rw [hsn] at c3
      have HBB := Hid.mk9 (below_alloc wr (.cells #[.string sn, .slice a n c] 55))
      have HLB := Hid.mk9 ((Bx2.new wr 55 (.string sn) (.slice a n c)).cells.2)
      clear hs hsn q hm hYk e4
      go_upto_region 5 with fail
      generalize (wr.alloc (.cells #[.string sn, .slice a n c] 55)) = wD at *
      have hXD := hX.out.below HBB.out
      have d0' := hXD.cells.1
      have d4 := kept3 c4 HBB.out
      have dfz := frz_kept c4 (hI.out.2.2.1.frozenAt _) HBB.out
      refine cl_5 _ _ _ _ _ _ _ _ _ _ _ _ _ _ _ _ _ _ _ _ _ _ _ _ _ _ _ _ w.heap.size wr.heap.size g k n0 lc n c a (.slice a n c) ((L.getD k lx0).2.2) wD _ d0' HLB.out d4 dfz hk0 hk1 (HSW.out.below HBB.out) hn64 (Hid.mk9 (fun u17 u18 u19 u20 u21 u22 u23 u24 a2 c2 w2 wE hb2 hO2 hwE => ?_))
      have HIE : Hid (ClIn w L (some ⟨g, 0, none⟩) lc n0 (k + 1) _ wE) := Hid.mk9 (by rw [hwE]; exact hI.out.step hlt HLL.out HBB.out hb2 hO2)
      have hgw : w.heap.size ≤ g := (hI.out.2.2.1.lt g rfl).1
      obtain ⟨cc, fz, hh⟩ := Lib.ownsRow_kind (own_below hI.out.2.2.1 (below2 HBB.out hb2)) g rfl
      have hXE := hXD.below hb2
      have hRE := (hR.out.below HBB.out).below hb2
      have HXE : Hid (Bx3 wE w.heap.size 25 (.slice (some ⟨g, 0, none⟩) n0 lc) (.slice da0 m0 d0) (.int .i64 fl)) := Hid.mk9 (by
        rw [hwE]
        refine hXE.kept (set_heap w2 g (k * 2 + 1) _ w.heap.size (fun e => ?_))
        have h1 : w2.heap[w.heap.size]? = _ := hXE
        rw [e, hh] at h1
        injection h1 with h1
        injection h1 with _ e2
        exact absurd e2 (by decide))
      have HRE : Hid (Bx3 wE (w.heap.size + 1) 25 (.slice none 0 0) (.slice none 0 0) (.int .i64 0)) := Hid.mk9 (by
        rw [hwE]
        refine hRE.kept (set_heap w2 g (k * 2 + 1) _ (w.heap.size + 1) (fun e => ?_))
        have h1 : w2.heap[w.heap.size + 1]? = _ := hRE
        rw [e, hh] at h1
        injection h1 with h1
        injection h1 with _ e2
        exact absurd e2 (by decide))
      have HBE : Hid (Below w.heap.size w wE) := Hid.mk9 (by rw [hwE]; exact ((hB.out.trans ((below2 HBB.out hb2).mono hB.out.size)).setCell (p := ⟨g, k * 2 + 1, none⟩) hgw _))
      clear hb2 hO2 hwE hh hXE hRE hXD d0' d4 dfz c3 c4 HSW HBB HLB hI hX hR hB
      go_wp2_with fail
      exact ⟨⟨k + 1, _, by go_num, by omega, HIE, HXE, HRE, HBE⟩, by simp [intOf]; omega⟩
    · have hkz : ¬ (k : Int) < (n0 : Int) := by omega
      have hkE : k = n0 := by omega
      subst hkE
      have HC := Hid.mk9 (copiedD_any da0 m0 d0 ds wr (HD.out.below hB.out) (by omega))
      rw [HD.out.1] at HC
      obtain ⟨x0, x1, x2⟩ := hX.out.cells
      go_upto_region 8 with (go_at_call 45; refine HC.out.mono ?_; rintro e wE ⟨hbE, da, dc, rfl, hO⟩; (have y1 := (hX.out.below hbE).cells.2.1); (have f1 := (hX.out.below hbE).frz.2.1))
      have hXE := hX.out.below hbE
      have HX3 : Hid (Bx3 (wE.setCell ⟨w.heap.size, 1, none⟩ (.slice da m0 dc)) w.heap.size 25 (.slice la k lc) (.slice da m0 dc) (.int .i64 fl)) := Hid.mk9 (heap_setCell_same wE w.heap.size 1 _ _ (.slice da m0 dc) hXE)
      have HR3 := Hid.mk9 ((hR.out.below hbE).kept (set_heap wE w.heap.size 1 (.slice da m0 dc) (w.heap.size + 1) (by omega)))
      have HB3 := Hid.mk9 ((hB.out.trans (hbE.mono hB.out.size)).setCell (p := ⟨w.heap.size, 1, none⟩) (Nat.le_refl _) (.slice da m0 dc))
      have HLR : Hid (LvR w.heap.size la lc Y da dc ds (wE.setCell ⟨w.heap.size, 1, none⟩ (.slice da m0 dc))) := Hid.mk9 (by
        have hlr : LvR w.heap.size la lc Y da dc ds wE := by
          refine ⟨?_, fun x hx => ?_, ?_⟩
          · rw [hI.out.1]; exact own_below hI.out.2.2.1 hbE
          · obtain ⟨i, hi, rfl⟩ := List.getElem_of_mem hx
            have := hI.out.2.2.2.1 i (by have := hI.out.1; omega)
            rw [getDn hi] at this
            exact this.ks (KS.of_below hbE)
          · rw [HD.out.1]; exact own_le hO hB.out.size
        exact hlr.set_box hXE _)
      have HYL := Hid.mk9 (hI.out.2.1.trans HLe.out)
      have HYN : Hid (Y.length = k) := Hid.mk9 hI.out.1
      clear hbE hO y1 f1 x0 x1 x2 hXE hI hX hR hB HC
      generalize (wE.setCell ⟨w.heap.size, 1, none⟩ (.slice da m0 dc)) = wF at *
      obtain ⟨x0, x1, x2⟩ := HX3.out.cells
      obtain ⟨r0, r1, r2⟩ := HR3.out.cells
      obtain ⟨g0, g1, g2⟩ := HR3.out.frz
      have HRs := Hid.mk9 (HR3.out.set (.slice la k lc) (.slice da m0 dc) (.int .i64 fl))
      have HBs := Hid.mk9 (put3_below HB3.out (b := w.heap.size + 1) (by omega) (.slice la k lc) (.slice da m0 dc) (.int .i64 fl))
      have HLs : Hid (LvR w.heap.size la lc Y da dc ds (put3 wF (w.heap.size + 1) (.slice la k lc) (.slice da m0 dc) (.int .i64 fl))) := Hid.mk9 (by
        have h0 := heap_setCell_same wF (w.heap.size + 1) 0 _ _ (.slice la k lc) HR3.out
        have h1 := heap_setCell_same _ (w.heap.size + 1) 1 _ _ (.slice da m0 dc) h0
        exact ((HLR.out.set_box HR3.out _).set_box h0 _).set_box h1 _)
      clear HR3 HX3 HB3 HLR
      go_wp2_with fail
      refine bodyPost_ret (retS rfl _ _ (w.heap.size + 1) (.slice la k lc) (.slice da m0 dc) (.int .i64 fl) rfl HRs.out) rfl ?_
      refine ⟨la, lc, Y, da, dc, ?_, HYL.out, HLs.out, HBs.out⟩
      rw [HYN.out, HD.out.1]
end Go.Proofs.YtihohcmocejijaaGreat.Bk
namespace Go.Proofs.YtihohcmocejijaaGreat.Bk
open Go.ChangeShapes Go.WideShapes Go.ChangeAt Go.RowKit
set_option maxHeartbeats 4000000 in
set_option maxRecDepth 60000 in
theorem do_5 (t0 t1 t2 t3 t6 t9 t10 t11 t12 t13 t14 t15 t16 t17 t18 t19 t20 t21 t22 t23 t24 : Value) (rb qb ob ab ln lc dn dc : Nat) (la da : Option Addr) (fl z0 z2 : Int) (z1 : Bool) (r0 r1 r2 s0 s1 s2 : Value) (w1 : World) (Q : Exit → Act → World → Prop)
    (hob : Bx3 w1 ob 25 (.slice la ln lc) (.slice da dn dc) (.int .i64 fl)) (hab : Bx3 w1 ab 37 (.int .i64 z0) (.bool z1) (.int .i64 z2)) (hrb : Bx3 w1 rb 25 r0 r1 r2) (hqb : Bx3 w1 qb 37 s0 s1 s2) (n1 : ob ≠ rb) (n2 : ab ≠ rb) (n3 : qb ≠ rb) (n4 : ob ≠ qb) (n5 : ab ≠ qb)
    (hQ : Hid (∀ (u23 u24 : Value) (wC : World), wC = (put3 (put3 w1.drew rb (.slice la ln lc) (.slice da dn dc) (.int .i64 fl)) qb (.int .i64 z0) (.bool z1) (.int .i64 z2)) → Q .normal ⟨#[t0, t1, t2, t3, .pointer (some ⟨rb, 0, none⟩), .pointer (some ⟨qb, 0, none⟩), .int .i64 0, .pointer (some ⟨ob, 0, none⟩), .pointer (some ⟨ab, 0, none⟩), t9, t10, t11, t12, t13, t14, t15, t16, t17, t18, t19, t20, t21, t22, u23, u24], []⟩ wC)) :
    Code.wp Tryz.prog ((Tryz.f10.body.bind (regionOf 5)).getD .skip) Q ⟨#[t0, t1, t2, t3, .pointer (some ⟨rb, 0, none⟩), .pointer (some ⟨qb, 0, none⟩), t6, .pointer (some ⟨ob, 0, none⟩), .pointer (some ⟨ab, 0, none⟩), t9, t10, t11, t12, t13, t14, t15, t16, t17, t18, t19, t20, t21, t22, t23, t24], []⟩ w1 := by
  have hS : (fun w' => Bx3 w' ob 25 (.slice la ln lc) (.slice da dn dc) (.int .i64 fl) ∧ Bx3 w' ab 37 (.int .i64 z0) (.bool z1) (.int .i64 z2)) w1.drew := ⟨hob, hab⟩
  conv => arg 2; whnf
  refine held_start (S := fun w' => Bx3 w' ob 25 (.slice la ln lc) (.slice da dn dc) (.int .i64 fl) ∧ Bx3 w' ab 37 (.int .i64 z0) (.bool z1) (.int .i64 z2)) mixed9 ?_
  have hrz : Bx3 w1.drew rb 25 r0 r1 r2 := hrb
  have hqz : Bx3 w1.drew qb 37 s0 s1 s2 := hqb
  generalize w1.drew = wz at *
  refine held_take (i := 0) (v := .agg #[(.slice la ln lc), (.slice da dn dc), (.int .i64 fl)]) rfl (by kernel_rfl) (fun _ _ _ h => h) (.inl ⟨rfl, fun w hS => ?_⟩) hS ?_
  · obtain ⟨q0, q1⟩ := hS
    obtain ⟨c0, c1, c2⟩ := q0.cells
    go_simp
  try simp only [Act.put, List.setIfInBounds_toArray, List.set_cons_zero, List.set_cons_succ]
  refine held_take (i := 1) (v := .agg #[(.int .i64 z0), (.bool z1), (.int .i64 z2)]) rfl (by kernel_rfl) (fun _ _ _ h => h) (.inl ⟨rfl, fun w hS => ?_⟩) hS ?_
  · obtain ⟨q0, q1⟩ := hS
    obtain ⟨c0, c1, c2⟩ := q1.cells
    go_simp
  try simp only [Act.put, List.setIfInBounds_toArray, List.set_cons_zero, List.set_cons_succ]
  refine held_one (i := 2) (by kernel_rfl) rfl rfl ?_
  intro K hK
  obtain ⟨c0, c1, c2⟩ := hrz.cells
  obtain ⟨f0, f1, f2⟩ := hrz.frz
  go_simp
  have hN : (fun w' => Bx3 w' ob 25 (.slice la ln lc) (.slice da dn dc) (.int .i64 fl) ∧ Bx3 w' ab 37 (.int .i64 z0) (.bool z1) (.int .i64 z2)) (put3 wz rb (.slice la ln lc) (.slice da dn dc) (.int .i64 fl)) := ⟨hS.1.kept (put3_else (.slice la ln lc) (.slice da dn dc) (.int .i64 fl) n1), hS.2.kept (put3_else (.slice la ln lc) (.slice da dn dc) (.int .i64 fl) n2)⟩
  show K _ (put3 wz rb (.slice la ln lc) (.slice da dn dc) (.int .i64 fl))
  refine hK.out _ _ hN ?_
  clear hK hS c0 c1 c2 f0 f1 f2
  have hS := hN
  clear hN
  try simp only [Act.put, List.setIfInBounds_toArray, List.set_cons_zero, List.set_cons_succ]
  refine held_one (i := 3) (by kernel_rfl) rfl rfl ?_
  intro K hK
  obtain ⟨c0, c1, c2⟩ := (hqz.kept (put3_else (.slice la ln lc) (.slice da dn dc) (.int .i64 fl) n3)).cells
  obtain ⟨f0, f1, f2⟩ := (hqz.kept (put3_else (.slice la ln lc) (.slice da dn dc) (.int .i64 fl) n3)).frz
  go_simp
  have hN : (fun w' => Bx3 w' ob 25 (.slice la ln lc) (.slice da dn dc) (.int .i64 fl) ∧ Bx3 w' ab 37 (.int .i64 z0) (.bool z1) (.int .i64 z2)) (put3 (put3 wz rb (.slice la ln lc) (.slice da dn dc) (.int .i64 fl)) qb (.int .i64 z0) (.bool z1) (.int .i64 z2)) := ⟨hS.1.kept (put3_else (.int .i64 z0) (.bool z1) (.int .i64 z2) n4), hS.2.kept (put3_else (.int .i64 z0) (.bool z1) (.int .i64 z2) n5)⟩
  show K _ (put3 (put3 wz rb (.slice la ln lc) (.slice da dn dc) (.int .i64 fl)) qb (.int .i64 z0) (.bool z1) (.int .i64 z2))
  refine hK.out _ _ hN ?_
  clear hK hS c0 c1 c2 f0 f1 f2
  have hS := hN
  clear hN
  try simp only [Act.put, List.setIfInBounds_toArray, List.set_cons_zero, List.set_cons_succ]
  refine held_take (i := 4) (v := .int .i64 0) rfl (by kernel_rfl) (fun _ _ _ h => h) (.inl ⟨rfl, fun w hS => ?_⟩) hS ?_
  · obtain ⟨q0, q1⟩ := hS
    go_simp
  try simp only [Act.put, List.setIfInBounds_toArray, List.set_cons_zero, List.set_cons_succ]
  refine wpAnyH_done (by kernel_rfl) ?_ _
  refine NoPanic.normal ?_
  exact hQ.out _ _ _ rfl
theorem LvR.put {B r T : Nat} {la : Option Addr} {lc : Nat} {X : List LX} {da : Option Addr} {dc : Nat} {ds : List Dn} {w : World} {v0 v1 v2 : Value} (h : LvR B la lc X da dc ds w) (hb : Bx3 w r T v0 v1 v2) (h1 : 55 ≠ T) (h2 : 51 ≠ T) (h3 : T ≠ 27) (u0 u1 u2 : Value) : LvR B la lc X da dc ds (put3 w r u0 u1 u2) := by
  have k0 := heap_setCell_same w r 0 _ _ u0 hb
  have k1 := heap_setCell_same _ r 1 _ _ u1 k0
  exact ⟨own_box (own_box (own_box h.1 hb h1 u0) k0 h1 u1) k1 h1 u2, h.2.1.ks (((KS.set hb h3 u0).trans (KS.set k0 h3 u1)).trans (KS.set k1 h3 u2)), own_box (own_box (own_box h.2.2 hb h2 u0) k0 h2 u1) k1 h2 u2⟩
theorem LvR.shAt {B : Nat} {la : Option Addr} {lc : Nat} {X : List LX} {da : Option Addr} {dc : Nat} {ds : List Dn} {fl : Int} {w : World} (h : LvR B la lc X da dc ds w) : ShAt w (.agg #[.slice la X.length lc, .slice da ds.length dc, .int .i64 fl]) ⟨lnsX X, ds, fl⟩ :=
  ⟨la, _, lc, da, _, dc, rfl, own_lns h.1 h.2.1, own_dns h.2.2⟩
theorem LvR.below {B : Nat} {la : Option Addr} {lc : Nat} {X : List LX} {da : Option Addr} {dc : Nat} {ds : List Dn} {w w' : World} (h : LvR B la lc X da dc ds w) (hb : Below w.heap.size w w') : LvR B la lc X da dc ds w' := ⟨own_below h.1 hb, h.2.1.ks (KS.of_below hb), own_below h.2.2 hb⟩
def OwnS (w : World) (v : Value) (s : Shf) : Prop := ∃ B la lc X da dc, v = .agg #[.slice la X.length lc, .slice da s.ds.length dc, .int .i64 s.fl] ∧ lnsX X = s.ls ∧ LvR B la lc X da dc s.ds w
theorem OwnS.shAt {w : World} {v : Value} {s : Shf} (h : OwnS w v s) : ShAt w v s := by
  obtain ⟨B, la, lc, X, da, dc, rfl, hX, hR⟩ := h
  have := hR.shAt (fl := s.fl)
  rw [hX] at this
  exact this
theorem OwnS.below {w w' : World} {v : Value} {s : Shf} (h : OwnS w v s) (hb : Below w.heap.size w w') : OwnS w' v s := by
  obtain ⟨B, la, lc, X, da, dc, rfl, hX, hR⟩ := h
  exact ⟨B, la, lc, X, da, dc, rfl, hX, hR.below hb⟩
theorem OwnS.put {w : World} {v : Value} {s : Shf} {r T : Nat} {v0 v1 v2 : Value} (h : OwnS w v s) (hb : Bx3 w r T v0 v1 v2) (h1 : 55 ≠ T) (h2 : 51 ≠ T) (h3 : T ≠ 27) (u0 u1 u2 : Value) : OwnS (put3 w r u0 u1 u2) v s := by
  obtain ⟨B, la, lc, X, da, dc, rfl, hX, hR⟩ := h
  exact ⟨B, la, lc, X, da, dc, rfl, hX, hR.put hb h1 h2 h3 u0 u1 u2⟩
theorem LvR.boxed {B : Nat} {la : Option Addr} {lc : Nat} {X : List LX} {da : Option Addr} {dc : Nat} {ds : List Dn} {fl : Int} {w : World} (h : LvR B la lc X da dc ds w) (hB : B ≤ w.heap.size) : LvA B w.heap.size la lc X da dc ds fl (w.alloc (.cells #[.slice la X.length lc, .slice da ds.length dc, .int .i64 fl] 25)) :=
  ⟨heap_alloc_new w _, hB, h.below (below_alloc w _)⟩
theorem bp_yes {P : Prop} {w w' : World} {e : Ending} (h : BoolPost P w e w') (hP : P) : e = .returned (.bool true) ∧ Below w.heap.size w w' := by
  obtain ⟨hb, q, rfl, hq⟩ := h
  rw [hq.2 hP]
  exact ⟨rfl, hb⟩
theorem bp_no {P : Prop} {w w' : World} {e : Ending} (h : BoolPost P w e w') (hP : ¬ P) : e = .returned (.bool false) ∧ Below w.heap.size w w' := by
  obtain ⟨hb, q, rfl, hq⟩ := h
  cases q with
  | true => exact absurd (hq.1 rfl) hP
  | false => exact ⟨rfl, hb⟩
def DoYes (r : Shf × An) (w : World) (x : Ending) (w' : World) : Prop := Below w.heap.size w w' ∧ ∃ v, x = .returned (.tuple #[v, anV r.2, .int .i64 0]) ∧ OwnS w' v r.1
set_option maxHeartbeats 4000000 in
set_option maxRecDepth 60000 in
theorem do_yes (v : Value) (s : Shf) (e : Ent) (w : World) (h : ShAt w v s) (hM : ShMay s) (hE : EntMay e) : Calls Tryz.prog 10 #[v, entV e] w fun x w' => DoYes (doS s e) w x w' := by
  have HK : Hid (∀ W, Below w.heap.size w W → Calls Tryz.prog 11 #[v] W fun e w' => e = .returned (.int .i64 0) ∧ Below W.heap.size W w') := Hid.mk9 (fun W hb => shCheck_yes (h.below hb) hM)
  have HE : Hid (∀ W, Calls Tryz.prog 25 #[entV e] W fun x w' => x = .returned (.bool true) ∧ Below W.heap.size W w') := Hid.mk9 (fun W => (mayEnter_any e W).mono fun _ _ hp => bp_yes hp hE)
  have HCL : Hid (∀ W, Below w.heap.size w W → Calls Tryz.prog 26 #[v] W fun e w' => ClPost s W e w') := Hid.mk9 (fun W hb => clone_any v s W (h.below hb) hM)
  have HDO : Hid (∀ (B p : Nat) (la : Option Addr) (lc : Nat) (X : List LX) (da : Option Addr) (dc : Nat) (W : World), LvA B p la lc X da dc s.ds s.fl W → lnsX X = s.ls → Calls Tryz.prog 27 #[.pointer (some ⟨p, 0, none⟩), entV e] W fun x w' => TnPost B p (doS s e) W x w') := Hid.mk9 (fun B p la lc X da dc W hA hX => by
    have hm := hM.2.1
    rw [← hX] at hm
    have := doEntry_any hA hm hM.2.2 e
    rw [hX] at this
    exact this)
  obtain ⟨⟨S', e0, e1, e2⟩, hr⟩ : ∃ r, doS s e = r := ⟨_, rfl⟩
  rw [hr] at HDO ⊢
  clear hr hE
  obtain ⟨la0, n0, c0, da0, m0, d0, rfl, hL, hDn⟩ := h
  obtain ⟨ls, ds, fl⟩ := s
  obtain ⟨ep, cl, id, ok, os, ot, ov, of, ou, om⟩ := e
  simp only [entV] at HE HDO ⊢
  simp only at HCL HK HDO ⊢
  clear hL hDn hM
  have e1' : (w.alloc (.cells #[.slice la0 n0 c0, .slice da0 m0 d0, .int .i64 fl] 25)).heap.size = w.heap.size + 1 := by simp
  have e2' : ((w.alloc (.cells #[.slice la0 n0 c0, .slice da0 m0 d0, .int .i64 fl] 25)).alloc (.cells #[.int .i64 ep, .int .i64 cl, .int .i64 id, .int .i64 ok, .string os, .int .i64 ot, .int .i64 ov, .int .i64 of, .int .i64 ou, .int .i64 om] 31)).heap.size = w.heap.size + 2 := by simp
  have e3' : (((w.alloc (.cells #[.slice la0 n0 c0, .slice da0 m0 d0, .int .i64 fl] 25)).alloc (.cells #[.int .i64 ep, .int .i64 cl, .int .i64 id, .int .i64 ok, .string os, .int .i64 ot, .int .i64 ov, .int .i64 of, .int .i64 ou, .int .i64 om] 31)).alloc (.cells #[.slice none 0 0, .slice none 0 0, .int .i64 0] 25)).heap.size = w.heap.size + 3 := by simp
  have b1 := below_alloc w (.cells #[.slice la0 n0 c0, .slice da0 m0 d0, .int .i64 fl] 25)
  have b2 := below_alloc (w.alloc (.cells #[.slice la0 n0 c0, .slice da0 m0 d0, .int .i64 fl] 25)) (.cells #[.int .i64 ep, .int .i64 cl, .int .i64 id, .int .i64 ok, .string os, .int .i64 ot, .int .i64 ov, .int .i64 of, .int .i64 ou, .int .i64 om] 31)
  have b3 := below_alloc ((w.alloc (.cells #[.slice la0 n0 c0, .slice da0 m0 d0, .int .i64 fl] 25)).alloc (.cells #[.int .i64 ep, .int .i64 cl, .int .i64 id, .int .i64 ok, .string os, .int .i64 ot, .int .i64 ov, .int .i64 of, .int .i64 ou, .int .i64 om] 31)) (.cells #[.slice none 0 0, .slice none 0 0, .int .i64 0] 25)
  have b4 := below_alloc (((w.alloc (.cells #[.slice la0 n0 c0, .slice da0 m0 d0, .int .i64 fl] 25)).alloc (.cells #[.int .i64 ep, .int .i64 cl, .int .i64 id, .int .i64 ok, .string os, .int .i64 ot, .int .i64 ov, .int .i64 of, .int .i64 ou, .int .i64 om] 31)).alloc (.cells #[.slice none 0 0, .slice none 0 0, .int .i64 0] 25)) (.cells #[.int .i64 0, .bool false, .int .i64 0] 37)
  have HB := Hid.mk9 (below2 (below2 (below2 b1 b2) b3) b4)
  have HS := Hid.mk9 ((((Bx3.new w 25 (.slice la0 n0 c0) (.slice da0 m0 d0) (.int .i64 fl)).below b2).below b3).below b4)
  have HN := (((Bx10.new (w.alloc (.cells #[.slice la0 n0 c0, .slice da0 m0 d0, .int .i64 fl] 25)) 31 (.int .i64 ep) (.int .i64 cl) (.int .i64 id) (.int .i64 ok) (.string os) (.int .i64 ot) (.int .i64 ov) (.int .i64 of) (.int .i64 ou) (.int .i64 om)).below b3).below b4)
  have HR := ((Bx3.new ((w.alloc (.cells #[.slice la0 n0 c0, .slice da0 m0 d0, .int .i64 fl] 25)).alloc (.cells #[.int .i64 ep, .int .i64 cl, .int .i64 id, .int .i64 ok, .string os, .int .i64 ot, .int .i64 ov, .int .i64 of, .int .i64 ou, .int .i64 om] 31)) 25 (.slice none 0 0) (.slice none 0 0) (.int .i64 0)).below b4)
  have HQ := Bx3.new (((w.alloc (.cells #[.slice la0 n0 c0, .slice da0 m0 d0, .int .i64 fl] 25)).alloc (.cells #[.int .i64 ep, .int .i64 cl, .int .i64 id, .int .i64 ok, .string os, .int .i64 ot, .int .i64 ov, .int .i64 of, .int .i64 ou, .int .i64 om] 31)).alloc (.cells #[.slice none 0 0, .slice none 0 0, .int .i64 0] 25)) 37 (.int .i64 0) (.bool false) (.int .i64 0)
  rw [e1'] at HN
  rw [e2'] at HR
  rw [e3'] at HQ
  replace HN := Hid.mk9 HN
  replace HR := Hid.mk9 HR
  replace HQ := Hid.mk9 HQ
  clear b1 b2 b3 b4 e1' e2' e3'
  go_enter Tryz.func10, Tryz.ntmps10
  go_upto_region 1 with fail
  generalize ((((w.alloc (.cells #[.slice la0 n0 c0, .slice da0 m0 d0, .int .i64 fl] 25)).alloc (.cells #[.int .i64 ep, .int .i64 cl, .int .i64 id, .int .i64 ok, .string os, .int .i64 ot, .int .i64 ov, .int .i64 of, .int .i64 ou, .int .i64 om] 31)).alloc (.cells #[.slice none 0 0, .slice none 0 0, .int .i64 0] 25)).alloc (.cells #[.int .i64 0, .bool false, .int .i64 0] 37)) = wA at *
  have hC := HK.out wA HB.out
  have HCA := Hid.mk9 hC
  clear hC
  obtain ⟨x0, x1, x2⟩ := HS.out.cells
  go_upto_region 3 with (first | (go_at_call 11; refine HCA.out.mono ?_; rintro e wB ⟨rfl, hbB⟩; (have HSB := Hid.mk9 (HS.out.below hbB)); (have HNB := Hid.mk9 (HN.out.below hbB)); (have HRB := Hid.mk9 (HR.out.below hbB)); (have HQB := Hid.mk9 (HQ.out.below hbB)); (have HBB := Hid.mk9 (below2 HB.out hbB)); clear hbB HS HN HR HQ HB; (obtain ⟨y0, y1, y2, y3, y4, y5, y6, y7, y8, y9⟩ := HNB.out.cells)) | (go_at_call 25; refine (HE.out _).mono ?_; rintro e wC ⟨rfl, hbC⟩))
  replace HSB := Hid.mk9 (HSB.out.below hbC)
  replace HNB := Hid.mk9 (HNB.out.below hbC)
  replace HRB := Hid.mk9 (HRB.out.below hbC)
  replace HQB := Hid.mk9 (HQB.out.below hbC)
  replace HBB := Hid.mk9 (below2 HBB.out hbC)
  clear hbC y0 y1 y2 y3 y4 y5 y6 y7 y8 y9 x0 x1 x2 HCA HE HK
  obtain ⟨x0, x1, x2⟩ := HSB.out.cells
  have HC := Hid.mk9 (HCL.out wC HBB.out)
  go_upto_region 4 with (go_at_call 26; refine HC.out.mono ?_; rintro e wD ⟨la, lc, X, da, dc, rfl, hX, hR, hbD⟩)
  have b1 := below_alloc wD (.cells #[.slice la X.length lc, .slice da ds.length dc, .int .i64 fl] 25)
  have hwD : w.heap.size ≤ wD.heap.size := Nat.le_trans HBB.out.size hbD.size
  have HA := Hid.mk9 ((show LvR wC.heap.size la lc X da dc ds wD from hR).boxed (fl := fl) hbD.size)
  have HXX := Hid.mk9 hX
  have HSZ : Hid (w.heap.size + 3 < wD.heap.size) := Hid.mk9 (Nat.lt_of_lt_of_le HQB.out.lt hbD.size)
  have hbD1 := below2 hbD b1
  replace HNB := Hid.mk9 (HNB.out.below hbD1)
  replace HRB := Hid.mk9 (HRB.out.below hbD1)
  replace HQB := Hid.mk9 (HQB.out.below hbD1)
  have HWC : Hid (w.heap.size ≤ wC.heap.size) := Hid.mk9 HBB.out.size
  replace HBB := Hid.mk9 (below2 HBB.out hbD1)
  clear b1 hX hR hbD hbD1 HSB x0 x1 x2 HC HCL
  generalize (wD.alloc (.cells #[.slice la X.length lc, .slice da ds.length dc, .int .i64 fl] 25)) = wE at *
  have HC := Hid.mk9 (HDO.out _ _ _ _ _ _ _ wE HA.out HXX.out)
  obtain ⟨y0, y1, y2, y3, y4, y5, y6, y7, y8, y9⟩ := HNB.out.cells
  go_upto_region 5 with (go_at_call 27; refine HC.out.mono ?_; rintro e wF ⟨rfl, ⟨la2, lc2, X2, da2, dc2, hA2, hX2⟩, hbF, hkF⟩; simp only [anV])
  have b1 := below_alloc wF (.cells #[.int .i64 e0, .bool e1, .int .i64 e2] 37)
  have hA3 := hA2.below b1
  have hRR := (HRB.out.kp hkF (by have := HSZ.out; omega) (by decide) (by decide)).below b1
  have hQQ := (HQB.out.kp hkF (by have := HSZ.out; omega) (by decide) (by decide)).below b1
  have hAB := Bx3.new wF 37 (.int .i64 e0) (.bool e1) (.int .i64 e2)
  have hwF : wD.heap.size < wF.heap.size := hA2.lt
  have hB9 : Below w.heap.size w (wF.alloc (.cells #[.int .i64 e0, .bool e1, .int .i64 e2] 37)) := (HBB.out.trans (hbF.mono HWC.out)).trans (b1.mono (Nat.le_trans hwD (Nat.le_of_lt hwF)))
  generalize (wF.alloc (.cells #[.int .i64 e0, .bool e1, .int .i64 e2] 37)) = wG at *
  have hz := HSZ.out
  refine do_5 _ _ _ _ _ _ _ _ _ _ _ _ _ _ _ _ _ _ _ _ _ (w.heap.size + 2) (w.heap.size + 3) wD.heap.size wF.heap.size X2.length lc2 S'.ds.length dc2 la2 da2 S'.fl e0 e2 e1 _ _ _ _ _ _ wG _ hA3.box hAB hRR hQQ (by omega) (by omega) (by omega) (by omega) (by omega) (Hid.mk9 (fun u23 u24 wH hwH => ?_))
  have hRs := (show Bx3 wG.drew _ _ _ _ _ from hRR).set (.slice la2 X2.length lc2) (.slice da2 S'.ds.length dc2) (.int .i64 S'.fl)
  have hQn := (show Bx3 wG.drew _ _ _ _ _ from hQQ).kept (put3_else (b := w.heap.size + 2) (.slice la2 X2.length lc2) (.slice da2 S'.ds.length dc2) (.int .i64 S'.fl) (by omega))
  have hR9 := hRs.kept (put3_else (b := w.heap.size + 3) (.int .i64 e0) (.bool e1) (.int .i64 e2) (by omega))
  have hQ9 := hQn.set (.int .i64 e0) (.bool e1) (.int .i64 e2)
  have hL9 := ((hA3.below (below_drew wG)).rows.put (show Bx3 wG.drew _ _ _ _ _ from hRR) (by decide) (by decide) (by decide) (.slice la2 X2.length lc2) (.slice da2 S'.ds.length dc2) (.int .i64 S'.fl)).put hQn (by decide) (by decide) (by decide) (.int .i64 e0) (.bool e1) (.int .i64 e2)
  have hBB := put3_below (put3_below (hB9.trans ((below_drew wG).mono hB9.size)) (b := w.heap.size + 2) (by omega) (.slice la2 X2.length lc2) (.slice da2 S'.ds.length dc2) (.int .i64 S'.fl)) (b := w.heap.size + 3) (by omega) (.int .i64 e0) (.bool e1) (.int .i64 e2)
  rw [← hwH] at hR9 hQ9 hL9 hBB
  have HF : Hid (DoYes (S', ⟨e0, e1, e2⟩) w (.returned (.tuple #[.agg #[.slice la2 X2.length lc2, .slice da2 S'.ds.length dc2, .int .i64 S'.fl], .agg #[.int .i64 e0, .bool e1, .int .i64 e2], .int .i64 0])) wH) := Hid.mk9 ⟨hBB, _, rfl, _, _, _, X2, _, _, rfl, hX2, hL9⟩
  have HR9 := Hid.mk9 hR9
  have HQ9 := Hid.mk9 hQ9
  clear hRs hQn hR9 hQ9 hL9 hBB hwH hz hB9 hwF hAB hQQ hRR hA3 b1 hA2 hX2 hbF hkF
  go_wp2_with fail
  exact bodyPost_ret (retDo rfl _ _ (w.heap.size + 2) (w.heap.size + 3) _ _ _ _ _ _ (.int .i64 0) rfl rfl rfl HR9.out HQ9.out) rfl HF.out
end Go.Proofs.YtihohcmocejijaaGreat.Bk
