/-
  Pick: the best, place by place; its drawn region.
-/
import Derived.Test.YtejhmacbbdnlbaaAcAg
namespace Go.Proofs.Ytejhmacbbdnlbaa.Ac
open Go.ChangeShapes Go.WideShapes Go.ChangeAt Go.RowKit
/-- a list of lists of what was accepted -/
def LisAt (w : World) (a : Option Addr) (n c : Nat) (H : List (List Acd)) : Prop := H.length = n ∧ n ≤ c ∧ c ≤ maxLen ∧ (n = 0 ∨ ∃ b off, a = some ⟨b, off, none⟩ ∧ ∀ i, i < n → ∃ a' l' c', w.cell? ⟨b, off + i, none⟩ = some (.slice a' l' c') ∧ AcsAt w a' l' c' (H.getD i []))
theorem LisAt.at {w : World} {a : Option Addr} {n c : Nat} {H : List (List Acd)} (h : LisAt w a n c H) {i : Nat} (hi : i < n) : ∃ b off, a = some ⟨b, off, none⟩ ∧ ∃ a' l' c', AcsAt w a' l' c' (H.getD i []) ∧ ∀ w', Below w.heap.size w w' → w'.cell? ⟨b, off + i, none⟩ = some (.slice a' l' c') := by
  rcases h.2.2.2 with h0 | ⟨b, off, e, hc⟩
  · omega
  · obtain ⟨a', l', c', h1, h2⟩ := hc i hi
    exact ⟨b, off, e, a', l', c', h2, fun w' hw => (hw.cell (p := ⟨b, off + i, none⟩) (World.block_lt_of_cell? w ⟨b, off + i, none⟩ h1)).trans h1⟩
/-- the best of these lists, place by place -/
def Bst (H : List (List Acd)) (best : List Acd) : Prop := (∀ t ∈ H, t.length ≤ best.length) ∧ ∀ i, i < best.length → (∃ t ∈ H, i < t.length ∧ t.getD i acd0 = best.getD i acd0) ∧ ∀ t ∈ H, i < t.length → (t.getD i acd0).b ≤ (best.getD i acd0).b
theorem bst_nil : Bst [] [] := ⟨by simp, by simp⟩
theorem getD_app_lt {α : Type} {l m : List α} {i : Nat} {d : α} (h : i < l.length) : (l ++ m).getD i d = l.getD i d := by
  rw [List.getD_eq_getElem?_getD, List.getElem?_append_left h, List.getD_eq_getElem?_getD]
theorem getD_app_at {α : Type} {l : List α} {x d : α} : (l ++ [x]).getD l.length d = x := by simp
theorem getD_set {α : Type} {l : List α} {i k : Nat} {x d : α} (hk : k < l.length) : (l.set k x).getD i d = if i = k then x else l.getD i d := by
  rw [List.getD_eq_getElem?_getD, set_getG]
  by_cases e : i = k
  · subst e
    rw [if_pos rfl, if_pos hk, if_pos rfl]; rfl
  · rw [if_neg e, if_neg e, List.getD_eq_getElem?_getD]
theorem take_getD {t : List Acd} {n i : Nat} (h : i < n) : (t.take n).getD i acd0 = t.getD i acd0 := by
  rw [List.getD_eq_getElem?_getD, List.getElem?_take, if_pos h, List.getD_eq_getElem?_getD]
/-- behind the next element of the list that is at hand: it is appended -/
theorem bst_app {H : List (List Acd)} {t best : List Acd} {n : Nat} (h : Bst (H ++ [t.take n]) best) (hn : n < t.length) (hb : n = best.length) : Bst (H ++ [t.take (n + 1)]) (best ++ [t.getD n acd0]) := by
  have hl : (t.take (n + 1)).length = n + 1 := by rw [List.length_take]; omega
  have hl0 : (t.take n).length = n := by rw [List.length_take]; omega
  refine ⟨fun u hu => ?_, fun i hi => ?_⟩
  · rw [List.length_append]
    rcases List.mem_append.1 hu with hu | hu
    · have := h.1 u (List.mem_append_left _ hu); simp; omega
    · obtain rfl : u = t.take (n + 1) := by simpa using hu
      rw [hl]; simp; omega
  · rw [List.length_append] at hi
    by_cases e : i < best.length
    · rw [getD_app_lt e]
      obtain ⟨⟨u, hu, h1, h2⟩, h3⟩ := h.2 i e
      refine ⟨?_, fun v hv hiv => ?_⟩
      · rcases List.mem_append.1 hu with hu | hu
        · exact ⟨u, List.mem_append_left _ hu, h1, h2⟩
        · obtain rfl : u = t.take n := by simpa using hu
          exact ⟨t.take (n + 1), by simp, by omega, by rw [take_getD (by omega), ← h2, take_getD (by omega)]⟩
      · rcases List.mem_append.1 hv with hv | hv
        · exact h3 v (List.mem_append_left _ hv) hiv
        · obtain rfl : v = t.take (n + 1) := by simpa using hv
          have := h3 (t.take n) (by simp) (by omega)
          rw [take_getD (by omega)] at this ⊢
          exact this
    · have ei : i = best.length := by simp at hi; omega
      subst ei
      rw [getD_app_at]
      refine ⟨⟨t.take (n + 1), by simp, by omega, by rw [take_getD (by omega), hb]⟩, fun v hv hiv => ?_⟩
      rcases List.mem_append.1 hv with hv | hv
      · have := h.1 v (List.mem_append_left _ hv); omega
      · obtain rfl : v = t.take (n + 1) := by simpa using hv
        rw [take_getD (by omega), hb]
        exact Int.le_refl _
theorem bst_set {H : List (List Acd)} {t best : List Acd} {n : Nat} (h : Bst (H ++ [t.take n]) best) (hn : n < t.length) (hb : n < best.length) (hgt : (best.getD n acd0).b < (t.getD n acd0).b) : Bst (H ++ [t.take (n + 1)]) (best.set n (t.getD n acd0)) := by
  have hl : (t.take (n + 1)).length = n + 1 := by rw [List.length_take]; omega
  have hl0 : (t.take n).length = n := by rw [List.length_take]; omega
  refine ⟨fun u hu => ?_, fun i hi => ?_⟩
  · rw [List.length_set]
    rcases List.mem_append.1 hu with hu | hu
    · exact h.1 u (List.mem_append_left _ hu)
    · obtain rfl : u = t.take (n + 1) := by simpa using hu
      omega
  · rw [List.length_set] at hi
    rw [getD_set hb]
    obtain ⟨⟨u, hu, h1, h2⟩, h3⟩ := h.2 i hi
    by_cases e : i = n
    · subst e
      rw [if_pos rfl]
      refine ⟨⟨t.take (i + 1), by simp, by omega, take_getD (by omega)⟩, fun v hv hiv => ?_⟩
      rcases List.mem_append.1 hv with hv | hv
      · have := h3 v (List.mem_append_left _ hv) hiv; omega
      · obtain rfl : v = t.take (i + 1) := by simpa using hv
        rw [take_getD (by omega)]; exact Int.le_refl _
    · rw [if_neg e]
      refine ⟨?_, fun v hv hiv => ?_⟩
      · rcases List.mem_append.1 hu with hu | hu
        · exact ⟨u, List.mem_append_left _ hu, h1, h2⟩
        · obtain rfl : u = t.take n := by simpa using hu
          exact ⟨t.take (n + 1), by simp, by omega, by rw [take_getD (by omega), ← h2, take_getD (by omega)]⟩
      · rcases List.mem_append.1 hv with hv | hv
        · exact h3 v (List.mem_append_left _ hv) hiv
        · obtain rfl : v = t.take (n + 1) := by simpa using hv
          have := h3 (t.take n) (by simp) (by omega)
          rw [take_getD (by omega)] at this ⊢
          exact this
theorem bst_not {H : List (List Acd)} {t best : List Acd} {n : Nat} (h : Bst (H ++ [t.take n]) best) (hn : n < t.length) (hb : n < best.length) (hle : (t.getD n acd0).b ≤ (best.getD n acd0).b) : Bst (H ++ [t.take (n + 1)]) best := by
  have hl : (t.take (n + 1)).length = n + 1 := by rw [List.length_take]; omega
  have hl0 : (t.take n).length = n := by rw [List.length_take]; omega
  refine ⟨fun u hu => ?_, fun i hi => ?_⟩
  · rcases List.mem_append.1 hu with hu | hu
    · exact h.1 u (List.mem_append_left _ hu)
    · obtain rfl : u = t.take (n + 1) := by simpa using hu
      omega
  · obtain ⟨⟨u, hu, h1, h2⟩, h3⟩ := h.2 i hi
    refine ⟨?_, fun v hv hiv => ?_⟩
    · rcases List.mem_append.1 hu with hu | hu
      · exact ⟨u, List.mem_append_left _ hu, h1, h2⟩
      · obtain rfl : u = t.take n := by simpa using hu
        exact ⟨t.take (n + 1), by simp, by omega, by rw [take_getD (by omega), ← h2, take_getD (by omega)]⟩
    · rcases List.mem_append.1 hv with hv | hv
      · exact h3 v (List.mem_append_left _ hv) hiv
      · obtain rfl : v = t.take (n + 1) := by simpa using hv
        by_cases e : i = n
        · subst e
          rw [take_getD (by omega)]
          exact hle
        · have := h3 (t.take n) (by simp) (by omega)
          rw [take_getD (by omega)] at this ⊢
          exact this
/-- the next list is begun; the list at hand is done -/
theorem bst_next {H : List (List Acd)} {best t : List Acd} (h : Bst H best) : Bst (H ++ [t.take 0]) best := by
  refine ⟨fun u hu => ?_, fun i hi => ?_⟩
  · rcases List.mem_append.1 hu with hu | hu
    · exact h.1 u hu
    · obtain rfl : u = t.take 0 := by simpa using hu
      simp
  · obtain ⟨⟨u, hu, h1, h2⟩, h3⟩ := h.2 i hi
    refine ⟨⟨u, List.mem_append_left _ hu, h1, h2⟩, fun v hv hiv => ?_⟩
    rcases List.mem_append.1 hv with hv | hv
    · exact h3 v hv hiv
    · obtain rfl : v = t.take 0 := by simpa using hv
      simp at hiv
/-- what is told: none where the ballot is 0 -/
def fixA (x : Acd) : Acd := if x.b = 0 then acd0 else x
theorem OwnB.set8 {w0 w : World} {n g cap k : Nat} {ls : List Acd} (hl0 : ls.length = n) (h : OwnB w0 w (.slice (some ⟨g, 0, none⟩) n cap) ls) (hk : k < n) (c : Cel) (hn : RowI w0 c.a c.l c.c c.x.d.ns) :
    OwnB w0 (((((((((w.setCell ⟨g, k * 8 + 0, none⟩ (.int .i64 c.x.b)).setCell ⟨g, k * 8 + 1, none⟩ (.int .i64 c.x.d.k)).setCell ⟨g, k * 8 + 2, none⟩ (.int .i64 c.x.d.id)).setCell ⟨g, k * 8 + 3, none⟩ (.int .i64 c.x.d.zn)).setCell ⟨g, k * 8 + 4, none⟩ (.int .i64 c.x.d.rk)).setCell ⟨g, k * 8 + 5, none⟩ (.int .i64 c.x.d.wt)).setCell ⟨g, k * 8 + 6, none⟩ (.int .i64 c.x.d.g)).setCell ⟨g, k * 8 + 7, none⟩ (.slice c.a c.l c.c))) (.slice (some ⟨g, 0, none⟩) n cap) (ls.set k c.x) ∧ w.grownBy (((((((((w.setCell ⟨g, k * 8 + 0, none⟩ (.int .i64 c.x.b)).setCell ⟨g, k * 8 + 1, none⟩ (.int .i64 c.x.d.k)).setCell ⟨g, k * 8 + 2, none⟩ (.int .i64 c.x.d.id)).setCell ⟨g, k * 8 + 3, none⟩ (.int .i64 c.x.d.zn)).setCell ⟨g, k * 8 + 4, none⟩ (.int .i64 c.x.d.rk)).setCell ⟨g, k * 8 + 5, none⟩ (.int .i64 c.x.d.wt)).setCell ⟨g, k * 8 + 6, none⟩ (.int .i64 c.x.d.g)).setCell ⟨g, k * 8 + 7, none⟩ (.slice c.a c.l c.c))) (some g) := by
  subst hl0
  obtain ⟨L, h1, h2, h3⟩ := h
  have hkL : k < L.length := by rw [← h1, List.length_map] at hk; exact hk
  obtain ⟨r, gb⟩ := row_store8 h2 k hkL c
  refine ⟨⟨L.set k c, by rw [List.map_set, h1], by rw [List.length_set]; exact r, fun y hy => ?_⟩, gb⟩
  rcases List.mem_or_eq_of_mem_set hy with hy | rfl
  · exact h3 y hy
  · exact hn
theorem OwnB.part {w0 w : World} {v : Value} {ls : List Acd} (h : OwnB w0 w v ls) : PartA w0 w w0.heap.size v ls 0 := by
  obtain ⟨L, h1, h2, h3⟩ := h
  exact ⟨L, h1, h2, fun i hi => ⟨fun hk => by omega, fun _ => h3 _ (List.getElem_mem hi)⟩⟩
theorem PartA.set8 {w0 w : World} {B : Nat} {ls : List Acd} {k g cap n : Nat} (hl0 : ls.length = n) (h : PartA w0 w B (.slice (some ⟨g, 0, none⟩) n cap) ls k) (hk : k < n) (c : Cel) (hn : w.ownsRow B 3 1 (.slice c.a c.l c.c) c.l (intCells c.x.d.ns)) :
    PartA w0 (((((((((w.setCell ⟨g, k * 8 + 0, none⟩ (.int .i64 c.x.b)).setCell ⟨g, k * 8 + 1, none⟩ (.int .i64 c.x.d.k)).setCell ⟨g, k * 8 + 2, none⟩ (.int .i64 c.x.d.id)).setCell ⟨g, k * 8 + 3, none⟩ (.int .i64 c.x.d.zn)).setCell ⟨g, k * 8 + 4, none⟩ (.int .i64 c.x.d.rk)).setCell ⟨g, k * 8 + 5, none⟩ (.int .i64 c.x.d.wt)).setCell ⟨g, k * 8 + 6, none⟩ (.int .i64 c.x.d.g)).setCell ⟨g, k * 8 + 7, none⟩ (.slice c.a c.l c.c))) B (.slice (some ⟨g, 0, none⟩) n cap) (ls.set k c.x) (k + 1) := by
  subst hl0
  obtain ⟨L, h1, h2, h3⟩ := h
  have hl : L.length = ls.length := by rw [← h1, List.length_map]
  have hkL : k < L.length := by omega
  obtain ⟨r, gb⟩ := row_store8 h2 k hkL c
  obtain ⟨cur, hh, hB⟩ := own_whole h2
  refine ⟨L.set k c, by rw [List.map_set, h1], by rw [List.length_set]; exact r, fun i hi => ?_⟩
  rw [List.length_set] at hi
  by_cases e : i = k
  · subst e
    simp only [List.getElem_set_self]
    exact ⟨fun _ => own_type hn gb hh (by decide), fun h => by omega⟩
  · simp only [List.getElem_set_ne (Ne.symm e)]
    exact ⟨fun h => own_type ((h3 i hi).1 (by omega)) gb hh (by decide), fun h => (h3 i hi).2 (by omega)⟩
theorem PartA.row {w0 w : World} {B n k : Nat} {v : Value} {ls : List Acd} (h : PartA w0 w B v ls k) (hl : ls.length = n) : ∃ xs, w.ownsRow B 49 8 v n xs := by
  obtain ⟨L, -, h2, -⟩ := h
  subst hl
  exact ⟨_, h2⟩
theorem OwnB.row {w0 w : World} {n : Nat} {v : Value} {ls : List Acd} (h : OwnB w0 w v ls) (hl : ls.length = n) : ∃ xs, w.ownsRow w0.heap.size 49 8 v n xs := by
  obtain ⟨L, -, h2, -⟩ := h
  subst hl
  exact ⟨_, h2⟩
set_option maxHeartbeats 4000000 in
set_option maxRecDepth 60000 in
theorem pick_10 (t0 t1 t2 t4 t5 t8 t9 t10 t11 t12 t13 t14 t15 t16 t17 t18 t19 t20 t21 t22 t23 t24 t25 t26 t27 t28 t29 t30 t31 t32 t33 t34 t35 t36 t37 t38 t39 t40 t41 t42 t43 t44 t45 t46 t47 t48 t49 t50 t51 t52 t53 t54 t55 t56 t57 t58 t59 t60 t61 t62 t63 t64 t65 t66 t67 : Value) (Y g n cap k : Nat) (x y : Int) (w1 : World) (Q : Exit → Act → World → Prop)
    (hk : (k : Int) < (n : Int)) (HX : Hid (w1.cell? ⟨Y, 0, none⟩ = some (.int .i64 x))) (HG : Hid (w1.cell? ⟨g, k * 8, none⟩ = some (.int .i64 y)))
    (hQ : Hid (∀ (u31 u32 u33 u34 u35 u36 u37 : Value) (wC : World), Below w1.heap.size w1 wC → Q .normal ⟨#[t0, t1, t2, .slice (some ⟨g, 0, none⟩) n cap, t4, t5, .int .i64 (k : Int), .pointer (some ⟨Y, 0, none⟩), t8, t9, t10, t11, t12, t13, t14, t15, t16, t17, t18, t19, t20, t21, t22, t23, t24, t25, t26, t27, t28, t29, t30, u31, u32, u33, u34, u35, u36, u37, .bool (decide (y < x)), t39, t40, t41, t42, t43, t44, t45, t46, t47, t48, t49, t50, t51, t52, t53, t54, t55, t56, t57, t58, t59, t60, t61, t62, t63, t64, t65, t66, t67], []⟩ wC)) :
    Code.wp Try.prog ((Try.f18.body.bind (regionOf 10)).getD .skip) Q ⟨#[t0, t1, t2, .slice (some ⟨g, 0, none⟩) n cap, t4, t5, .int .i64 (k : Int), .pointer (some ⟨Y, 0, none⟩), t8, t9, t10, t11, t12, t13, t14, t15, t16, t17, t18, t19, t20, t21, t22, t23, t24, t25, t26, t27, t28, t29, t30, t31, t32, t33, t34, t35, t36, t37, t38, t39, t40, t41, t42, t43, t44, t45, t46, t47, t48, t49, t50, t51, t52, t53, t54, t55, t56, t57, t58, t59, t60, t61, t62, t63, t64, t65, t66, t67], []⟩ w1 := by
  have hS : (fun w' => Below w1.heap.size w1 w') w1.drew := below_drew w1
  conv => arg 2; whnf
  refine held_start (S := fun w' => Below w1.heap.size w1 w') mixed5 ?_
  refine held_take (i := 0) (v := .pointer (some ⟨Y, 0, none⟩)) rfl (by kernel_rfl) (fun _ _ _ h => h) (.inl ⟨rfl, fun w hS => ?_⟩) hS ?_
  · clear hS
    go_simp
  try simp only [Act.put, List.setIfInBounds_toArray, List.set_cons_zero, List.set_cons_succ]
  refine held_take (i := 1) (v := .int .i64 x) rfl (by kernel_rfl) (fun _ _ _ h => h) (.inl ⟨rfl, fun w hS => ?_⟩) hS ?_
  · have q := (hS.cell (p := ⟨Y, 0, none⟩) (World.block_lt_of_cell? w1 ⟨Y, 0, none⟩ HX.out)).trans HX.out
    go_simp
  try simp only [Act.put, List.setIfInBounds_toArray, List.set_cons_zero, List.set_cons_succ]
  refine held_take (i := 2) (v := .slice (some ⟨g, 0, none⟩) n cap) rfl (by kernel_rfl) (fun _ _ _ h => h) (.inl ⟨rfl, fun w hS => ?_⟩) hS ?_
  · clear hS
    go_simp
  try simp only [Act.put, List.setIfInBounds_toArray, List.set_cons_zero, List.set_cons_succ]
  refine held_take (i := 3) (v := .int .i64 (k : Int)) rfl (by kernel_rfl) (fun _ _ _ h => h) (.inl ⟨rfl, fun w hS => ?_⟩) hS ?_
  · clear hS
    go_simp
  try simp only [Act.put, List.setIfInBounds_toArray, List.set_cons_zero, List.set_cons_succ]
  refine held_take (i := 4) (v := .pointer (some ⟨g, k * 8, none⟩)) rfl (by kernel_rfl) (fun _ _ _ h => h) (.inl ⟨rfl, fun w hS => ?_⟩) hS ?_
  · clear hS
    go_simp
  try simp only [Act.put, List.setIfInBounds_toArray, List.set_cons_zero, List.set_cons_succ]
  refine held_take (i := 5) (v := .pointer (some ⟨g, k * 8, none⟩)) rfl (by kernel_rfl) (fun _ _ _ h => h) (.inl ⟨rfl, fun w hS => ?_⟩) hS ?_
  · clear hS
    go_simp
  try simp only [Act.put, List.setIfInBounds_toArray, List.set_cons_zero, List.set_cons_succ]
  refine held_take (i := 6) (v := .int .i64 y) rfl (by kernel_rfl) (fun _ _ _ h => h) (.inl ⟨rfl, fun w hS => ?_⟩) hS ?_
  · have q := (hS.cell (p := ⟨g, k * 8, none⟩) (World.block_lt_of_cell? w1 ⟨g, k * 8, none⟩ HG.out)).trans HG.out
    go_simp
  try simp only [Act.put, List.setIfInBounds_toArray, List.set_cons_zero, List.set_cons_succ]
  refine held_take (i := 7) (v := .bool (decide (y < x))) rfl (by kernel_rfl) (fun _ _ _ h => h) (.inl ⟨rfl, fun w hS => ?_⟩) hS ?_
  · clear hS
    go_simp
  try simp only [Act.put, List.setIfInBounds_toArray, List.set_cons_zero, List.set_cons_succ]
  refine wpAnyH_done (by kernel_rfl) ?_ _
  refine NoPanic.normal ?_
  exact hQ.out _ _ _ _ _ _ _ _ hS
end Go.Proofs.Ytejhmacbbdnlbaa.Ac
