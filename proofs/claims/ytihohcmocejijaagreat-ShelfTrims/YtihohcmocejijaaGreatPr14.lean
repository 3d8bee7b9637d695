/-
  Elements of many cells: copy, clear, append in place; slices.Delete of Nodes and of Temps.
-/
import Derived.Test.YtihohcmocejijaaGreatPr13
import Derived.Laws.CopyOwn
namespace Go.Proofs.YtihohcmocejijaaGreat.Bk
open Go.ChangeShapes Go.WideShapes Go.ChangeAt Go.RowKit
theorem wp_of_run8 {P : Program} {o : Oper} {a : Act} {w w' : World} {K : Act → World → Prop} {Q : Exit → Act → World → Prop} {v : Value} (h : (execOp a.eval o).run P w = .ok (.value v) w') (hK : K (a.put o.dst v) w') : o.wp P a w K Q := by
  unfold Oper.wp
  simp [h]
  exact hK
theorem splice_row (cur vs : List Value) (o : Nat) : (cur.toArray.toList.take o ++ vs ++ cur.toArray.toList.drop (o + vs.length)).toArray = (splice cur o vs).toArray := by simp [splice]
theorem run_store_row {P : Program} (g o : Nat) (t : TypeId) (vs cur : List Value) (w : World) (hg : w.heap[g]? = some (.cells cur.toArray t (0, 0))) (hl : o + vs.length ≤ cur.length) (h1 : ∀ v ∈ vs, v.oneCell' = true) : (storeCells ⟨g, o, none⟩ vs).run P w = .ok () (w.setRow g (splice cur o vs).toArray) := by
  have := run_storeCells_at P g o t vs 0 cur.toArray w hg (by simpa using hl) h1
  rw [this, ← splice_row]
  rfl
theorem run_append_row {P : Program} (w : World) (t ty e : TypeId) (i : TypeInfo) (size : Nat) (ht : P.underlying t = some (.slice e)) (hi : P.info? e = some i) (hs : i.size = size) (g n cap : Nat) (a : Addr) (m c : Nat) (cur news : List Value) (te : TypeId) (hg : w.heap[g]? = some (.cells cur.toArray te (0, 0)))
    (hl : news.length = m * size) (hnews : ∀ j u, news[j]? = some u → w.cell? (a.add j) = some u) (h1 : ∀ u ∈ news, u.oneCell' = true) (hroom : n + m ≤ cap) (hfit : n * size + news.length ≤ cur.length) :
    (Builtin.append_ #[t, t] ty #[.slice (some ⟨g, 0, none⟩) n cap, .slice (some a) m c]).run P w = .ok (.slice (some ⟨g, 0, none⟩) (n + m) cap) (w.setRow g (splice cur (n * size) news).toArray) := by
  subst hs
  have hfc := run_firstCells_some (P := P) w i.size m a m c news hl hnews
  have hst := run_store_row (P := P) g (n * i.size) te news cur w hg hfit h1
  simp [Builtin.append_, run_underlying ht, sizeOf, typeInfo, hi, Builtin.lenOf, hroom, hfc, Addr.add_lit, hst]
theorem run_clear_row {P : Program} (w : World) (t e ty : TypeId) (z : Value) (ht : P.underlying t = some (.slice e)) (hv : ∀ w, (zeroValue e).run P w = .ok z w) (g o n c : Nat) (hn : 0 < n) (cur : List Value) (te : TypeId) (hg : w.heap[g]? = some (.cells cur.toArray te (0, 0))) (zs : List Value) (hz : (Builtin.zeroCells z.cells n).toList = zs) (h1 : ∀ u ∈ zs, u.oneCell' = true) (hfit : o + zs.length ≤ cur.length) :
    (Builtin.clear_ #[t] ty #[.slice (some ⟨g, o, none⟩) n c]).run P w = .ok (.tuple #[]) (w.setRow g (splice cur o zs).toArray) := by
  have hst := run_store_row (P := P) g o te zs cur w hg hfit h1
  obtain ⟨m, rfl⟩ : ∃ m, n = m + 1 := ⟨n - 1, by omega⟩
  simp [Builtin.clear_, run_underlying ht, hv, hz, hst]
theorem take_splice (L vs : List Value) (o k : Nat) (hk : k ≤ o) (ho : o ≤ L.length) : (splice L o vs).take k = L.take k := by
  unfold splice
  rw [List.take_append_of_le_length (by simp; omega), List.take_take, Nat.min_eq_left hk]
theorem take_splice_all (L vs : List Value) (o : Nat) (ho : o ≤ L.length) : (splice L o vs).take (o + vs.length) = L.take o ++ vs := by
  unfold splice
  have e : (L.take o).length = o := by simp; omega
  rw [← List.append_assoc, List.take_append_of_le_length (by rw [List.length_append, e]; exact Nat.le_refl _), List.take_of_length_le (by rw [List.length_append, e]; exact Nat.le_refl _)]
theorem own_whole {w : World} {B s n cap g : Nat} {E : TypeId} {xs : List Value} (h : w.ownsRow B E s (.slice (some ⟨g, 0, none⟩) n cap) n xs) : ∃ cur : List Value, w.heap[g]? = some (.cells cur.toArray E (0, 0)) ∧ cur.length = cap * s ∧ cur.take (n * s) = xs ∧ B ≤ g ∧ n ≤ cap ∧ cap ≤ maxLen ∧ xs.length = n * s := by
  rcases h.2 with ⟨e, _⟩ | ⟨g', cap', cur, e, hB, hh, h1, h2, h3, h4⟩
  · cases e
  · injection e with e1 e2 e3
    injection e1 with e1
    injection e1 with e1
    subst e1 e3
    exact ⟨cur.toList, by simpa using hh, by simpa using h3, h4, hB, h1, h2, h.1⟩
theorem whole_own {w : World} {B s n cap g : Nat} {E : TypeId} {cur xs : List Value} (hh : w.heap[g]? = some (.cells cur.toArray E (0, 0))) (hl : cur.length = cap * s) (ht : cur.take (n * s) = xs) (hB : B ≤ g) (hn : n ≤ cap) (hm : cap ≤ maxLen) (hx : xs.length = n * s) : w.ownsRow B E s (.slice (some ⟨g, 0, none⟩) n cap) n xs := ⟨hx, .inr ⟨g, cap, cur.toArray, rfl, hB, hh, hn, hm, by simpa using hl, by simpa using ht⟩⟩
theorem setRow_grownBy {w : World} {g : Nat} (X : Array Value) : w.grownBy (w.setRow g X) (some g) := ⟨rfl, rfl, rfl, by simp [World.setRow], fun k _ hk => setRow_other w g k X (fun e => hk (by rw [e]))⟩
theorem infoDn9 : (Tryz.prog.info? 51).map (fun i => (i.zero, i.size, i.bytes)) = some (some (.agg #[.int .i64 0, .int .i64 0, .int .i64 0, .bool false, .int .i64 0]), 5, 40) := by kernel_rfl
set_option maxHeartbeats 4000000 in
set_option maxRecDepth 60000 in
theorem delDn_puta (t3 t4 t5 t6 t7 t8 t9 t10 t11 t12 t13 t14 t15 t16 t17 t18 t19 t20 t21 t22 t23 t24 t25 t26 t27 t28 t29 t30 t31 t32 : Value) (g n cap i j : Nat) (w1 w2 : World) (Q : Exit → Act → World → Prop) (hi : (i : Int) < (j : Int)) (hj : (j : Int) ≤ (n : Int)) (hc : (n : Int) ≤ (cap : Int)) (hx : ¬ (cap : Int) = (j : Int))
    (hA : Hid (∀ ty, (Builtin.append_ #[23, 23] ty #[.slice (some ⟨g, 0, none⟩) i cap, .slice (some ⟨g, j * 5, none⟩) (n - j) (cap - j)]).run Tryz.prog w1.drew = .ok (.slice (some ⟨g, 0, none⟩) (i + (n - j)) cap) w2))
    (hQ : Hid (∀ (u20 u21 u22 u23 u24 u25 u26 : Value), Q .normal ⟨#[.slice (some ⟨g, 0, none⟩) (i + (n - j)) cap, .int .i64 (i : Int), .int .i64 (j : Int), t3, t4, t5, t6, t7, t8, t9, t10, t11, t12, t13, t14, t15, t16, t17, t18, t19, u20, u21, u22, u23, u24, u25, u26, t27, t28, t29, t30, t31, t32], []⟩ w2)) :
    Code.wp Tryz.prog ((Tryz.f96.body.bind (regionOf 5)).getD .skip) Q ⟨#[.slice (some ⟨g, 0, none⟩) n cap, .int .i64 (i : Int), .int .i64 (j : Int), t3, t4, t5, t6, t7, t8, t9, t10, t11, t12, t13, t14, t15, t16, t17, t18, t19, t20, t21, t22, t23, t24, t25, t26, t27, t28, t29, t30, t31, t32], []⟩ w1 := by
  conv => arg 2; whnf
  refine wp_region_but (S := fun _ => True) (n := 7) mixed5 ?_
  refine but_take (i := 0) (v := .slice (some ⟨g, 0, none⟩) n cap) rfl (by kernel_rfl) (fun _ _ _ h => h) (.inl ⟨rfl, fun w _ => ?_⟩) trivial ?_
  · go_simp
    try omega
  simp only [Act.put, List.setIfInBounds_toArray, List.set_cons_zero, List.set_cons_succ]
  refine but_take (i := 1) (v := .int .i64 (i : Int)) rfl (by kernel_rfl) (fun _ _ _ h => h) (.inl ⟨rfl, fun w _ => ?_⟩) trivial ?_
  · go_simp
    try omega
  simp only [Act.put, List.setIfInBounds_toArray, List.set_cons_zero, List.set_cons_succ]
  refine but_take (i := 2) (v := .slice (some ⟨g, 0, none⟩) i cap) rfl (by kernel_rfl) (fun _ _ _ h => h) (.inl ⟨rfl, fun w _ => ?_⟩) trivial ?_
  · go_simp
    try omega
  simp only [Act.put, List.setIfInBounds_toArray, List.set_cons_zero, List.set_cons_succ]
  refine but_take (i := 3) (v := .slice (some ⟨g, 0, none⟩) n cap) rfl (by kernel_rfl) (fun _ _ _ h => h) (.inl ⟨rfl, fun w _ => ?_⟩) trivial ?_
  · go_simp
    try omega
  simp only [Act.put, List.setIfInBounds_toArray, List.set_cons_zero, List.set_cons_succ]
  refine but_take (i := 4) (v := .int .i64 (j : Int)) rfl (by kernel_rfl) (fun _ _ _ h => h) (.inl ⟨rfl, fun w _ => ?_⟩) trivial ?_
  · go_simp
    try omega
  simp only [Act.put, List.setIfInBounds_toArray, List.set_cons_zero, List.set_cons_succ]
  refine but_take (i := 5) (v := .slice (some ⟨g, j * 5, none⟩) (n - j) (cap - j)) rfl (by kernel_rfl) (fun _ _ _ h => h) (.inl ⟨rfl, fun w _ => ?_⟩) trivial ?_
  · go_simp
    try omega
  simp only [Act.put, List.setIfInBounds_toArray, List.set_cons_zero, List.set_cons_succ]
  refine but_one (i := 6) (by kernel_rfl) rfl rfl ?_
  intro K hK
  refine wp_of_run8 (v := .slice (some ⟨g, 0, none⟩) (i + (n - j)) cap) (w' := w2) ?_ ?_
  · have e := hA.out 23
    simp [execOp, Act.eval, resolve, invoke, builtin]
    rw [e]
    simp
  refine hK.out _ _ (fun _ => trivial) ?_
  clear hK
  simp only [Act.put, List.setIfInBounds_toArray, List.set_cons_zero, List.set_cons_succ]
  refine but_one (i := 7) (by kernel_rfl) rfl rfl ?_
  intro K hK
  go_simp
  refine hK.out _ _ (fun h => absurd rfl h) ?_
  clear hK
  try simp only [Act.put, List.setIfInBounds_toArray, List.set_cons_zero, List.set_cons_succ]
  refine AnyBut.done (by kernel_rfl) ?_ _
  refine NoPanic.normal ?_
  exact hQ.out _ _ _ _ _ _ _
set_option maxHeartbeats 4000000 in
set_option maxRecDepth 60000 in
theorem delDn_putb (t3 t4 t5 t6 t7 t8 t9 t10 t11 t12 t13 t14 t15 t16 t17 t18 t19 t20 t21 t22 t23 t24 t25 t26 t27 t28 t29 t30 t31 t32 : Value) (g n cap i j : Nat) (w1 w2 : World) (Q : Exit → Act → World → Prop) (hi : (i : Int) < (j : Int)) (hj : (j : Int) ≤ (n : Int)) (_hc : (n : Int) ≤ (cap : Int)) (hx : (cap : Int) = (j : Int))
    (hA : Hid (∀ ty, (Builtin.append_ #[23, 23] ty #[.slice (some ⟨g, 0, none⟩) i cap, .slice (some ⟨g, 0, none⟩) (n - j) (cap - j)]).run Tryz.prog w1.drew = .ok (.slice (some ⟨g, 0, none⟩) (i + (n - j)) cap) w2))
    (hQ : Hid (∀ (u20 u21 u22 u23 u24 u25 u26 : Value), Q .normal ⟨#[.slice (some ⟨g, 0, none⟩) (i + (n - j)) cap, .int .i64 (i : Int), .int .i64 (j : Int), t3, t4, t5, t6, t7, t8, t9, t10, t11, t12, t13, t14, t15, t16, t17, t18, t19, u20, u21, u22, u23, u24, u25, u26, t27, t28, t29, t30, t31, t32], []⟩ w2)) :
    Code.wp Tryz.prog ((Tryz.f96.body.bind (regionOf 5)).getD .skip) Q ⟨#[.slice (some ⟨g, 0, none⟩) n cap, .int .i64 (i : Int), .int .i64 (j : Int), t3, t4, t5, t6, t7, t8, t9, t10, t11, t12, t13, t14, t15, t16, t17, t18, t19, t20, t21, t22, t23, t24, t25, t26, t27, t28, t29, t30, t31, t32], []⟩ w1 := by
  conv => arg 2; whnf
  refine wp_region_but (S := fun _ => True) (n := 7) mixed5 ?_
  refine but_take (i := 0) (v := .slice (some ⟨g, 0, none⟩) n cap) rfl (by kernel_rfl) (fun _ _ _ h => h) (.inl ⟨rfl, fun w _ => ?_⟩) trivial ?_
  · go_simp
    try omega
  simp only [Act.put, List.setIfInBounds_toArray, List.set_cons_zero, List.set_cons_succ]
  refine but_take (i := 1) (v := .int .i64 (i : Int)) rfl (by kernel_rfl) (fun _ _ _ h => h) (.inl ⟨rfl, fun w _ => ?_⟩) trivial ?_
  · go_simp
    try omega
  simp only [Act.put, List.setIfInBounds_toArray, List.set_cons_zero, List.set_cons_succ]
  refine but_take (i := 2) (v := .slice (some ⟨g, 0, none⟩) i cap) rfl (by kernel_rfl) (fun _ _ _ h => h) (.inl ⟨rfl, fun w _ => ?_⟩) trivial ?_
  · go_simp
    try omega
  simp only [Act.put, List.setIfInBounds_toArray, List.set_cons_zero, List.set_cons_succ]
  refine but_take (i := 3) (v := .slice (some ⟨g, 0, none⟩) n cap) rfl (by kernel_rfl) (fun _ _ _ h => h) (.inl ⟨rfl, fun w _ => ?_⟩) trivial ?_
  · go_simp
    try omega
  simp only [Act.put, List.setIfInBounds_toArray, List.set_cons_zero, List.set_cons_succ]
  refine but_take (i := 4) (v := .int .i64 (j : Int)) rfl (by kernel_rfl) (fun _ _ _ h => h) (.inl ⟨rfl, fun w _ => ?_⟩) trivial ?_
  · go_simp
    try omega
  simp only [Act.put, List.setIfInBounds_toArray, List.set_cons_zero, List.set_cons_succ]
  refine but_take (i := 5) (v := .slice (some ⟨g, 0, none⟩) (n - j) (cap - j)) rfl (by kernel_rfl) (fun _ _ _ h => h) (.inl ⟨rfl, fun w _ => ?_⟩) trivial ?_
  · go_simp
    try omega
  simp only [Act.put, List.setIfInBounds_toArray, List.set_cons_zero, List.set_cons_succ]
  refine but_one (i := 6) (by kernel_rfl) rfl rfl ?_
  intro K hK
  refine wp_of_run8 (v := .slice (some ⟨g, 0, none⟩) (i + (n - j)) cap) (w' := w2) ?_ ?_
  · have e := hA.out 23
    simp [execOp, Act.eval, resolve, invoke, builtin]
    rw [e]
    simp
  refine hK.out _ _ (fun _ => trivial) ?_
  clear hK
  simp only [Act.put, List.setIfInBounds_toArray, List.set_cons_zero, List.set_cons_succ]
  refine but_one (i := 7) (by kernel_rfl) rfl rfl ?_
  intro K hK
  go_simp
  refine hK.out _ _ (fun h => absurd rfl h) ?_
  clear hK
  try simp only [Act.put, List.setIfInBounds_toArray, List.set_cons_zero, List.set_cons_succ]
  refine AnyBut.done (by kernel_rfl) ?_ _
  refine NoPanic.normal ?_
  exact hQ.out _ _ _ _ _ _ _
set_option maxHeartbeats 4000000 in
set_option maxRecDepth 60000 in
theorem delDn_any {B g m cap : Nat} {xs : List Value} (w : World) (hown : w.ownsRow B 51 5 (.slice (some ⟨g, 0, none⟩) (m + 1) cap) (m + 1) xs) (i j : Nat) (hi : i ≤ m) (hj : j = i + 1) (hm : (m : Int) ≤ 1000) (h1 : ∀ u ∈ xs, u.oneCell' = true) :
    Calls Tryz.prog 96 #[.slice (some ⟨g, 0, none⟩) (m + 1) cap, .int .i64 (i : Int), .int .i64 (j : Int)] w fun e w' => e = .returned (.slice (some ⟨g, 0, none⟩) m cap) ∧ w'.ownsRow B 51 5 (.slice (some ⟨g, 0, none⟩) m cap) m (xs.take (i * 5) ++ xs.drop (j * 5)) ∧ w.grownBy w' (some g) := by
  obtain ⟨cur, hg, hcl, hct, hB, hnc, hcm, hxl⟩ := own_whole hown
  obtain ⟨i0, hi0, hz0, hz1, hz2⟩ := info_parts infoDn9
  have hcap : (cap : Int) ≤ 9223372036854775807 := by unfold maxLen at hcm; omega
  have hmj : i + (m + 1 - j) = m := by omega
  have hnl : (xs.drop (j * 5)).length = (m + 1 - j) * 5 := by rw [List.length_drop, hxl, Nat.sub_mul]
  have hxc : ∀ q u, xs[q]? = some u → w.cell? ⟨g, q, none⟩ = some u := fun q u hq => by
    have hql := (List.getElem?_eq_some_iff.1 hq).1
    rw [← hct, List.getElem?_take] at hq
    split at hq
    · simp only [World.cell?, hg]
      simpa using hq
    · cases hq
  obtain ⟨w2, hw2⟩ : ∃ w2, w2 = w.drew.setRow g (splice cur (i * 5) (xs.drop (j * 5))).toArray := ⟨_, rfl⟩
  have hg2 : w2.heap[g]? = some (.cells (splice cur (i * 5) (xs.drop (j * 5))).toArray 51 (0, 0)) := by rw [hw2]; exact setRow_heap w.drew g _ _ _ _ hg
  have hl2 : (splice cur (i * 5) (xs.drop (j * 5))).length = cap * 5 := by rw [length_splice _ _ _ (by rw [hnl, hcl]; omega)]; exact hcl
  obtain ⟨w3, hw3⟩ : ∃ w3, w3 = w2.setRow g (splice (splice cur (i * 5) (xs.drop (j * 5))) (m * 5) [.int .i64 0, .int .i64 0, .int .i64 0, .bool false, .int .i64 0]).toArray := ⟨_, rfl⟩
  have hcle : ∀ ty, (Builtin.clear_ #[23] ty #[.slice (some ⟨g, m * 5, none⟩) 1 (cap - m)]).run Tryz.prog w2 = .ok (.tuple #[]) w3 := fun ty => by
    rw [hw3]
    exact run_clear_row w2 23 51 ty (.agg #[.int .i64 0, .int .i64 0, .int .i64 0, .bool false, .int .i64 0]) Tryz.underlying23 Tryz.zeroValue51 g (m * 5) 1 (cap - m) (by omega) _ 51 hg2 [.int .i64 0, .int .i64 0, .int .i64 0, .bool false, .int .i64 0] (by kernel_rfl) (by intro u hu; simp at hu; rcases hu with rfl | rfl | rfl | rfl | rfl <;> rfl) (by rw [hl2]; simp; omega)
  have HFO : Hid (w3.ownsRow B 51 5 (.slice (some ⟨g, 0, none⟩) m cap) m (xs.take (i * 5) ++ xs.drop (j * 5))) := by
    refine whole_own (cur := splice (splice cur (i * 5) (xs.drop (j * 5))) (m * 5) [.int .i64 0, .int .i64 0, .int .i64 0, .bool false, .int .i64 0]) (by rw [hw3]; exact setRow_heap w2 g _ _ _ _ hg2) (by rw [length_splice _ _ _ (by rw [hl2]; simp; omega)]; exact hl2) ?_ hB (by omega) hcm (by rw [List.length_append, List.length_take, hnl, hxl]; omega)
    rw [take_splice _ _ _ _ (Nat.le_refl _) (by rw [hl2]; omega)]
    have e := take_splice_all cur (xs.drop (j * 5)) (i * 5) (by rw [hcl]; omega)
    rw [hnl, show i * 5 + (m + 1 - j) * 5 = m * 5 by rw [← Nat.add_mul, hmj]] at e
    rw [e, ← hct, List.take_take, Nat.min_eq_left (by omega)]
  have HFG : Hid (w.grownBy w3 (some g)) := by
    have a1 : w.grownBy w.drew (some g) := ⟨rfl, rfl, rfl, Nat.le_refl _, fun _ _ _ => rfl⟩
    show w.grownBy w3 (some g)
    rw [hw3, hw2]
    exact grownBy_trans a1 (grownBy_trans (setRow_grownBy _) (setRow_grownBy _))
  have HAA : ∀ ad : Addr, (∀ q u, (xs.drop (j * 5))[q]? = some u → w.drew.cell? (ad.add q) = some u) → Hid (∀ ty, (Builtin.append_ #[23, 23] ty #[.slice (some ⟨g, 0, none⟩) i cap, .slice (some ad) (m + 1 - j) (cap - j)]).run Tryz.prog w.drew = .ok (.slice (some ⟨g, 0, none⟩) (i + (m + 1 - j)) cap) w2) := fun ad had ty => by
    rw [hw2]
    exact run_append_row w.drew 23 ty 51 i0 5 Tryz.underlying23 hi0 hz1 g i cap ad (m + 1 - j) (cap - j) cur _ 51 hg hnl had (fun u hu => h1 u (List.mem_of_mem_drop hu)) (by omega) (by rw [hnl, hcl]; omega)
  by_cases hx : cap = j
  · have HAP := HAA ⟨g, 0, none⟩ (fun q u hq => by
      have hql := (List.getElem?_eq_some_iff.1 hq).1
      rw [hnl] at hql
      omega)
    have HX' : Hid ((cap : Int) = (j : Int)) := by show _ = _; omega
    have hjm1 : (j : Int) ≤ (m : Int) + 1 := by omega
    have hjc : (m : Int) + 1 ≤ (cap : Int) := by omega
    have hji : ¬ (i : Int) = (j : Int) := by omega
    clear hown hg hct hxc hg2 hl2 hw2 hw3 HAA hi0 hz0 hz1 hz2 h1 hx
    go_enter Tryz.func96, Tryz.ntmps96
    go_upto_region 5 with fail
    refine delDn_putb _ _ _ _ _ _ _ _ _ _ _ _ _ _ _ _ _ _ _ _ _ _ _ _ _ _ _ _ _ _ g (m + 1) cap i j w w2 _ (by omega) (by omega) (by omega) HX'.out HAP (fun u20 u21 u22 u23 u24 u25 u26 => ?_)
    rw [hmj]
    go_wp2_with fail
    go_ret
    exact ⟨rfl, HFO.out, HFG.out⟩
  · have HAP := HAA ⟨g, j * 5, none⟩ (fun q u hq => by
      rw [addr_add]
      rw [List.getElem?_drop] at hq
      exact hxc _ _ hq)
    have hx' : ¬ (cap : Int) = (j : Int) := by omega
    have hji : ¬ (i : Int) = (j : Int) := by omega
    have hjm1 : (j : Int) ≤ (m : Int) + 1 := by omega
    have hjc : (m : Int) + 1 ≤ (cap : Int) := by omega
    clear hown hg hct hxc hg2 hl2 hw2 hw3 HAA hi0 hz0 hz1 hz2 h1 hx
    go_enter Tryz.func96, Tryz.ntmps96
    go_upto_region 5 with fail
    refine delDn_puta _ _ _ _ _ _ _ _ _ _ _ _ _ _ _ _ _ _ _ _ _ _ _ _ _ _ _ _ _ _ g (m + 1) cap i j w w2 _ (by omega) (by omega) (by omega) hx' HAP (fun u20 u21 u22 u23 u24 u25 u26 => ?_)
    rw [hmj]
    go_wp2_with fail
    go_ret
    exact ⟨rfl, HFO.out, HFG.out⟩
end Go.Proofs.YtihohcmocejijaaGreat.Bk
