/-
  withAge: data with the age ahead of their texts.
-/
import Derived.Test.YtmkmogkhkmlnkaaJnF
import Derived.Laws.ResultCell
namespace Go.Proofs.Ytmkmogkhkmlnkaa.Dm
open Go.ChangeShapes Go.WideShapes Go.ChangeAt Go.RowKit
theorem infoDt : (Try.prog.info? 38).map (·.size) = some 2 := by kernel_rfl
theorem txtA_size (g : Nat) : (txtA g).size = 4 := by unfold txtA; rw [Fr.txt_size]; rfl
theorem wp_store_agg {P : Program} {w : World} {o : Oper} {a : Act} {K : Act → World → Prop} {Q : Exit → Act → World → Prop} (p x : Operand) (ty t : TypeId) (ho : o.op = .store ty p x)
    (g : Nat) (hp : a.eval p = .pointer (some ⟨g, 0, none⟩)) (cs old : Array Value) (hx : a.eval x = .agg cs) (hg : w.heap[g]? = some (.cells old t (0, 0))) (hi : (P.info? ty).map (·.size) = some cs.size) (ho' : old.size = cs.size) (h1 : (cs.all fun x => x.oneCell') = true)
    (h : ∀ w', Chg g cs t w w' → K (a.put o.dst undef) w') : o.wp P a w K Q := by
  have hl := run_storeVar_row (P := P) w g t ty old cs hg hi ho' h1
  unfold Oper.wp
  simp [execOp, ho, hp, hx, Instr.storeAt, Instr.sureAddr, hl, Result.andThen]
  exact h _ (chg_setRow hg cs)
/-- what the region leaves -/
def WpP (a1 : Option Addr) (n1 c1 b4 : Nat) (l : List ByteArray) (w1 wC : World) : Prop := ∃ p c w9, Below w1.heap.size w1 w9 ∧ Chg b4 #[.slice a1 n1 c1, .slice p l.length c] 38 w9 wC ∧ Fr.RowAt w9 p l.length c (Fr.cellsT l) ∧ ∀ x, p = some x → w1.heap.size ≤ x.block
set_option maxHeartbeats 4000000 in
set_option maxRecDepth 60000 in
theorem withAge_put (t0 t3 t5 t6 t7 t8 t9 t10 t11 t12 t13 t14 : Value) (g bx b4 : Nat) (x : ByteArray) (a1 : Option Addr) (n1 c1 : Nat) (a2 : Option Addr) (n2 c2 : Nat) (l : List ByteArray) (w1 : World) (Q : Exit → Act → World → Prop)
    (h0 : w1.cell? ⟨bx, 0, none⟩ = some (.slice a1 n1 c1)) (h1 : w1.cell? ⟨bx, 1, none⟩ = some (.slice a2 n2 c2)) (h4 : w1.heap[b4]? = some (.cells #[.slice none 0 0, .slice none 0 0] 38 (0, 0))) (hr : Fr.RowAt w1 a2 n2 c2 (Fr.cellsT l)) (hn : (n2 : Int) ≤ 100000)
    (HA : Hid (∀ w', Calls Try.prog 43 #[.int .i64 (g : Int)] w' fun e w'' => e = .returned (.string x) ∧ Below w'.heap.size w' w''))
    (hQ : Hid (∀ (u5 u6 u7 u8 u9 u10 u11 u12 u13 u14 : Value) (wC : World), WpP a1 n1 c1 b4 (x :: l) w1 wC → Q .normal ⟨#[t0, .int .i64 (g : Int), .pointer (some ⟨bx, 0, none⟩), t3, .pointer (some ⟨b4, 0, none⟩), u5, u6, u7, u8, u9, u10, u11, u12, u13, u14], []⟩ wC)) :
    Code.wp Try.prog ((Try.f25.body.bind (regionOf 1)).getD .skip) Q ⟨#[t0, .int .i64 (g : Int), .pointer (some ⟨bx, 0, none⟩), t3, .pointer (some ⟨b4, 0, none⟩), t5, t6, t7, t8, t9, t10, t11, t12, t13, t14], []⟩ w1 := by
  have hbx : bx < w1.heap.size := World.block_lt_of_cell? w1 ⟨bx, 0, none⟩ h0
  have hb4 : b4 < w1.heap.size := (Array.getElem?_eq_some_iff.1 h4).1
  have HS : Hid (∀ w', Below w1.heap.size w1 w' → (fun w' => w'.cell? ⟨bx, 0, none⟩ = some (.slice a1 n1 c1) ∧ w'.cell? ⟨bx, 1, none⟩ = some (.slice a2 n2 c2) ∧ Below w1.heap.size w1 w') w') := fun w' hb => ⟨(hb.cell (p := ⟨bx, 0, none⟩) hbx).trans h0, (hb.cell (p := ⟨bx, 1, none⟩) hbx).trans h1, hb⟩
  have HR : Hid (Fr.RowAt w1 a2 n2 c2 (Fr.cellsT l)) := hr
  have HN : Hid ((n2 : Int) ≤ 100000) := hn
  have H4 : Hid (w1.heap[b4]? = some (.cells #[.slice none 0 0, .slice none 0 0] 38 (0, 0))) := h4
  clear h0 h1 h4 hr hn
  have hS := HS.out w1.drew (below_drew w1)
  conv => arg 2; whnf
  refine wp_region_but (S := (fun w' => w'.cell? ⟨bx, 0, none⟩ = some (.slice a1 n1 c1) ∧ w'.cell? ⟨bx, 1, none⟩ = some (.slice a2 n2 c2) ∧ Below w1.heap.size w1 w')) (n := 10) mixed9 ?_
  refine but_take (i := 0) (v := .pointer (some ⟨bx, 0, none⟩)) rfl (by kernel_rfl) (fun _ _ _ h => h) (.inl ⟨rfl, fun w hS => ?_⟩) hS ?_
  · obtain ⟨s1, s2, s3⟩ := hS
    go_simp
  try simp only [Act.put, List.setIfInBounds_toArray, List.set_cons_zero, List.set_cons_succ]
  refine but_take (i := 1) (v := .slice a1 n1 c1) rfl (by kernel_rfl) (fun _ _ _ h => h) (.inl ⟨rfl, fun w hS => ?_⟩) hS ?_
  · obtain ⟨s1, s2, s3⟩ := hS
    go_simp
  try simp only [Act.put, List.setIfInBounds_toArray, List.set_cons_zero, List.set_cons_succ]
  refine but_take (i := 2) (v := .int .i64 (g : Int)) rfl (by kernel_rfl) (fun _ _ _ h => h) (.inl ⟨rfl, fun w hS => ?_⟩) hS ?_
  · obtain ⟨s1, s2, s3⟩ := hS
    go_simp
  try simp only [Act.put, List.setIfInBounds_toArray, List.set_cons_zero, List.set_cons_succ]
  refine but_take (i := 5) (v := .pointer (some ⟨bx, 1, none⟩)) rfl (by kernel_rfl) (fun _ _ _ h => h) (.inl ⟨rfl, fun w hS => ?_⟩) hS ?_
  · obtain ⟨s1, s2, s3⟩ := hS
    go_simp
  try simp only [Act.put, List.setIfInBounds_toArray, List.set_cons_zero, List.set_cons_succ]
  refine but_take (i := 6) (v := .slice a2 n2 c2) rfl (by kernel_rfl) (fun _ _ _ h => h) (.inl ⟨rfl, fun w hS => ?_⟩) hS ?_
  · obtain ⟨s1, s2, s3⟩ := hS
    go_simp
  try simp only [Act.put, List.setIfInBounds_toArray, List.set_cons_zero, List.set_cons_succ]
  refine but_one (i := 3) (by kernel_rfl) rfl rfl ?_
  intro K hK
  go_simp
  go_at_call 43
  refine (HA.out _).mono ?_
  rintro e w3 ⟨rfl, hb3⟩
  have hb03 : Below w1.heap.size w1 w3 := below2 (below_drew w1) hb3
  refine hK.out _ _ (fun _ => HS.out _ hb03) ?_
  clear hK hS hb3
  try simp only [Act.put, List.setIfInBounds_toArray, List.set_cons_zero, List.set_cons_succ]
  refine but_one (i := 4) (by kernel_rfl) rfl rfl ?_
  intro K hK
  go_simp
  have hb04 : Below w1.heap.size w1 (w3.alloc (.cells #[.string x] 9)) := below2 hb03 (below_alloc _ _)
  have hx4 : (w3.alloc (.cells #[.string x] 9)).cell? ⟨w3.heap.size, 0, none⟩ = some (.string x) := by rw [cell_of_heap (heap_alloc_new w3 _)]; rfl
  refine hK.out _ _ (fun _ => HS.out _ hb04) ?_
  clear hK
  try simp only [Act.put, List.setIfInBounds_toArray, List.set_cons_zero, List.set_cons_succ]
  have hs4 : w3.heap.size < (w3.alloc (.cells #[.string x] 9)).heap.size := by rw [size_alloc]; omega
  generalize w3.alloc (.cells #[.string x] 9) = w4 at *
  generalize w3.heap.size = b1 at *
  refine but_one (i := 7) (by kernel_rfl) rfl rfl ?_
  intro K hK
  go_simp
  have hb05 : Below w1.heap.size w1 (w4.alloc (.cells #[.slice (some ⟨b1, 0, none⟩) 1 1, .slice a2 n2 c2] 36)) := below2 hb04 (below_alloc _ _)
  have k0 : (w4.alloc (.cells #[.slice (some ⟨b1, 0, none⟩) 1 1, .slice a2 n2 c2] 36)).cell? ⟨w4.heap.size, 0, none⟩ = some (.slice (some ⟨b1, 0, none⟩) 1 1) := by rw [cell_of_heap (heap_alloc_new w4 _)]; rfl
  have k1 : (w4.alloc (.cells #[.slice (some ⟨b1, 0, none⟩) 1 1, .slice a2 n2 c2] 36)).cell? ⟨w4.heap.size, 1, none⟩ = some (.slice a2 n2 c2) := by rw [cell_of_heap (heap_alloc_new w4 _)]; rfl
  have kx : (w4.alloc (.cells #[.slice (some ⟨b1, 0, none⟩) 1 1, .slice a2 n2 c2] 36)).cell? ⟨b1, 0, none⟩ = some (.string x) := ((below_alloc w4 _).cell (p := ⟨b1, 0, none⟩) hs4).trans hx4
  refine hK.out _ _ (fun _ => HS.out _ hb05) ?_
  clear hK
  try simp only [Act.put, List.setIfInBounds_toArray, List.set_cons_zero, List.set_cons_succ]
  generalize w4.alloc (.cells #[.slice (some ⟨b1, 0, none⟩) 1 1, .slice a2 n2 c2] 36) = w5 at *
  generalize w4.heap.size = g5 at *
  refine but_one (i := 8) (by kernel_rfl) rfl rfl ?_
  intro K hK
  go_simp
  go_at_call 42
  refine (concat_any g5 b1 x a2 n2 c2 l w5 k0 k1 kx (HR.out.below hb05) HN.out).mono ?_
  rintro e w6 ⟨p, c, rfl, hrow6, hp6, hb6⟩
  have hb06 : Below w1.heap.size w1 w6 := below2 hb05 hb6
  have hp06 : ∀ y, p = some y → w1.heap.size ≤ y.block := fun y hy => Nat.le_trans hb05.size (hp6 y hy)
  have HR6 : Hid (Fr.RowAt w6 p (x :: l).length c (Fr.cellsT (x :: l))) := hrow6
  have HP6 : Hid (∀ y, p = some y → w1.heap.size ≤ y.block) := hp06
  refine hK.out _ _ (fun _ => HS.out _ hb06) ?_
  have hS := HS.out _ hb06
  clear hK hrow6 hp6 hp06 hb6 k0 k1 kx hs4 hx4 hb05 hb04 hb03
  try simp only [Act.put, List.setIfInBounds_toArray, List.set_cons_zero, List.set_cons_succ]
  refine but_take (i := 9) (v := .agg #[.slice a1 n1 c1, .slice p (x :: l).length c]) rfl (by kernel_rfl) (fun _ _ _ h => h) (.inl ⟨rfl, fun w hS => ?_⟩) hS ?_
  · obtain ⟨s1, s2, s3⟩ := hS
    go_simp
  try simp only [Act.put, List.setIfInBounds_toArray, List.set_cons_zero, List.set_cons_succ]
  refine but_one (i := 10) (by kernel_rfl) rfl rfl ?_
  intro K hK
  refine wp_store_agg (.tmp 4) (.tmp 14) 38 38 rfl b4 rfl #[.slice a1 n1 c1, .slice p (x :: l).length c] _ rfl ((hb06.block b4 hb4).trans H4.out) infoDt rfl (by simp [Value.oneCell']) ?_
  intro wC hC
  refine hK.out _ _ (fun h => absurd rfl h) ?_
  simp only [Act.put]
  refine AnyBut.done (by kernel_rfl) ?_ _
  refine NoPanic.normal ?_
  exact hQ.out _ _ _ _ _ _ _ _ _ _ _ ⟨p, c, w6, hb06, hC, HR6.out, HP6.out⟩
/-- behind withAge -/
def WaPost (nums : List Int) (texts : List ByteArray) (w w' : World) (e : Ending) : Prop := ∃ v, e = .returned v ∧ Fr.DataAt w' v nums texts ∧ Below w.heap.size w w'
theorem row_chg {w w' : World} {a : Option Addr} {len cap : Nat} {cs : List Value} {b4 : Nat} {X : Array Value} {T : TypeId} (h : Fr.RowAt w a len cap cs) (hc : Chg b4 X T w w') (hne : ∀ x, a = some x → x.block ≠ b4) : Fr.RowAt w' a len cap cs := Fr.row_stab h fun x hx _ => hc.ne _ (hne x hx)
theorem chg_below {w w9 wC : World} {b4 N : Nat} {X : Array Value} {T : TypeId} (h : Below N w w9) (hc : Chg b4 X T w9 wC) (hb : N ≤ b4) : Below N w wC := h.trans (hc.below hb)
set_option maxHeartbeats 4000000 in
set_option maxRecDepth 60000 in
theorem withAge_any (v : Value) (nums : List Int) (texts : List ByteArray) (w : World) (h : Fr.DataAt w v nums texts) (g : Nat) (hg : (g : Int) ≤ 2147483647) (hn : (texts.length : Int) ≤ 100000) :
    Calls Try.prog 25 #[v, .int .i64 (g : Int)] w fun e w' => WaPost nums (txtA g :: texts) w w' e := by
  obtain ⟨a1, n1, c1, a2, n2, c2, rfl, h1, h2, h3, h4⟩ := h
  have hl : texts.length = n2 := by have := h2.1; rwa [Fr.cellsT_length] at this
  obtain ⟨W1, hW1⟩ : ∃ W1, W1 = (w.alloc (.cells #[.slice a1 n1 c1, .slice a2 n2 c2] 38)).alloc (.cells #[.slice none 0 0, .slice none 0 0] 38) := ⟨_, rfl⟩
  have hb1 : Below w.heap.size w W1 := by rw [hW1]; exact below2 (below_alloc _ _) (below_alloc _ _)
  have hs1 : W1.heap.size = w.heap.size + 2 := by rw [hW1, size_alloc, size_alloc]
  have hx1 : W1.heap[w.heap.size]? = some (.cells #[.slice a1 n1 c1, .slice a2 n2 c2] 38 (0, 0)) := by
    rw [hW1]
    exact ((below_alloc (w.alloc (.cells #[.slice a1 n1 c1, .slice a2 n2 c2] 38)) _).block w.heap.size (by rw [size_alloc]; omega)).trans (heap_alloc_new w _)
  have hz1 : W1.heap[w.heap.size + 1]? = some (.cells #[.slice none 0 0, .slice none 0 0] 38 (0, 0)) := by
    rw [hW1]
    have := heap_alloc_new (w.alloc (.cells #[.slice a1 n1 c1, .slice a2 n2 c2] 38)) (.cells #[.slice none 0 0, .slice none 0 0] 38)
    rwa [size_alloc] at this
  have HP : Hid (∀ wC, WpP a1 n1 c1 (w.heap.size + 1) (txtA g :: texts) W1 wC → ∃ p c, wC.heap[w.heap.size + 1]? = some (.cells #[.slice a1 n1 c1, .slice p (txtA g :: texts).length c] 38 (0, 0)) ∧ Fr.DataAt wC (.agg #[.slice a1 n1 c1, .slice p (txtA g :: texts).length c]) nums (txtA g :: texts) ∧ Below w.heap.size w wC) := fun wC ⟨p, c, w9, hb9, hC, hr9, hp9⟩ => by
    refine ⟨p, c, hC.at_, ⟨_, _, _, _, _, _, rfl, ?_, row_chg hr9 hC fun x hx => ?_, h3, ?_⟩, chg_below (below2 hb1 hb9) hC (by omega)⟩
    · exact h1.below (chg_below (below2 hb1 hb9) hC (by omega))
    · have := hp9 x hx
      omega
    · intro t ht
      rcases List.mem_cons.1 ht with rfl | ht
      · rw [txtA_size]; decide
      · exact h4 t ht
  have c0 : W1.cell? ⟨w.heap.size, 0, none⟩ = some (.slice a1 n1 c1) := by rw [cell_of_heap hx1]; rfl
  have c1' : W1.cell? ⟨w.heap.size, 1, none⟩ = some (.slice a2 n2 c2) := by rw [cell_of_heap hx1]; rfl
  have H2 : Hid (Fr.RowAt W1 a2 n2 c2 (Fr.cellsT texts)) := h2.below hb1
  have HN : Hid ((n2 : Int) ≤ 100000) := by rw [← hl]; exact hn
  have HA : Hid (∀ w', Calls Try.prog 43 #[.int .i64 (g : Int)] w' fun e w'' => e = .returned (.string (txtA g)) ∧ Below w'.heap.size w' w'') := ageText_any g hg
  have HW : Hid (W1 = (w.alloc (.cells #[.slice a1 n1 c1, .slice a2 n2 c2] 38)).alloc (.cells #[.slice none 0 0, .slice none 0 0] 38)) := hW1
  clear h1 h2 h3 h4 hg hn hW1 hb1 hx1 hs1 hl
  generalize txtA g = x at *
  go_enter Try.func25, Try.ntmps25
  go_upto_region 1 with fail
  rw [← HW.out]
  refine withAge_put _ _ _ _ _ _ _ _ _ _ _ _ g w.heap.size (w.heap.size + 1) x a1 n1 c1 a2 n2 c2 texts W1 _ c0 c1' hz1 H2.out HN.out HA (fun u5 u6 u7 u8 u9 u10 u11 u12 u13 u14 wC hC => ?_)
  obtain ⟨p, c, hz, hd, hb⟩ := HP.out wC hC
  have HZ : Hid (wC.heap[w.heap.size + 1]? = some (.cells #[.slice a1 n1 c1, .slice p (x :: texts).length c] 38 (0, 0))) := hz
  have HD : Hid (Fr.DataAt wC (.agg #[.slice a1 n1 c1, .slice p (x :: texts).length c]) nums (x :: texts)) := hd
  have HB : Hid (Below w.heap.size w wC) := hb
  clear hC hz hd hb HP HA H2 HN HW c0 c1' hz1
  go_wp2
  refine bodyPost_ret (results_cell_row rfl _ _ (w.heap.size + 1) 38 _ (0, 0) _ rfl HZ.out Try.underlying38 rfl (by kernel_rfl)) rfl ?_
  exact ⟨_, rfl, HD.out, HB.out⟩
end Go.Proofs.Ytmkmogkhkmlnkaa.Dm
