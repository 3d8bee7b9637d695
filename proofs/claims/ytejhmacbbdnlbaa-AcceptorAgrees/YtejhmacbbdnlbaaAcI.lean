/-
  CopyOf, copies, clone: lists of one's own.
-/
import Derived.Test.YtejhmacbbdnlbaaAcG
namespace Go.Proofs.Ytejhmacbbdnlbaa.Ac
open Go.ChangeShapes Go.WideShapes Go.ChangeAt Go.RowKit
theorem grownBy_trans {a b c : World} {r : Option Nat} (h : a.grownBy b r) (k : b.grownBy c r) : a.grownBy c r := ⟨k.os.trans h.os, k.tape.trans h.tape, k.output.trans h.output, Nat.le_trans h.size k.size, fun i hi hr => (k.block i (Nat.lt_of_lt_of_le hi h.size) hr).trans (h.block i hi hr)⟩
theorem info3 : (Try.prog.info? 3).map (fun i => (i.zero, i.size, i.bytes)) = some (some (.int .i64 0), 1, 8) := by kernel_rfl
theorem info49 : (Try.prog.info? 49).map (fun i => (i.zero, i.size, i.bytes)) = some (some (.agg #[.int .i64 0, .int .i64 0, .int .i64 0, .int .i64 0, .int .i64 0, .int .i64 0, .int .i64 0, .slice none 0 0]), 8, 80) := by kernel_rfl
/-- a copy of a list in a row of one's own -/
theorem append_copy {w : World} {ops : Array Oper} {rest : List Oper} {o : Oper} {a : Act} {Q : Exit → Act → World → Prop} {t E s by8 : Nat} {z : Value} (ht : Try.prog.underlying t = some (.slice E)) (hinfo : (Try.prog.info? E).map (fun i => (i.zero, i.size, i.bytes)) = some (some z, s, by8)) (hzs : z.cells.size = s) (hs0 : 0 < s) (h80 : by8 ≤ 80) (hgd : o.guard = none) (s0 x : Operand)
    (ho : o.op = .call { callee := .builtin .append, args := #[s0, x], argTypes := #[t, t] }) (hs : a.eval s0 = .slice none 0 0) (ad : Option Addr) (len cap : Nat) (xs : List Value) (hx : a.eval x = .slice ad len cap) (hl : xs.length = len * s) (hlies : Lies w ad len xs) (hnil : ad = none → cap = 0) (hlc : len ≤ cap) (h1 : ∀ u ∈ xs, u.oneCell' = true) (hm : (len : Int) ≤ 1000)
    (h : ∀ a' c' w', w'.ownsRow w.heap.size E s (.slice a' len c') len xs → Below w.heap.size w w' → wpList Try.prog ops Q rest (a.put o.dst (.slice a' len c')) w') : wpList Try.prog ops Q (o :: rest) a w := by
  obtain ⟨i0, hi, hz0, hz1, hz2⟩ := info_parts hinfo
  have H0 := own_nothing w w.heap.size E s
  cases ad with
  | none =>
    obtain rfl := hnil rfl
    obtain rfl : len = 0 := by omega
    obtain rfl : xs = [] := List.length_eq_zero_iff.1 (by rw [hl, Nat.zero_mul])
    exact wpList_append_own_none hgd s0 x t ho w.heap.size E i0 s ht hi _ _ _ hs H0 hx (h none 0 w H0 (Below.refl _ _))
  | some ad =>
    refine wpList_append_own _ hgd s0 x t ho w.heap.size E i0 z s by8 ht hi hz0 hz1 hz2 hzs hs0 _ _ _ hs H0 ad len cap xs hx hl ?_ h1 (by unfold maxLen; omega) (Nat.le_trans (Nat.mul_le_mul_left _ h80) (by omega)) (Nat.le_refl _) ?_
    · intro j u hj
      rcases hlies with h0 | ⟨b, off, e, hc⟩
      · obtain rfl : xs = [] := List.length_eq_zero_iff.1 (by rw [hl, h0, Nat.zero_mul])
        simp at hj
      · obtain rfl := Option.some.inj e
        rw [addr_add]
        exact hc j u hj
    · intro v' w' hown hg _
      rw [Nat.zero_add, List.nil_append] at hown
      obtain ⟨a', c', rfl⟩ := own_slice hown
      exact h a' c' w' hown ⟨hg.os, hg.tape, hg.output, hg.size, fun k hk => hg.block k hk (by simp [Value.ownBlock])⟩
theorem RowI.lies {w : World} {a : Option Addr} {len cap : Nat} {l : List Int} (h : RowI w a len cap l) : Lies w a len (intCells l) := by
  rcases h.2.2.2.2 with h0 | ⟨b, off, e, hc⟩
  · exact .inl h0
  · refine .inr ⟨b, off, e, fun j u hj => ?_⟩
    have hj' : j < l.length := by have := (List.getElem?_eq_some_iff.1 hj).1; simpa [intCells] using this
    rw [hc j (by rw [← h.1]; exact hj')]
    simp [intCells, hj'] at hj ⊢
    exact hj
theorem set2_grownBy (w : World) (b : Nat) (u0 u1 : Value) : w.grownBy (set2 w b u0 u1) (some b) := by
  unfold set2
  exact (grownBy_trans (set_grownBy _ _ 0 _) (set_grownBy _ _ 1 _))
theorem set7_grownBy (w : World) (b : Nat) (u0 u1 u2 u3 u4 u5 u6 : Value) : w.grownBy (set7 w b u0 u1 u2 u3 u4 u5 u6) (some b) := by
  unfold set7
  exact (grownBy_trans (grownBy_trans (grownBy_trans (grownBy_trans (grownBy_trans (grownBy_trans (set_grownBy _ _ 0 _) (set_grownBy _ _ 1 _)) (set_grownBy _ _ 2 _)) (set_grownBy _ _ 3 _)) (set_grownBy _ _ 4 _)) (set_grownBy _ _ 5 _)) (set_grownBy _ _ 6 _))
theorem set8_grownBy (w : World) (b : Nat) (u0 u1 u2 u3 u4 u5 u6 u7 : Value) : w.grownBy (set8 w b u0 u1 u2 u3 u4 u5 u6 u7) (some b) := by
  unfold set8
  exact (grownBy_trans (grownBy_trans (grownBy_trans (grownBy_trans (grownBy_trans (grownBy_trans (grownBy_trans (set_grownBy _ _ 0 _) (set_grownBy _ _ 1 _)) (set_grownBy _ _ 2 _)) (set_grownBy _ _ 3 _)) (set_grownBy _ _ 4 _)) (set_grownBy _ _ 5 _)) (set_grownBy _ _ 6 _)) (set_grownBy _ _ 7 _))
theorem set_get {xs : List Value} {i k : Nat} {u : Value} : (xs.set i u)[k]? = if k = i then (if k < xs.length then some u else none) else xs[k]? := by
  by_cases h : k = i
  · subst h
    rw [if_pos rfl]
    by_cases hk : k < xs.length
    · rw [if_pos hk, List.getElem?_set_self hk]
    · rw [if_neg hk]
      exact List.getElem?_eq_none (by rw [List.length_set]; omega)
  · rw [if_neg h, List.getElem?_set_ne (Ne.symm h)]
theorem celsV_at (L : List Cel) (m : Nat) : (celsV L)[m]? = (L[m / 8]?).bind (fun c => c.vs[m % 8]?) := by
  by_cases h : m / 8 < L.length
  · have := celsV_get L (m / 8) (m % 8) h (Nat.mod_lt _ (by omega))
    rw [show m / 8 * 8 + m % 8 = m by omega] at this
    rw [this, List.getElem?_eq_getElem h]
    rfl
  · rw [List.getElem?_eq_none (by rw [celsV_len]; omega), List.getElem?_eq_none (by omega)]
    rfl
theorem celsV_set8 (L : List Cel) (k : Nat) (hk : k < L.length) (c : Cel) : (((((((((celsV L).set (k * 8 + 0) (.int .i64 c.x.b)).set (k * 8 + 1) (.int .i64 c.x.d.k)).set (k * 8 + 2) (.int .i64 c.x.d.id)).set (k * 8 + 3) (.int .i64 c.x.d.zn)).set (k * 8 + 4) (.int .i64 c.x.d.rk)).set (k * 8 + 5) (.int .i64 c.x.d.wt)).set (k * 8 + 6) (.int .i64 c.x.d.g)).set (k * 8 + 7) (.slice c.a c.l c.c)) = celsV (L.set k c) := by
  apply List.ext_getElem?
  intro m
  rw [celsV_at (L.set k c)]
  simp only [set_get, List.length_set, celsV_len]
  by_cases h : m / 8 = k
  · obtain ⟨j, hj, rfl⟩ : ∃ j, j < 8 ∧ m = k * 8 + j := ⟨m % 8, Nat.mod_lt _ (by omega), by omega⟩
    rw [h, List.getElem?_set_self hk, show (k * 8 + j) % 8 = j by omega]
    have hl : k * 8 + j < L.length * 8 := by omega
    match j, hj with
    | 0, _ => simp [Cel.vs, hk]
    | 1, _ => simp [Cel.vs, show k * 8 + 1 < L.length * 8 by omega]
    | 2, _ => simp [Cel.vs, show k * 8 + 2 < L.length * 8 by omega]
    | 3, _ => simp [Cel.vs, show k * 8 + 3 < L.length * 8 by omega]
    | 4, _ => simp [Cel.vs, show k * 8 + 4 < L.length * 8 by omega]
    | 5, _ => simp [Cel.vs, show k * 8 + 5 < L.length * 8 by omega]
    | 6, _ => simp [Cel.vs, show k * 8 + 6 < L.length * 8 by omega]
    | 7, _ => simp [Cel.vs, show k * 8 + 7 < L.length * 8 by omega]
  · rw [List.getElem?_set_ne (Ne.symm h), ← celsV_at]
    have n0 : ¬ m = k * 8 + 0 := by omega
    have n1 : ¬ m = k * 8 + 1 := by omega
    have n2 : ¬ m = k * 8 + 2 := by omega
    have n3 : ¬ m = k * 8 + 3 := by omega
    have n4 : ¬ m = k * 8 + 4 := by omega
    have n5 : ¬ m = k * 8 + 5 := by omega
    have n6 : ¬ m = k * 8 + 6 := by omega
    have n7 : ¬ m = k * 8 + 7 := by omega
    simp only [if_neg n0, if_neg n1, if_neg n2, if_neg n3, if_neg n4, if_neg n5, if_neg n6, if_neg n7]
theorem celsV_set7 (L : List Cel) (k : Nat) (hk : k < L.length) (c : Cel) (hb : c.x.b = L[k].x.b) : ((((((((celsV L).set (k * 8 + 1) (.int .i64 c.x.d.k)).set (k * 8 + 2) (.int .i64 c.x.d.id)).set (k * 8 + 3) (.int .i64 c.x.d.zn)).set (k * 8 + 4) (.int .i64 c.x.d.rk)).set (k * 8 + 5) (.int .i64 c.x.d.wt)).set (k * 8 + 6) (.int .i64 c.x.d.g)).set (k * 8 + 7) (.slice c.a c.l c.c)) = celsV (L.set k c) := by
  apply List.ext_getElem?
  intro m
  rw [celsV_at (L.set k c)]
  simp only [set_get, List.length_set, celsV_len]
  by_cases h : m / 8 = k
  · obtain ⟨j, hj, rfl⟩ : ∃ j, j < 8 ∧ m = k * 8 + j := ⟨m % 8, Nat.mod_lt _ (by omega), by omega⟩
    rw [h, List.getElem?_set_self hk, show (k * 8 + j) % 8 = j by omega]
    have hl : k * 8 + j < L.length * 8 := by omega
    match j, hj with
    | 0, _ =>
      have := celsV_get L k 0 hk (by omega)
      simp [Cel.vs, hb] at this ⊢
      exact this
    | 1, _ => simp [Cel.vs, show k * 8 + 1 < L.length * 8 by omega]
    | 2, _ => simp [Cel.vs, show k * 8 + 2 < L.length * 8 by omega]
    | 3, _ => simp [Cel.vs, show k * 8 + 3 < L.length * 8 by omega]
    | 4, _ => simp [Cel.vs, show k * 8 + 4 < L.length * 8 by omega]
    | 5, _ => simp [Cel.vs, show k * 8 + 5 < L.length * 8 by omega]
    | 6, _ => simp [Cel.vs, show k * 8 + 6 < L.length * 8 by omega]
    | 7, _ => simp [Cel.vs, show k * 8 + 7 < L.length * 8 by omega]
  · rw [List.getElem?_set_ne (Ne.symm h), ← celsV_at]
    have n1 : ¬ m = k * 8 + 1 := by omega
    have n2 : ¬ m = k * 8 + 2 := by omega
    have n3 : ¬ m = k * 8 + 3 := by omega
    have n4 : ¬ m = k * 8 + 4 := by omega
    have n5 : ¬ m = k * 8 + 5 := by omega
    have n6 : ¬ m = k * 8 + 6 := by omega
    have n7 : ¬ m = k * 8 + 7 := by omega
    simp only [if_neg n1, if_neg n2, if_neg n3, if_neg n4, if_neg n5, if_neg n6, if_neg n7]
theorem row_store8 {w : World} {B g n cap : Nat} {L : List Cel} (h : w.ownsRow B 49 8 (.slice (some ⟨g, 0, none⟩) n cap) n (celsV L)) (k : Nat) (hk : k < L.length) (c : Cel) :
    ((((((((w.setCell ⟨g, k * 8 + 0, none⟩ (.int .i64 c.x.b)).setCell ⟨g, k * 8 + 1, none⟩ (.int .i64 c.x.d.k)).setCell ⟨g, k * 8 + 2, none⟩ (.int .i64 c.x.d.id)).setCell ⟨g, k * 8 + 3, none⟩ (.int .i64 c.x.d.zn)).setCell ⟨g, k * 8 + 4, none⟩ (.int .i64 c.x.d.rk)).setCell ⟨g, k * 8 + 5, none⟩ (.int .i64 c.x.d.wt)).setCell ⟨g, k * 8 + 6, none⟩ (.int .i64 c.x.d.g)).setCell ⟨g, k * 8 + 7, none⟩ (.slice c.a c.l c.c)).ownsRow B 49 8 (.slice (some ⟨g, 0, none⟩) n cap) n (celsV (L.set k c)) ∧ w.grownBy ((((((((w.setCell ⟨g, k * 8 + 0, none⟩ (.int .i64 c.x.b)).setCell ⟨g, k * 8 + 1, none⟩ (.int .i64 c.x.d.k)).setCell ⟨g, k * 8 + 2, none⟩ (.int .i64 c.x.d.id)).setCell ⟨g, k * 8 + 3, none⟩ (.int .i64 c.x.d.zn)).setCell ⟨g, k * 8 + 4, none⟩ (.int .i64 c.x.d.rk)).setCell ⟨g, k * 8 + 5, none⟩ (.int .i64 c.x.d.wt)).setCell ⟨g, k * 8 + 6, none⟩ (.int .i64 c.x.d.g)).setCell ⟨g, k * 8 + 7, none⟩ (.slice c.a c.l c.c)) (some g) := by
  obtain ⟨r0, g0⟩ := h.stored (k * 8 + 0) (.int .i64 c.x.b)
  obtain ⟨r1, g1⟩ := r0.stored (k * 8 + 1) (.int .i64 c.x.d.k)
  obtain ⟨r2, g2⟩ := r1.stored (k * 8 + 2) (.int .i64 c.x.d.id)
  obtain ⟨r3, g3⟩ := r2.stored (k * 8 + 3) (.int .i64 c.x.d.zn)
  obtain ⟨r4, g4⟩ := r3.stored (k * 8 + 4) (.int .i64 c.x.d.rk)
  obtain ⟨r5, g5⟩ := r4.stored (k * 8 + 5) (.int .i64 c.x.d.wt)
  obtain ⟨r6, g6⟩ := r5.stored (k * 8 + 6) (.int .i64 c.x.d.g)
  obtain ⟨r7, g7⟩ := r6.stored (k * 8 + 7) (.slice c.a c.l c.c)
  rw [celsV_set8 L k hk c] at r7
  exact ⟨r7, (grownBy_trans (grownBy_trans (grownBy_trans (grownBy_trans (grownBy_trans (grownBy_trans (grownBy_trans g0 g1) g2) g3) g4) g5) g6) g7)⟩
theorem row_store7 {w : World} {B g n cap : Nat} {L : List Cel} (h : w.ownsRow B 49 8 (.slice (some ⟨g, 0, none⟩) n cap) n (celsV L)) (k : Nat) (hk : k < L.length) (c : Cel) (hb : c.x.b = L[k].x.b) :
    (((((((w.setCell ⟨g, k * 8 + 1, none⟩ (.int .i64 c.x.d.k)).setCell ⟨g, k * 8 + 2, none⟩ (.int .i64 c.x.d.id)).setCell ⟨g, k * 8 + 3, none⟩ (.int .i64 c.x.d.zn)).setCell ⟨g, k * 8 + 4, none⟩ (.int .i64 c.x.d.rk)).setCell ⟨g, k * 8 + 5, none⟩ (.int .i64 c.x.d.wt)).setCell ⟨g, k * 8 + 6, none⟩ (.int .i64 c.x.d.g)).setCell ⟨g, k * 8 + 7, none⟩ (.slice c.a c.l c.c)).ownsRow B 49 8 (.slice (some ⟨g, 0, none⟩) n cap) n (celsV (L.set k c)) ∧ w.grownBy (((((((w.setCell ⟨g, k * 8 + 1, none⟩ (.int .i64 c.x.d.k)).setCell ⟨g, k * 8 + 2, none⟩ (.int .i64 c.x.d.id)).setCell ⟨g, k * 8 + 3, none⟩ (.int .i64 c.x.d.zn)).setCell ⟨g, k * 8 + 4, none⟩ (.int .i64 c.x.d.rk)).setCell ⟨g, k * 8 + 5, none⟩ (.int .i64 c.x.d.wt)).setCell ⟨g, k * 8 + 6, none⟩ (.int .i64 c.x.d.g)).setCell ⟨g, k * 8 + 7, none⟩ (.slice c.a c.l c.c)) (some g) := by
  obtain ⟨r1, g1⟩ := h.stored (k * 8 + 1) (.int .i64 c.x.d.k)
  obtain ⟨r2, g2⟩ := r1.stored (k * 8 + 2) (.int .i64 c.x.d.id)
  obtain ⟨r3, g3⟩ := r2.stored (k * 8 + 3) (.int .i64 c.x.d.zn)
  obtain ⟨r4, g4⟩ := r3.stored (k * 8 + 4) (.int .i64 c.x.d.rk)
  obtain ⟨r5, g5⟩ := r4.stored (k * 8 + 5) (.int .i64 c.x.d.wt)
  obtain ⟨r6, g6⟩ := r5.stored (k * 8 + 6) (.int .i64 c.x.d.g)
  obtain ⟨r7, g7⟩ := r6.stored (k * 8 + 7) (.slice c.a c.l c.c)
  rw [celsV_set7 L k hk c hb] at r7
  exact ⟨r7, (grownBy_trans (grownBy_trans (grownBy_trans (grownBy_trans (grownBy_trans (grownBy_trans g1 g2) g3) g4) g5) g6) g7)⟩
def CopyPost (d : Dl) (w : World) (e : Ending) (w' : World) : Prop := Below w.heap.size w w' ∧ ∃ (a : Option Addr) (c : Nat), e = .returned (.agg #[.int .i64 d.k, .int .i64 d.id, .int .i64 d.zn, .int .i64 d.rk, .int .i64 d.wt, .int .i64 d.g, .slice a d.ns.length c]) ∧ w'.ownsRow w.heap.size 3 1 (.slice a d.ns.length c) d.ns.length (intCells d.ns)
set_option maxHeartbeats 4000000 in
set_option maxRecDepth 60000 in
theorem copyOf_any (d : Dl) (a : Option Addr) (l c : Nat) (w : World) (h : RowI w a l c d.ns) (hm : (l : Int) ≤ 1000) : Calls Try.prog 23 #[.agg #[.int .i64 d.k, .int .i64 d.id, .int .i64 d.zn, .int .i64 d.rk, .int .i64 d.wt, .int .i64 d.g, .slice a l c]] w fun e w' => CopyPost d w e w' := by
  have HB := Hid.mk9 (below2 (below_alloc w (.cells #[.int .i64 d.k, .int .i64 d.id, .int .i64 d.zn, .int .i64 d.rk, .int .i64 d.wt, .int .i64 d.g, .slice a l c] 28)) (below_alloc _ (.cells #[.int .i64 0, .int .i64 0, .int .i64 0, .int .i64 0, .int .i64 0, .int .i64 0, .slice none 0 0] 28)))
  have HX := Hid.mk9 ((B7.new w 28 (.int .i64 d.k) (.int .i64 d.id) (.int .i64 d.zn) (.int .i64 d.rk) (.int .i64 d.wt) (.int .i64 d.g) (.slice a l c)).below (below_alloc _ (.cells #[.int .i64 0, .int .i64 0, .int .i64 0, .int .i64 0, .int .i64 0, .int .i64 0, .slice none 0 0] 28)))
  have HY : Hid (B7 ((w.alloc (.cells #[.int .i64 d.k, .int .i64 d.id, .int .i64 d.zn, .int .i64 d.rk, .int .i64 d.wt, .int .i64 d.g, .slice a l c] 28)).alloc (.cells #[.int .i64 0, .int .i64 0, .int .i64 0, .int .i64 0, .int .i64 0, .int .i64 0, .slice none 0 0] 28)) (w.heap.size + 1) 28 (.int .i64 0) (.int .i64 0) (.int .i64 0) (.int .i64 0) (.int .i64 0) (.int .i64 0) (.slice none 0 0)) := by
    have := B7.new (w.alloc (.cells #[.int .i64 d.k, .int .i64 d.id, .int .i64 d.zn, .int .i64 d.rk, .int .i64 d.wt, .int .i64 d.g, .slice a l c] 28)) 28 (.int .i64 0) (.int .i64 0) (.int .i64 0) (.int .i64 0) (.int .i64 0) (.int .i64 0) (.slice none 0 0)
    rw [show (w.alloc (.cells #[.int .i64 d.k, .int .i64 d.id, .int .i64 d.zn, .int .i64 d.rk, .int .i64 d.wt, .int .i64 d.g, .slice a l c] 28)).heap.size = w.heap.size + 1 from by simp] at this
    exact this
  have HR := Hid.mk9 (h.below HB.out)
  clear h
  go_enter Try.func23, Try.ntmps23
  go_upto_region 1 with fail
  have HS : Hid (w.heap.size + 2 ≤ ((w.alloc (.cells #[.int .i64 d.k, .int .i64 d.id, .int .i64 d.zn, .int .i64 d.rk, .int .i64 d.wt, .int .i64 d.g, .slice a l c] 28)).alloc (.cells #[.int .i64 0, .int .i64 0, .int .i64 0, .int .i64 0, .int .i64 0, .int .i64 0, .slice none 0 0] 28)).heap.size) := Hid.mk9 (by simp)
  generalize ((w.alloc (.cells #[.int .i64 d.k, .int .i64 d.id, .int .i64 d.zn, .int .i64 d.rk, .int .i64 d.wt, .int .i64 d.g, .slice a l c] 28)).alloc (.cells #[.int .i64 0, .int .i64 0, .int .i64 0, .int .i64 0, .int .i64 0, .int .i64 0, .slice none 0 0] 28)) = w1 at *
  obtain ⟨X, hX⟩ : ∃ X, w.heap.size = X := ⟨_, rfl⟩
  have HXw : Hid (w.heap.size = X) := Hid.mk9 hX
  rw [hX] at HX HY HS ⊢
  clear hX
  obtain ⟨p0, p1, p2, p3, p4, p5, p6⟩ := HX.out.cells
  go_upto_region 2 with (at_builtin; refine append_copy rfl info3 rfl (by decide) (by decide) rfl _ _ rfl rfl a l c (intCells d.ns) rfl (by rw [Nat.mul_one]; simp [intCells]; exact HR.out.1) HR.out.lies HR.out.2.2.2.1 HR.out.2.1 (ints_one _) hm ?_; intro a3 c3 w3 hown3 hb3; have HO3 := Hid.mk9 hown3; have HB3 := Hid.mk9 (below2 HB.out hb3); have HX3 := Hid.mk9 (HX.out.below hb3); have HY3 := Hid.mk9 (HY.out.below hb3); clear hown3 hb3 p0 p1 p2 p3 p4 p5 p6; obtain ⟨p0, p1, p2, p3, p4, p5, p6⟩ := HX3.out.cells; obtain ⟨f0, f1, f2, f3, f4, f5, f6⟩ := HX3.out.frz)
  have HX4 := Hid.mk9 (HX3.out.put6 (.slice a3 l c3))
  have HY4 := Hid.mk9 (HY3.out.else (c := X) (i := 6) (.slice a3 l c3) (by omega))
  have HB4 := Hid.mk9 (HB3.out.setCell (p := ⟨X, 6, none⟩) (by show w.heap.size ≤ X; rw [HXw.out]; exact Nat.le_refl _) (.slice a3 l c3))
  have HO4 := Hid.mk9 (own_type HO3.out (set_grownBy w3 X 6 (.slice a3 l c3)) HX3.out (by decide))
  clear p0 p1 p2 p3 p4 p5 p6 f0 f1 f2 f3 f4 f5 f6 HX3 HY3 HB3 HO3 HX HY
  generalize w3.setCell ⟨X, 6, none⟩ (.slice a3 l c3) = w4 at *
  obtain ⟨p0, p1, p2, p3, p4, p5, p6⟩ := HX4.out.cells
  obtain ⟨q0, q1, q2, q3, q4, q5, q6⟩ := HY4.out.cells
  obtain ⟨f0, f1, f2, f3, f4, f5, f6⟩ := HY4.out.frz
  have HZ := Hid.mk9 (HY4.out.set (.int .i64 d.k) (.int .i64 d.id) (.int .i64 d.zn) (.int .i64 d.rk) (.int .i64 d.wt) (.int .i64 d.g) (.slice a3 l c3))
  have HZb := Hid.mk9 (set7_below HB4.out (b := X + 1) (by have := HXw.out; omega) (.int .i64 d.k) (.int .i64 d.id) (.int .i64 d.zn) (.int .i64 d.rk) (.int .i64 d.wt) (.int .i64 d.g) (.slice a3 l c3))
  have HZo : Hid ((set7 w4 (X + 1) (.int .i64 d.k) (.int .i64 d.id) (.int .i64 d.zn) (.int .i64 d.rk) (.int .i64 d.wt) (.int .i64 d.g) (.slice a3 l c3)).ownsRow w.heap.size 3 1 (.slice a3 l c3) l (intCells d.ns)) := Hid.mk9 (own_base (own_type HO4.out (set7_grownBy w4 (X + 1) (.int .i64 d.k) (.int .i64 d.id) (.int .i64 d.zn) (.int .i64 d.rk) (.int .i64 d.wt) (.int .i64 d.g) (.slice a3 l c3)) HY4.out (by decide)) HB.out.size)
  clear HX4 HY4 HO4
  go_wp2_with fail
  refine bodyPost_ret (ret_7 rfl _ _ (X + 1) _ _ _ _ _ _ _ rfl HZ.out) rfl ?_
  have hl := HR.out.1
  subst hl
  exact ⟨HZb.out, a3, c3, rfl, HZo.out⟩
end Go.Proofs.Ytejhmacbbdnlbaa.Ac
