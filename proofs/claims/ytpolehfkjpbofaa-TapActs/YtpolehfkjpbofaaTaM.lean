/-
  The answer's taps in memory: rows of ints, and a slice of them; what keeps them; append; the contract of with.
-/
import Derived.Test.YtpolehfkjpbofaaTaK
import Derived.OwnWalk
import Derived.Laws.AppendOwn
namespace Go.Proofs.Ytpolehfkjpbofaa.Ta
open Go.ChangeShapes Go.WideShapes Go.ChangeAt Go.RowKit
/-- all blocks of a type are kept -/
def KeepT (T : Nat) (w w' : World) : Prop := ∀ (b : Nat) (cc : Array Value), w.heap[b]? = some (Obj.cells cc T (0, 0)) → w'.heap[b]? = w.heap[b]?
theorem KeepT.of_below {T : Nat} {w w' : World} (h : Below w.heap.size w w') : KeepT T w w' := fun b _ hb => h.block b (Array.getElem?_eq_some_iff.1 hb).1
theorem KeepT.of_kp {T p : Nat} {w w' : World} {v0 v1 : Value} (h : KpT p w w') (hx : Bx2 w p 53 v0 v1) (hT : T ≠ 53) : KeepT T w w' := fun b cc hb => by
  have hp : b ≠ p := fun e => by subst e; have hx' := hx; unfold Bx2 at hx'; rw [hx'] at hb; simp at hb; exact hT hb.2.symm
  rw [hb]
  exact h b _ hb hp (fun _ _ _ _ _ _ => by simp)
/-- a slice of values of one cell each -/
def VsAt (T : Nat) (w : World) (ad : Option Addr) (m c : Nat) (xs : List Value) : Prop :=
  xs.length = m ∧ m ≤ c ∧ c ≤ maxLen ∧ (m = 0 ∨ ∃ b off, ad = some ⟨b, off, none⟩ ∧ (∃ cc : Array Value, w.heap[b]? = some (Obj.cells cc T (0, 0))) ∧ ∀ (i : Nat) (v : Value), xs[i]? = some v → w.cell? ⟨b, off + i, none⟩ = some v)
theorem VsAt.kept {T : Nat} {w w' : World} {ad : Option Addr} {m c : Nat} {xs : List Value} (h : VsAt T w ad m c xs) (hk : KeepT T w w') : VsAt T w' ad m c xs := by
  refine ⟨h.1, h.2.1, h.2.2.1, ?_⟩
  rcases h.2.2.2 with h0 | ⟨b, off, e, ⟨cc, hb⟩, hc⟩
  · exact .inl h0
  · have hs := hk b cc hb
    exact .inr ⟨b, off, e, ⟨cc, hs.trans hb⟩, fun i v hv => by rw [cell_block hs]; exact hc i v hv⟩
theorem VsAt.below {T : Nat} {w w' : World} {ad : Option Addr} {m c : Nat} {xs : List Value} (h : VsAt T w ad m c xs) (hb : Below w.heap.size w w') : VsAt T w' ad m c xs := h.kept (KeepT.of_below hb)
def RowI (w : World) (ad : Option Addr) (m c : Nat) (l : List Int) : Prop := VsAt 3 w ad m c (intsV l)
def RowsAt (w : World) (ad : Option Addr) (m c : Nat) (P : List (List Int)) : Prop :=
  ∃ vs, VsAt 44 w ad m c vs ∧ vs.length = P.length ∧ ∀ i, i < P.length → ∃ a' n' c', vs[i]? = some (.slice a' n' c') ∧ RowI w a' n' c' (P.getD i [])
theorem RowsAt.kept {w w' : World} {ad : Option Addr} {m c : Nat} {P : List (List Int)} (h : RowsAt w ad m c P) (h3 : KeepT 3 w w') (h4 : KeepT 44 w w') : RowsAt w' ad m c P := by
  obtain ⟨vs, h1, h2, h5⟩ := h
  refine ⟨vs, h1.kept h4, h2, fun i hi => ?_⟩
  obtain ⟨a', n', c', e, hr⟩ := h5 i hi
  exact ⟨a', n', c', e, hr.kept h3⟩
theorem RowsAt.below {w w' : World} {ad : Option Addr} {m c : Nat} {P : List (List Int)} (h : RowsAt w ad m c P) (hb : Below w.heap.size w w') : RowsAt w' ad m c P := h.kept (KeepT.of_below hb) (KeepT.of_below hb)
theorem RowsAt.len {w : World} {ad : Option Addr} {m c : Nat} {P : List (List Int)} (h : RowsAt w ad m c P) : P.length = m := by
  obtain ⟨vs, h1, h2, _⟩ := h
  rw [← h2]; exact h1.1
/-- the cell of a row, and the row -/
theorem RowsAt.at {w : World} {ad : Option Addr} {m c : Nat} {P : List (List Int)} (h : RowsAt w ad m c P) {i : Nat} (hi : i < m) : ∃ b off, ad = some ⟨b, off, none⟩ ∧ ∃ a' n' c', w.cell? ⟨b, off + i, none⟩ = some (.slice a' n' c') ∧ RowI w a' n' c' (P.getD i []) := by
  have hl := h.len
  obtain ⟨vs, h1, h2, h5⟩ := h
  obtain ⟨a', n', c', e, hr⟩ := h5 i (by omega)
  rcases h1.2.2.2 with h0 | ⟨b, off, ea, _, hc⟩
  · omega
  · exact ⟨b, off, ea, a', n', c', hc i _ e, hr⟩
def one1 (T : Nat) : Prop := T = 3 ∨ T = 44
theorem info44z : (Try.prog.info? 44).map (fun i => (i.zero, i.size, i.bytes)) = some (some (.slice none 0 0), 1, 24) := by kernel_rfl
/-- many behind an own row -/
theorem append_vs {w w0 : World} {ops : Array Oper} {rest : List Oper} {o : Oper} {a : Act} {Q : Exit → Act → World → Prop} {t e by8 : Nat} {z : Value} (ht : Try.prog.underlying t = some (.slice e)) (hinfo : (Try.prog.info? e).map (fun i => (i.zero, i.size, i.bytes)) = some (some z, 1, by8)) (hz : z.cells.size = 1) (h24 : by8 ≤ 24) (hgd : o.guard = none) (s x : Operand)
    (ho : o.op = .call { callee := .builtin .append, args := #[s, x], argTypes := #[t, t] })
    (v : Value) (n : Nat) (L : List Value) (hs : a.eval s = v) (hown : w.ownsRow w0.heap.size e 1 v n L) (hb : Below w0.heap.size w0 w)
    (ad : Option Addr) (m c : Nat) (M : List Value) (hx : a.eval x = .slice ad m c) (hM : VsAt e w ad m c M) (h1 : ∀ u ∈ M, u.oneCell' = true) (hn : (n : Int) ≤ 1000) (hm : (m : Int) ≤ 1000)
    (h : ∀ v' w', w'.ownsRow w0.heap.size e 1 v' (n + m) (L ++ M) → Below w0.heap.size w0 w' → w.grownBy w' v.ownBlock → wpList Try.prog ops Q rest (a.put o.dst v') w') : wpList Try.prog ops Q (o :: rest) a w := by
  obtain ⟨i0, hi, hz0, hz1, hz2⟩ := info_parts hinfo
  by_cases h0 : m = 0
  · subst h0
    have hM0 : M = [] := List.length_eq_zero_iff.1 hM.1
    subst hM0
    refine wpList_plain hgd fun K hK => ?_
    have hl : ∀ (x : Addr), (loadCells x 0).run Try.prog w = .ok #[] w := fun x => by simpa using run_loadCells_list (P := Try.prog) w x [] (by simp)
    have hrun : (Builtin.append_ #[t, t] o.type #[v, .slice ad 0 c]).run Try.prog w = .ok v w := by
      rcases hown.2 with ⟨rfl, rfl⟩ | ⟨g, cap, cur, rfl, _, _, hnc, _⟩ <;> cases ad <;> simp [Builtin.append_, run_underlying ht, sizeOf, typeInfo, Builtin.lenOf, Builtin.firstCells, storeCells, *]
    unfold Oper.wp
    simp [execOp, ho, resolve, invoke, builtin, hs, hx, hrun]
    exact hK _ _ (h v w (by rw [List.append_nil]; exact hown) hb ⟨rfl, rfl, rfl, Nat.le_refl _, fun _ _ _ => rfl⟩)
  · rcases hM.2.2.2 with hh | ⟨b, off, rfl, _, hc⟩
    · omega
    · refine wpList_append_own _ hgd s x t ho w0.heap.size e i0 z 1 by8 ht hi hz0 hz1 hz2 hz (by decide) v n L hs hown ⟨b, off, none⟩ m c M hx (by rw [hM.1]; omega) (fun j u hj => by rw [addr_add2]; exact hc j u hj) h1 (by unfold maxLen; omega) (Nat.le_trans (Nat.mul_le_mul_left _ h24) (by omega)) hb.size ?_
      intro v' w' hown' hg _
      exact h v' w' hown' (hb.grown hg hb.size (fun k hk => (hown.lt k hk).1)) hg
theorem own_vs {w : World} {B n T : Nat} {v : Value} {L : List Value} (h : w.ownsRow B T 1 v n L) : ∃ a c, v = .slice a n c ∧ VsAt T w a n c L := by
  have hl : L.length = n := by have := h.1; omega
  obtain ⟨h1, ⟨e, h0⟩ | ⟨g, cap, cur, e, hB, hh, hn, hm, hs, ht⟩⟩ := h
  · subst h0
    exact ⟨none, 0, e, hl, Nat.le_refl _, Nat.zero_le _, .inl rfl⟩
  · subst e
    refine ⟨_, _, rfl, hl, hn, hm, ?_⟩
    by_cases h0 : n = 0
    · exact .inl h0
    · refine .inr ⟨g, 0, rfl, ⟨cur, hh⟩, fun i v hv => ?_⟩
      unfold World.cell?
      rw [show w.heap[(⟨g, 0 + i, none⟩ : Addr).block]? = _ from hh]
      have : (cur.toList.take (n * 1))[i]? = some v := by rw [ht]; exact hv
      have hi : i < n := by rw [← hl]; exact (List.getElem?_eq_some_iff.1 hv).1
      rw [List.getElem?_take_of_lt (by omega)] at this
      simpa using this
def Bx3 (w : World) (b T : Nat) (v0 v1 v2 : Value) : Prop := w.heap[b]? = some (.cells #[v0, v1, v2] T (0, 0))
theorem Bx3.lt {w : World} {b T : Nat} {v0 v1 v2 : Value} (h : Bx3 w b T v0 v1 v2) : b < w.heap.size := (Array.getElem?_eq_some_iff.1 h).1
theorem Bx3.kept {w : World} {b T : Nat} {v0 v1 v2 : Value} {w' : World} (h : Bx3 w b T v0 v1 v2) (e : w'.heap[b]? = w.heap[b]?) : Bx3 w' b T v0 v1 v2 := e.trans h
theorem Bx3.below {w : World} {b T : Nat} {v0 v1 v2 : Value} {w' : World} (h : Bx3 w b T v0 v1 v2) (hb : Below w.heap.size w w') : Bx3 w' b T v0 v1 v2 := h.kept (hb.block b h.lt)
theorem Bx3.new (w : World) (T : Nat) (v0 v1 v2 : Value) : Bx3 (w.alloc (.cells #[v0, v1, v2] T)) w.heap.size T v0 v1 v2 := heap_alloc_new w _
theorem Bx3.cells {w : World} {b T : Nat} {v0 v1 v2 : Value} (h : Bx3 w b T v0 v1 v2) : w.cell? ⟨b, 0, none⟩ = some v0 ∧ w.cell? ⟨b, 1, none⟩ = some v1 ∧ w.cell? ⟨b, 2, none⟩ = some v2 := by
  unfold World.cell?
  refine ⟨?_, ?_, ?_⟩
  · rw [show w.heap[(⟨b, 0, none⟩ : Addr).block]? = _ from h]; rfl
  · rw [show w.heap[(⟨b, 1, none⟩ : Addr).block]? = _ from h]; rfl
  · rw [show w.heap[(⟨b, 2, none⟩ : Addr).block]? = _ from h]; rfl
theorem Bx3.frz {w : World} {b T : Nat} {v0 v1 v2 : Value} (h : Bx3 w b T v0 v1 v2) : w.frozen? ⟨b, 0, none⟩ = false ∧ w.frozen? ⟨b, 1, none⟩ = false ∧ w.frozen? ⟨b, 2, none⟩ = false := by
  unfold World.frozen?
  refine ⟨?_, ?_, ?_⟩
  · rw [show w.heap[(⟨b, 0, none⟩ : Addr).block]? = _ from h]; rfl
  · rw [show w.heap[(⟨b, 1, none⟩ : Addr).block]? = _ from h]; rfl
  · rw [show w.heap[(⟨b, 2, none⟩ : Addr).block]? = _ from h]; rfl
def put3 (w : World) (b : Nat) (u0 u1 u2 : Value) : World := ((w.setCell ⟨b, 0, none⟩ u0).setCell ⟨b, 1, none⟩ u1).setCell ⟨b, 2, none⟩ u2
theorem Bx3.set {w : World} {b T : Nat} {v0 v1 v2 : Value} (h : Bx3 w b T v0 v1 v2) (u0 u1 u2 : Value) : Bx3 (put3 w b u0 u1 u2) b T u0 u1 u2 := by
  unfold put3
  have h0 := heap_setCell_same w b 0 _ _ u0 h
  have h1 := heap_setCell_same (w.setCell ⟨b, 0, none⟩ u0) b 1 _ _ u1 h0
  have h2 := heap_setCell_same ((w.setCell ⟨b, 0, none⟩ u0).setCell ⟨b, 1, none⟩ u1) b 2 _ _ u2 h1
  unfold Bx3
  rw [h2]
  rfl
theorem put3_else {w : World} {b k : Nat} (u0 u1 u2 : Value) (h : k ≠ b) : (put3 w b u0 u1 u2).heap[k]? = w.heap[k]? := by
  unfold put3
  rw [heap_setCell_other _ ⟨b, 2, none⟩ k _ h, heap_setCell_other _ ⟨b, 1, none⟩ k _ h, heap_setCell_other _ ⟨b, 0, none⟩ k _ h]
theorem put3_below {N : Nat} {w0 w : World} {b : Nat} (h : Below N w0 w) (hb : N ≤ b) (u0 u1 u2 : Value) : Below N w0 (put3 w b u0 u1 u2) := by
  unfold put3
  exact ((h.setCell (p := ⟨b, 0, none⟩) hb _).setCell (p := ⟨b, 1, none⟩) hb _).setCell (p := ⟨b, 2, none⟩) hb _
theorem Bx3.apart {w : World} {b T g : Nat} {v0 v1 v2 : Value} {cc : Array Value} {E : Nat} (h : Bx3 w b T v0 v1 v2) (hg : w.heap[g]? = some (.cells cc E (0, 0))) (hT : E ≠ T) : g ≠ b := fun e => by
  subst e; unfold Bx3 at h; rw [h] at hg; simp at hg; exact hT hg.2.symm
theorem keep_put3 {w : World} {b T E : Nat} {v0 v1 v2 : Value} (h : Bx3 w b T v0 v1 v2) (hT : E ≠ T) (u0 u1 u2 : Value) : KeepT E w (put3 w b u0 u1 u2) := fun _ _ hg => put3_else u0 u1 u2 (h.apart hg hT)
theorem below2 {a b c : World} (h : Below a.heap.size a b) (k : Below b.heap.size b c) : Below a.heap.size a c := h.trans (k.mono h.size)
theorem below_alloc (w : World) (o : Obj) : Below w.heap.size w (w.alloc o) := (Below.refl _ _).alloc (Nat.le_refl _) _
theorem own_empty (w : World) (T : Nat) : (w.alloc (.cells #[] T)).ownsRow w.heap.size T 1 (.slice (some ⟨w.heap.size, 0, none⟩) 0 0) 0 [] := by
  have := World.ownsRow_lit (base := w.heap.size) (e := T) (size := 1) w #[] 0 (by simp) (by unfold maxLen; omega) rfl
  simpa using this
theorem ret_bx3 {fn : Func} {p : Tmp} {T : Nat} (h : fn.results = #[.cell p 30]) (tmps : Array Value) (w : World) (b : Nat) (v0 v1 v2 : Value) (hp : tmps.getD p undef = .pointer (some ⟨b, 0, none⟩))
    (hb : Bx3 w b T v0 v1 v2) : (results fn tmps).run Try.prog w = .ok (.agg #[v0, v1, v2]) w := by
  obtain ⟨h0, h1, h2⟩ := hb.cells
  simp only [Array.getD_eq_getD_getElem?] at hp
  simp only [results, h]
  simp [go_sem, hp, h0, h1, h2]
end Go.Proofs.Ytpolehfkjpbofaa.Ta
