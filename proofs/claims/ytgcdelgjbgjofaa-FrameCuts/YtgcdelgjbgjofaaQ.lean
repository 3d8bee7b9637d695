/-
  Facts on a world in which one block is written and others grow.
-/
import Derived.Test.YtgcdelgjbgjofaaK
import Derived.Deep.RegionLaw
import Derived.Laws.AppendOwn
namespace Go.Proofs.Ytgcdelgjbgjofaa
open Go.ChangeShapes Go.WideShapes Go.ChangeAt Go.RowKit
/-- nothing below B but block D has turned -/
def BB (D B : Nat) (w w' : World) : Prop :=
  (w'.os = w.os ∧ w'.tape = w.tape ∧ w'.output = w.output) ∧ w.heap.size ≤ w'.heap.size ∧ ∀ k, k < B → k ≠ D → w'.heap[k]? = w.heap[k]?
theorem BB.os {D B : Nat} {w w' : World} (h : BB D B w w') : w'.os = w.os := h.1.1
theorem BB.tape {D B : Nat} {w w' : World} (h : BB D B w w') : w'.tape = w.tape := h.1.2.1
theorem BB.output {D B : Nat} {w w' : World} (h : BB D B w w') : w'.output = w.output := h.1.2.2
theorem BB.size {D B : Nat} {w w' : World} (h : BB D B w w') : w.heap.size ≤ w'.heap.size := h.2.1
theorem BB.block {D B : Nat} {w w' : World} (h : BB D B w w') : ∀ k, k < B → k ≠ D → w'.heap[k]? = w.heap[k]? := h.2.2
theorem BB.refl (D B : Nat) (w : World) : BB D B w w := ⟨⟨rfl, rfl, rfl⟩, Nat.le_refl _, fun _ _ _ => rfl⟩
theorem BB.trans {D B : Nat} {a b c : World} (h : BB D B a b) (k : BB D B b c) : BB D B a c :=
  ⟨⟨k.os.trans h.os, k.tape.trans h.tape, k.output.trans h.output⟩, Nat.le_trans h.size k.size, fun i hi hd => (k.block i hi hd).trans (h.block i hi hd)⟩
theorem BB.of_below {D B B' : Nat} {a b : World} (h : Below B' a b) (hB : B ≤ B') : BB D B a b := ⟨⟨h.os, h.tape, h.output⟩, h.size, fun i hi _ => h.block i (Nat.lt_of_lt_of_le hi hB)⟩
theorem BB.mono {D B B' : Nat} {a b : World} (h : BB D B' a b) (hB : B ≤ B') : BB D B a b := ⟨⟨h.os, h.tape, h.output⟩, h.size, fun i hi hd => h.block i (Nat.lt_of_lt_of_le hi hB) hd⟩
theorem BB.grown {D B : Nat} {a b : World} {row : Option Nat} (h : a.grownBy b row) (hB : B ≤ a.heap.size) (hr : ∀ k, row = some k → B ≤ k) : BB D B a b :=
  ⟨⟨h.os, h.tape, h.output⟩, h.size, fun i hi _ => h.block i (by omega) (fun e => by have := hr i e.symm; omega)⟩
theorem BB.setCell (D B : Nat) (a : World) (p : Addr) (v : Value) (hp : p.block = D) : BB D B a (a.setCell p v) :=
  ⟨⟨rfl, rfl, rfl⟩, by simp, fun i _ hd => Below.heap_setCell _ _ _ _ (by omega)⟩
theorem BB.below {D B : Nat} {a b : World} (h : BB D B a b) (hD : D < B) : Below D a b := ⟨h.os, h.tape, h.output, h.size, fun i hi => h.block i (by omega) (by omega)⟩
theorem RowAt.bb {D : Nat} {w w' : World} {a : Option Addr} {len cap : Nat} {cs : List Value} (h : RowAt w a len cap cs) (hb : BB D w.heap.size w w') (hne : ∀ x, a = Option.some x → x.block ≠ D) : RowAt w' a len cap cs := by
  refine ⟨h.1, h.2.1, h.2.2.1, ?_⟩
  rcases h.2.2.2 with h0 | ⟨b, off, e, hc⟩
  · exact .inl h0
  · refine .inr ⟨b, off, e, fun i hi => ?_⟩
    have hl : i < cs.length := by rw [h.1]; exact hi
    have hx := hc i hi
    rw [List.getElem?_eq_getElem hl] at hx
    have hlt : b < w.heap.size := World.block_lt_of_cell? w ⟨b, off + i, none⟩ hx
    exact (World.cell?_of_block (hb.block b hlt (hne _ e))).trans (hc i hi)
/-- block D holds x and y, and nothing else below has turned -/
def DF (w2 : World) (D : Nat) (wr : World) (x y : Value) : Prop :=
  BB D w2.heap.size w2 wr ∧ (wr.cell? ⟨D, 0, none⟩ = some x ∧ wr.cell? ⟨D, 1, none⟩ = some y) ∧ wr.frozen? ⟨D, 0, none⟩ = false ∧ wr.frozen? ⟨D, 1, none⟩ = false
theorem DF.block {w2 : World} {D : Nat} {wr w' : World} {x y : Value} (h : DF w2 D wr x y) (hb : BB D w2.heap.size wr w') (hD : w'.heap[D]? = wr.heap[D]?) : DF w2 D w' x y := by
  obtain ⟨h1, ⟨h2, h3⟩, h4, h5⟩ := h
  exact ⟨h1.trans hb, ⟨(World.cell?_of_block hD).trans h2, (World.cell?_of_block hD).trans h3⟩, (World.frozen?_of_block hD).trans h4, (World.frozen?_of_block hD).trans h5⟩
theorem DF.below {w2 : World} {D : Nat} {wr w' : World} {x y : Value} (h : DF w2 D wr x y) (hD : D < w2.heap.size) (hb : Below wr.heap.size wr w') : DF w2 D w' x y :=
  h.block (BB.of_below hb h.1.size) (hb.block D (Nat.lt_of_lt_of_le hD h.1.size))
theorem DF.grown {w2 : World} {D : Nat} {wr w' : World} {x y : Value} {row : Option Nat} (h : DF w2 D wr x y) (hD : D < w2.heap.size) (hg : wr.grownBy w' row) (hr : ∀ k, row = some k → w2.heap.size ≤ k) : DF w2 D w' x y :=
  h.block (BB.grown hg h.1.size hr) (hg.block D (Nat.lt_of_lt_of_le hD h.1.size) (fun e => by have := hr D e.symm; omega))
theorem DF.set0 {w2 : World} {D : Nat} {wr : World} {x y : Value} (h : DF w2 D wr x y) (u : Value) : DF w2 D (wr.setCell ⟨D, 0, none⟩ u) u y := by
  obtain ⟨h1, ⟨h2, h3⟩, h4, h5⟩ := h
  refine ⟨h1.trans (BB.setCell _ _ _ _ _ rfl), ⟨World.cell?_setCell_same _ _ _ h2, ?_⟩, (World.frozen?_setCell _ _ _ _).trans h4, (World.frozen?_setCell _ _ _ _).trans h5⟩
  rw [World.cell?_setCell_other _ _ _ _ (by intro h; simpa using congrArg Addr.off h)]; exact h3
theorem DF.set1 {w2 : World} {D : Nat} {wr : World} {x y : Value} (h : DF w2 D wr x y) (u : Value) : DF w2 D (wr.setCell ⟨D, 1, none⟩ u) x u := by
  obtain ⟨h1, ⟨h2, h3⟩, h4, h5⟩ := h
  refine ⟨h1.trans (BB.setCell _ _ _ _ _ rfl), ⟨?_, World.cell?_setCell_same _ _ _ h3⟩, (World.frozen?_setCell _ _ _ _).trans h4, (World.frozen?_setCell _ _ _ _).trans h5⟩
  rw [World.cell?_setCell_other _ _ _ _ (by intro h; simpa using congrArg Addr.off h)]; exact h2
theorem own_setCell {w : World} {base s n : Nat} {e : TypeId} {v : Value} {xs : List Value} (h : w.ownsRow base e s v n xs) (p : Addr) (hp : p.block < base) (u : Value) : (w.setCell p u).ownsRow base e s v n xs := by
  obtain ⟨hl, h | ⟨g, cap, cur, rfl, hg, hh, r⟩⟩ := h
  · exact ⟨hl, .inl h⟩
  · exact ⟨hl, .inr ⟨g, cap, cur, rfl, hg, (Below.heap_setCell _ _ _ _ (by omega)).trans hh, r⟩⟩
/-- append to a row of one's own, as one step of a region that draws -/
theorem step_append_own {P : Program} {ops : Array Oper} {o : Oper} {a : Act} (w : World) {K : Act → World → Prop} {Q : Exit → Act → World → Prop} {E : Prop} (hgd : o.guard = none) (s x : Operand) (t : TypeId)
    (ho : o.op = .call { callee := .builtin .append, args := #[s, x], argTypes := #[t, t] })
    (base : Nat) (e : TypeId) (i : TypeInfo) (z : Value) (size bytes : Nat) (ht : P.underlying t = some (.slice e)) (hi : P.info? e = some i) (hz : i.zero = some z)
    (hsize : i.size = size) (hby : i.bytes = bytes) (hzs : z.cells.size = size) (hsz : 0 < size)
    (v : Value) (n : Nat) (xs : List Value) (hs : a.eval s = v) (hown : w.ownsRow base e size v n xs)
    (ad : Addr) (m c : Nat) (news : List Value) (hx : a.eval x = .slice (some ad) m c) (hl : news.length = m * size) (hnews : ∀ j u, news[j]? = some u → w.cell? (ad.add j) = some u) (h1 : ∀ u ∈ news, u.oneCell' = true)
    (h63 : n + m ≤ maxLen) (hbytes : (n + m) * bytes ≤ 140737488355328) (hbase : base ≤ w.heap.size)
    (h : ∀ v' w', w'.ownsRow base e size v' (n + m) (xs ++ news) → w.grownBy w' v.ownBlock → (v' = .slice none 0 0 ↔ v = .slice none 0 0 ∧ m = 0) → K (a.put o.dst v') w') :
    if Region.wanted o (yielded ops a.tmps) = true then Oper.wp P o a w K Q else E := by
  have hw : Region.wanted o (yielded ops a.tmps) = true := by simp [Region.wanted, hgd]
  rw [if_pos hw]
  exact wp_append_own w s x t ho base e i z size bytes ht hi hz hsize hby hzs hsz v n xs hs hown ad m c news hx hl hnews h1 h63 hbytes hbase h
end Go.Proofs.Ytgcdelgjbgjofaa
