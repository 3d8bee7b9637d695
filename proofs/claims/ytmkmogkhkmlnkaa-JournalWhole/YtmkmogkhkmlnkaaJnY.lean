/-
  Rows of acts that came in; whether they are light.
-/
import Derived.Test.YtmkmogkhkmlnkaaJnX
import Derived.Test.YtmkmogkhkmlnkaaFrNn
namespace Go.Proofs.Ytmkmogkhkmlnkaa.Dm
open Go.ChangeShapes Go.WideShapes Go.ChangeAt Go.RowKit
def A10At (w : World) (b o : Nat) (X : A10) : Prop := ∃ c0 c1 c2 c3 c4 c5 c6 c7 c8, (w.cell? ⟨b, o, none⟩ = some c0 ∧ w.cell? ⟨b, o + 1, none⟩ = some c1 ∧ w.cell? ⟨b, o + 2, none⟩ = some c2 ∧ w.cell? ⟨b, o + 3, none⟩ = some c3 ∧ w.cell? ⟨b, o + 4, none⟩ = some c4 ∧ w.cell? ⟨b, o + 5, none⟩ = some c5 ∧ w.cell? ⟨b, o + 6, none⟩ = some c6 ∧ w.cell? ⟨b, o + 7, none⟩ = some c7 ∧ w.cell? ⟨b, o + 8, none⟩ = some c8) ∧ A10V w c0 c1 c2 c3 c4 c5 c6 c7 c8 X
def a10z : A10 := ⟨0, ([], []), [], 0⟩
def ActsAt (w : World) (a : Option Addr) (len cap : Nat) (L : List A10) : Prop := L.length = len ∧ len ≤ cap ∧ cap ≤ maxLen ∧ (len = 0 ∨ ∃ b off, a = some ⟨b, off, none⟩ ∧ ∀ i, i < len → A10At w b (off + i * 9) (L.getD i a10z))
theorem open_Acts {H : Type} {enc : TypeId × Value → H} {w : World} {base : Nat} {spare : Nat → Bool} {held : Bool} {fuel : Nat} {cs : List Value} {x : DataW H × List MemPlace} (h : DataW.trod enc Try.prog w base spare held fuel 22 cs = some x) :
    ∃ a len cap L, cs = [.slice a len cap] ∧ ActsAt w a len cap L := by
  rcases Go.Deep.open_slice Try.underlying22 h with ⟨hcs, _⟩ | ⟨a, len, cap, m, n, D, Pl, hcs, _, hl, hm, hmm, _, hx⟩
  · exact ⟨none, 0, 0, [], hcs, ⟨rfl, Nat.le_refl _, Nat.zero_le _, .inl rfl⟩⟩
  · have hlm : len ≤ m := by rw [hmm]; split <;> omega
    have each : ∀ i, ∃ X : A10, i < len → ∃ c0 c1 c2 c3 c4 c5 c6 c7 c8, (w.cell? (a.add (i * 9)) = some c0 ∧ w.cell? ((a.add (i * 9)).add 1) = some c1 ∧ w.cell? ((a.add (i * 9)).add 2) = some c2 ∧ w.cell? ((a.add (i * 9)).add 3) = some c3 ∧ w.cell? ((a.add (i * 9)).add 4) = some c4 ∧ w.cell? ((a.add (i * 9)).add 5) = some c5 ∧ w.cell? ((a.add (i * 9)).add 6) = some c6 ∧ w.cell? ((a.add (i * 9)).add 7) = some c7 ∧ w.cell? ((a.add (i * 9)).add 8) = some c8) ∧ A10V w c0 c1 c2 c3 c4 c5 c6 c7 c8 X := fun i => by
      by_cases hi : i < len
      · obtain ⟨cs', h1, h2⟩ := hx i (by omega)
        rw [cellsA10] at h1
        obtain ⟨_, hlen, hc⟩ := World.cells?_some h1
        match cs', hlen with
        | [c0, c1, c2, c3, c4, c5, c6, c7, c8], _ =>
          obtain ⟨X, hX⟩ := open_a10 h2
          refine ⟨X, fun _ => ⟨c0, c1, c2, c3, c4, c5, c6, c7, c8, ⟨?_, hc 1 (by simp), hc 2 (by simp), hc 3 (by simp), hc 4 (by simp), hc 5 (by simp), hc 6 (by simp), hc 7 (by simp), hc 8 (by simp)⟩, hX⟩⟩
          have := hc 0 (by simp)
          simpa [Addr.add] using this
      · exact ⟨a10z, fun h => absurd h hi⟩
    obtain ⟨f, hf⟩ := Classical.axiomOfChoice each
    refine ⟨some a, len, cap, (List.range len).map f, hcs, ⟨by simp, hl, hm, ?_⟩⟩
    by_cases h0 : len = 0
    · exact .inl h0
    · obtain ⟨b, off, spot⟩ := a
      have hq := hf 0 (by omega)
      obtain ⟨_, _, _, _, _, _, _, _, _, ⟨h1, -⟩, -⟩ := hq
      have hspot : spot = none := by simpa [Addr.add] using World.cell?_spot h1
      subst hspot
      refine .inr ⟨b, off, rfl, fun i hi => ?_⟩
      have eg : ((List.range len).map f).getD i a10z = f i := by simp [hi]
      rw [eg]
      have := hf i hi
      simp only [addr_add] at this
      exact this
set_option maxRecDepth 60000 in
theorem open_actsv {H : Type} {enc : TypeId × Value → H} {w : World} {base : Nat} {spare : Nat → Bool} {held : Bool} {r : Reach} {b0 : Nat} {v : Value} {d : DataW H} {p : List MemPlace} (hv : Value.okWide Try.prog w r b0 22 v) (h : DataW.Trod enc Try.prog w base spare held 22 v d p) :
    ∃ a len cap L, v = .slice a len cap ∧ ActsAt w a len cap L := by
  obtain ⟨a, len, cap, rfl⟩ := okWide_slice Try.underlying22 hv
  obtain ⟨fuel, hf⟩ := h
  obtain ⟨a', len', cap', ds, e, hm⟩ := open_Acts hf
  simp [Value.cells] at e
  obtain ⟨rfl, rfl, rfl⟩ := e
  exact ⟨_, _, _, ds, rfl, hm⟩
def A9At (w : World) (b o : Nat) (X : A9) : Prop := ∃ c0 c1 c2 c3 c4, (w.cell? ⟨b, o, none⟩ = some c0 ∧ w.cell? ⟨b, o + 1, none⟩ = some c1 ∧ w.cell? ⟨b, o + 2, none⟩ = some c2 ∧ w.cell? ⟨b, o + 3, none⟩ = some c3 ∧ w.cell? ⟨b, o + 4, none⟩ = some c4) ∧ A9V w c0 c1 c2 c3 c4 X
def a9z : A9 := ⟨0, []⟩
def Acts9At (w : World) (a : Option Addr) (len cap : Nat) (L : List A9) : Prop := L.length = len ∧ len ≤ cap ∧ cap ≤ maxLen ∧ (len = 0 ∨ ∃ b off, a = some ⟨b, off, none⟩ ∧ ∀ i, i < len → A9At w b (off + i * 5) (L.getD i a9z))
theorem open_Acts9 {H : Type} {enc : TypeId × Value → H} {w : World} {base : Nat} {spare : Nat → Bool} {held : Bool} {fuel : Nat} {cs : List Value} {x : DataW H × List MemPlace} (h : DataW.trod enc Try.prog w base spare held fuel 23 cs = some x) :
    ∃ a len cap L, cs = [.slice a len cap] ∧ Acts9At w a len cap L := by
  rcases Go.Deep.open_slice Try.underlying23 h with ⟨hcs, _⟩ | ⟨a, len, cap, m, n, D, Pl, hcs, _, hl, hm, hmm, _, hx⟩
  · exact ⟨none, 0, 0, [], hcs, ⟨rfl, Nat.le_refl _, Nat.zero_le _, .inl rfl⟩⟩
  · have hlm : len ≤ m := by rw [hmm]; split <;> omega
    have each : ∀ i, ∃ X : A9, i < len → ∃ c0 c1 c2 c3 c4, (w.cell? (a.add (i * 5)) = some c0 ∧ w.cell? ((a.add (i * 5)).add 1) = some c1 ∧ w.cell? ((a.add (i * 5)).add 2) = some c2 ∧ w.cell? ((a.add (i * 5)).add 3) = some c3 ∧ w.cell? ((a.add (i * 5)).add 4) = some c4) ∧ A9V w c0 c1 c2 c3 c4 X := fun i => by
      by_cases hi : i < len
      · obtain ⟨cs', h1, h2⟩ := hx i (by omega)
        rw [cellsA9] at h1
        obtain ⟨_, hlen, hc⟩ := World.cells?_some h1
        match cs', hlen with
        | [c0, c1, c2, c3, c4], _ =>
          obtain ⟨X, hX⟩ := open_a9 h2
          refine ⟨X, fun _ => ⟨c0, c1, c2, c3, c4, ⟨?_, hc 1 (by simp), hc 2 (by simp), hc 3 (by simp), hc 4 (by simp)⟩, hX⟩⟩
          have := hc 0 (by simp)
          simpa [Addr.add] using this
      · exact ⟨a9z, fun h => absurd h hi⟩
    obtain ⟨f, hf⟩ := Classical.axiomOfChoice each
    refine ⟨some a, len, cap, (List.range len).map f, hcs, ⟨by simp, hl, hm, ?_⟩⟩
    by_cases h0 : len = 0
    · exact .inl h0
    · obtain ⟨b, off, spot⟩ := a
      have hq := hf 0 (by omega)
      obtain ⟨_, _, _, _, _, ⟨h1, -⟩, -⟩ := hq
      have hspot : spot = none := by simpa [Addr.add] using World.cell?_spot h1
      subst hspot
      refine .inr ⟨b, off, rfl, fun i hi => ?_⟩
      have eg : ((List.range len).map f).getD i a9z = f i := by simp [hi]
      rw [eg]
      have := hf i hi
      simp only [addr_add] at this
      exact this
set_option maxRecDepth 60000 in
theorem open_acts9v {H : Type} {enc : TypeId × Value → H} {w : World} {base : Nat} {spare : Nat → Bool} {held : Bool} {r : Reach} {b0 : Nat} {v : Value} {d : DataW H} {p : List MemPlace} (hv : Value.okWide Try.prog w r b0 23 v) (h : DataW.Trod enc Try.prog w base spare held 23 v d p) :
    ∃ a len cap L, v = .slice a len cap ∧ Acts9At w a len cap L := by
  obtain ⟨a, len, cap, rfl⟩ := okWide_slice Try.underlying23 hv
  obtain ⟨fuel, hf⟩ := h
  obtain ⟨a', len', cap', ds, e, hm⟩ := open_Acts9 hf
  simp [Value.cells] at e
  obtain ⟨rfl, rfl, rfl⟩ := e
  exact ⟨_, _, _, ds, rfl, hm⟩
theorem A9V.below {w w' : World} {c0 c1 c2 c3 c4 : Value} {x : A9} (h : A9V w c0 c1 c2 c3 c4 x) (hb : Below w.heap.size w w') : A9V w' c0 c1 c2 c3 c4 x := by
  obtain ⟨h1, h2, h3, h4, h5, a, l, c, e, hB⟩ := h
  refine ⟨h1, h2, h3, h4, h5, a, l, c, e, ⟨hB.eq, hB.lc, hB.cm, ?_⟩⟩
  rcases hB.at_ with h0 | ⟨b, off, rfl, hc⟩
  · exact .inl h0
  · exact .inr ⟨b, off, rfl, fun i hi => (hb.cell (p := ⟨b, off + i, none⟩) (World.block_lt_of_cell? w ⟨b, off + i, none⟩ (hc i hi))).trans (hc i hi)⟩
theorem A10V.below {w w' : World} {c0 c1 c2 c3 c4 c5 c6 c7 c8 : Value} {X : A10} (h : A10V w c0 c1 c2 c3 c4 c5 c6 c7 c8 X) (hb : Below w.heap.size w w') : A10V w' c0 c1 c2 c3 c4 c5 c6 c7 c8 X := by
  obtain ⟨h1, h2, ⟨a, l, c, e, h3⟩, p, h4⟩ := h
  exact ⟨h1, h2.below hb, ⟨a, l, c, e, h3.below hb⟩, p, h4.below hb⟩
theorem cell_below {w w' : World} {b o : Nat} {v : Value} (h : w.cell? ⟨b, o, none⟩ = some v) (hb : Below w.heap.size w w') : w'.cell? ⟨b, o, none⟩ = some v := (hb.cell (p := ⟨b, o, none⟩) (World.block_lt_of_cell? w ⟨b, o, none⟩ h)).trans h
theorem ActsAt.below {w w' : World} {a : Option Addr} {len cap : Nat} {L : List A10} (h : ActsAt w a len cap L) (hb : Below w.heap.size w w') : ActsAt w' a len cap L := by
  refine ⟨h.1, h.2.1, h.2.2.1, ?_⟩
  rcases h.2.2.2 with h0 | ⟨b, off, rfl, hc⟩
  · exact .inl h0
  · refine .inr ⟨b, off, rfl, fun i hi => ?_⟩
    obtain ⟨c0, c1, c2, c3, c4, c5, c6, c7, c8, ⟨h0, h1, h2, h3, h4, h5, h6, h7, h8⟩, hV⟩ := hc i hi
    exact ⟨c0, c1, c2, c3, c4, c5, c6, c7, c8, ⟨cell_below h0 hb, cell_below h1 hb, cell_below h2 hb, cell_below h3 hb, cell_below h4 hb, cell_below h5 hb, cell_below h6 hb, cell_below h7 hb, cell_below h8 hb⟩, hV.below hb⟩
theorem Acts9At.below {w w' : World} {a : Option Addr} {len cap : Nat} {L : List A9} (h : Acts9At w a len cap L) (hb : Below w.heap.size w w') : Acts9At w' a len cap L := by
  refine ⟨h.1, h.2.1, h.2.2.1, ?_⟩
  rcases h.2.2.2 with h0 | ⟨b, off, rfl, hc⟩
  · exact .inl h0
  · refine .inr ⟨b, off, rfl, fun i hi => ?_⟩
    obtain ⟨c0, c1, c2, c3, c4, ⟨h0, h1, h2, h3, h4⟩, hV⟩ := hc i hi
    exact ⟨c0, c1, c2, c3, c4, ⟨cell_below h0 hb, cell_below h1 hb, cell_below h2 hb, cell_below h3 hb, cell_below h4 hb⟩, hV.below hb⟩
/-- an act that is light -/
def LightA (X : A10) : Prop := X.x.2.length ≤ 400 ∧ X.l.length ≤ 20 ∧ ∀ d ∈ X.l, d.2.length ≤ 400
end Go.Proofs.Ytmkmogkhkmlnkaa.Dm
