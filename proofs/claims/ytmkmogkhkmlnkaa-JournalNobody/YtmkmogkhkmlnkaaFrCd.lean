/-
  A slice of data that came in.
-/
import Derived.Test.YtmkmogkhkmlnkaaFrLs
import Derived.Test.YtmkmogkhkmlnkaaFrOp
namespace Go.Proofs.Ytmkmogkhkmlnkaa.Fr
open Go.ChangeShapes Go.WideShapes Go.ChangeAt Go.RowKit
/-- a slice of data that came in -/
theorem open_datas {H : Type} {enc : TypeId × Value → H} {w : World} {base : Nat} {spare : Nat → Bool} {held : Bool} {fuel : Nat} {cs : List Value} {x : DataW H × List MemPlace} (h : DataW.trod enc Try.prog w base spare held fuel 33 cs = some x) :
    ∃ a len cap ds, cs = [.slice a len cap] ∧ DRow w a len cap ds := by
  have e29 : Try.prog.cellsOf 38 = 2 := by kernel_rfl
  rcases Go.Deep.open_slice Try.underlying33 h with ⟨hcs, _⟩ | ⟨a, len, cap, m, n, D, Pl, hcs, _, hl, hm, hmm, _, hx⟩
  · exact ⟨none, 0, 0, [], hcs, ⟨rfl, Nat.le_refl _, Nat.zero_le _, .inl rfl⟩⟩
  · have hlm : len ≤ m := by rw [hmm]; split <;> omega
    have each : ∀ i, ∃ d : Dat, i < len → ∃ x1 m1 k1 x2 m2 k2, w.cell? (a.add (i * 2)) = some (.slice x1 m1 k1) ∧ w.cell? ((a.add (i * 2)).add 1) = some (.slice x2 m2 k2) ∧ DataAt w (.agg #[.slice x1 m1 k1, .slice x2 m2 k2]) d.1 d.2 := fun i => by
      by_cases hi : i < len
      · obtain ⟨cs', h1, h2⟩ := hx i (by omega)
        rw [e29] at h1
        obtain ⟨_, hlen, hc⟩ := World.cells?_some h1
        match cs', hlen with
        | [c0, c1], _ =>
          obtain ⟨nums, texts, hd⟩ := open_data_cells h2
          have hd2 := hd
          obtain ⟨x1, m1, k1, x2, m2, k2, e, _⟩ := hd2
          simp at e
          obtain ⟨rfl, rfl⟩ := e
          refine ⟨(nums, texts), fun _ => ⟨x1, m1, k1, x2, m2, k2, ?_, hc 1 (by decide), hd⟩⟩
          have := hc 0 (by decide)
          simpa [Addr.add] using this
      · exact ⟨([], []), fun h => absurd h hi⟩
    obtain ⟨f, hf⟩ := Classical.axiomOfChoice each
    refine ⟨some a, len, cap, (List.range len).map f, hcs, ⟨by simp, hl, hm, ?_⟩⟩
    by_cases h0 : len = 0
    · exact .inl h0
    · obtain ⟨b, off, spot⟩ := a
      obtain ⟨y1, y2, y3, y4, y5, y6, h1, _, _⟩ := hf 0 (by omega)
      have hspot : spot = none := by simpa [Addr.add] using World.cell?_spot h1
      subst hspot
      refine .inr ⟨b, off, rfl, fun i hi => ?_⟩
      obtain ⟨x1, m1, k1, x2, m2, k2, h2, h3, h4⟩ := hf i hi
      rw [addr_add] at h2
      rw [addr_add, addr_add] at h3
      have eg : ((List.range len).map f).getD i ([], []) = f i := by simp [hi]
      rw [eg]
      exact ⟨x1, m1, k1, x2, m2, k2, h2, h3, h4⟩
set_option maxRecDepth 60000 in
theorem open_datasv {H : Type} {enc : TypeId × Value → H} {w : World} {base : Nat} {spare : Nat → Bool} {held : Bool} {r : Reach} {b0 : Nat} {v : Value} {d : DataW H} {p : List MemPlace} (hv : Value.okWide Try.prog w r b0 33 v) (h : DataW.Trod enc Try.prog w base spare held 33 v d p) :
    ∃ a len cap ds, v = .slice a len cap ∧ DRow w a len cap ds := by
  obtain ⟨a, len, cap, rfl⟩ := okWide_slice Try.underlying33 hv
  obtain ⟨fuel, hf⟩ := h
  obtain ⟨a', len', cap', ds, e, hm⟩ := open_datas hf
  simp [Value.cells] at e
  obtain ⟨rfl, rfl, rfl⟩ := e
  exact ⟨_, _, _, ds, rfl, hm⟩
end Go.Proofs.Ytmkmogkhkmlnkaa.Fr
