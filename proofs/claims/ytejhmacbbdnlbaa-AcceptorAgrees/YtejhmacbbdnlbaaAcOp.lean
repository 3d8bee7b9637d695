/-
  Parameters of layer 16, opened: acceptors, deltas, three numbers.
-/
import Derived.Test.YtejhmacbbdnlbaaAcA
import Derived.OpenShut
import Derived.Deep.Slices
import Derived.Deep.Strs
import Derived.Test.YtejhmacbbdnlbaaAcI
namespace Go.Proofs.Ytejhmacbbdnlbaa.Ac
open Go.ChangeShapes Go.WideShapes Go.ChangeAt Go.RowKit
theorem cellsIs : Try.prog.cellsOf 26 = 1 := by kernel_rfl
theorem cells3 : Try.prog.cellsOf 3 = 1 := by kernel_rfl
theorem okWide_arr {P : Program} {w : World} {r : Reach} {base n : Nat} {t e : TypeId} {v : Value} (ht : P.underlying t = some (.array n e)) (h : Value.okWide P w r base t v) : ∃ cs, v = .agg cs ∧ cs.size = P.cellsOf t := by
  unfold Value.okWide at h
  rw [ht] at h
  obtain ⟨cs, h1, h2, _⟩ := h
  exact ⟨cs, h1, h2⟩
theorem open_rowI {H : Type} {enc : TypeId × Value → H} {w : World} {base : Nat} {spare : Nat → Bool} {held : Bool} {fuel : Nat} {cs : List Value} {x : DataW H × List MemPlace} (h : DataW.trod enc Try.prog w base spare held fuel 26 cs = some x) : ∃ a len cap ls, cs = [.slice a len cap] ∧ RowI w a len cap ls := by
  rcases Go.Deep.open_slice Try.underlying26 h with ⟨hcs, _⟩ | ⟨a, len, cap, m, n, D, Pl, hcs, _, hl, hm, hmm, _, hx⟩
  · exact ⟨none, 0, 0, [], hcs, RowI.nil w⟩
  · have hlm : len ≤ m := by rw [hmm]; split <;> omega
    have each : ∀ i, ∃ l : Int, i < len → w.cell? (a.add i) = some (.int .i64 l) := fun i => by
      by_cases hi : i < len
      · obtain ⟨cs', h1, h2⟩ := hx i (by omega)
        rw [cells3] at h1
        obtain ⟨_, hlen, hc⟩ := World.cells?_some h1
        match cs', hlen with
        | [c0], _ =>
          obtain ⟨s0, e0, _, z0⟩ := DataW.trod_int Try.underlying3 h2
          simp at e0
          refine ⟨s0, fun _ => ?_⟩
          have := hc 0 (by simp)
          rw [e0] at this
          simpa [Addr.add] using this
      · exact ⟨0, fun h => absurd h hi⟩
    obtain ⟨f, hf⟩ := Classical.axiomOfChoice each
    refine ⟨some a, len, cap, (List.range len).map f, hcs, ⟨by simp, hl, hm, nofun, ?_⟩⟩
    by_cases h0 : len = 0
    · exact .inl h0
    · obtain ⟨b, off, spot⟩ := a
      have h1 := hf 0 (by omega)
      have hspot : spot = none := by simpa [Addr.add] using World.cell?_spot h1
      subst hspot
      refine .inr ⟨b, off, rfl, fun i hi => ?_⟩
      have h2 := hf i hi
      rw [show ((List.range len).map f).getD i 0 = f i by simp [hi]]
      rw [addr_add] at h2
      exact h2
theorem trod_struct7 {P : Program} {H : Type} {enc : TypeId × Value → H} {w : World} {base : Nat} {spare : Nat → Bool} {held : Bool} {t : TypeId} {f0 f1 f2 f3 f4 f5 f6 : Field} {fuel : Nat} {cs : List Value} {x : DataW H × List MemPlace} (ht : P.underlying t = some (.struct #[f0, f1, f2, f3, f4, f5, f6])) (h : DataW.trod enc P w base spare held fuel t cs = some x) :
    ∃ y0 y1 y2 y3 y4 y5 y6 n, DataW.trod enc P w base spare held n f0.type ((cs.drop f0.offset).take (P.cellsOf f0.type)) = some y0 ∧ DataW.trod enc P w base spare held n f1.type ((cs.drop f1.offset).take (P.cellsOf f1.type)) = some y1 ∧ DataW.trod enc P w base spare held n f2.type ((cs.drop f2.offset).take (P.cellsOf f2.type)) = some y2 ∧ DataW.trod enc P w base spare held n f3.type ((cs.drop f3.offset).take (P.cellsOf f3.type)) = some y3 ∧ DataW.trod enc P w base spare held n f4.type ((cs.drop f4.offset).take (P.cellsOf f4.type)) = some y4 ∧ DataW.trod enc P w base spare held n f5.type ((cs.drop f5.offset).take (P.cellsOf f5.type)) = some y5 ∧ DataW.trod enc P w base spare held n f6.type ((cs.drop f6.offset).take (P.cellsOf f6.type)) = some y6 := by
  obtain ⟨xs, n, _, rfl, hl, hlen, hf⟩ := DataW.trod_struct ht h
  match xs, hlen with
  | [y0, y1, y2, y3, y4, y5, y6], _ => exact ⟨y0, y1, y2, y3, y4, y5, y6, n, by simpa using hf 0 f0 rfl, by simpa using hf 1 f1 rfl, by simpa using hf 2 f2 rfl, by simpa using hf 3 f3 rfl, by simpa using hf 4 f4 rfl, by simpa using hf 5 f5 rfl, by simpa using hf 6 f6 rfl⟩
theorem cells28 : Try.prog.cellsOf 28 = 7 := by kernel_rfl
theorem cells49 : Try.prog.cellsOf 49 = 8 := by kernel_rfl
theorem cells24 : Try.prog.cellsOf 24 = 2 := by kernel_rfl
theorem cells22 : Try.prog.cellsOf 22 = 1 := by kernel_rfl
def dlV (d : Dl) (a : Option Addr) (len cap : Nat) : List Value := [.int .i64 d.k, .int .i64 d.id, .int .i64 d.zn, .int .i64 d.rk, .int .i64 d.wt, .int .i64 d.g, .slice a len cap]
theorem open_dl {H : Type} {enc : TypeId × Value → H} {w : World} {base : Nat} {spare : Nat → Bool} {held : Bool} {fuel : Nat} {c0 c1 c2 c3 c4 c5 c6 : Value} {x : DataW H × List MemPlace} (h : DataW.trod enc Try.prog w base spare held fuel 28 [c0, c1, c2, c3, c4, c5, c6] = some x) : ∃ d a len cap, [c0, c1, c2, c3, c4, c5, c6] = dlV d a len cap ∧ RowI w a len cap d.ns := by
  obtain ⟨y0, y1, y2, y3, y4, y5, y6, n, h0, h1, h2, h3, h4, h5, h6⟩ := trod_struct7 Try.underlying28 h
  simp only [cells3, cellsIs] at h0 h1 h2 h3 h4 h5 h6
  obtain ⟨s0, e0, _, z0⟩ := DataW.trod_int Try.underlying3 h0
  obtain ⟨s1, e1, _, z1⟩ := DataW.trod_int Try.underlying3 h1
  obtain ⟨s2, e2, _, z2⟩ := DataW.trod_int Try.underlying3 h2
  obtain ⟨s3, e3, _, z3⟩ := DataW.trod_int Try.underlying3 h3
  obtain ⟨s4, e4, _, z4⟩ := DataW.trod_int Try.underlying3 h4
  obtain ⟨s5, e5, _, z5⟩ := DataW.trod_int Try.underlying3 h5
  obtain ⟨a, len, cap, ls, e6, hr⟩ := open_rowI h6
  simp at e0 e1 e2 e3 e4 e5 e6
  exact ⟨⟨s0, s1, s2, s3, s4, s5, ls⟩, a, len, cap, by rw [e0, e1, e2, e3, e4, e5, e6]; rfl, hr⟩
set_option maxRecDepth 60000 in
theorem open_deltav {H : Type} {enc : TypeId × Value → H} {w : World} {base : Nat} {spare : Nat → Bool} {held : Bool} {r : Reach} {b0 : Nat} {v : Value} {d : DataW H} {p : List MemPlace} (hv : Value.okWide Try.prog w r b0 28 v) (h : DataW.Trod enc Try.prog w base spare held 28 v d p) :
    ∃ d a len cap, v = .agg (dlV d a len cap).toArray ∧ RowI w a len cap d.ns := by
  obtain ⟨cs, rfl, hs⟩ := okWide_struct Try.underlying28 hv
  obtain ⟨fuel, hf⟩ := h
  rw [cells28] at hs
  obtain ⟨l⟩ := cs
  match l, hs with
  | [c0, c1, c2, c3, c4, c5, c6], _ =>
    obtain ⟨d, a, len, cap, e, hm⟩ := open_dl (by simpa [Value.cells] using hf)
    exact ⟨d, a, len, cap, by rw [← e], hm⟩
theorem open_ac {H : Type} {enc : TypeId × Value → H} {w : World} {base : Nat} {spare : Nat → Bool} {held : Bool} {fuel : Nat} {c0 c1 c2 c3 c4 c5 c6 c7 : Value} {x : DataW H × List MemPlace} (h : DataW.trod enc Try.prog w base spare held fuel 49 [c0, c1, c2, c3, c4, c5, c6, c7] = some x) : ∃ c : Cel, [c0, c1, c2, c3, c4, c5, c6, c7] = c.vs ∧ RowI w c.a c.l c.c c.x.d.ns := by
  obtain ⟨y0, y1, n, _, _, h0, h1⟩ := trod_struct2 Try.underlying49 h
  simp only [cells3, cells28] at h0 h1
  obtain ⟨s0, e0, _, z0⟩ := DataW.trod_int Try.underlying3 h0
  obtain ⟨d, a, len, cap, e, hr⟩ := open_dl h1
  simp at e0
  refine ⟨⟨⟨s0, d⟩, a, len, cap⟩, ?_, hr⟩
  rw [e0, e]
  rfl
theorem open_acs {H : Type} {enc : TypeId × Value → H} {w : World} {base : Nat} {spare : Nat → Bool} {held : Bool} {fuel : Nat} {cs : List Value} {x : DataW H × List MemPlace} (h : DataW.trod enc Try.prog w base spare held fuel 22 cs = some x) : ∃ a len cap ls, cs = [.slice a len cap] ∧ AcsAt w a len cap ls := by
  rcases Go.Deep.open_slice Try.underlying22 h with ⟨hcs, _⟩ | ⟨a, len, cap, m, n, D, Pl, hcs, _, hl, hm, hmm, _, hx⟩
  · exact ⟨none, 0, 0, [], hcs, AcsAt.nil w⟩
  · have hlm : len ≤ m := by rw [hmm]; split <;> omega
    have each : ∀ i, ∃ l : Cel, i < len → (∀ j, j < 8 → w.cell? ((a.add (i * 8)).add j) = l.vs[j]?) ∧ RowI w l.a l.l l.c l.x.d.ns := fun i => by
      by_cases hi : i < len
      · obtain ⟨cs', h1, h2⟩ := hx i (by omega)
        rw [cells49] at h1
        obtain ⟨_, hlen, hc⟩ := World.cells?_some h1
        match cs', hlen with
        | [c0, c1, c2, c3, c4, c5, c6, c7], _ =>
          obtain ⟨c, e, hr⟩ := open_ac h2
          refine ⟨c, fun _ => ⟨fun j hj => ?_, hr⟩⟩
          rw [← e]
          exact hc j (by simpa using hj)
      · exact ⟨cel0, fun h => absurd h hi⟩
    obtain ⟨f, hf⟩ := Classical.axiomOfChoice each
    refine ⟨some a, len, cap, ((List.range len).map f).map Cel.x, hcs, ⟨by simp, hl, hm, nofun, (List.range len).map f, rfl, ?_, ?_⟩⟩
    · by_cases h0 : len = 0
      · exact .inl h0
      · obtain ⟨b, off, spot⟩ := a
        have h1 := (hf 0 (by omega)).1 0 (by omega)
        have hsp : ((⟨b, off, spot⟩ : Addr).add (0 * 8)).add 0 = ⟨b, off, spot⟩ := by simp [Addr.add]
        rw [hsp] at h1
        have hspot : spot = none := World.cell?_spot (a := ⟨b, off, spot⟩) (v := .int .i64 (f 0).x.b) h1
        subst hspot
        refine .inr ⟨b, off, rfl, fun j u hj => ?_⟩
        rw [celsV_at] at hj
        obtain ⟨c, hc, hu⟩ := Option.bind_eq_some_iff.1 hj
        have hlt : j / 8 < len := by
          have := (List.getElem?_eq_some_iff.1 hc).1
          simpa using this
        have hcf : c = f (j / 8) := by
          rw [List.getElem?_map, List.getElem?_range hlt] at hc
          simpa using hc.symm
        subst hcf
        have h2 := (hf (j / 8) hlt).1 (j % 8) (Nat.mod_lt _ (by omega))
        rw [addr_add, addr_add, Nat.add_assoc, show j / 8 * 8 + j % 8 = j by omega] at h2
        exact h2.trans hu
    · intro c hc
      obtain ⟨i, hi, rfl⟩ := List.mem_map.1 hc
      exact (hf i (by simpa using hi)).2
set_option maxRecDepth 60000 in
theorem open_acceptorv {H : Type} {enc : TypeId × Value → H} {w : World} {base : Nat} {spare : Nat → Bool} {held : Bool} {r : Reach} {b0 : Nat} {v : Value} {d : DataW H} {p : List MemPlace} (hv : Value.okWide Try.prog w r b0 24 v) (h : DataW.Trod enc Try.prog w base spare held 24 v d p) :
    ∃ (q : Int) (a : Option Addr) (len cap : Nat) (ls : List Acd), v = .agg #[.int .i64 q, .slice a len cap] ∧ AcsAt w a len cap ls := by
  obtain ⟨cs, rfl, hs⟩ := okWide_struct Try.underlying24 hv
  obtain ⟨fuel, hf⟩ := h
  rw [cells24] at hs
  obtain ⟨l⟩ := cs
  match l, hs with
  | [c0, c1], _ =>
    have hf' : DataW.trod enc Try.prog w base spare held fuel 24 [c0, c1] = some (d, p) := by simpa [Value.cells] using hf
    obtain ⟨y0, y1, n, _, _, h0, h1⟩ := trod_struct2 Try.underlying24 hf'
    simp only [cells3, cells22] at h0 h1
    obtain ⟨s0, e0, _, z0⟩ := DataW.trod_int Try.underlying3 h0
    obtain ⟨a, len, cap, ls, e1, hr⟩ := open_acs h1
    simp at e0 e1
    exact ⟨s0, a, len, cap, ls, by rw [e0, e1], hr⟩
theorem open_three {H : Type} {enc : TypeId × Value → H} {w : World} {base : Nat} {spare : Nat → Bool} {held : Bool} {r : Reach} {b0 : Nat} {v : Value} {d : DataW H} {p : List MemPlace} (hv : Value.okWide Try.prog w r b0 25 v) (h : DataW.Trod enc Try.prog w base spare held 25 v d p) :
    ∃ x y z : Int, v = .agg #[.int .i64 x, .int .i64 y, .int .i64 z] := by
  obtain ⟨cs, rfl, hs⟩ := okWide_arr Try.underlying25 hv
  obtain ⟨fuel, hf⟩ := h
  obtain ⟨xs, m, _, _, _, hl, hx⟩ := DataW.trod_array Try.underlying25 hf
  obtain ⟨l⟩ := cs
  rw [show Try.prog.cellsOf 25 = 3 from by kernel_rfl] at hs
  match l, hs with
  | [c0, c1, c2], _ =>
    match xs, hl with
    | [y0, y1, y2], _ =>
      have h0 := hx 0 (by omega)
      have h1 := hx 1 (by omega)
      have h2 := hx 2 (by omega)
      rw [cells3] at h0 h1 h2
      simp [Value.cells] at h0 h1 h2
      obtain ⟨s0, e0, _, z0⟩ := DataW.trod_int Try.underlying3 h0
      obtain ⟨s1, e1, _, z1⟩ := DataW.trod_int Try.underlying3 h1
      obtain ⟨s2, e2, _, z2⟩ := DataW.trod_int Try.underlying3 h2
      simp at e0 e1 e2
      exact ⟨s0, s1, s2, by rw [e0, e1, e2]⟩
end Go.Proofs.Ytejhmacbbdnlbaa.Ac
