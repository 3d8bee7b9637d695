/-
  What parameters read as, opened: samples, and a sample.
  What parameters read as, opened: an entry, and entries.
-/
import Derived.Test.YtihohcmocejijaaGreatPr06
import Derived.Deep.Slices
import Derived.ChangeSame
import Derived.ChangeSlices
import Derived.OpenShut
import Derived.Test.YtihohcmocejijaaGreatPr34
namespace Go.Proofs.YtihohcmocejijaaGreat.Bk
open Go.ChangeShapes Go.WideShapes Go.ChangeAt Go.RowKit
theorem cellsSm : Tryz.prog.cellsOf 27 = 2 := by kernel_rfl
theorem cells3 : Tryz.prog.cellsOf 3 = 1 := by kernel_rfl
theorem addr_plus (b off i : Nat) : (⟨b, off, none⟩ : Addr).add i = ⟨b, off + i, none⟩ := by
  by_cases h : i = 0
  · subst h; simp [Addr.add]
  · simp [Addr.add, h]
theorem open_sm {H : Type} {enc : TypeId × Value → H} {w : World} {base : Nat} {spare : Nat → Bool} {held : Bool} {fuel : Nat} {c0 c1 : Value} {x : DataW H × List MemPlace} (h : DataW.trod enc Tryz.prog w base spare held fuel 27 [c0, c1] = some x) :
    ∃ s0 s1 : Int, c0 = .int .i64 s0 ∧ c1 = .int .i64 s1 := by
  obtain ⟨y0, y1, n, _, _, h0, h1⟩ := trod_struct2 Tryz.underlying27 h
  simp only [cells3] at h0 h1
  obtain ⟨s0, e0, _, z0⟩ := DataW.trod_int Tryz.underlying3 h0
  obtain ⟨s1, e1, _, z1⟩ := DataW.trod_int Tryz.underlying3 h1
  simp at e0 e1
  exact ⟨s0, s1, e0, e1⟩
end Go.Proofs.YtihohcmocejijaaGreat.Bk
namespace Go.Proofs.YtihohcmocejijaaGreat.Bk
open Go.ChangeShapes Go.WideShapes Go.ChangeAt Go.RowKit
theorem cellsEn : Tryz.prog.cellsOf 31 = 10 := by kernel_rfl
theorem cellsOp : Tryz.prog.cellsOf 29 = 7 := by kernel_rfl
theorem cells9 : Tryz.prog.cellsOf 9 = 1 := by kernel_rfl
theorem trod_struct4 {P : Program} {H : Type} {enc : TypeId × Value → H} {w : World} {base : Nat} {spare : Nat → Bool} {held : Bool} {t : TypeId} {f0 f1 f2 f3 : Field} {fuel : Nat} {cs : List Value} {x : DataW H × List MemPlace} (ht : P.underlying t = some (.struct #[f0, f1, f2, f3])) (h : DataW.trod enc P w base spare held fuel t cs = some x) :
    ∃ y0 y1 y2 y3 n, DataW.trod enc P w base spare held n f0.type ((cs.drop f0.offset).take (P.cellsOf f0.type)) = some y0 ∧ DataW.trod enc P w base spare held n f1.type ((cs.drop f1.offset).take (P.cellsOf f1.type)) = some y1 ∧ DataW.trod enc P w base spare held n f2.type ((cs.drop f2.offset).take (P.cellsOf f2.type)) = some y2 ∧ DataW.trod enc P w base spare held n f3.type ((cs.drop f3.offset).take (P.cellsOf f3.type)) = some y3 := by
  obtain ⟨xs, n, _, rfl, hl, hlen, hf⟩ := DataW.trod_struct ht h
  match xs, hlen with
  | [y0, y1, y2, y3], _ => exact ⟨y0, y1, y2, y3, n, by simpa using hf 0 f0 rfl, by simpa using hf 1 f1 rfl, by simpa using hf 2 f2 rfl, by simpa using hf 3 f3 rfl⟩
theorem trod_struct6 {P : Program} {H : Type} {enc : TypeId × Value → H} {w : World} {base : Nat} {spare : Nat → Bool} {held : Bool} {t : TypeId} {f0 f1 f2 f3 f4 f5 : Field} {fuel : Nat} {cs : List Value} {x : DataW H × List MemPlace} (ht : P.underlying t = some (.struct #[f0, f1, f2, f3, f4, f5])) (h : DataW.trod enc P w base spare held fuel t cs = some x) :
    ∃ y0 y1 y2 y3 y4 y5 n, DataW.trod enc P w base spare held n f0.type ((cs.drop f0.offset).take (P.cellsOf f0.type)) = some y0 ∧ DataW.trod enc P w base spare held n f1.type ((cs.drop f1.offset).take (P.cellsOf f1.type)) = some y1 ∧ DataW.trod enc P w base spare held n f2.type ((cs.drop f2.offset).take (P.cellsOf f2.type)) = some y2 ∧ DataW.trod enc P w base spare held n f3.type ((cs.drop f3.offset).take (P.cellsOf f3.type)) = some y3 ∧ DataW.trod enc P w base spare held n f4.type ((cs.drop f4.offset).take (P.cellsOf f4.type)) = some y4 ∧ DataW.trod enc P w base spare held n f5.type ((cs.drop f5.offset).take (P.cellsOf f5.type)) = some y5 := by
  obtain ⟨xs, n, _, rfl, hl, hlen, hf⟩ := DataW.trod_struct ht h
  match xs, hlen with
  | [y0, y1, y2, y3, y4, y5], _ => exact ⟨y0, y1, y2, y3, y4, y5, n, by simpa using hf 0 f0 rfl, by simpa using hf 1 f1 rfl, by simpa using hf 2 f2 rfl, by simpa using hf 3 f3 rfl, by simpa using hf 4 f4 rfl, by simpa using hf 5 f5 rfl⟩
theorem open_op {H : Type} {enc : TypeId × Value → H} {w : World} {base : Nat} {spare : Nat → Bool} {held : Bool} {fuel : Nat} {c0 c1 c2 c3 c4 c5 c6 : Value} {x : DataW H × List MemPlace} (h : DataW.trod enc Tryz.prog w base spare held fuel 29 [c0, c1, c2, c3, c4, c5, c6] = some x) :
    ∃ (k : Int) (s : ByteArray) (t v f u m : Int), c0 = .int .i64 k ∧ c1 = .string s ∧ c2 = .int .i64 t ∧ c3 = .int .i64 v ∧ c4 = .int .i64 f ∧ c5 = .int .i64 u ∧ c6 = .int .i64 m := by
  obtain ⟨y0, y1, y2, y3, y4, y5, n, h0, h1, h2, h3, h4, h5⟩ := trod_struct6 Tryz.underlying29 h
  simp only [cells3, cells9, cellsSm] at h0 h1 h2 h3 h4 h5
  obtain ⟨k, e0, _, _⟩ := DataW.trod_int Tryz.underlying3 h0
  obtain ⟨s, e1, _, _⟩ := DataW.trod_string Tryz.underlying9 h1
  have h2' : DataW.trod enc Tryz.prog w base spare held n 27 [c2, c3] = some y2 := by simpa using h2
  obtain ⟨t, v, e2, e3⟩ := open_sm h2'
  obtain ⟨f, e4, _, _⟩ := DataW.trod_int Tryz.underlying3 h3
  obtain ⟨u, e5, _, _⟩ := DataW.trod_int Tryz.underlying3 h4
  obtain ⟨m, e6, _, _⟩ := DataW.trod_int Tryz.underlying3 h5
  simp at e0 e1 e4 e5 e6
  exact ⟨k, s, t, v, f, u, m, e0, e1, e2, e3, e4, e5, e6⟩
theorem open_en {H : Type} {enc : TypeId × Value → H} {w : World} {base : Nat} {spare : Nat → Bool} {held : Bool} {fuel : Nat} {c0 c1 c2 c3 c4 c5 c6 c7 c8 c9 : Value} {x : DataW H × List MemPlace} (h : DataW.trod enc Tryz.prog w base spare held fuel 31 [c0, c1, c2, c3, c4, c5, c6, c7, c8, c9] = some x) :
    ∃ e : Ent, c0 = .int .i64 e.ep ∧ c1 = .int .i64 e.cl ∧ c2 = .int .i64 e.id ∧ c3 = .int .i64 e.op.k ∧ c4 = .string e.op.s ∧ c5 = .int .i64 e.op.t ∧ c6 = .int .i64 e.op.v ∧ c7 = .int .i64 e.op.f ∧ c8 = .int .i64 e.op.u ∧ c9 = .int .i64 e.op.m := by
  obtain ⟨y0, y1, y2, y3, n, h0, h1, h2, h3⟩ := trod_struct4 Tryz.underlying31 h
  simp only [cells3, cellsOp] at h0 h1 h2 h3
  obtain ⟨s0, e0, _, _⟩ := DataW.trod_int Tryz.underlying3 h0
  obtain ⟨s1, e1, _, _⟩ := DataW.trod_int Tryz.underlying3 h1
  obtain ⟨s2, e2, _, _⟩ := DataW.trod_int Tryz.underlying3 h2
  have h3' : DataW.trod enc Tryz.prog w base spare held n 29 [c3, c4, c5, c6, c7, c8, c9] = some y3 := by simpa using h3
  obtain ⟨k, s, t, v, f, u, m, e3, e4, e5, e6, e7, e8, e9⟩ := open_op h3'
  simp at e0 e1 e2
  exact ⟨⟨s0, s1, s2, ⟨k, s, t, v, f, u, m⟩⟩, e0, e1, e2, e3, e4, e5, e6, e7, e8, e9⟩
theorem open_ens {H : Type} {enc : TypeId × Value → H} {w : World} {base : Nat} {spare : Nat → Bool} {held : Bool} {fuel : Nat} {cs : List Value} {x : DataW H × List MemPlace} (h : DataW.trod enc Tryz.prog w base spare held fuel 47 cs = some x) :
    ∃ a len cap ls, cs = [.slice a len cap] ∧ EnsAt w a len cap ls := by
  rcases Go.Deep.open_slice Tryz.underlying47 h with ⟨hcs, _⟩ | ⟨a, len, cap, m, n, D, Pl, hcs, _, hl, hm, hmm, _, hx⟩
  · exact ⟨none, 0, 0, [], hcs, ⟨rfl, Nat.le_refl _, Nat.zero_le _, .inl rfl⟩⟩
  · have hlm : len ≤ m := by rw [hmm]; split <;> omega
    have each : ∀ i, ∃ l : Ent, i < len → w.cell? (a.add (i * 10)) = some (.int .i64 l.ep) ∧ w.cell? ((a.add (i * 10)).add 1) = some (.int .i64 l.cl) ∧ w.cell? ((a.add (i * 10)).add 2) = some (.int .i64 l.id) ∧ w.cell? ((a.add (i * 10)).add 3) = some (.int .i64 l.op.k) ∧ w.cell? ((a.add (i * 10)).add 4) = some (.string l.op.s) ∧ w.cell? ((a.add (i * 10)).add 5) = some (.int .i64 l.op.t) ∧ w.cell? ((a.add (i * 10)).add 6) = some (.int .i64 l.op.v) ∧ w.cell? ((a.add (i * 10)).add 7) = some (.int .i64 l.op.f) ∧ w.cell? ((a.add (i * 10)).add 8) = some (.int .i64 l.op.u) ∧ w.cell? ((a.add (i * 10)).add 9) = some (.int .i64 l.op.m) := fun i => by
      by_cases hi : i < len
      · obtain ⟨cs', h1, h2⟩ := hx i (by omega)
        rw [cellsEn] at h1
        obtain ⟨_, hlen, hc⟩ := World.cells?_some h1
        match cs', hlen with
        | [c0, c1, c2, c3, c4, c5, c6, c7, c8, c9], _ =>
          obtain ⟨e, rfl, rfl, rfl, rfl, rfl, rfl, rfl, rfl, rfl, rfl⟩ := open_en h2
          refine ⟨e, fun _ => ⟨?_, hc 1 (by decide), hc 2 (by decide), hc 3 (by decide), hc 4 (by decide), hc 5 (by decide), hc 6 (by decide), hc 7 (by decide), hc 8 (by decide), hc 9 (by decide)⟩⟩
          have := hc 0 (by decide)
          simpa [Addr.add] using this
      · exact ⟨en0, fun h => absurd h hi⟩
    obtain ⟨f, hf⟩ := Classical.axiomOfChoice each
    refine ⟨some a, len, cap, (List.range len).map f, hcs, ⟨by simp, hl, hm, ?_⟩⟩
    by_cases h0 : len = 0
    · exact .inl h0
    · obtain ⟨b, off, spot⟩ := a
      have h1 := (hf 0 (by omega)).1
      have hspot : spot = none := by simpa [Addr.add] using World.cell?_spot h1
      subst hspot
      refine .inr ⟨b, off, rfl, fun i hi => ?_⟩
      have h2 := hf i hi
      simp only [addr_plus] at h2
      have eg : ((List.range len).map f).getD i en0 = f i := by simp [hi]
      rw [eg]
      exact h2
set_option maxRecDepth 60000 in
theorem open_ensv {H : Type} {enc : TypeId × Value → H} {w : World} {base : Nat} {spare : Nat → Bool} {held : Bool} {r : Reach} {b0 : Nat} {v : Value} {d : DataW H} {p : List MemPlace} (hv : Value.okWide Tryz.prog w r b0 47 v) (h : DataW.Trod enc Tryz.prog w base spare held 47 v d p) :
    ∃ a len cap ls, v = .slice a len cap ∧ EnsAt w a len cap ls := by
  obtain ⟨a, len, cap, rfl⟩ := okWide_slice Tryz.underlying47 hv
  obtain ⟨fuel, hf⟩ := h
  obtain ⟨a', len', cap', ms, e, hm⟩ := open_ens hf
  simp [Value.cells] at e
  obtain ⟨rfl, rfl, rfl⟩ := e
  exact ⟨_, _, _, ms, rfl, hm⟩
end Go.Proofs.YtihohcmocejijaaGreat.Bk
