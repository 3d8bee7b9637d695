/-
  What parameters read as, opened: samples, and a sample.
-/
import Derived.Test.YtcdlkdbnlomghaaDoorBkB
import Derived.Deep.Slices
import Derived.ChangeSame
import Derived.ChangeSlices
import Derived.OpenShut
namespace Go.Proofs.YtcdlkdbnlomghaaDoor.Bk
open Go.ChangeShapes Go.WideShapes Go.ChangeAt Go.RowKit
set_option maxRecDepth 100000 in
theorem cellsSm : Tryd.prog.cellsOf 46 = 2 := by kernel_rfl
set_option maxRecDepth 100000 in
theorem cells3 : Tryd.prog.cellsOf 3 = 1 := by kernel_rfl
set_option maxRecDepth 100000 in
theorem addr_plus (b off i : Nat) : (⟨b, off, none⟩ : Addr).add i = ⟨b, off + i, none⟩ := by
  by_cases h : i = 0
  · subst h; simp [Addr.add]
  · simp [Addr.add, h]
set_option maxRecDepth 100000 in
theorem open_sm {H : Type} {enc : TypeId × Value → H} {w : World} {base : Nat} {spare : Nat → Bool} {held : Bool} {fuel : Nat} {c0 c1 : Value} {x : DataW H × List MemPlace} (h : DataW.trod enc Tryd.prog w base spare held fuel 46 [c0, c1] = some x) :
    ∃ s0 s1 : Int, c0 = .int .i64 s0 ∧ c1 = .int .i64 s1 := by
  obtain ⟨y0, y1, n, _, _, h0, h1⟩ := trod_struct2 Tryd.underlying46 h
  simp only [cells3] at h0 h1
  obtain ⟨s0, e0, _, z0⟩ := DataW.trod_int Tryd.underlying3 h0
  obtain ⟨s1, e1, _, z1⟩ := DataW.trod_int Tryd.underlying3 h1
  simp at e0 e1
  exact ⟨s0, s1, e0, e1⟩
set_option maxRecDepth 100000 in
theorem open_sms {H : Type} {enc : TypeId × Value → H} {w : World} {base : Nat} {spare : Nat → Bool} {held : Bool} {fuel : Nat} {cs : List Value} {x : DataW H × List MemPlace} (h : DataW.trod enc Tryd.prog w base spare held fuel 22 cs = some x) :
    ∃ a len cap ls, cs = [.slice a len cap] ∧ SmsAt w a len cap ls := by
  rcases Go.Deep.open_slice Tryd.underlying22 h with ⟨hcs, _⟩ | ⟨a, len, cap, m, n, D, Pl, hcs, _, hl, hm, hmm, _, hx⟩
  · exact ⟨none, 0, 0, [], hcs, ⟨rfl, Nat.le_refl _, Nat.zero_le _, .inl rfl⟩⟩
  · have hlm : len ≤ m := by rw [hmm]; split <;> omega
    have each : ∀ i, ∃ l : Sm, i < len → w.cell? (a.add (i * 2)) = some (.int .i64 l.1) ∧ w.cell? ((a.add (i * 2)).add 1) = some (.int .i64 l.2) := fun i => by
      by_cases hi : i < len
      · obtain ⟨cs', h1, h2⟩ := hx i (by omega)
        rw [cellsSm] at h1
        obtain ⟨_, hlen, hc⟩ := World.cells?_some h1
        match cs', hlen with
        | [c0, c1], _ =>
          obtain ⟨s0, s1, rfl, rfl⟩ := open_sm h2
          refine ⟨(s0, s1), fun _ => ⟨?_, hc 1 (by decide)⟩⟩
          have := hc 0 (by decide)
          simpa [Addr.add] using this
      · exact ⟨sm0, fun h => absurd h hi⟩
    obtain ⟨f, hf⟩ := Classical.axiomOfChoice each
    refine ⟨some a, len, cap, (List.range len).map f, hcs, ⟨by simp, hl, hm, ?_⟩⟩
    by_cases h0 : len = 0
    · exact .inl h0
    · obtain ⟨b, off, spot⟩ := a
      have h1 := (hf 0 (by omega)).1
      have hspot : spot = none := by simpa [Addr.add] using World.cell?_spot h1
      subst hspot
      refine .inr ⟨b, off, rfl, fun i hi => ?_⟩
      have h2 := hf i hi
      rw [addr_plus, addr_plus] at h2
      have eg : ((List.range len).map f).getD i sm0 = f i := by simp [hi]
      rw [eg]
      exact h2
set_option maxRecDepth 100000 in
theorem open_smsv {H : Type} {enc : TypeId × Value → H} {w : World} {base : Nat} {spare : Nat → Bool} {held : Bool} {r : Reach} {b0 : Nat} {v : Value} {d : DataW H} {p : List MemPlace} (hv : Value.okWide Tryd.prog w r b0 22 v) (h : DataW.Trod enc Tryd.prog w base spare held 22 v d p) :
    ∃ a len cap ls, v = .slice a len cap ∧ SmsAt w a len cap ls := by
  obtain ⟨a, len, cap, rfl⟩ := okWide_slice Tryd.underlying22 hv
  obtain ⟨fuel, hf⟩ := h
  obtain ⟨a', len', cap', ms, e, hm⟩ := open_sms hf
  simp [Value.cells] at e
  obtain ⟨rfl, rfl, rfl⟩ := e
  exact ⟨_, _, _, ms, rfl, hm⟩
set_option maxRecDepth 100000 in
theorem open_smv {H : Type} {enc : TypeId × Value → H} {w : World} {base : Nat} {spare : Nat → Bool} {held : Bool} {r : Reach} {b0 : Nat} {v : Value} {d : DataW H} {p : List MemPlace} (hv : Value.okWide Tryd.prog w r b0 46 v) (h : DataW.Trod enc Tryd.prog w base spare held 46 v d p) :
    ∃ x y : Int, v = .agg #[.int .i64 x, .int .i64 y] := by
  obtain ⟨cs, rfl, hs⟩ := okWide_struct Tryd.underlying46 hv
  obtain ⟨fuel, hf⟩ := h
  rw [cellsSm] at hs
  obtain ⟨l⟩ := cs
  match l, hs with
  | [c0, c1], _ =>
    have hf' : DataW.trod enc Tryd.prog w base spare held fuel 46 [c0, c1] = some (d, p) := by simpa [Value.cells] using hf
    obtain ⟨s0, s1, rfl, rfl⟩ := open_sm hf'
    exact ⟨s0, s1, rfl⟩
end Go.Proofs.YtcdlkdbnlomghaaDoor.Bk
