/-
  Acts that came in.
-/
import Derived.Test.YtmkmogkhkmlnkaaJnW
import Derived.Test.YtmkmogkhkmlnkaaDmO
import Derived.Test.YtmkmogkhkmlnkaaFrCd
namespace Go.Proofs.Ytmkmogkhkmlnkaa.Dm
open Go.ChangeShapes Go.WideShapes Go.ChangeAt Go.RowKit
theorem okWide_str {P : Program} {w : World} {r : Reach} {base : Nat} {t : TypeId} {fs : Array Field} {v : Value} (ht : P.underlying t = some (.struct fs)) (h : Value.okWide P w r base t v) : ∃ cs, v = .agg cs ∧ cs.size = P.cellsOf t := by
  unfold Value.okWide at h
  rw [ht] at h
  obtain ⟨cs, h1, h2, _⟩ := h
  exact ⟨cs, h1, h2⟩
theorem trod_str5 {P : Program} {H : Type} {enc : TypeId × Value → H} {w : World} {base : Nat} {spare : Nat → Bool} {held : Bool} {t : TypeId} {f0 f1 f2 f3 f4 : Field} {fuel : Nat} {cs : List Value} {x : DataW H × List MemPlace} (ht : P.underlying t = some (.struct #[f0, f1, f2, f3, f4])) (h : DataW.trod enc P w base spare held fuel t cs = some x) :
    ∃ y0 y1 y2 y3 y4 n, DataW.trod enc P w base spare held n f0.type ((cs.drop f0.offset).take (P.cellsOf f0.type)) = some y0 ∧ DataW.trod enc P w base spare held n f1.type ((cs.drop f1.offset).take (P.cellsOf f1.type)) = some y1 ∧ DataW.trod enc P w base spare held n f2.type ((cs.drop f2.offset).take (P.cellsOf f2.type)) = some y2 ∧ DataW.trod enc P w base spare held n f3.type ((cs.drop f3.offset).take (P.cellsOf f3.type)) = some y3 ∧ DataW.trod enc P w base spare held n f4.type ((cs.drop f4.offset).take (P.cellsOf f4.type)) = some y4 := by
  obtain ⟨xs, n, _, rfl, hl, hlen, hf⟩ := DataW.trod_struct ht h
  match xs, hlen with
  | [y0, y1, y2, y3, y4], _ => exact ⟨y0, y1, y2, y3, y4, n, by simpa using hf 0 f0 rfl, by simpa using hf 1 f1 rfl, by simpa using hf 2 f2 rfl, by simpa using hf 3 f3 rfl, by simpa using hf 4 f4 rfl⟩
theorem trod_str4 {P : Program} {H : Type} {enc : TypeId × Value → H} {w : World} {base : Nat} {spare : Nat → Bool} {held : Bool} {t : TypeId} {f0 f1 f2 f3 : Field} {fuel : Nat} {cs : List Value} {x : DataW H × List MemPlace} (ht : P.underlying t = some (.struct #[f0, f1, f2, f3])) (h : DataW.trod enc P w base spare held fuel t cs = some x) :
    ∃ y0 y1 y2 y3 n, DataW.trod enc P w base spare held n f0.type ((cs.drop f0.offset).take (P.cellsOf f0.type)) = some y0 ∧ DataW.trod enc P w base spare held n f1.type ((cs.drop f1.offset).take (P.cellsOf f1.type)) = some y1 ∧ DataW.trod enc P w base spare held n f2.type ((cs.drop f2.offset).take (P.cellsOf f2.type)) = some y2 ∧ DataW.trod enc P w base spare held n f3.type ((cs.drop f3.offset).take (P.cellsOf f3.type)) = some y3 := by
  obtain ⟨xs, n, _, rfl, hl, hlen, hf⟩ := DataW.trod_struct ht h
  match xs, hlen with
  | [y0, y1, y2, y3], _ => exact ⟨y0, y1, y2, y3, n, by simpa using hf 0 f0 rfl, by simpa using hf 1 f1 rfl, by simpa using hf 2 f2 rfl, by simpa using hf 3 f3 rfl⟩
theorem cells3 : Try.prog.cellsOf 3 = 1 := by kernel_rfl
theorem cellsBl : Try.prog.cellsOf 40 = 1 := by kernel_rfl
theorem cellsBy : Try.prog.cellsOf 39 = 1 := by kernel_rfl
theorem cellsDs : Try.prog.cellsOf 33 = 1 := by kernel_rfl
theorem cellsDt : Try.prog.cellsOf 38 = 2 := by kernel_rfl
theorem cellsA9 : Try.prog.cellsOf 42 = 5 := by kernel_rfl
theorem cellsA10 : Try.prog.cellsOf 44 = 9 := by kernel_rfl
/-- an act with a drum -/
structure A9 where
  n : Int
  pat : List Bool
def A9V (w : World) (c0 c1 c2 c3 c4 : Value) (x : A9) : Prop := (∃ e0 e1, c0 = .int .i64 e0 ∧ c1 = .int .i64 e1) ∧ c2 = .int .i64 x.n ∧ x.n ≤ 9223372036854775807 ∧ -9223372036854775808 ≤ x.n ∧ (∃ a l c, c3 = .slice a l c) ∧ ∃ a l c, c4 = .slice a l c ∧ BoolsAt w a l c x.pat
set_option maxRecDepth 60000 in
theorem open_a9 {H : Type} {enc : TypeId × Value → H} {w : World} {base : Nat} {spare : Nat → Bool} {held : Bool} {fuel : Nat} {c0 c1 c2 c3 c4 : Value} {x : DataW H × List MemPlace} (h : DataW.trod enc Try.prog w base spare held fuel 42 [c0, c1, c2, c3, c4] = some x) : ∃ X, A9V w c0 c1 c2 c3 c4 X := by
  obtain ⟨y0, y1, y2, y3, y4, n, h0, h1, h2, h3, h4⟩ := trod_str5 Try.underlying42 h
  simp only [cells3, cellsBl, cellsBy] at h0 h1 h2 h3 h4
  obtain ⟨s0, e0, _, z0⟩ := DataW.trod_int Try.underlying3 h0
  obtain ⟨s1, e1, _, z1⟩ := DataW.trod_int Try.underlying3 h1
  obtain ⟨s2, e2, _, z2⟩ := DataW.trod_int Try.underlying3 h2
  obtain ⟨a, len, cap, ls, e4, hb⟩ := open_bools h4
  have e3 : ∃ a l c, [c3] = [Value.slice a l c] := by
    rcases open_ints Try.underlying39 Try.underlying5 (by kernel_rfl) h3 with ⟨hcs, _⟩ | ⟨x, l, c, zs, hcs, _⟩
    · exact ⟨_, _, _, hcs⟩
    · exact ⟨_, _, _, hcs⟩
  obtain ⟨a3, l3, k3, e3⟩ := e3
  simp at e0 e1 e2 e3 e4
  have hz := bounds_i64 z2
  exact ⟨⟨s2, ls⟩, ⟨s0, s1, e0, e1⟩, e2, by show s2 ≤ _; omega, by show _ ≤ s2; omega, ⟨a3, l3, k3, e3⟩, a, len, cap, e4, hb⟩
/-- an act with a journal -/
structure A10 where
  d : Int
  x : Fr.Dat
  l : List Fr.Dat
  n : Int
def A10V (w : World) (c0 c1 c2 c3 c4 c5 c6 c7 c8 : Value) (X : A10) : Prop := c0 = .int .i64 X.d ∧ Fr.DataAt w (.agg #[c1, c2]) X.x.1 X.x.2 ∧ (∃ a l c, c3 = .slice a l c ∧ Fr.DRow w a l c X.l) ∧ ∃ p, A9V w c4 c5 c6 c7 c8 ⟨X.n, p⟩
set_option maxRecDepth 60000 in
theorem open_a10 {H : Type} {enc : TypeId × Value → H} {w : World} {base : Nat} {spare : Nat → Bool} {held : Bool} {fuel : Nat} {c0 c1 c2 c3 c4 c5 c6 c7 c8 : Value} {x : DataW H × List MemPlace} (h : DataW.trod enc Try.prog w base spare held fuel 44 [c0, c1, c2, c3, c4, c5, c6, c7, c8] = some x) : ∃ X, A10V w c0 c1 c2 c3 c4 c5 c6 c7 c8 X := by
  obtain ⟨y0, y1, y2, y3, n, h0, h1, h2, h3⟩ := trod_str4 Try.underlying44 h
  simp only [cells3, cellsDt, cellsDs, cellsA9] at h0 h1 h2 h3
  obtain ⟨s0, e0, _, z0⟩ := DataW.trod_int Try.underlying3 h0
  obtain ⟨nums, texts, hd⟩ := Fr.open_data_cells h1
  obtain ⟨a, len, cap, ds, e2, hr⟩ := Fr.open_datas h2
  obtain ⟨X, hX⟩ := open_a9 h3
  simp at e0 e2
  exact ⟨⟨s0, (nums, texts), ds, X.n⟩, e0, hd, ⟨a, len, cap, e2, hr⟩, X.pat, hX⟩
set_option maxRecDepth 60000 in
theorem open_a10v {H : Type} {enc : TypeId × Value → H} {w : World} {base : Nat} {spare : Nat → Bool} {held : Bool} {r : Reach} {b0 : Nat} {v : Value} {d : DataW H} {p : List MemPlace} (hv : Value.okWide Try.prog w r b0 44 v) (h : DataW.Trod enc Try.prog w base spare held 44 v d p) :
    ∃ (d : Int) (a1 : Option Addr) (n1 c1 : Nat) (a2 : Option Addr) (n2 c2 : Nat) (a3 : Option Addr) (n3 c3 : Nat) (e1 e2 e3 : Int) (x y : Value), v = .agg #[.int .i64 d, .slice a1 n1 c1, .slice a2 n2 c2, .slice a3 n3 c3, .int .i64 e1, .int .i64 e2, .int .i64 e3, x, y] := by
  obtain ⟨cs, rfl, hs⟩ := okWide_str Try.underlying44 hv
  obtain ⟨fuel, hf⟩ := h
  obtain ⟨l⟩ := cs
  rw [cellsA10] at hs
  match l, hs with
  | [c0, c1, c2, c3, c4, c5, c6, c7, c8], _ =>
    obtain ⟨X, rfl, ⟨x1, m1, k1, x2, m2, k2, e, -⟩, ⟨a3, n3, q3, rfl, -⟩, p, ⟨e0, e1, rfl, rfl⟩, rfl, -⟩ := open_a10 hf
    simp at e
    obtain ⟨rfl, rfl⟩ := e
    exact ⟨_, _, _, _, _, _, _, _, _, _, _, _, _, _, _, rfl⟩
end Go.Proofs.Ytmkmogkhkmlnkaa.Dm
