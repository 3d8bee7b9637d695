/-
  The table of shapes as the condition of a card gives it; the world that start-up leaves.
-/
import Derived.Test.YtcdlkdbnlomghaaDoorBiA
import Derived.LaidMore
import Derived.Stop.Joined
import Derived.ChangeSame
namespace Go.Proofs.YtcdlkdbnlomghaaDoor.Bi
open Go.ChangeShapes Go.WideShapes Go.ChangeAt Go.RowKit Go.WideElems
theorem gShapes : Tryd.prog.globalNamed "windrose/bits.shapes" = some 0 := by kernel_rfl
theorem tShapes : (Tryd.prog.globals[0]?).map (·.type) = some 121 := by kernel_rfl
def laidS : List (String × DataW Unit) := [("windrose/bits.shapes", Rows.laid_windrose_bits_shapes)]
theorem door_met (os : Os) (args : Array Value) : laidMetH Tryd.prog laidS ((World.doorLaid Tryd.prog 400 os).forCall (fun _ _ => 0) ⟨#[], args, []⟩).memory :=
  laidMetH_of_parts3 (fuel := 8) (laidMet_of_run' 8 (by kernel_rfl) (by kernel_rfl)) (by kernel_rfl) (by kernel_rfl)
theorem cShape : Tryd.prog.cellsOf 120 = 3 := by kernel_rfl
theorem cU64 : Tryd.prog.cellsOf 88 = 1 := by kernel_rfl
theorem cInt : Tryd.prog.cellsOf 3 = 1 := by kernel_rfl
theorem trod_struct3 {P : Program} {H : Type} {enc : TypeId × Value → H} {w : World} {base : Nat} {spare : Nat → Bool} {held : Bool} {t : TypeId} {f0 f1 f2 : Field} {fuel : Nat} {cs : List Value} {x : DataW H × List MemPlace} (ht : P.underlying t = some (.struct #[f0, f1, f2])) (h : DataW.trod enc P w base spare held fuel t cs = some x) :
    ∃ y0 y1 y2 n, x.1 = .agg [y0.1, y1.1, y2.1] ∧ DataW.trod enc P w base spare held n f0.type ((cs.drop f0.offset).take (P.cellsOf f0.type)) = some y0 ∧ DataW.trod enc P w base spare held n f1.type ((cs.drop f1.offset).take (P.cellsOf f1.type)) = some y1 ∧ DataW.trod enc P w base spare held n f2.type ((cs.drop f2.offset).take (P.cellsOf f2.type)) = some y2 := by
  obtain ⟨xs, n, _, rfl, hl, hlen, hf⟩ := DataW.trod_struct ht h
  match xs, hlen with
  | [y0, y1, y2], _ => exact ⟨y0, y1, y2, n, rfl, by simpa using hf 0 f0 rfl, by simpa using hf 1 f1 rfl, by simpa using hf 2 f2 rfl⟩
theorem open_shape {H : Type} {enc : TypeId × Value → H} {w : World} {base : Nat} {spare : Nat → Bool} {held : Bool} {fuel : Nat} {c0 c1 c2 : Value} {x : DataW H × List MemPlace} {a b c : Int} (h : DataW.trod enc Tryd.prog w base spare held fuel 120 [c0, c1, c2] = some x)
    (hx : x.1 = .agg [.lit (.int .u64 a), .lit (.int .i64 b), .lit (.int .i64 c)]) : c0 = .int .u64 a ∧ c1 = .int .i64 b ∧ c2 = .int .i64 c := by
  obtain ⟨y0, y1, y2, n, hy, h0, h1, h2⟩ := trod_struct3 Tryd.underlying120 h
  simp only [cU64, cInt] at h0 h1 h2
  obtain ⟨s0, e0, z0, _⟩ := DataW.trod_int Tryd.underlying88 h0
  obtain ⟨s1, e1, z1, _⟩ := DataW.trod_int Tryd.underlying3 h1
  obtain ⟨s2, e2, z2, _⟩ := DataW.trod_int Tryd.underlying3 h2
  rw [hx] at hy
  simp at e0 e1 e2
  subst z0 z1 z2
  simp at hy
  obtain ⟨rfl, rfl, rfl⟩ := hy
  exact ⟨e0, e1, e2⟩
set_option maxRecDepth 100000 in
theorem of_laid {W : World} (h : laidMetH Tryd.prog laidS W) : Tab W := by
  rw [MakeChecks.laidMetH_plain _ _ _ (by kernel_rfl)] at h
  obtain ⟨ps, ⟨g0, t0, cs0, f0, p0, q0, hg0, ht0, hv0, hd0, _, _⟩, _, _⟩ := h
  obtain rfl := Option.some.inj (gShapes.symm.trans hg0)
  obtain rfl := Option.some.inj (tShapes.symm.trans ht0)
  obtain ⟨xs, m1, hx0, hx1, hlen, hn3, hel⟩ := DataW.trod_array Tryd.underlying121 hd0
  have cArr : Tryd.prog.cellsOf 121 = 15 := by kernel_rfl
  rw [cArr] at hlen
  have hcell : ∀ k, W.cell? ⟨0, k, none⟩ = cs0.toList[k]? := fun k => by
    rw [World.var?_cell hg0 hv0 k]
    simp
  generalize cs0.toList = L at *
  match L, hlen, xs, hn3, hx1, hel, hcell with
  | [c0, c1, c2, c3, c4, c5, c6, c7, c8, c9, c10, c11, c12, c13, c14], _, [x0, x1, x2, x3, x4], _, hx1, hel, hcell =>
    simp only [Rows.laid_windrose_bits_shapes, Prod.mk.injEq, DataW.agg.injEq, List.map_cons, List.map_nil, List.cons.injEq, and_true] at hx1
    obtain ⟨⟨h0, h1, h2, h3, h4⟩, -⟩ := hx1
    obtain ⟨e0, e1, e2⟩ := open_shape (a := 0) (b := 1) (c := 0) (x := x0) (by have := hel 0 (by decide); rw [cShape] at this; exact this) h0.symm
    obtain ⟨e3, e4, e5⟩ := open_shape (a := 2) (b := 2) (c := 7) (x := x1) (by have := hel 1 (by decide); rw [cShape] at this; exact this) h1.symm
    obtain ⟨e6, e7, e8⟩ := open_shape (a := 6) (b := 3) (c := 12) (x := x2) (by have := hel 2 (by decide); rw [cShape] at this; exact this) h2.symm
    obtain ⟨e9, e10, e11⟩ := open_shape (a := 14) (b := 4) (c := 20) (x := x3) (by have := hel 3 (by decide); rw [cShape] at this; exact this) h3.symm
    obtain ⟨e12, e13, e14⟩ := open_shape (a := 15) (b := 4) (c := 64) (x := x4) (by have := hel 4 (by decide); rw [cShape] at this; exact this) h4.symm
    intro c hc
    rcases c with _ | _ | _ | _ | _ | c
    · exact ⟨by rw [hcell, e0]; rfl, by rw [hcell, e1]; rfl, by rw [hcell, e2]; rfl⟩
    · exact ⟨by rw [hcell, e3]; rfl, by rw [hcell, e4]; rfl, by rw [hcell, e5]; rfl⟩
    · exact ⟨by rw [hcell, e6]; rfl, by rw [hcell, e7]; rfl, by rw [hcell, e8]; rfl⟩
    · exact ⟨by rw [hcell, e9]; rfl, by rw [hcell, e10]; rfl, by rw [hcell, e11]; rfl⟩
    · exact ⟨by rw [hcell, e12]; rfl, by rw [hcell, e13]; rfl, by rw [hcell, e14]; rfl⟩
    · omega
end Go.Proofs.YtcdlkdbnlomghaaDoor.Bi
