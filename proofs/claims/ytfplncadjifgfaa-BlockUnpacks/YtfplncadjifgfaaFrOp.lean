/-
  What a parameter reads as, opened: bytes, and data.
-/
import Derived.Test.YtfplncadjifgfaaFrD
import Derived.Deep.Strs
import Derived.ChangeSame
import Derived.ChangeSlices
import Derived.OpenShut
namespace Go.Proofs.Ytfplncadjifgfaa.Fr
open Go.ChangeShapes Go.WideShapes Go.ChangeAt Go.RowKit
/-- a slice of integers that came in: nil, or a row of cells -/
def IsRow (k : IntKind) (w : World) (a : Option Addr) (len cap : Nat) (zs : List Int) : Prop :=
  (a = none ∧ len = 0 ∧ cap = 0 ∧ zs = []) ∨
  ∃ x, a = some x ∧ len ≤ cap ∧ cap ≤ maxLen ∧ zs.length = cap ∧ (∀ i, i < zs.length → w.cell? (x.add i) = some (.int k (zs.getD i 0))) ∧ ∀ n ∈ zs, (Lit.int k n).wf = true
/-- a row of cells behind an address -/
theorem row_of {w : World} {x : Addr} {len cap : Nat} {cs : List Value} (hl : cs.length = len) (h1 : len ≤ cap) (h2 : cap ≤ maxLen) (hc : ∀ i, i < len → w.cell? (x.add i) = cs[i]?) : RowAt w (some x) len cap cs := by
  refine ⟨hl, h1, h2, ?_⟩
  by_cases h0 : len = 0
  · exact .inl h0
  · obtain ⟨b, off, spot⟩ := x
    have h := hc 0 (by omega)
    rw [List.getElem?_eq_getElem (by omega)] at h
    have hspot : spot = none := by simpa [Addr.add] using World.cell?_spot h
    subst hspot
    exact .inr ⟨b, off, rfl, fun i hi => by rw [← addr_add]; exact hc i hi⟩
theorem isRow_bytes {w : World} {a : Option Addr} {len cap : Nat} {zs : List Int} (h : IsRow .u8 w a len cap zs) : ∃ bs : List UInt8, RowAt w a len cap (cellsB bs) := by
  rcases h with ⟨rfl, rfl, rfl, _⟩ | ⟨x, rfl, hl, hm, hz, hcell, hwz⟩
  · exact ⟨[], rowAt_nil w⟩
  · refine ⟨(zs.take len).map fun z => UInt8.ofNat z.toNat, row_of (by simp [cellsB]; omega) hl hm ?_⟩
    intro i hi
    have hi' : i < zs.length := by omega
    rw [hcell i hi']
    have hb := bounds_u8 (hwz zs[i] (List.getElem_mem hi'))
    have e1 : zs.getD i 0 = zs[i] := by simp [hi']
    rw [e1]
    simp only [cellsB, List.map_map, List.getElem?_map, List.getElem?_take_of_lt hi, List.getElem?_eq_getElem hi', Option.map_some, Function.comp]
    have e2 : (UInt8.ofNat zs[i].toNat).toNat = zs[i].toNat := by simp; omega
    rw [e2]
    have e3 : ((zs[i].toNat : Nat) : Int) = zs[i] := by omega
    rw [e3]
theorem open_nums {H : Type} {enc : TypeId × Value → H} {w : World} {base : Nat} {spare : Nat → Bool} {held : Bool} {fuel : Nat} {cs : List Value} {x : DataW H × List MemPlace} (h : DataW.trod enc Try.prog w base spare held fuel 24 cs = some x) :
    ∃ a len cap nums, cs = [.slice a len cap] ∧ RowAt w a len cap (cellsI nums) ∧ ∀ x ∈ nums, Is64 x := by
  rcases open_ints Try.underlying24 Try.underlying3 (by kernel_rfl) h with ⟨hcs, _⟩ | ⟨x, l, c, zs, hcs, _, hl, hm, hz, _, hcell, hwz⟩
  · exact ⟨none, 0, 0, [], hcs, rowAt_nil w, by simp⟩
  · have hzl : l ≤ zs.length := by rw [hz]; split <;> omega
    refine ⟨some x, l, c, zs.take l, hcs, row_of (by simp [cellsI]; omega) hl hm ?_, ?_⟩
    · intro i hi
      have hi' : i < zs.length := by omega
      rw [hcell i hi', cellsI, List.getElem?_map, List.getElem?_take_of_lt hi, List.getElem?_eq_getElem hi']
      simp [hi']
    · intro n hn
      have := bounds_i64 (hwz n (List.mem_of_mem_take hn))
      exact ⟨by omega, by omega⟩
theorem open_texts {H : Type} {enc : TypeId × Value → H} {w : World} {base : Nat} {spare : Nat → Bool} {held : Bool} {fuel : Nat} {cs : List Value} {x : DataW H × List MemPlace} (h : DataW.trod enc Try.prog w base spare held fuel 25 cs = some x) :
    ∃ a len cap texts, cs = [.slice a len cap] ∧ RowAt w a len cap (cellsT texts) ∧ ∀ t ∈ texts, t.size ≤ maxLen := by
  rcases Go.Deep.open_strs Try.underlying25 Try.underlying9 (by kernel_rfl) h with ⟨hcs, _⟩ | ⟨x, l, c, m, Sx, hcs, _, hl, hm, hmm, _, hcell⟩
  · exact ⟨none, 0, 0, [], hcs, rowAt_nil w, by simp⟩
  · have hlm : l ≤ m := by rw [hmm]; split <;> omega
    refine ⟨some x, l, c, (List.range l).map Sx, hcs, row_of (by simp [cellsT]) hl hm ?_, ?_⟩
    · intro i hi
      rw [(hcell i (by omega)).1]
      simp [cellsT, hi]
    · intro t ht
      obtain ⟨i, hi, rfl⟩ := List.mem_map.1 ht
      exact (hcell i (by have := List.mem_range.1 hi; omega)).2
theorem open_data_cells {H : Type} {enc : TypeId × Value → H} {w : World} {base : Nat} {spare : Nat → Bool} {held : Bool} {fuel : Nat} {c0 c1 : Value} {x : DataW H × List MemPlace} (h : DataW.trod enc Try.prog w base spare held fuel 27 [c0, c1] = some x) :
    ∃ nums texts, DataAt w (.agg #[c0, c1]) nums texts := by
  obtain ⟨y0, y1, n, _, _, h0, h1⟩ := trod_struct2 Try.underlying27 h
  have e26 : Try.prog.cellsOf 24 = 1 := by kernel_rfl
  have e27 : Try.prog.cellsOf 25 = 1 := by kernel_rfl
  simp only [e26, e27] at h0 h1
  obtain ⟨a1, n1, k1, nums, hc0, hr0, h64⟩ := open_nums h0
  obtain ⟨a2, n2, k2, texts, hc1, hr1, hsz⟩ := open_texts h1
  simp at hc0 hc1
  subst hc0 hc1
  exact ⟨nums, texts, _, _, _, _, _, _, rfl, hr0, hr1, h64, hsz⟩
set_option maxRecDepth 60000 in
theorem open_data {H : Type} {enc : TypeId × Value → H} {w : World} {base : Nat} {spare : Nat → Bool} {held : Bool} {r : Reach} {b0 : Nat} {v : Value} {d : DataW H} {p : List MemPlace} (hv : Value.okWide Try.prog w r b0 27 v) (h : DataW.Trod enc Try.prog w base spare held 27 v d p) :
    ∃ nums texts, DataAt w v nums texts := by
  obtain ⟨cs, rfl, hs⟩ := okWide_struct Try.underlying27 hv
  obtain ⟨fuel, hf⟩ := h
  have e29 : Try.prog.cellsOf 27 = 2 := by kernel_rfl
  rw [e29] at hs
  obtain ⟨l⟩ := cs
  match l, hs with
  | [c0, c1], _ => exact open_data_cells (by simpa [Value.cells] using hf)
end Go.Proofs.Ytfplncadjifgfaa.Fr
