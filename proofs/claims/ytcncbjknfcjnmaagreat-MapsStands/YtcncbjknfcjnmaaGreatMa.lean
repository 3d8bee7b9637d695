/-
  Maps as they lie in memory.
-/
import Derived.Test.YtcncbjknfcjnmaaGreatTpB
namespace Go.Proofs.YtcncbjknfcjnmaaGreat.Tp
open Go.ChangeShapes Go.WideShapes Go.ChangeAt Go.RowKit
/-- a Temp, or a Span: a number and nodes -/
structure Tm where
  g : Int
  ns : List Int
def tm0 : Tm := ⟨0, []⟩
/-- a Trail -/
structure Tr where
  since : Int
  past : List Tm
def tr0 : Tr := ⟨0, []⟩
/-- a map -/
structure Mp where
  ep : Int
  size : Int
  mn : Int
  gr : Int
  nds : List Nd
  tms : List Tm
  trs : List Tr
/-- where a map's three lists lie -/
structure MV where
  aN : Option Addr
  lN : Nat
  cN : Nat
  aT : Option Addr
  lT : Nat
  cT : Nat
  aR : Option Addr
  lR : Nat
  cR : Nat
/-- a slice of ints that reads as these -/
def RowI (w : World) (a : Option Addr) (len cap : Nat) (l : List Int) : Prop :=
  l.length = len ∧ len ≤ cap ∧ cap ≤ maxLen ∧ (a = none → cap = 0) ∧ (len = 0 ∨ ∃ b off, a = some ⟨b, off, none⟩ ∧ ∀ i, i < len → w.cell? ⟨b, off + i, none⟩ = some (.int .i64 (l.getD i 0)))
theorem RowI.some {w : World} {a : Option Addr} {len cap : Nat} {l : List Int} (h : RowI w a len cap l) (h0 : 0 < len) :
    ∃ b off, a = Option.some ⟨b, off, none⟩ ∧ b < w.heap.size ∧ ∀ i, i < len → w.cell? ⟨b, off + i, none⟩ = Option.some (.int .i64 (l.getD i 0)) := by
  rcases h.2.2.2.2 with h | ⟨b, off, e, h⟩
  · omega
  · exact ⟨b, off, e, World.block_lt_of_cell? w ⟨b, off + 0, none⟩ (h 0 h0), h⟩
theorem RowI.below {w w' : World} {a : Option Addr} {len cap : Nat} {l : List Int} (h : RowI w a len cap l) (hb : Below w.heap.size w w') : RowI w' a len cap l := by
  refine ⟨h.1, h.2.1, h.2.2.1, h.2.2.2.1, ?_⟩
  rcases h.2.2.2.2 with h0 | ⟨b, off, e, hc⟩
  · exact .inl h0
  · refine .inr ⟨b, off, e, fun i hi => ?_⟩
    have hlt : b < w.heap.size := World.block_lt_of_cell? w ⟨b, off + i, none⟩ (hc i hi)
    exact (hb.cell (p := ⟨b, off + i, none⟩) hlt).trans (hc i hi)
theorem RowI.nil (w : World) : RowI w none 0 0 [] := ⟨rfl, Nat.le_refl _, Nat.zero_le _, fun _ => rfl, .inl rfl⟩
def TmAt (w : World) (b o : Nat) (x : Tm) : Prop := w.cell? ⟨b, o, none⟩ = some (.int .i64 x.g) ∧ ∃ a len cap, w.cell? ⟨b, o + 1, none⟩ = some (.slice a len cap) ∧ RowI w a len cap x.ns
theorem TmAt.below {w w' : World} {b o : Nat} {x : Tm} (h : TmAt w b o x) (hb : Below w.heap.size w w') : TmAt w' b o x := by
  obtain ⟨h0, a, len, cap, h1, hr⟩ := h
  have hlt : b < w.heap.size := World.block_lt_of_cell? w ⟨b, o, none⟩ h0
  exact ⟨(hb.cell (p := ⟨b, o, none⟩) hlt).trans h0, a, len, cap, (hb.cell (p := ⟨b, o + 1, none⟩) hlt).trans h1, hr.below hb⟩
/-- a slice of Temps, or of Spans -/
def TmsAt (w : World) (a : Option Addr) (len cap : Nat) (ls : List Tm) : Prop :=
  ls.length = len ∧ len ≤ cap ∧ cap ≤ maxLen ∧ (a = none → cap = 0) ∧ (len = 0 ∨ ∃ b off, a = some ⟨b, off, none⟩ ∧ ∀ i, i < len → TmAt w b (off + i * 2) (ls.getD i tm0))
theorem TmsAt.below {w w' : World} {a : Option Addr} {len cap : Nat} {ls : List Tm} (h : TmsAt w a len cap ls) (hb : Below w.heap.size w w') : TmsAt w' a len cap ls := by
  refine ⟨h.1, h.2.1, h.2.2.1, h.2.2.2.1, ?_⟩
  rcases h.2.2.2.2 with h0 | ⟨b, off, e, hc⟩
  · exact .inl h0
  · exact .inr ⟨b, off, e, fun i hi => (hc i hi).below hb⟩
theorem TmsAt.some {w : World} {a : Option Addr} {len cap : Nat} {ls : List Tm} (h : TmsAt w a len cap ls) (h0 : 0 < len) :
    ∃ b off, a = Option.some ⟨b, off, none⟩ ∧ b < w.heap.size ∧ ∀ i, i < len → TmAt w b (off + i * 2) (ls.getD i tm0) := by
  rcases h.2.2.2.2 with h | ⟨b, off, e, h⟩
  · omega
  · exact ⟨b, off, e, World.block_lt_of_cell? w ⟨b, off + 0 * 2, none⟩ (h 0 h0).1, h⟩
theorem TmsAt.nil (w : World) : TmsAt w none 0 0 [] := ⟨rfl, Nat.le_refl _, Nat.zero_le _, fun _ => rfl, .inl rfl⟩
def TrAt (w : World) (b o : Nat) (x : Tr) : Prop := w.cell? ⟨b, o, none⟩ = some (.int .i64 x.since) ∧ ∃ a len cap, w.cell? ⟨b, o + 1, none⟩ = some (.slice a len cap) ∧ TmsAt w a len cap x.past
theorem TrAt.below {w w' : World} {b o : Nat} {x : Tr} (h : TrAt w b o x) (hb : Below w.heap.size w w') : TrAt w' b o x := by
  obtain ⟨h0, a, len, cap, h1, hr⟩ := h
  have hlt : b < w.heap.size := World.block_lt_of_cell? w ⟨b, o, none⟩ h0
  exact ⟨(hb.cell (p := ⟨b, o, none⟩) hlt).trans h0, a, len, cap, (hb.cell (p := ⟨b, o + 1, none⟩) hlt).trans h1, hr.below hb⟩
/-- a slice of Trails -/
def TrsAt (w : World) (a : Option Addr) (len cap : Nat) (ls : List Tr) : Prop :=
  ls.length = len ∧ len ≤ cap ∧ cap ≤ maxLen ∧ (a = none → cap = 0) ∧ (len = 0 ∨ ∃ b off, a = some ⟨b, off, none⟩ ∧ ∀ i, i < len → TrAt w b (off + i * 2) (ls.getD i tr0))
theorem TrsAt.below {w w' : World} {a : Option Addr} {len cap : Nat} {ls : List Tr} (h : TrsAt w a len cap ls) (hb : Below w.heap.size w w') : TrsAt w' a len cap ls := by
  refine ⟨h.1, h.2.1, h.2.2.1, h.2.2.2.1, ?_⟩
  rcases h.2.2.2.2 with h0 | ⟨b, off, e, hc⟩
  · exact .inl h0
  · exact .inr ⟨b, off, e, fun i hi => (hc i hi).below hb⟩
theorem TrsAt.some {w : World} {a : Option Addr} {len cap : Nat} {ls : List Tr} (h : TrsAt w a len cap ls) (h0 : 0 < len) :
    ∃ b off, a = Option.some ⟨b, off, none⟩ ∧ b < w.heap.size ∧ ∀ i, i < len → TrAt w b (off + i * 2) (ls.getD i tr0) := by
  rcases h.2.2.2.2 with h | ⟨b, off, e, h⟩
  · omega
  · exact ⟨b, off, e, World.block_lt_of_cell? w ⟨b, off + 0 * 2, none⟩ (h 0 h0).1, h⟩
theorem TrsAt.nil (w : World) : TrsAt w none 0 0 [] := ⟨rfl, Nat.le_refl _, Nat.zero_le _, fun _ => rfl, .inl rfl⟩
/-- a map's value -/
def mapCells (m : Mp) (s : MV) : List Value := [.int .i64 m.ep, .int .i64 m.size, .int .i64 m.mn, .int .i64 m.gr, .slice s.aN s.lN s.cN, .slice s.aT s.lT s.cT, .slice s.aR s.lR s.cR]
structure MapAt (w : World) (m : Mp) (s : MV) : Prop where
  nds : NdsAt w s.aN s.lN s.cN m.nds
  nilN : s.aN = none → s.cN = 0
  tms : TmsAt w s.aT s.lT s.cT m.tms
  trs : TrsAt w s.aR s.lR s.cR m.trs
theorem MapAt.below {w w' : World} {m : Mp} {s : MV} (h : MapAt w m s) (hb : Below w.heap.size w w') : MapAt w' m s := ⟨h.nds.below hb, h.nilN, h.tms.below hb, h.trs.below hb⟩
theorem NdsAt.nil (w : World) : NdsAt w none 0 0 [] := ⟨rfl, Nat.le_refl _, Nat.zero_le _, .inl rfl⟩
/-- the map of noughts -/
def mp0 : Mp := ⟨0, 0, 0, 0, [], [], []⟩
def mv0 : MV := ⟨none, 0, 0, none, 0, 0, none, 0, 0⟩
theorem map0_at (w : World) : MapAt w mp0 mv0 := ⟨NdsAt.nil w, fun _ => rfl, TmsAt.nil w, TrsAt.nil w⟩
/-- a block of seven cells that may be written -/
def Box7 (w : World) (b : Nat) (v0 v1 v2 v3 v4 v5 v6 : Value) : Prop := (w.cell? ⟨b, 0, none⟩ = some v0 ∧ w.cell? ⟨b, 1, none⟩ = some v1 ∧ w.cell? ⟨b, 2, none⟩ = some v2 ∧ w.cell? ⟨b, 3, none⟩ = some v3 ∧ w.cell? ⟨b, 4, none⟩ = some v4 ∧ w.cell? ⟨b, 5, none⟩ = some v5 ∧ w.cell? ⟨b, 6, none⟩ = some v6) ∧ (w.frozen? ⟨b, 0, none⟩ = false ∧ w.frozen? ⟨b, 1, none⟩ = false ∧ w.frozen? ⟨b, 2, none⟩ = false ∧ w.frozen? ⟨b, 3, none⟩ = false ∧ w.frozen? ⟨b, 4, none⟩ = false ∧ w.frozen? ⟨b, 5, none⟩ = false ∧ w.frozen? ⟨b, 6, none⟩ = false)
def set7 (w : World) (b : Nat) (v0 v1 v2 v3 v4 v5 v6 : Value) : World := ((((((w.setCell ⟨b, 0, none⟩ v0).setCell ⟨b, 1, none⟩ v1).setCell ⟨b, 2, none⟩ v2).setCell ⟨b, 3, none⟩ v3).setCell ⟨b, 4, none⟩ v4).setCell ⟨b, 5, none⟩ v5).setCell ⟨b, 6, none⟩ v6
theorem Box7.lt {w : World} {b : Nat} {v0 v1 v2 v3 v4 v5 v6 : Value} (h : Box7 w b v0 v1 v2 v3 v4 v5 v6) : b < w.heap.size := World.block_lt_of_cell? w ⟨b, 0, none⟩ h.1.1
theorem Box7.set {w : World} {b : Nat} {u0 u1 u2 u3 u4 u5 u6 : Value} (h : Box7 w b u0 u1 u2 u3 u4 u5 u6) (v0 v1 v2 v3 v4 v5 v6 : Value) : Box7 (set7 w b v0 v1 v2 v3 v4 v5 v6) b v0 v1 v2 v3 v4 v5 v6 := by
  obtain ⟨⟨h0, h1, h2, h3, h4, h5, h6⟩, ⟨f0, f1, f2, f3, f4, f5, f6⟩⟩ := h
  unfold set7
  refine ⟨⟨?_, ?_, ?_, ?_, ?_, ?_, ?_⟩, ⟨by simpa using f0, by simpa using f1, by simpa using f2, by simpa using f3, by simpa using f4, by simpa using f5, by simpa using f6⟩⟩
  · rw [set_else (by omega), set_else (by omega), set_else (by omega), set_else (by omega), set_else (by omega), set_else (by omega)]
    exact set_same h0 _
  · rw [set_else (by omega), set_else (by omega), set_else (by omega), set_else (by omega), set_else (by omega)]
    exact set_same ((set_else (by omega) _).trans h1) _
  · rw [set_else (by omega), set_else (by omega), set_else (by omega), set_else (by omega)]
    exact set_same ((set_else (by omega) _).trans ((set_else (by omega) _).trans h2)) _
  · rw [set_else (by omega), set_else (by omega), set_else (by omega)]
    exact set_same ((set_else (by omega) _).trans ((set_else (by omega) _).trans ((set_else (by omega) _).trans h3))) _
  · rw [set_else (by omega), set_else (by omega)]
    exact set_same ((set_else (by omega) _).trans ((set_else (by omega) _).trans ((set_else (by omega) _).trans ((set_else (by omega) _).trans h4)))) _
  · rw [set_else (by omega)]
    exact set_same ((set_else (by omega) _).trans ((set_else (by omega) _).trans ((set_else (by omega) _).trans ((set_else (by omega) _).trans ((set_else (by omega) _).trans h5))))) _
  · exact set_same ((set_else (by omega) _).trans ((set_else (by omega) _).trans ((set_else (by omega) _).trans ((set_else (by omega) _).trans ((set_else (by omega) _).trans ((set_else (by omega) _).trans h6)))))) _
theorem Box7.below {w w' : World} {b : Nat} {v0 v1 v2 v3 v4 v5 v6 : Value} (h : Box7 w b v0 v1 v2 v3 v4 v5 v6) (hb : Below w.heap.size w w') : Box7 w' b v0 v1 v2 v3 v4 v5 v6 := by
  have hl := h.lt
  obtain ⟨⟨h0, h1, h2, h3, h4, h5, h6⟩, ⟨f0, f1, f2, f3, f4, f5, f6⟩⟩ := h
  exact ⟨⟨(hb.cell (p := ⟨b, 0, none⟩) hl).trans h0, (hb.cell (p := ⟨b, 1, none⟩) hl).trans h1, (hb.cell (p := ⟨b, 2, none⟩) hl).trans h2, (hb.cell (p := ⟨b, 3, none⟩) hl).trans h3, (hb.cell (p := ⟨b, 4, none⟩) hl).trans h4, (hb.cell (p := ⟨b, 5, none⟩) hl).trans h5, (hb.cell (p := ⟨b, 6, none⟩) hl).trans h6⟩, ⟨(hb.frozen (p := ⟨b, 0, none⟩) hl).trans f0, (hb.frozen (p := ⟨b, 1, none⟩) hl).trans f1, (hb.frozen (p := ⟨b, 2, none⟩) hl).trans f2, (hb.frozen (p := ⟨b, 3, none⟩) hl).trans f3, (hb.frozen (p := ⟨b, 4, none⟩) hl).trans f4, (hb.frozen (p := ⟨b, 5, none⟩) hl).trans f5, (hb.frozen (p := ⟨b, 6, none⟩) hl).trans f6⟩⟩
theorem set7_below {N : Nat} {w0 w : World} {b : Nat} (h : Below N w0 w) (hb : N ≤ b) (v0 v1 v2 v3 v4 v5 v6 : Value) : Below N w0 (set7 w b v0 v1 v2 v3 v4 v5 v6) := ((((((h.setCell (p := ⟨b, 0, none⟩) hb _).setCell (p := ⟨b, 1, none⟩) hb _).setCell (p := ⟨b, 2, none⟩) hb _).setCell (p := ⟨b, 3, none⟩) hb _).setCell (p := ⟨b, 4, none⟩) hb _).setCell (p := ⟨b, 5, none⟩) hb _).setCell (p := ⟨b, 6, none⟩) hb _
theorem Box7.new (w : World) (v0 v1 v2 v3 v4 v5 v6 : Value) (t : TypeId) : Box7 (w.alloc (.cells #[v0, v1, v2, v3, v4, v5, v6] t)) w.heap.size v0 v1 v2 v3 v4 v5 v6 := by unfold Box7; simp
theorem set_grownBy (w : World) (b i : Nat) (v : Value) : w.grownBy (w.setCell ⟨b, i, none⟩ v) (some b) := by
  refine ⟨rfl, rfl, rfl, by simp, fun k hk hne => ?_⟩
  have hkb : k ≠ b := fun h => hne (by rw [h])
  simp [World.setCell, Array.getElem?_modify, Ne.symm hkb]
theorem set7_grownBy (w : World) (b : Nat) (v0 v1 v2 v3 v4 v5 v6 : Value) : w.grownBy (set7 w b v0 v1 v2 v3 v4 v5 v6) (some b) :=
  grownBy_trans (grownBy_trans (grownBy_trans (grownBy_trans (grownBy_trans (grownBy_trans (set_grownBy _ _ 0 _) (set_grownBy _ _ 1 _)) (set_grownBy _ _ 2 _)) (set_grownBy _ _ 3 _)) (set_grownBy _ _ 4 _)) (set_grownBy _ _ 5 _)) (set_grownBy _ _ 6 _)
/-- a row of one's own is kept where a block of another type is written -/
theorem own_type {w w' : World} {B s n : Nat} {e : TypeId} {v : Value} {xs : List Value} {b : Nat} {cb : Array Value} {tb : TypeId} {fz : Nat × Nat} (h : w.ownsRow B e s v n xs) (hg : w.grownBy w' (some b)) (hb : w.heap[b]? = some (.cells cb tb fz)) (ht : tb ≠ e) : w'.ownsRow B e s v n xs := by
  refine h.kept hg ?_
  rcases h.2 with ⟨rfl, _⟩ | ⟨g, cap, cur, rfl, _, hh, _⟩
  · exact .inl rfl
  · right
    intro e0
    simp [Value.ownBlock] at e0
    subst e0
    rw [hh] at hb
    simp at hb
    exact ht hb.2.1.symm
theorem own_base {w : World} {B B' T m : Nat} {v : Value} {n : Nat} {xs : List Value} (h : w.ownsRow B' T m v n xs) (hB : B ≤ B') : w.ownsRow B T m v n xs := by
  refine ⟨h.1, ?_⟩
  rcases h.2 with h | ⟨g, cap, cur, hv, hg, r⟩
  · exact .inl h
  · exact .inr ⟨g, cap, cur, hv, Nat.le_trans hB hg, r⟩
theorem Box7.put0 {w : World} {b : Nat} {v0 v1 v2 v3 v4 v5 v6 : Value} (h : Box7 w b v0 v1 v2 v3 v4 v5 v6) (v : Value) : Box7 (w.setCell ⟨b, 0, none⟩ v) b v v1 v2 v3 v4 v5 v6 := by
  obtain ⟨⟨h0, h1, h2, h3, h4, h5, h6⟩, ⟨f0, f1, f2, f3, f4, f5, f6⟩⟩ := h
  exact ⟨⟨set_same h0 _, (set_else (by omega) _).trans h1, (set_else (by omega) _).trans h2, (set_else (by omega) _).trans h3, (set_else (by omega) _).trans h4, (set_else (by omega) _).trans h5, (set_else (by omega) _).trans h6⟩, ⟨by simpa using f0, by simpa using f1, by simpa using f2, by simpa using f3, by simpa using f4, by simpa using f5, by simpa using f6⟩⟩
theorem Box7.put1 {w : World} {b : Nat} {v0 v1 v2 v3 v4 v5 v6 : Value} (h : Box7 w b v0 v1 v2 v3 v4 v5 v6) (v : Value) : Box7 (w.setCell ⟨b, 1, none⟩ v) b v0 v v2 v3 v4 v5 v6 := by
  obtain ⟨⟨h0, h1, h2, h3, h4, h5, h6⟩, ⟨f0, f1, f2, f3, f4, f5, f6⟩⟩ := h
  exact ⟨⟨(set_else (by omega) _).trans h0, set_same h1 _, (set_else (by omega) _).trans h2, (set_else (by omega) _).trans h3, (set_else (by omega) _).trans h4, (set_else (by omega) _).trans h5, (set_else (by omega) _).trans h6⟩, ⟨by simpa using f0, by simpa using f1, by simpa using f2, by simpa using f3, by simpa using f4, by simpa using f5, by simpa using f6⟩⟩
theorem Box7.put2 {w : World} {b : Nat} {v0 v1 v2 v3 v4 v5 v6 : Value} (h : Box7 w b v0 v1 v2 v3 v4 v5 v6) (v : Value) : Box7 (w.setCell ⟨b, 2, none⟩ v) b v0 v1 v v3 v4 v5 v6 := by
  obtain ⟨⟨h0, h1, h2, h3, h4, h5, h6⟩, ⟨f0, f1, f2, f3, f4, f5, f6⟩⟩ := h
  exact ⟨⟨(set_else (by omega) _).trans h0, (set_else (by omega) _).trans h1, set_same h2 _, (set_else (by omega) _).trans h3, (set_else (by omega) _).trans h4, (set_else (by omega) _).trans h5, (set_else (by omega) _).trans h6⟩, ⟨by simpa using f0, by simpa using f1, by simpa using f2, by simpa using f3, by simpa using f4, by simpa using f5, by simpa using f6⟩⟩
theorem Box7.put3 {w : World} {b : Nat} {v0 v1 v2 v3 v4 v5 v6 : Value} (h : Box7 w b v0 v1 v2 v3 v4 v5 v6) (v : Value) : Box7 (w.setCell ⟨b, 3, none⟩ v) b v0 v1 v2 v v4 v5 v6 := by
  obtain ⟨⟨h0, h1, h2, h3, h4, h5, h6⟩, ⟨f0, f1, f2, f3, f4, f5, f6⟩⟩ := h
  exact ⟨⟨(set_else (by omega) _).trans h0, (set_else (by omega) _).trans h1, (set_else (by omega) _).trans h2, set_same h3 _, (set_else (by omega) _).trans h4, (set_else (by omega) _).trans h5, (set_else (by omega) _).trans h6⟩, ⟨by simpa using f0, by simpa using f1, by simpa using f2, by simpa using f3, by simpa using f4, by simpa using f5, by simpa using f6⟩⟩
theorem Box7.put4 {w : World} {b : Nat} {v0 v1 v2 v3 v4 v5 v6 : Value} (h : Box7 w b v0 v1 v2 v3 v4 v5 v6) (v : Value) : Box7 (w.setCell ⟨b, 4, none⟩ v) b v0 v1 v2 v3 v v5 v6 := by
  obtain ⟨⟨h0, h1, h2, h3, h4, h5, h6⟩, ⟨f0, f1, f2, f3, f4, f5, f6⟩⟩ := h
  exact ⟨⟨(set_else (by omega) _).trans h0, (set_else (by omega) _).trans h1, (set_else (by omega) _).trans h2, (set_else (by omega) _).trans h3, set_same h4 _, (set_else (by omega) _).trans h5, (set_else (by omega) _).trans h6⟩, ⟨by simpa using f0, by simpa using f1, by simpa using f2, by simpa using f3, by simpa using f4, by simpa using f5, by simpa using f6⟩⟩
theorem Box7.put5 {w : World} {b : Nat} {v0 v1 v2 v3 v4 v5 v6 : Value} (h : Box7 w b v0 v1 v2 v3 v4 v5 v6) (v : Value) : Box7 (w.setCell ⟨b, 5, none⟩ v) b v0 v1 v2 v3 v4 v v6 := by
  obtain ⟨⟨h0, h1, h2, h3, h4, h5, h6⟩, ⟨f0, f1, f2, f3, f4, f5, f6⟩⟩ := h
  exact ⟨⟨(set_else (by omega) _).trans h0, (set_else (by omega) _).trans h1, (set_else (by omega) _).trans h2, (set_else (by omega) _).trans h3, (set_else (by omega) _).trans h4, set_same h5 _, (set_else (by omega) _).trans h6⟩, ⟨by simpa using f0, by simpa using f1, by simpa using f2, by simpa using f3, by simpa using f4, by simpa using f5, by simpa using f6⟩⟩
theorem Box7.put6 {w : World} {b : Nat} {v0 v1 v2 v3 v4 v5 v6 : Value} (h : Box7 w b v0 v1 v2 v3 v4 v5 v6) (v : Value) : Box7 (w.setCell ⟨b, 6, none⟩ v) b v0 v1 v2 v3 v4 v5 v := by
  obtain ⟨⟨h0, h1, h2, h3, h4, h5, h6⟩, ⟨f0, f1, f2, f3, f4, f5, f6⟩⟩ := h
  exact ⟨⟨(set_else (by omega) _).trans h0, (set_else (by omega) _).trans h1, (set_else (by omega) _).trans h2, (set_else (by omega) _).trans h3, (set_else (by omega) _).trans h4, (set_else (by omega) _).trans h5, set_same h6 _⟩, ⟨by simpa using f0, by simpa using f1, by simpa using f2, by simpa using f3, by simpa using f4, by simpa using f5, by simpa using f6⟩⟩
theorem Box7.else {w w' : World} {b c : Nat} {v0 v1 v2 v3 v4 v5 v6 : Value} (h : Box7 w b v0 v1 v2 v3 v4 v5 v6) (hg : w.grownBy w' (some c)) (hne : b ≠ c) : Box7 w' b v0 v1 v2 v3 v4 v5 v6 := by
  have hl := h.lt
  have hbk : w'.heap[b]? = w.heap[b]? := hg.block b hl (by simpa using hne)
  obtain ⟨⟨h0, h1, h2, h3, h4, h5, h6⟩, ⟨f0, f1, f2, f3, f4, f5, f6⟩⟩ := h
  exact ⟨⟨(World.cell?_of_block (a := ⟨b, 0, none⟩) hbk).trans h0, (World.cell?_of_block (a := ⟨b, 1, none⟩) hbk).trans h1, (World.cell?_of_block (a := ⟨b, 2, none⟩) hbk).trans h2, (World.cell?_of_block (a := ⟨b, 3, none⟩) hbk).trans h3, (World.cell?_of_block (a := ⟨b, 4, none⟩) hbk).trans h4, (World.cell?_of_block (a := ⟨b, 5, none⟩) hbk).trans h5, (World.cell?_of_block (a := ⟨b, 6, none⟩) hbk).trans h6⟩, ⟨(World.frozen?_of_block (a := ⟨b, 0, none⟩) hbk).trans f0, (World.frozen?_of_block (a := ⟨b, 1, none⟩) hbk).trans f1, (World.frozen?_of_block (a := ⟨b, 2, none⟩) hbk).trans f2, (World.frozen?_of_block (a := ⟨b, 3, none⟩) hbk).trans f3, (World.frozen?_of_block (a := ⟨b, 4, none⟩) hbk).trans f4, (World.frozen?_of_block (a := ⟨b, 5, none⟩) hbk).trans f5, (World.frozen?_of_block (a := ⟨b, 6, none⟩) hbk).trans f6⟩⟩
end Go.Proofs.YtcncbjknfcjnmaaGreat.Tp
