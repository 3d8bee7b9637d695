/-
  The contract of Parse: the series that a text is read as, or none.
-/
import Derived.Test.YtnjbpiekbekpeaaH
import Derived.Test.YtnjbpiekbekpeaaI
import Derived.Laws.ResultCell
namespace Go.Proofs.Ytnjbpiekbekpeaa
open Go.ChangeShapes Go.WideShapes Go.ChangeAt Go.RowKit
/-- the machine over a text, sign by sign -/
def runS (s : ByteArray) : Nat → Nat → St → Option St
  | 0, _, st => some st
  | f + 1, pos, st => if pos < s.size then (stepS st ((Utf8.decode s pos).1 : Int)).bind (runS s f (pos + (Utf8.decode s pos).2)) else some st
def st0 : St := (0, [], ⟨#[]⟩, ⟨#[]⟩, [])
def endS (st : St) : St := if st.1 = 0 then (6, [], st.2.2.1, baL st.2.1, st.2.2.2.2) else st
theorem runS_end (s : ByteArray) (f pos : Nat) (st : St) (h : ¬ pos < s.size) : runS s f pos st = some st := by
  cases f with
  | zero => rfl
  | succ f => simp [runS, h]
/-- a text can be read as this series -/
def ParsesTo (s : ByteArray) (nm : ByteArray) (ls : List Lab) : Prop :=
  ∃ st, runS s s.size 0 st0 = some st ∧ (endS st).1 = 6 ∧ nm = (endS st).2.2.2.1 ∧ ls.Perm (endS st).2.2.2.2 ∧ SortedL ls ∧ MayS nm ls
def noSer : Value := .agg #[.string ⟨#[]⟩, .slice none 0 0]
def ParsePost (w : World) (s : ByteArray) (e : Ending) (w' : World) : Prop :=
  Below w.heap.size w w' ∧ ((∃ v nm ls, e = .returned (.tuple #[v, .int .i64 0]) ∧ SerAt w' v nm ls ∧ ParsesTo s nm ls) ∨ (e = .returned (.tuple #[noSer, .int .i64 2]) ∧ ∀ nm ls, ¬ ParsesTo s nm ls))
theorem SortedL.pair {ls : List Lab} (h : SortedL ls) : ls.Pairwise fun a b => ltB b.1 a.1 = false := by
  rw [List.pairwise_iff_getElem]
  intro i j hi hj hij
  have := h i j hij hj
  simpa [hi, hj] using this
theorem may_pair {nm : ByteArray} {ls : List Lab} (h : MayS nm ls) : ls.Pairwise fun a b => ltB a.1 b.1 = true := by
  have key : ∀ j, j < ls.length → ∀ i, i < j → ltB (ls.getD i lab0).1 (ls.getD j lab0).1 = true := by
    intro j
    induction j with
    | zero => intro _ i hi; omega
    | succ j ih =>
      intro hj i hi
      have h1 := (h.2.2 (j + 1) hj).2.2 (by omega)
      rw [Nat.add_sub_cancel] at h1
      by_cases e : i = j
      · subst e; exact h1
      · exact ltB_trans (ih (by omega) i (by omega)) h1
  rw [List.pairwise_iff_getElem]
  intro i j hi hj hij
  have := key j hj i hij
  simpa [hi, hj] using this
theorem uniq : ∀ {l1 l2 : List Lab}, l1.Perm l2 → l1.Pairwise (fun a b => ltB a.1 b.1 = true) → l2.Pairwise (fun a b => ltB b.1 a.1 = false) → l1 = l2 := by
  intro l1
  induction l1 with
  | nil => intro l2 hp _ _; exact (List.Perm.nil_eq hp)
  | cons a l ih =>
    intro l2 hp h1 h2
    cases l2 with
    | nil => exact absurd hp.symm (by simp)
    | cons b l2 =>
      by_cases e : a = b
      · subst e
        rw [ih hp.cons_inv (List.pairwise_cons.1 h1).2 (List.pairwise_cons.1 h2).2]
      · have ha : a ∈ l2 := by
          have := hp.subset (List.mem_cons_self ..)
          rcases List.mem_cons.1 this with h | h
          · exact absurd h e
          · exact h
        have hb : b ∈ l := by
          have := hp.symm.subset (List.mem_cons_self ..)
          rcases List.mem_cons.1 this with h | h
          · exact absurd h.symm e
          · exact h
        have x1 := (List.pairwise_cons.1 h1).1 b hb
        have x2 := (List.pairwise_cons.1 h2).1 a ha
        rw [x1] at x2
        cases x2
theorem RdAt.iterAt {B R : Nat} {st : St} {w : World} (h : RdAt B R st w) {k : Nat} {s : ByteArray} {pos : Nat} (hk : w.heap[k]? = some (.stringIter s pos)) (pos' : Nat) : RdAt B R st (w.iterAt k s pos') := by
  obtain ⟨cs, hb, c0, c3, c4, lv, c5, hown⟩ := h
  refine ⟨cs, hb.iterAt hk pos', c0, c3, c4, lv, c5, hown.kept (row := some k) ⟨rfl, rfl, rfl, by rw [Lib.iterAt_size]; exact Nat.le_refl _, fun j _ hj => Lib.iterAt_other _ _ _ _ _ (fun e => hj (by rw [e]))⟩ (Or.inr fun e => ?_)⟩
  obtain ⟨c, hc⟩ := own_kind hown k e
  rw [hk] at hc
  cases hc
theorem ret_pair {fn : Func} {p u : Tmp} (h : fn.results = #[.cell p 24, .tmp u]) (tmps : Array Value) (w : World) (b : Nat) (x y : Value) (hp : tmps.getD p undef = .pointer (some ⟨b, 0, none⟩))
    (h0 : w.cell? ⟨b, 0, none⟩ = some x) (h1 : w.cell? ⟨b, 1, none⟩ = some y) : (results fn tmps).run Try.prog w = .ok (.tuple #[.agg #[x, y], tmps.getD u undef]) w := by
  rw [results_cell_tmp h, hp]
  simp [go_sem, h0, h1]
theorem two_set {w : World} {b : Nat} {u0 u1 : Value} (h0 : w.cell? ⟨b, 0, none⟩ = some u0) (h1 : w.cell? ⟨b, 1, none⟩ = some u1) (x y : Value) :
    ((w.setCell ⟨b, 0, none⟩ x).setCell ⟨b, 1, none⟩ y).cell? ⟨b, 0, none⟩ = some x ∧ ((w.setCell ⟨b, 0, none⟩ x).setCell ⟨b, 1, none⟩ y).cell? ⟨b, 1, none⟩ = some y := by
  have h2 : (w.setCell ⟨b, 0, none⟩ x).cell? ⟨b, 1, none⟩ = some u1 := by
    rw [World.cell?_setCell_other _ _ _ _ (by intro h; simpa using congrArg Addr.off h)]; exact h1
  refine ⟨?_, World.cell?_setCell_same _ _ _ h2⟩
  rw [World.cell?_setCell_other _ _ _ _ (by intro h; simpa using congrArg Addr.off h)]
  exact World.cell?_setCell_same _ _ _ h0
/-- a row of labels of one's own reads as them -/
theorem labs_own {w : World} {B : Nat} {lv : Value} {ls : List Lab} (h : w.ownsRow B 46 2 lv ls.length (cellsLb ls)) : ∃ a cap, lv = .slice a ls.length cap ∧ LabsAt w a ls.length cap ls := by
  have hown := h
  obtain ⟨hl, ⟨rfl, h0⟩ | ⟨g, cap, cur, rfl, hg, hh, hc, hcm, hcs, ht⟩⟩ := h
  · exact ⟨none, 0, by rw [h0], rfl, by omega, Nat.zero_le _, .inl h0⟩
  · refine ⟨some ⟨g, 0, none⟩, cap, rfl, rfl, hc, hcm, .inr ⟨g, 0, rfl, fun i hi => ?_⟩⟩
    obtain ⟨e0, e1⟩ := cellsLb_get ls i hi
    have eg : ls.getD i lab0 = ls[i] := by simp [hi]
    rw [eg, Nat.zero_add, hown.cellAt (i * 2) (by omega), hown.cellAt (i * 2 + 1) (by omega)]
    exact ⟨e0, e1⟩
theorem width_pos (s : ByteArray) (pos : Nat) (h : pos < s.size) : 1 ≤ (Utf8.decode s pos).2 := by
  by_cases ha : (s[pos]'h).toNat < 128
  · rw [decode_ascii s pos h ha]; exact Nat.le_refl _
  · exact (decode_high s pos h (by omega)).2
/-- texts in the machine are short -/
def ShortSt (st : St) : Prop := st.2.1.length ≤ 20 ∧ st.2.2.1.size ≤ 20 ∧ st.2.2.2.1.size ≤ 20 ∧ ∀ x ∈ st.2.2.2.2, x.1.size ≤ 20 ∧ x.2.size ≤ 20
theorem baL_size (l : List UInt8) : (baL l).size = l.length := by rw [← sg_length, sg_baL]
theorem encodeRune_le (r : Int) : (Lib.encodeRune r).length ≤ 4 := by rw [← Lib.runeCells_length]; exact (Lib.runeCells_le r).2
theorem keepS_short {r : Int} {st st' : St} (hs : ShortSt st) (h : keepS r st = some st') : ShortSt st' := by
  unfold keepS at h
  split at h
  · cases h
  · rename_i hn
    obtain rfl := Option.some.inj h
    refine ⟨?_, hs.2.1, hs.2.2.1, hs.2.2.2⟩
    have := encodeRune_le r
    simp only [List.length_append]
    omega
theorem stepS_short {p : Nat} {wd : List UInt8} {ln sn : ByteArray} {ls : List Lab} {r : Int} {st : St} (hs : ShortSt (p, wd, ln, sn, ls)) (h : stepS (p, wd, ln, sn, ls) r = some st) : ShortSt st := by
  have hs' := hs
  obtain ⟨h1, h2, h3, h4⟩ := hs
  simp only at h1 h2 h3 h4
  unfold stepS at h
  simp only at h
  repeat' split at h
  all_goals first
    | (cases h; done)
    | (exact keepS_short hs' h)
    | (obtain ⟨s, hk, rfl⟩ := Option.map_eq_some_iff.1 h; have := keepS_short hs' hk; exact ⟨this.1, this.2.1, this.2.2.1, this.2.2.2⟩)
    | (obtain rfl := Option.some.inj h; exact ⟨h1, h2, h3, h4⟩)
    | (obtain rfl := Option.some.inj h; exact ⟨by simp, h2, by rw [baL_size]; exact h1, h4⟩)
    | (obtain rfl := Option.some.inj h; exact ⟨by simp, by rw [baL_size]; exact h1, h3, h4⟩)
    | (obtain rfl := Option.some.inj h; refine ⟨by simp, h2, h3, fun x hx => ?_⟩; rcases List.mem_append.1 hx with hx | hx
       · exact h4 x hx
       · simp at hx; subst hx; exact ⟨h2, by rw [baL_size]; exact h1⟩)
end Go.Proofs.Ytnjbpiekbekpeaa
