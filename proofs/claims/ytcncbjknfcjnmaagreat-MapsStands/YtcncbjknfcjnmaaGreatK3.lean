/-
  The contracts of acting's closure, of slices.IndexFunc and slices.DeleteFunc over ints of one's own.
  The contract of slices.DeleteFunc over ints of one's own.
-/
import Derived.Test.YtcncbjknfcjnmaaGreatK2
import Derived.Test.YtcncbjknfcjnmaaGreatPc
import Derived.Test.YtcncbjknfcjnmaaGreatTpF
import Derived.Lib.SliceRun
namespace Go.Proofs.YtcncbjknfcjnmaaGreat.Tp
open Go.ChangeShapes Go.WideShapes Go.ChangeAt Go.RowKit
/-- is a node there, and up? -/
def upB (ls : List Nd) (id : Int) : Bool := match findN ls id with | some x => x.up | none => false
theorem srch_up {ls : List Nd} {id : Int} {p : Nat} {t : Bool} (hM : MayN ls) (h : SrchIs (ls.map (·.id)) id p t) : (t = true → p < ls.length ∧ (ls.getD p nd0).up = upB ls id ∧ findN ls id = some (ls.getD p nd0)) ∧ (t = false → upB ls id = false ∧ findN ls id = none) := by
  obtain ⟨h1, h2, h3, h4⟩ := h
  have key : ∀ j, j < ls.length → (ls.map (·.id)).getD j 0 = (ls.getD j nd0).id := fun j hj => by simp [hj]
  simp only [List.length_map] at h1 h3 h4
  constructor
  · intro ht
    obtain ⟨hp, he⟩ := h4.1 ht
    have hf : findN ls id = some (ls.getD p nd0) := find_some hp ((key p hp).symm.trans he) (fun j hj e => by
      have := h2 j hj
      rw [key j (by omega), e] at this
      omega)
    exact ⟨hp, by unfold upB; rw [hf], hf⟩
  · intro ht
    have hf : findN ls id = none := find_none fun j hj e => by
      by_cases hjp : j < p
      · have := h2 j hjp
        rw [key j hj, e] at this
        omega
      · by_cases hpe : j = p
        · subst hpe
          have := h4.2 ⟨hj, (key j hj).trans e⟩
          rw [ht] at this
          exact absurd this (by decide)
        · have h5 := h3 p (Nat.le_refl _) (by omega)
          have h6 := may_rising hM p j (by omega) (by rw [List.length_map]; exact hj)
          rw [key j hj, e] at h6
          omega
    exact ⟨by unfold upB; rw [hf], hf⟩
set_option maxRecDepth 60000 in
theorem up_closure (m : Mp) (s : MV) (b : Nat) (id : Int) (w : World) (hN : NdsAt w s.aN s.lN s.cN m.nds) (hM : MayN m.nds) (hB : Box7 w b (.int .i64 m.ep) (.int .i64 m.size) (.int .i64 m.mn) (.int .i64 m.gr) (.slice s.aN s.lN s.cN) (.slice s.aT s.lT s.cT) (.slice s.aR s.lR s.cR)) :
    Calls Tryz.prog 87 #[.int .i64 id, .pointer (some ⟨b, 0, none⟩)] w fun e w' => e = .returned (.bool (!upB m.nds id)) ∧ Below w.heap.size w w' := by
  have HC : Hid (Calls Tryz.prog 68 #[.agg (mapCells m s).toArray, .int .i64 id] w fun e w' => SrchPost (m.nds.map (·.id)) id w e w') := node_any m s id w hN hM
  rw [map_split] at HC
  have HU : Hid (∀ p t, SrchIs (m.nds.map (·.id)) id p t → (t = true → p < m.nds.length ∧ (m.nds.getD p nd0).up = upB m.nds id) ∧ (t = false → upB m.nds id = false)) := fun p t h => ⟨fun e => ⟨((srch_up hM h).1 e).1, ((srch_up hM h).1 e).2.1⟩, fun e => ((srch_up hM h).2 e).1⟩
  have HN : Hid (NdsAt w s.aN s.lN s.cN m.nds) := hN
  have h12 : (s.lN : Int) ≤ 12 := by have := hM.1; have := hN.1; omega
  obtain ⟨ep, sz, mn, gr, nds, tms, trs⟩ := m
  obtain ⟨aN, lN, cN, aT, lT, cT, aR, lR, cR⟩ := s
  simp only at *
  have HNL : Hid (nds.length = lN) := HN.out.1
  have HB : Hid (Box7 w b (.int .i64 ep) (.int .i64 sz) (.int .i64 mn) (.int .i64 gr) (.slice aN lN cN) (.slice aT lT cT) (.slice aR lR cR)) := hB
  obtain ⟨⟨c0, c1, c2, c3, c4, c5, c6⟩, -⟩ := hB
  clear hN hM
  generalize upB nds id = u at *
  go_enter Tryz.func87, Tryz.ntmps87
  go_upto_region 2 with (go_at_call 68; refine HC.out.mono ?_; rintro e w2 ⟨hb2, p, t, rfl, hIs⟩; have HI : Hid (SrchIs (nds.map (·.id)) id p t) := hIs; clear hIs)
  clear c0 c1 c2 c3 c4 c5 c6
  obtain ⟨⟨c0, c1, c2, c3, c4, c5, c6⟩, -⟩ := HB.out.below hb2
  cases t with
  | true =>
    obtain ⟨hp, hu⟩ := (HU.out p true HI.out).1 rfl
    have hpl : p < lN := by have := HNL.out; omega
    obtain ⟨bb, off, rfl, hbs, hcell⟩ := (HN.out.below hb2).some (by omega)
    obtain ⟨e0, e1, e2, e3, e4, e5⟩ := hcell p hpl
    rw [hu] at e4
    have hp0 : (0 : Int) ≤ (p : Int) := by omega
    have hp1 : (p : Int) < (lN : Int) := by omega
    clear hcell hu e0 e1 e2 e3 e5 HU HC hp hpl
    go_wp2_with fail
    go_ret
    exact ⟨rfl, hb2⟩
  | false =>
    have hu := (HU.out p false HI.out).2 rfl
    subst hu
    clear HU HC
    go_wp2_with fail
    go_ret
    exact ⟨rfl, hb2⟩
/-- the first that the predicate takes -/
def FirstIs (p : Int → Bool) (l : List Int) (e : Ending) : Prop := (∃ k : Nat, e = .returned (.int .i64 (k : Int)) ∧ k < l.length ∧ p (l.getD k 0) = true ∧ ∀ j, j < k → p (l.getD j 0) = false) ∨ (e = .returned (.int .i64 (-1)) ∧ ∀ j, j < l.length → p (l.getD j 0) = false)
theorem indexFunc_any (b N : Nat) (w0 : World) (p : Int → Bool) (hp : ∀ W x, Below N w0 W → Calls Tryz.prog 87 #[.int .i64 x, .pointer (some ⟨b, 0, none⟩)] W fun e w' => e = .returned (.bool (p x)) ∧ Below W.heap.size W w') (hN : N ≤ w0.heap.size)
    (a : Option Addr) (cap : Nat) (l : List Int) (w : World) (hb : Below N w0 w) (hI : IntsAt w a l) (h64 : l.length ≤ 64) :
    Calls Tryz.prog 110 #[.slice a l.length cap, .func (.func 87) #[] #[.pointer (some ⟨b, 0, none⟩)]] w fun e w' => FirstIs p l e ∧ Below w.heap.size w w' := by
  have HP : Hid (∀ W x, Below N w0 W → Calls Tryz.prog 87 #[.int .i64 x, .pointer (some ⟨b, 0, none⟩)] W fun e w' => e = .returned (.bool (p x)) ∧ Below W.heap.size W w') := hp
  have HL : Hid (IntsAt w a l) := hI
  have h64' : (l.length : Int) ≤ 64 := by omega
  have HBN : Hid (∀ W, Below w.heap.size w W → Below N w0 W) := fun W h => hb.trans (h.mono (Nat.le_trans hN hb.size))
  clear hI hp h64 hb
  generalize hn : l.length = n at *
  have HN : Hid (l.length = n) := hn
  clear hn
  go_enter Tryz.func110, Tryz.ntmps110
  go_wp2_with fail
  go_loopw [8] (fun i wr => ∃ k : Nat, k ≤ n ∧ i = .int .i64 k ∧ Below w.heap.size w wr ∧ Hid (∀ j, j < k → p (l.getD j 0) = false)) (fun i _ => n - (intOf i).toNat)
  case atStart => exact ⟨0, Nat.zero_le _, rfl, Below.refl _ _, fun j hj => absurd hj (Nat.not_lt_zero _)⟩
  case round =>
    obtain ⟨k, hk, rfl, hbel, hT⟩ := hrel
    by_cases hlt : k < n
    · have hk1 : (k : Int) < (n : Int) := by omega
      have hk0 : (0 : Int) ≤ (k : Int) := by omega
      rcases HL.out.below hbel with h0 | ⟨g, rfl, hg, hc⟩
      · have := HN.out; rw [h0] at this; simp at this; omega
      have x0 := hc k (by have := HN.out; omega)
      have HC := HP.out wr (l.getD k 0) (HBN.out wr hbel)
      have HY : Hid (p (l.getD k 0) = true → FirstIs p l (.returned (.int .i64 (k : Int)))) := fun h => .inl ⟨k, rfl, by have := HN.out; omega, h, hT.out⟩
      have HNX : Hid (p (l.getD k 0) = false → ∀ j, j < k + 1 → p (l.getD j 0) = false) := fun h j hj => by
        by_cases e : j = k
        · rw [e]; exact h
        · exact hT.out j (by omega)
      generalize l.getD k 0 = y at *
      have HC' : Hid (Calls Tryz.prog 87 #[.int .i64 y, .pointer (some ⟨b, 0, none⟩)] wr fun e w' => e = .returned (.bool (p y)) ∧ Below wr.heap.size wr w') := HC
      clear HC hc hT
      generalize hq : p y = q at *
      cases q with
      | true =>
        have HY' := HY.out rfl
        have HF : Hid (FirstIs p l (.returned (.int .i64 (k : Int)))) := HY'
        clear HY HY' HNX hq
        go_wp2_with (go_at_call 87; refine HC'.out.mono ?_; rintro e w4 ⟨rfl, hb4⟩)
        go_ret
        exact ⟨HF.out, below2 hbel hb4⟩
      | false =>
        have HX : Hid (∀ j, j < k + 1 → p (l.getD j 0) = false) := HNX.out rfl
        clear HY HNX hq
        go_wp2_with (go_at_call 87; refine HC'.out.mono ?_; rintro e w4 ⟨rfl, hb4⟩)
        exact ⟨⟨k + 1, by omega, by go_num, below2 hbel hb4, HX⟩, by simp [intOf]; omega⟩
    · obtain rfl : k = n := by omega
      have HF : Hid (FirstIs p l (.returned (.int .i64 (-1)))) := .inr ⟨rfl, fun j hj => hT.out j (by have := HN.out; omega)⟩
      clear hT
      go_wp2_with fail
      go_ret
      exact ⟨HF.out, hbel⟩
/-- what stands while those that the predicate takes are taken out -/
def KI (p : Int → Bool) (l L : List Int) (i j : Nat) : Prop := L.length = l.length ∧ i < j ∧ j ≤ l.length ∧ L.take i = (l.take j).filter (fun x => !p x) ∧ ∀ t, j ≤ t → L.getD t 0 = l.getD t 0
theorem KI.start {p : Int → Bool} {l : List Int} {k : Nat} (hk : k < l.length) (h1 : p (l.getD k 0) = true) (h2 : ∀ j, j < k → p (l.getD j 0) = false) : KI p l l k (k + 1) := by
  refine ⟨rfl, by omega, by omega, ?_, fun t _ => rfl⟩
  have e : l.getD k 0 = l[k] := by simp [hk]
  rw [List.take_succ_eq_append_getElem hk, List.filter_append, List.filter_cons_of_neg (by rw [← e, h1]; simp), List.filter_nil, List.append_nil]
  symm
  rw [List.filter_eq_self]
  intro x hx
  obtain ⟨j, hj, rfl⟩ := List.getElem_of_mem hx
  rw [List.length_take] at hj
  have := h2 j (by omega)
  rw [List.getElem_take]
  rw [show l.getD j 0 = l[j] by simp [show j < l.length by omega]] at this
  rw [this]
  rfl
theorem KI.skip {p : Int → Bool} {l L : List Int} {i j : Nat} (h : KI p l L i j) (hj : j < l.length) (h1 : p (l.getD j 0) = true) : KI p l L i (j + 1) := by
  obtain ⟨a1, a2, a3, a4, a5⟩ := h
  refine ⟨a1, by omega, by omega, ?_, fun t ht => a5 t (by omega)⟩
  have e : l.getD j 0 = l[j] := by simp [hj]
  rw [List.take_succ_eq_append_getElem hj, List.filter_append, List.filter_cons_of_neg (by rw [← e, h1]; simp), List.filter_nil, List.append_nil]
  exact a4
theorem KI.keep {p : Int → Bool} {l L : List Int} {i j : Nat} (h : KI p l L i j) (hj : j < l.length) (h1 : p (l.getD j 0) = false) : KI p l (L.set i (l.getD j 0)) (i + 1) (j + 1) := by
  obtain ⟨a1, a2, a3, a4, a5⟩ := h
  refine ⟨by simp [a1], by omega, by omega, ?_, fun t ht => ?_⟩
  · have e : l.getD j 0 = l[j] := by simp [hj]
    rw [List.take_succ_eq_append_getElem hj, List.filter_append, List.filter_cons_of_pos (by rw [← e, h1]; rfl), List.filter_nil, ← a4, e, List.take_succ_eq_append_getElem (by simp [a1]; omega), List.take_set_of_le (Nat.le_refl _)]
    simp
  · have := a5 t (by omega)
    simp only [List.getD_eq_getElem?_getD] at *
    rw [List.getElem?_set_ne (by omega)]
    exact this
end Go.Proofs.YtcncbjknfcjnmaaGreat.Tp
namespace Go.Proofs.YtcncbjknfcjnmaaGreat.Tp
open Go.ChangeShapes Go.WideShapes Go.ChangeAt Go.RowKit
theorem own_setCells {N E s n cap g : Nat} (vs : List Value) : ∀ (w : World) (o : Nat) (xs : List Value), w.ownsRow N E s (.slice (some ⟨g, 0, none⟩) n cap) n xs → ∃ ys, (w.setCells g o vs).ownsRow N E s (.slice (some ⟨g, 0, none⟩) n cap) n ys ∧ ys.take o = xs.take o := by
  induction vs with
  | nil => intro w o xs h; exact ⟨xs, h, rfl⟩
  | cons v r ih =>
    intro w o xs h
    obtain ⟨ys, h1, h2⟩ := ih (w.setCell ⟨g, o, none⟩ v) (o + 1) (xs.set o v) (h.stored o v).1
    refine ⟨ys, h1, ?_⟩
    have := congrArg (List.take o) h2
    rw [List.take_take, List.take_take, Nat.min_eq_left (by omega), List.take_set_of_le (Nat.le_refl _)] at this
    exact this
theorem below_setCells {N g : Nat} {w0 : World} (hg : N ≤ g) (vs : List Value) : ∀ (w : World) (o : Nat), Below N w0 w → Below N w0 (w.setCells g o vs) := by
  induction vs with
  | nil => intro w o h; exact h
  | cons v r ih => intro w o h; exact ih _ _ (h.setCell (p := ⟨g, o, none⟩) hg v)
theorem own_shorten {w : World} {N E n m cap g : Nat} {xs : List Value} (h : w.ownsRow N E 1 (.slice (some ⟨g, 0, none⟩) n cap) n xs) (hm : m ≤ n) : w.ownsRow N E 1 (.slice (some ⟨g, 0, none⟩) m cap) m (xs.take m) := by
  have hx := h.1
  rcases h.2 with ⟨e, _⟩ | ⟨g', cap', cur, hv, hB, hh, hcc, hcm, hcs, ht⟩
  · simp at e
  · injection hv with h1 h2 h3
    injection h1 with h1
    injection h1 with h1
    subst h1 h3
    refine ⟨by rw [List.length_take]; omega, .inr ⟨g, cap, cur, rfl, hB, hh, by omega, hcm, hcs, ?_⟩⟩
    rw [← ht, List.take_take, Nat.mul_one, Nat.min_eq_left (by omega)]
theorem intCells_take (l : List Int) (k : Nat) : (intCells l).take k = intCells (l.take k) := by simp [intCells, List.map_take]
theorem intCells_set (l : List Int) (k : Nat) (z : Int) : (intCells l).set k (.int .i64 z) = intCells (l.set k z) := by simp [intCells, List.map_set]
set_option maxHeartbeats 1000000 in
set_option maxRecDepth 60000 in
theorem deleteFunc_any (b N : Nat) (w0 : World) (p : Int → Bool) (hp : ∀ W x, Below N w0 W → Calls Tryz.prog 87 #[.int .i64 x, .pointer (some ⟨b, 0, none⟩)] W fun e w' => e = .returned (.bool (p x)) ∧ Below W.heap.size W w') (hN : N ≤ w0.heap.size)
    (a : Option Addr) (cap : Nat) (l : List Int) (w : World) (hb : Below N w0 w) (hO : IntsOwn N w a cap l) (h64 : l.length ≤ 64) :
    Calls Tryz.prog 86 #[.slice a l.length cap, .func (.func 87) #[] #[.pointer (some ⟨b, 0, none⟩)]] w fun e w' => Below N w0 w' ∧ e = .returned (.slice a (l.filter fun x => !p x).length cap) ∧ IntsOwn N w' a cap (l.filter fun x => !p x) := by
  have HI : Hid (Calls Tryz.prog 110 #[.slice a l.length cap, .func (.func 87) #[] #[.pointer (some ⟨b, 0, none⟩)]] w fun e w' => FirstIs p l e ∧ Below w.heap.size w w') := indexFunc_any b N w0 p hp hN a cap l w hb hO.1 h64
  have HP : Hid (∀ W x, Below N w0 W → Calls Tryz.prog 87 #[.int .i64 x, .pointer (some ⟨b, 0, none⟩)] W fun e w' => e = .returned (.bool (p x)) ∧ Below W.heap.size W w') := hp
  have HBN : Hid (∀ W, Below w.heap.size w W → Below N w0 W) := fun W h => hb.trans (h.mono (Nat.le_trans hN hb.size))
  have HO : Hid (w.ownsRow N 3 1 (.slice a l.length cap) l.length (intCells l)) := hO.2
  have h64' : (l.length : Int) ≤ 64 := by omega
  have HSZ : Hid (N ≤ w0.heap.size) := hN
  clear hp hO hb h64 hN
  generalize hn : l.length = n at *
  have HN : Hid (l.length = n) := hn
  clear hn
  go_enter Tryz.func86, Tryz.ntmps86
  go_wp2_with fail
  refine HI.out.mono ?_
  rintro e w2 ⟨⟨k, rfl, hk, hy, hno⟩ | ⟨rfl, hno⟩, hb2⟩
  · have HK : Hid (KI p l l k (k + 1)) := KI.start hk hy hno
    have hkn : k < n := by have := HN.out; omega
    have hk0 : (0 : Int) ≤ (k : Int) := by omega
    have hk1 : (k : Int) < (n : Int) := by omega
    have hke : ((k : Int) == -1) = false := beq_eq_false_iff_ne.2 (by omega)
    have HO2 : Hid (w2.ownsRow N 3 1 (.slice a n cap) n (intCells l)) := own_below HO.out hb2
    obtain ⟨g, cg, hv, hgB, hgs, hgc⟩ := own_some HO.out (by omega)
    injection hv with hv1 hv2 hv3
    subst hv1 hv3
    have hB2 : Below N w0 w2 := HBN.out w2 hb2
    clear hk hy hno HI HO HBN hgs hb2
    go_wp2_with fail
    go_loopw [5, 6] (fun si sj wr => ∃ (i j : Nat) (L : List Int), si = .int .i64 i ∧ sj = .int .i64 j ∧ i < j ∧ j ≤ n ∧ Hid (KI p l L i j) ∧ Hid (wr.ownsRow N 3 1 (.slice (some ⟨g, 0, none⟩) n cap) n (intCells L)) ∧ Below N w0 wr) (fun _ sj _ => n - (intOf sj).toNat)
    case atStart => exact ⟨k, k + 1, l, rfl, by go_num, by omega, by omega, HK, HO2, hB2⟩
    case round =>
      obtain ⟨i, j, L, rfl, rfl, hij, hjn, hK, hO, hB⟩ := hrel
      have hi0 : (0 : Int) ≤ (i : Int) := by omega
      have hin : (i : Int) < (n : Int) := by omega
      have hj0 : (0 : Int) ≤ (j : Int) := by omega
      have hjn' : (j : Int) ≤ (n : Int) := by omega
      have hLl : L.length = n := by have := hK.out.1; have := HN.out; omega
      clear HK HO2 hB2
      by_cases hlt : j < n
      · have hlt' : (j : Int) < (n : Int) := by omega
        have HH := hK.out.2.2.2.2 j (Nat.le_refl _)
        have x0 := hO.out.cellAt j (by omega)
        rw [show (intCells L)[j]? = some (.int .i64 (l.getD j 0)) by rw [← HH]; simp [intCells, show j < L.length by omega]] at x0
        have HS : Hid (p (l.getD j 0) = true → KI p l L i (j + 1)) := fun h => hK.out.skip (by have := HN.out; omega) h
        have HKE : Hid (p (l.getD j 0) = false → KI p l (L.set i (l.getD j 0)) (i + 1) (j + 1)) := fun h => hK.out.keep (by have := HN.out; omega) h
        have HC : Hid (Calls Tryz.prog 87 #[.int .i64 (l.getD j 0), .pointer (some ⟨b, 0, none⟩)] wr fun e w' => e = .returned (.bool (p (l.getD j 0))) ∧ Below wr.heap.size wr w') := HP.out wr _ hB
        clear HH hK
        generalize l.getD j 0 = y at *
        generalize hq : p y = q at *
        cases q with
        | true =>
          have HS' : Hid (KI p l L i (j + 1)) := HS.out rfl
          clear HS HKE hq
          go_wp2_with (go_at_call 87; refine HC.out.mono ?_; rintro e w4 ⟨rfl, hb4⟩)
          exact ⟨⟨i, j + 1, L, rfl, by go_num, by omega, by omega, HS', own_below hO.out hb4, hB.trans (hb4.mono (Nat.le_trans HSZ.out hB.size))⟩, by simp [intOf]; omega⟩
        | false =>
          have HS' : Hid (KI p l (L.set i y) (i + 1) (j + 1)) := HKE.out rfl
          clear HS HKE hq
          go_upto_region 9 with (go_at_call 87; refine HC.out.mono ?_; rintro e w4 ⟨rfl, hb4⟩)
          have hO4 := own_below hO.out hb4
          have hB4 : Below N w0 w4 := hB.trans (hb4.mono (Nat.le_trans HSZ.out hB.size))
          have xi := hO4.cellAt i (by omega)
          rw [show (intCells L)[i]? = some (.int .i64 (L.getD i 0)) by simp [intCells, show i < L.length by omega]] at xi
          have fi := hO4.frozenAt i
          have HOS : Hid ((w4.setCell ⟨g, i, none⟩ (.int .i64 y)).ownsRow N 3 1 (.slice (some ⟨g, 0, none⟩) n cap) n (intCells (L.set i y))) := by
            rw [← intCells_set]
            exact (hO4.stored i (.int .i64 y)).1
          have hBS : Below N w0 (w4.setCell ⟨g, i, none⟩ (.int .i64 y)) := hB4.setCell (p := ⟨g, i, none⟩) hgB _
          clear hO4 hO HC
          go_wp2_with fail
          exact ⟨⟨i + 1, j + 1, L.set i y, by go_num, by go_num, by omega, by omega, HS', HOS, hBS⟩, by simp [intOf]; omega⟩
      · obtain rfl : j = n := by omega
        have hcl : ∀ ty, (Builtin.clear_ #[35] ty #[.slice (some ⟨g, i, none⟩) (j - i) (cap - i)]).run Tryz.prog wr = .ok (.tuple #[]) (wr.setCells g i (List.replicate (j - i) (.int .i64 0))) :=
          fun ty => Lib.run_clear_slice wr _ _ ty _ Tryz.underlying35 Tryz.zeroValue3 rfl rfl g i _ _ (by omega) (fun t ht => by rw [hO.out.cellAt (i + t) (by omega)]; simp [intCells, show i + t < L.length by omega]) (fun t ht => hO.out.frozenAt (i + t))
        obtain ⟨ys, ho1, ho2⟩ := own_setCells (List.replicate (j - i) (.int .i64 0)) wr i (intCells L) hO.out
        have hTk := hK.out.2.2.2.1
        rw [show l.take j = l by rw [← HN.out, List.take_length]] at hTk
        have hlen : (l.filter fun x => !p x).length = i := by rw [← hTk, List.length_take]; omega
        have ho3 := own_shorten ho1 (m := i) (by omega)
        rw [ho2, intCells_take, hTk] at ho3
        have HOF : Hid ((wr.setCells g i (List.replicate (j - i) (.int .i64 0))).ownsRow N 3 1 (.slice (some ⟨g, 0, none⟩) i cap) i (intCells (l.filter fun x => !p x))) := ho3
        have hBF : Below N w0 (wr.setCells g i (List.replicate (j - i) (.int .i64 0))) := below_setCells hgB _ _ _ hB
        have HLE : Hid ((l.filter fun x => !p x).length = i) := hlen
        clear ho1 ho2 ho3 hTk hlen hO hK
        go_wp2_with fail
        go_ret
        refine ⟨hBF, by rw [HLE.out]; rfl, ?_⟩
        unfold IntsOwn
        rw [HLE.out]
        exact ⟨ints_own HOF.out HLE.out.symm, HOF.out⟩
  · have HFL : Hid ((l.filter fun x => !p x) = l) := by
      unfold Hid
      rw [List.filter_eq_self]
      intro x hx
      obtain ⟨j, hj, rfl⟩ := List.getElem_of_mem hx
      have := hno j hj
      rw [show l.getD j 0 = l[j] by simp [hj]] at this
      rw [this]
      rfl
    have HO2 : Hid (w2.ownsRow N 3 1 (.slice a n cap) n (intCells l)) := own_below HO.out hb2
    have hB2 : Below N w0 w2 := HBN.out w2 hb2
    clear hno HI HO HBN
    go_wp2_with fail
    go_ret
    rw [HFL.out, HN.out]
    refine ⟨hB2, rfl, ?_⟩
    unfold IntsOwn
    rw [HN.out]
    exact ⟨ints_own HO2.out HN.out.symm, HO2.out⟩
end Go.Proofs.YtcncbjknfcjnmaaGreat.Tp
