/-
  The contract of Parse: the series that a text is read as, or none.
  A series' text is read as that series, and as no other.
-/
import Derived.Test.YtihohcmocejijaaGreatPr04
import Derived.Laws.ResultCell
namespace Go.Proofs.YtihohcmocejijaaGreat.Lb
open Go.ChangeShapes Go.WideShapes Go.ChangeAt Go.RowKit
def runS (s : ByteArray) : Nat → Nat → St → Option St
  | 0, _, st => some st
  | f + 1, pos, st => if pos < s.size then (stepS st ((Utf8.decode s pos).1 : Int)).bind (runS s f (pos + (Utf8.decode s pos).2)) else some st
def st0 : St := (0, [], ⟨#[]⟩, ⟨#[]⟩, [])
def endS (st : St) : St := if st.1 = 0 then (6, [], st.2.2.1, baL st.2.1, st.2.2.2.2) else st
theorem runS_end (s : ByteArray) (f pos : Nat) (st : St) (h : ¬ pos < s.size) : runS s f pos st = some st := by
  cases f with
  | zero => rfl
  | succ f => simp [runS, h]
def ParsesTo (s : ByteArray) (nm : ByteArray) (ls : List Lab) : Prop :=
  ∃ st, runS s s.size 0 st0 = some st ∧ (endS st).1 = 6 ∧ nm = (endS st).2.2.2.1 ∧ ls.Perm (endS st).2.2.2.2 ∧ SortedL ls ∧ MayS nm ls
def noSer : Value := .agg #[.string ⟨#[]⟩, .slice none 0 0]
def ParsePost (w : World) (s : ByteArray) (e : Ending) (w' : World) : Prop :=
  Below w.heap.size w w' ∧ ((∃ v nm ls, e = .returned (.tuple #[v, .int .i64 0]) ∧ SerAt w' v nm ls ∧ ParsesTo s nm ls) ∨ (e = .returned (.tuple #[noSer, .int .i64 2]) ∧ ∀ nm ls, ¬ ParsesTo s nm ls))
theorem SortedL.pair {ls : List Lab} (h : SortedL ls) : ls.Pairwise fun a b => ltB b.1 a.1 = false := by
  rw [List.pairwise_iff_getElem]
  intro i j hi hj hij
  have := h i j hij hj
  simpa [hi, hj] using this
theorem may_pair {nm : ByteArray} {ls : List Lab} (h : MayS nm ls) : ls.Pairwise fun a b => ltB a.1 b.1 = true := by
  have key : ∀ j, j < ls.length → ∀ i, i < j → ltB (ls.getD i lab0).1 (ls.getD j lab0).1 = true := by
    intro j
    induction j with
    | zero => intro _ i hi; omega
    | succ j ih =>
      intro hj i hi
      have h1 := (h.2.2 (j + 1) hj).2.2 (by omega)
      rw [Nat.add_sub_cancel] at h1
      by_cases e : i = j
      · subst e; exact h1
      · exact ltB_trans (ih (by omega) i (by omega)) h1
  rw [List.pairwise_iff_getElem]
  intro i j hi hj hij
  have := key j hj i hij
  simpa [hi, hj] using this
theorem uniq : ∀ {l1 l2 : List Lab}, l1.Perm l2 → l1.Pairwise (fun a b => ltB a.1 b.1 = true) → l2.Pairwise (fun a b => ltB b.1 a.1 = false) → l1 = l2 := by
  intro l1
  induction l1 with
  | nil => intro l2 hp _ _; exact (List.Perm.nil_eq hp)
  | cons a l ih =>
    intro l2 hp h1 h2
    cases l2 with
    | nil => exact absurd hp.symm (by simp)
    | cons b l2 =>
      by_cases e : a = b
      · subst e
        rw [ih hp.cons_inv (List.pairwise_cons.1 h1).2 (List.pairwise_cons.1 h2).2]
      · have ha : a ∈ l2 := by
          have := hp.subset (List.mem_cons_self ..)
          rcases List.mem_cons.1 this with h | h
          · exact absurd h e
          · exact h
        have hb : b ∈ l := by
          have := hp.symm.subset (List.mem_cons_self ..)
          rcases List.mem_cons.1 this with h | h
          · exact absurd h.symm e
          · exact h
        have x1 := (List.pairwise_cons.1 h1).1 b hb
        have x2 := (List.pairwise_cons.1 h2).1 a ha
        rw [x1] at x2
        cases x2
theorem RdAt.iterAt {B R : Nat} {st : St} {w : World} (h : RdAt B R st w) {k : Nat} {s : ByteArray} {pos : Nat} (hk : w.heap[k]? = some (.stringIter s pos)) (pos' : Nat) : RdAt B R st (w.iterAt k s pos') := by
  obtain ⟨cs, hb, c0, c3, c4, lv, c5, hown⟩ := h
  refine ⟨cs, hb.iterAt hk pos', c0, c3, c4, lv, c5, hown.kept (row := some k) ⟨rfl, rfl, rfl, by rw [Lib.iterAt_size]; exact Nat.le_refl _, fun j _ hj => Lib.iterAt_other _ _ _ _ _ (fun e => hj (by rw [e]))⟩ (Or.inr fun e => ?_)⟩
  obtain ⟨c, hc⟩ := own_kind hown k e
  rw [hk] at hc
  cases hc
theorem ret_pair {fn : Func} {p u : Tmp} (h : fn.results = #[.cell p 86, .tmp u]) (tmps : Array Value) (w : World) (b : Nat) (x y : Value) (hp : tmps.getD p undef = .pointer (some ⟨b, 0, none⟩))
    (h0 : w.cell? ⟨b, 0, none⟩ = some x) (h1 : w.cell? ⟨b, 1, none⟩ = some y) : (results fn tmps).run Tryz.prog w = .ok (.tuple #[.agg #[x, y], tmps.getD u undef]) w := by
  rw [results_cell_tmp h, hp]
  simp [go_sem, h0, h1]
theorem two_set {w : World} {b : Nat} {u0 u1 : Value} (h0 : w.cell? ⟨b, 0, none⟩ = some u0) (h1 : w.cell? ⟨b, 1, none⟩ = some u1) (x y : Value) :
    ((w.setCell ⟨b, 0, none⟩ x).setCell ⟨b, 1, none⟩ y).cell? ⟨b, 0, none⟩ = some x ∧ ((w.setCell ⟨b, 0, none⟩ x).setCell ⟨b, 1, none⟩ y).cell? ⟨b, 1, none⟩ = some y := by
  have h2 : (w.setCell ⟨b, 0, none⟩ x).cell? ⟨b, 1, none⟩ = some u1 := by
    rw [World.cell?_setCell_other _ _ _ _ (by intro h; simpa using congrArg Addr.off h)]; exact h1
  refine ⟨?_, World.cell?_setCell_same _ _ _ h2⟩
  rw [World.cell?_setCell_other _ _ _ _ (by intro h; simpa using congrArg Addr.off h)]
  exact World.cell?_setCell_same _ _ _ h0
theorem labs_own {w : World} {B : Nat} {lv : Value} {ls : List Lab} (h : w.ownsRow B 112 2 lv ls.length (cellsLb ls)) : ∃ a cap, lv = .slice a ls.length cap ∧ LabsAt w a ls.length cap ls := by
  have hown := h
  obtain ⟨hl, ⟨rfl, h0⟩ | ⟨g, cap, cur, rfl, hg, hh, hc, hcm, hcs, ht⟩⟩ := h
  · exact ⟨none, 0, by rw [h0], rfl, by omega, Nat.zero_le _, .inl h0⟩
  · refine ⟨some ⟨g, 0, none⟩, cap, rfl, rfl, hc, hcm, .inr ⟨g, 0, rfl, fun i hi => ?_⟩⟩
    obtain ⟨e0, e1⟩ := cellsLb_get ls i hi
    have eg : ls.getD i lab0 = ls[i] := by simp [hi]
    rw [eg, Nat.zero_add, hown.cellAt (i * 2) (by omega), hown.cellAt (i * 2 + 1) (by omega)]
    exact ⟨e0, e1⟩
theorem width_pos (s : ByteArray) (pos : Nat) (h : pos < s.size) : 1 ≤ (Utf8.decode s pos).2 := by
  by_cases ha : (s[pos]'h).toNat < 128
  · rw [decode_ascii s pos h ha]; exact Nat.le_refl _
  · exact (decode_high s pos h (by omega)).2
def ShortSt (st : St) : Prop := st.2.1.length ≤ 20 ∧ st.2.2.1.size ≤ 20 ∧ st.2.2.2.1.size ≤ 20 ∧ ∀ x ∈ st.2.2.2.2, x.1.size ≤ 20 ∧ x.2.size ≤ 20
theorem baL_size (l : List UInt8) : (baL l).size = l.length := by rw [← sg_length, sg_baL]
theorem encodeRune_le (r : Int) : (Lib.encodeRune r).length ≤ 4 := by rw [← Lib.runeCells_length]; exact (Lib.runeCells_le r).2
theorem keepS_short {r : Int} {st st' : St} (hs : ShortSt st) (h : keepS r st = some st') : ShortSt st' := by
  unfold keepS at h
  split at h
  · cases h
  · rename_i hn
    obtain rfl := Option.some.inj h
    refine ⟨?_, hs.2.1, hs.2.2.1, hs.2.2.2⟩
    have := encodeRune_le r
    simp only [List.length_append]
    omega
theorem stepS_short {p : Nat} {wd : List UInt8} {ln sn : ByteArray} {ls : List Lab} {r : Int} {st : St} (hs : ShortSt (p, wd, ln, sn, ls)) (h : stepS (p, wd, ln, sn, ls) r = some st) : ShortSt st := by
  have hs' := hs
  obtain ⟨h1, h2, h3, h4⟩ := hs
  simp only at h1 h2 h3 h4
  unfold stepS at h
  simp only at h
  repeat' split at h
  all_goals first
    | (cases h; done)
    | (exact keepS_short hs' h)
    | (obtain ⟨s, hk, rfl⟩ := Option.map_eq_some_iff.1 h; have := keepS_short hs' hk; exact ⟨this.1, this.2.1, this.2.2.1, this.2.2.2⟩)
    | (obtain rfl := Option.some.inj h; exact ⟨h1, h2, h3, h4⟩)
    | (obtain rfl := Option.some.inj h; exact ⟨by simp, h2, by rw [baL_size]; exact h1, h4⟩)
    | (obtain rfl := Option.some.inj h; exact ⟨by simp, by rw [baL_size]; exact h1, h3, h4⟩)
    | (obtain rfl := Option.some.inj h; refine ⟨by simp, h2, h3, fun x hx => ?_⟩; rcases List.mem_append.1 hx with hx | hx
       · exact h4 x hx
       · simp at hx; subst hx; exact ⟨h2, by rw [baL_size]; exact h1⟩)
end Go.Proofs.YtihohcmocejijaaGreat.Lb
namespace Go.Proofs.YtihohcmocejijaaGreat.Lb
open Go.ChangeShapes Go.WideShapes Go.ChangeAt Go.RowKit
def runL : List UInt8 → St → Option St
  | [], st => some st
  | b :: l, st => (stepS st (b.toNat : Int)).bind (runL l)
theorem runL_append (l m : List UInt8) (st : St) : runL (l ++ m) st = (runL l st).bind (runL m) := by
  induction l generalizing st with
  | nil => rfl
  | cons b l ih =>
    show (stepS st _).bind (runL (l ++ m)) = ((stepS st _).bind (runL l)).bind (runL m)
    cases stepS st (b.toNat : Int) with
    | none => rfl
    | some st' => exact ih st'
theorem runS_ascii (s : ByteArray) (h : ∀ k (hk : k < s.size), s[k].toNat < 128) : ∀ (f pos : Nat) (st : St), s.size ≤ pos + f → runS s f pos st = runL ((sg s).drop pos) st := by
  intro f
  induction f with
  | zero =>
    intro pos st hp
    rw [List.drop_eq_nil_of_le (by rw [sg_length]; omega)]; rfl
  | succ f ih =>
    intro pos st hp
    by_cases hlt : pos < s.size
    · have hd := decode_ascii s pos hlt (h pos hlt)
      have e : (sg s).drop pos = s[pos] :: (sg s).drop (pos + 1) := by
        rw [List.drop_eq_getElem_cons (by rw [sg_length]; exact hlt)]
        have := sg_get s pos hlt
        rw [List.getElem?_eq_getElem (by rw [sg_length]; exact hlt)] at this
        rw [Option.some.inj this]
      rw [e]
      show (if pos < s.size then _ else _) = (stepS st _).bind _
      rw [if_pos hlt, hd]
      congr 1
      funext st'
      exact ih (pos + 1) st' (by omega)
    · rw [runS_end _ _ _ _ hlt, List.drop_eq_nil_of_le (by rw [sg_length]; omega)]; rfl
theorem run_name (l : List UInt8) (hl : ∀ b ∈ l, nameSign b = true) (p : Nat) (hp : p = 0 ∨ p = 1) : ∀ (wd : List UInt8) (r : ByteArray × ByteArray × List Lab), wd.length + l.length ≤ 16 → runL l (p, wd, r) = some (p, wd ++ l, r) := by
  induction l with
  | nil => intro wd r _; simp [runL]
  | cons b l ih =>
    intro wd r hlen
    have hb := hl b (List.mem_cons_self ..)
    simp [nameSign] at hb
    have hlw : ¬ 16 ≤ wd.length := by simp at hlen; omega
    have n1 : ¬ (b.toNat : Int) = 123 := by omega
    have n2 : ¬ (b.toNat : Int) = 61 := by omega
    have henc := encodeRune_ascii b (by omega)
    have hk : keepS (b.toNat : Int) (p, wd, r) = some (p, wd ++ [b], r) := by simp [keepS, hlw, henc]
    have hs : stepS (p, wd, r) (b.toNat : Int) = some (p, wd ++ [b], r) := by
      rw [← hk]
      rcases hp with rfl | rfl
      · simp [stepS, n1]
      · simp [stepS, n2]
    show (stepS _ _).bind _ = _
    rw [hs]
    show runL l (p, wd ++ [b], r) = _
    rw [ih (fun c hc => hl c (List.mem_cons_of_mem _ hc)) _ _ (by simp at hlen ⊢; omega)]
    simp
theorem run_val (l : List UInt8) (hl : ∀ b ∈ l, valSign b = true) : ∀ (wd : List UInt8) (r : ByteArray × ByteArray × List Lab), wd.length + l.length ≤ 16 → runL (escL l) (3, wd, r) = some (3, wd ++ l, r) := by
  induction l with
  | nil => intro wd r _; simp [runL, escL]
  | cons b l ih =>
    intro wd r hlen
    have hb := hl b (List.mem_cons_self ..)
    simp [valSign] at hb
    have hlw : ¬ 16 ≤ wd.length := by simp at hlen; omega
    have henc := encodeRune_ascii b (by omega)
    have hk : ∀ q, keepS (b.toNat : Int) (q, wd, r) = some (q, wd ++ [b], r) := fun q => by simp [keepS, hlw, henc]
    have he : escL (b :: l) = (if markedB b then [92, b] else [b]) ++ escL l := rfl
    have hrest := ih (fun c hc => hl c (List.mem_cons_of_mem _ hc)) (wd ++ [b]) r (by simp at hlen ⊢; omega)
    rw [he, runL_append]
    by_cases hm : markedB b = true
    · rw [if_pos hm]
      have hb2 : (b.toNat : Int) = 34 ∨ (b.toNat : Int) = 92 := by
        simp [markedB] at hm
        rcases hm with rfl | rfl
        · exact .inl rfl
        · exact .inr rfl
      have h1 : stepS (3, wd, r) 92 = some (4, wd, r) := by simp [stepS]
      have h2 : stepS (4, wd, r) (b.toNat : Int) = some (3, wd ++ [b], r) := by
        have := hk 4
        simp [stepS, hb2, this]
      have h3 : runL [92, b] (3, wd, r) = some (3, wd ++ [b], r) := by
        show (stepS (3, wd, r) 92).bind (runL [b]) = _
        rw [h1]
        show (stepS (4, wd, r) _).bind (runL []) = _
        rw [h2]
        rfl
      rw [h3]
      show runL (escL l) _ = _
      rw [hrest]
      simp
    · rw [if_neg hm]
      have n1 : ¬ b = 34 := fun e => hm (by simp [markedB, e])
      have n2 : ¬ b = 92 := fun e => hm (by simp [markedB, e])
      have m1 : ¬ (b.toNat : Int) = 34 := fun e => n1 (UInt8.toNat_inj.1 (by show b.toNat = 34; omega))
      have m2 : ¬ (b.toNat : Int) = 92 := fun e => n2 (UInt8.toNat_inj.1 (by show b.toNat = 92; omega))
      have h1 : stepS (3, wd, r) (b.toNat : Int) = some (3, wd ++ [b], r) := by
        rw [← hk 3]
        simp [stepS, m1, m2]
      have h3 : runL [b] (3, wd, r) = some (3, wd ++ [b], r) := by
        show (stepS (3, wd, r) _).bind (runL []) = _
        rw [h1]
        rfl
      rw [h3]
      show runL (escL l) _ = _
      rw [hrest]
      simp
theorem baL_sg (s : ByteArray) : baL (sg s) = s := sg_ext (sg_baL _)
theorem nameL_all {l : List UInt8} (h : nameL l = true) : (∀ b ∈ l, nameSign b = true) ∧ 1 ≤ l.length ∧ l.length ≤ 16 := by
  unfold nameL at h
  simp only [Bool.and_eq_true, decide_eq_true_eq] at h
  exact ⟨List.all_eq_true.1 h.1.1, h.1.2, h.2⟩
theorem valL_all {l : List UInt8} (h : valL l = true) : (∀ b ∈ l, valSign b = true) ∧ l.length ≤ 16 := by
  unfold valL at h
  simp only [Bool.and_eq_true, decide_eq_true_eq] at h
  exact ⟨List.all_eq_true.1 h.1, h.2⟩
theorem run_lab (x : Lab) (h1 : nameL (sg x.1) = true) (h2 : valL (sg x.2) = true) (ln sn : ByteArray) (ls : List Lab) (hl : ls.length + 1 ≤ 4) :
    runL (labText x) (1, [], ln, sn, ls) = some (5, [], x.1, sn, ls ++ [x]) := by
  obtain ⟨a1, a2, a3⟩ := nameL_all h1
  obtain ⟨b1, b2⟩ := valL_all h2
  unfold labText
  rw [runL_append, runL_append, runL_append, run_name (sg x.1) a1 1 (.inr rfl) [] _ (by simpa using a3)]
  have h3 : runL [61, 34] (1, [] ++ sg x.1, ln, sn, ls) = some (3, [], x.1, sn, ls) := by
    show (stepS (1, sg x.1, ln, sn, ls) 61).bind (runL [34]) = _
    have e1 : stepS (1, sg x.1, ln, sn, ls) 61 = some (2, [], x.1, sn, ls) := by simp [stepS, baL_sg]
    rw [e1]
    rfl
  show (((runL [61, 34] (1, [] ++ sg x.1, ln, sn, ls)).bind (runL (escL (sg x.2)))).bind (runL [34])) = _
  rw [h3]
  show ((runL (escL (sg x.2)) (3, [], x.1, sn, ls)).bind (runL [34])) = _
  rw [run_val (sg x.2) b1 [] _ (by simpa using b2)]
  show (stepS (3, [] ++ sg x.2, x.1, sn, ls) 34).bind (runL []) = _
  have e2 : stepS (3, [] ++ sg x.2, x.1, sn, ls) 34 = some (5, [], x.1, sn, ls ++ [x]) := by
    simp [stepS, hl, baL_sg]
  rw [e2]
  rfl
def afterL (nm : ByteArray) (ls : List Lab) (k : Nat) : St := if k = 0 then (0, sg nm, ⟨#[]⟩, ⟨#[]⟩, []) else (5, [], (ls.getD (k - 1) lab0).1, nm, ls.take k)
theorem run_body {nm : ByteArray} {ls : List Lab} (h : MayS nm ls) : ∀ k, k ≤ ls.length → runL (sg nm ++ bodyAt ls k) st0 = some (afterL nm ls k) := by
  intro k
  induction k with
  | zero =>
    intro _
    obtain ⟨a1, a2, a3⟩ := nameL_all h.1
    have e : sg nm ++ bodyAt ls 0 = sg nm := by simp [bodyAt]
    rw [e]
    have := run_name (sg nm) a1 0 (.inl rfl) [] (⟨#[]⟩, ⟨#[]⟩, []) (by simpa using a3)
    simpa [afterL, st0] using this
  | succ k ih =>
    intro hk
    have hok := h.2.2 k (by omega)
    have e : sg nm ++ bodyAt ls (k + 1) = (sg nm ++ bodyAt ls k) ++ ([if k = 0 then 123 else 44] ++ labText (ls.getD k lab0)) := by simp [bodyAt]
    rw [e, runL_append, ih (by omega)]
    show runL _ (afterL nm ls k) = _
    rw [runL_append]
    have hl4 := h.2.1
    have hlt : (ls.take k).length + 1 ≤ 4 := by rw [List.length_take]; omega
    have htk : ls.take (k + 1) = ls.take k ++ [ls.getD k lab0] := by
      rw [List.take_add_one, List.getElem?_eq_getElem (by omega)]
      simp [show k < ls.length by omega]
    by_cases h0 : k = 0
    · subst h0
      have e1 : runL [if 0 = 0 then 123 else 44] (afterL nm ls 0) = some (1, [], ⟨#[]⟩, nm, []) := by
        show (stepS (0, sg nm, ⟨#[]⟩, ⟨#[]⟩, []) 123).bind (runL []) = _
        have : stepS (0, sg nm, ⟨#[]⟩, ⟨#[]⟩, []) 123 = some (1, [], ⟨#[]⟩, nm, []) := by simp [stepS, baL_sg]
        rw [this]; rfl
      rw [e1]
      show runL (labText _) _ = _
      rw [run_lab _ hok.1 hok.2.1 _ _ _ (by simp)]
      simp [afterL, htk]
    · have e1 : runL [if k = 0 then 123 else 44] (afterL nm ls k) = some (1, [], (ls.getD (k - 1) lab0).1, nm, ls.take k) := by
        rw [if_neg h0]
        unfold afterL
        rw [if_neg h0]
        rfl
      rw [e1]
      show runL (labText _) _ = _
      rw [run_lab _ hok.1 hok.2.1 _ _ _ hlt]
      simp [afterL, htk]
theorem run_text {nm : ByteArray} {ls : List Lab} (h : MayS nm ls) : ∃ st, runL (textL nm ls) st0 = some st ∧ (endS st).1 = 6 ∧ (endS st).2.2.2.1 = nm ∧ (endS st).2.2.2.2 = ls := by
  have hb := run_body h ls.length (Nat.le_refl _)
  unfold textL
  by_cases h0 : ls.length = 0
  · rw [if_pos h0, List.append_nil, hb]
    have hn : ls = [] := List.length_eq_zero_iff.1 h0
    subst hn
    refine ⟨_, rfl, ?_, ?_, ?_⟩
    · simp [afterL, endS]
    · simp [afterL, endS, baL_sg]
    · simp [afterL, endS]
  · rw [if_neg h0, runL_append, hb]
    have e : afterL nm ls ls.length = (5, [], (ls.getD (ls.length - 1) lab0).1, nm, ls) := by simp [afterL, h0]
    rw [e]
    exact ⟨(6, [], (ls.getD (ls.length - 1) lab0).1, nm, ls), rfl, rfl, rfl, rfl⟩
theorem text_ascii {nm : ByteArray} {ls : List Lab} (h : MayS nm ls) : ∀ b ∈ textL nm ls, b.toNat < 128 := by
  have hname : ∀ s : ByteArray, nameL (sg s) = true → ∀ b ∈ sg s, b.toNat < 128 := fun s hs b hb => by
    have := (nameL_all hs).1 b hb
    simp [nameSign] at this
    omega
  have hval : ∀ s : ByteArray, valL (sg s) = true → ∀ b ∈ escL (sg s), b.toNat < 128 := fun s hs b hb => by
    unfold escL at hb
    obtain ⟨c, hc, hb⟩ := List.mem_flatMap.1 hb
    have := (valL_all hs).1 c hc
    simp [valSign] at this
    split at hb
    · simp at hb
      rcases hb with rfl | rfl
      · decide
      · omega
    · simp at hb
      subst hb
      omega
  have hbody : ∀ k, k ≤ ls.length → ∀ b ∈ bodyAt ls k, b.toNat < 128 := by
    intro k
    induction k with
    | zero => intro _ b hb; simp [bodyAt] at hb
    | succ k ih =>
      intro hk b hb
      have hok := h.2.2 k (by omega)
      simp only [bodyAt, labText, List.mem_append, List.mem_singleton] at hb
      rcases hb with (hb | hb) | (((hb | hb) | hb) | hb)
      · exact ih (by omega) b hb
      · subst hb; split <;> decide
      · exact hname _ hok.1 b hb
      · simp at hb; rcases hb with rfl | rfl <;> decide
      · exact hval _ hok.2.1 b hb
      · subst hb; decide
  intro b hb
  unfold textL at hb
  simp only [List.mem_append] at hb
  rcases hb with (hb | hb) | hb
  · exact hname _ h.1 b hb
  · exact hbody _ (Nat.le_refl _) b hb
  · split at hb
    · simp at hb
    · simp at hb; subst hb; decide
theorem run_txt {nm : ByteArray} {ls : List Lab} (h : MayS nm ls) : runS (baL (textL nm ls)) (baL (textL nm ls)).size 0 st0 = runL (textL nm ls) st0 := by
  have ha := text_ascii h
  have := runS_ascii (baL (textL nm ls)) (fun k hk => ha _ (by
    have := sg_get _ k hk
    rw [sg_baL] at this
    exact List.mem_of_getElem? this)) (baL (textL nm ls)).size 0 st0 (by omega)
  rw [sg_baL] at this
  exact this
theorem may_sorted {nm : ByteArray} {ls : List Lab} (h : MayS nm ls) : SortedL ls := by
  have hp := may_pair h
  rw [List.pairwise_iff_getElem] at hp
  intro i j hij hj
  have := hp i j (by omega) hj hij
  have e1 : ls.getD j lab0 = ls[j] := by simp [hj]
  have e2 : ls.getD i lab0 = ls[i]'(by omega) := by simp [show i < ls.length by omega]
  rw [e1, e2]
  exact ltB_asymm this
theorem parses_text {nm : ByteArray} {ls : List Lab} (h : MayS nm ls) : ParsesTo (baL (textL nm ls)) nm ls := by
  obtain ⟨st, h1, h2, h3, h4⟩ := run_text h
  exact ⟨st, by rw [run_txt h]; exact h1, h2, h3.symm, by rw [h4], may_sorted h, h⟩
end Go.Proofs.YtihohcmocejijaaGreat.Lb
