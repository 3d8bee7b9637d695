/-
  The reader of a text: its state in memory, and the contracts of its methods.
-/
import Derived.Test.YtnjbpiekbekpeaaD
import Derived.Deep.RegionLaw
import Derived.Deep.RegionWith
import Derived.Laws.AppendOwn
namespace Go.Proofs.Ytnjbpiekbekpeaa
open Go.ChangeShapes Go.WideShapes Go.ChangeAt Go.RowKit
/-- where the reader is, the word, the label's name, the series' name, the labels -/
abbrev St := Nat × List UInt8 × ByteArray × ByteArray × List Lab
def baL (l : List UInt8) : ByteArray := ⟨l.toArray⟩
theorem sg_baL (l : List UInt8) : sg (baL l) = l := by simp [sg, baL]
def keepS (r : Int) (st : St) : Option St := if 16 ≤ st.2.1.length then none else some (st.1, st.2.1 ++ Lib.encodeRune r, st.2.2)
def stepS (st : St) (r : Int) : Option St :=
  let (p, wd, ln, sn, ls) := st
  if p = 0 then (if r = 123 then some (1, [], ln, baL wd, ls) else keepS r st)
  else if p = 1 then (if r = 61 then some (2, [], baL wd, sn, ls) else keepS r st)
  else if p = 2 then (if r = 34 then some (3, wd, ln, sn, ls) else none)
  else if p = 3 then (if r = 92 then some (4, wd, ln, sn, ls) else if r = 34 then (if ls.length + 1 ≤ 4 then some (5, [], ln, sn, ls ++ [(ln, baL wd)]) else none) else keepS r st)
  else if p = 4 then (if r = 34 ∨ r = 92 then (keepS r st).map fun s => (3, s.2) else none)
  else if p = 5 then (if r = 44 then some (1, wd, ln, sn, ls) else if r = 125 then some (6, wd, ln, sn, ls) else none)
  else none
/-- labels as cells -/
def cellsLb (ls : List Lab) : List Value := ls.flatMap fun x => [.string x.1, .string x.2]
theorem cellsLb_snoc (ls : List Lab) (x : Lab) : cellsLb (ls ++ [x]) = cellsLb ls ++ [.string x.1, .string x.2] := by simp [cellsLb]
theorem cellsLb_length (ls : List Lab) : (cellsLb ls).length = ls.length * 2 := by
  induction ls with
  | nil => rfl
  | cons x l ih => simp [cellsLb] at *; omega
/-- the reader in block R -/
def RdAt (B R : Nat) (st : St) (w : World) : Prop :=
  ∃ cs, Bld 60 1 B R cs st.2.1 w ∧ cs[0]? = some (.int .i64 ((st.1 : Nat) : Int)) ∧ cs[3]? = some (.string st.2.2.1) ∧ cs[4]? = some (.string st.2.2.2.1) ∧
    ∃ lv, cs[5]? = some lv ∧ w.ownsRow B 46 2 lv st.2.2.2.2.length (cellsLb st.2.2.2.2)
/-- all blocks but R, rows of bytes and of labels stand -/
def Kp (R : Nat) (w w' : World) : Prop := ∀ k o, w.heap[k]? = some o → k ≠ R → (∀ c fz, o ≠ .cells c 5 fz) → (∀ c fz, o ≠ .cells c 46 fz) → w'.heap[k]? = some o
theorem Kp.refl (R : Nat) (w : World) : Kp R w w := fun _ _ h _ _ _ => h
theorem Kp.trans {R : Nat} {a b c : World} (h : Kp R a b) (k : Kp R b c) : Kp R a c := fun i o hi hr h5 h46 => k i o (h i o hi hr h5 h46) hr h5 h46
theorem Kp.of {R : Nat} {w w' : World} (h : Lib.OthersKept 5 (some R) w w') : Kp R w w' := fun i o hi hr h5 _ => h i o hi (by simpa using hr) h5
theorem Kp.alloc (R : Nat) (w : World) (ob : Obj) : Kp R w (w.alloc ob) := fun k o hk _ _ _ => by
  have hlt : k < w.heap.size := (Array.getElem?_eq_some_iff.1 hk).1
  exact (Lib.alloc_old w ob k hlt).trans hk
theorem Kp.setCell (R : Nat) (w : World) (j : Nat) (v : Value) : Kp R w (w.setCell ⟨R, j, none⟩ v) := fun k o hk hr _ _ => by
  rw [Below.heap_setCell _ _ _ _ (by simpa using hr)]; exact hk
/-- behind a method of the reader -/
def RPost (B R : Nat) (st : St) (w w' : World) : Prop := RdAt B R st w' ∧ Below B w w' ∧ Kp R w w'
/-- what the Builder's methods do leaves the reader's other cells -/
theorem RdAt.word {B R : Nat} {p : Nat} {wd' : List UInt8} {r : ByteArray × ByteArray × List Lab} {w w' : World} {cs : Array Value} (h1 : cs[0]? = some (.int .i64 ((p : Nat) : Int))) (h2 : cs[3]? = some (.string r.1)) (h3 : cs[4]? = some (.string r.2.1)) {lv : Value} (h4 : cs[5]? = some lv) (h5 : w.ownsRow B 46 2 lv r.2.2.length (cellsLb r.2.2)) (hR : w.heap[R]? = some (.cells cs 60 (0, 0))) (h : BPost 60 1 B R cs wd' w w') : RPost B R (p, wd', r) w w' := by
  obtain ⟨⟨cs', hb, hrest⟩, hbel, hk⟩ := h
  refine ⟨⟨cs', hb, (hrest.2 0 (by decide) (by decide)).trans h1, (hrest.2 3 (by decide) (by decide)).trans h2, (hrest.2 4 (by decide) (by decide)).trans h3, lv, (hrest.2 5 (by decide) (by decide)).trans h4, ?_⟩, hbel, Kp.of hk⟩
  obtain ⟨hl, hn | ⟨g, cap, cur, rfl, hg, hh, rest⟩⟩ := h5
  · exact ⟨hl, .inl hn⟩
  · refine ⟨hl, .inr ⟨g, cap, cur, rfl, hg, hk g _ hh ?_ (by intro c fz h; cases h), rest⟩⟩
    intro e
    obtain rfl := Option.some.inj e
    rw [hR] at hh
    cases hh
/-- a store into one of the reader's other cells -/
theorem Bld.other {T : TypeId} {o B b : Nat} {cs : Array Value} {bs : List UInt8} {w : World} (h : Bld T o B b cs bs w) (j : Nat) (u : Value) (h1 : j ≠ o) (h2 : j ≠ o + 1) : Bld T o B b (cs.setIfInBounds j u) bs (w.setCell ⟨b, j, none⟩ u) := by
  obtain ⟨hP, hB, hBw, hb, hp, v, hv, hown, hne, hnil⟩ := h
  refine ⟨by simpa using hP, hB, by simpa [World.setCell] using hBw, heap_set hb _ _, ?_, v, ?_, ?_, hne, hnil⟩
  · simpa [h1] using hp
  · simpa [h2] using hv
  · exact hown.kept (row := some b) ⟨rfl, rfl, rfl, by simp [World.setCell], fun k _ hk => Below.heap_setCell _ _ _ _ (fun e => hk (by simp [e]))⟩ (Or.inr hne)
theorem own_set {w : World} {B R : Nat} {cs : Array Value} {lv : Value} {n : Nat} {xs : List Value} (hR : w.heap[R]? = some (.cells cs 60 (0, 0))) (h : w.ownsRow B 46 2 lv n xs) (j : Nat) (u : Value) : (w.setCell ⟨R, j, none⟩ u).ownsRow B 46 2 lv n xs := by
  obtain ⟨hl, hn | ⟨g, cap, cur, rfl, hg, hh, rest⟩⟩ := h
  · exact ⟨hl, .inl hn⟩
  · refine ⟨hl, .inr ⟨g, cap, cur, rfl, hg, ?_, rest⟩⟩
    rw [Below.heap_setCell _ _ _ _ (by
      intro e
      have e : g = R := e
      subst e
      rw [hR] at hh
      cases hh)]
    exact hh
set_option maxHeartbeats 1000000 in
theorem move_any {B R : Nat} {p : Nat} {wd : List UInt8} {r : ByteArray × ByteArray × List Lab} (w : World) (h : RdAt B R (p, wd, r) w) (q : Nat) :
    Calls Try.prog 41 #[.pointer (some ⟨R, 0, none⟩), .int .i64 (q : Int)] w fun e w' => e = .returned (.bool true) ∧ RPost B R (q, wd, r) w w' := by
  obtain ⟨cs, hb, c0, c3, c4, lv, c5, hown⟩ := h
  have hh := hb.2.2.2.1
  have hB := hb.2.1
  have hsz : cs.size = 6 := by rcases hb.1 with ⟨h, _⟩ | ⟨_, h, _⟩
                               · cases h
                               · exact h
  have g0 : w.cell? ⟨R, 0, none⟩ = some (.int .i64 ((p : Nat) : Int)) := by rw [Lib.cell_of_heap hh]; exact c0
  have f0 : w.frozen? ⟨R, 0, none⟩ = false := Lib.frozen_of_heap hh 0
  have HOT : Hid (RPost B R (q, wd, r) w (w.setCell ⟨R, 0, none⟩ (.int .i64 (q : Int)))) := by
    refine ⟨⟨_, hb.other 0 _ (by decide) (by decide), by rw [Array.getElem?_setIfInBounds, if_pos rfl, if_pos (by omega)], by simpa using c3, by simpa using c4, lv, by simpa using c5, own_set hh hown _ _⟩, (Below.refl B w).setCell (p := ⟨R, 0, none⟩) hB _, Kp.setCell _ _ _ _⟩
  clear hb c0 c3 c4 c5 hown hh
  go_enter Try.func41, Try.ntmps41
  go_wp2
  go_ret
  exact ⟨rfl, HOT.out⟩
set_option maxHeartbeats 1000000 in
theorem endWord_any {B R : Nat} {p : Nat} {wd : List UInt8} {r : ByteArray × ByteArray × List Lab} (w : World) (h : RdAt B R (p, wd, r) w) :
    Calls Try.prog 34 #[.pointer (some ⟨R, 0, none⟩)] w fun e w' => e = .returned (.string (baL wd)) ∧ RPost B R (p, [], r) w w' ∧ Lib.OthersKept 5 (some R) w w' ∧ w'.cell? ⟨R, 5, none⟩ = w.cell? ⟨R, 5, none⟩ := by
  obtain ⟨cs, hb, c0, c3, c4, lv, c5, hown⟩ := h
  have hh := hb.2.2.2.1
  go_enter Try.func34, Try.ntmps34
  go_wp2_with fail
  refine (bString_any _ hb).mono ?_
  rintro e w1 ⟨rfl, hp1⟩
  have R1 := RdAt.word (r := r) c0 c3 c4 c5 hown hh hp1
  have O1 := hp1.2.2
  have L1 : w1.cell? ⟨R, 5, none⟩ = w.cell? ⟨R, 5, none⟩ := by
    obtain ⟨⟨cs', hb', hr'⟩, _, _⟩ := hp1
    rw [Lib.cell_of_heap hb'.2.2.2.1, Lib.cell_of_heap hh, hr'.2 5 (by decide) (by decide)]
  obtain ⟨⟨cs1, hb1, d0, d3, d4, lv1, d5, hown1⟩, hbel1, hk1⟩ := R1
  have hh1 := hb1.2.2.2.1
  clear hb c0 c3 c4 c5 hown hh hp1
  go_wp2_with fail
  refine (bReset_any _ hb1).mono ?_
  rintro e w2 ⟨rfl, hp2⟩
  have R2 := RdAt.word (r := r) d0 d3 d4 d5 hown1 hh1 hp2
  have L2 : w2.cell? ⟨R, 5, none⟩ = w1.cell? ⟨R, 5, none⟩ := by
    obtain ⟨⟨cs', hb', hr'⟩, _, _⟩ := hp2
    rw [Lib.cell_of_heap hb'.2.2.2.1, Lib.cell_of_heap hh1, hr'.2 5 (by decide) (by decide)]
  have HOT : Hid (RPost B R (p, [], r) w w2 ∧ Lib.OthersKept 5 (some R) w w2 ∧ w2.cell? ⟨R, 5, none⟩ = w.cell? ⟨R, 5, none⟩) := ⟨⟨R2.1, hbel1.trans R2.2.1, hk1.trans R2.2.2⟩, O1.trans hp2.2.2, L2.trans L1⟩
  clear hb1 d0 d3 d4 d5 hown1 hh1 hp2 R2 hbel1 hk1 O1 L1 L2
  go_wp2
  go_ret
  exact ⟨rfl, HOT.out⟩
/-- behind keep, take: what the machine does -/
def TPost (B R : Nat) (o : Option St) (w : World) (e : Ending) (w' : World) : Prop := Below B w w' ∧ Kp R w w' ∧ ((o = none ∧ e = .returned (.bool false)) ∨ ∃ st, o = some st ∧ e = .returned (.bool true) ∧ RdAt B R st w')
set_option maxHeartbeats 1000000 in
theorem keep_any {B R : Nat} {st : St} (w : World) (h : RdAt B R st w) (r : Int) (hr0 : 0 ≤ r) (hr1 : r ≤ 2147483647) :
    Calls Try.prog 42 #[.pointer (some ⟨R, 0, none⟩), .int .i32 r, .int .i64 16] w fun e w' => TPost B R (keepS r st) w e w' := by
  obtain ⟨p, wd, rs⟩ := st
  obtain ⟨cs, hb, c0, c3, c4, lv, c5, hown⟩ := h
  simp only at c0 c3 c4 c5 hown hb
  have hh := hb.2.2.2.1
  by_cases hl : 16 ≤ wd.length
  · have HK : keepS r (p, wd, rs) = none := by simp [keepS, hl]
    have hl2 : (16 : Int) ≤ (wd.length : Int) := by omega
    rw [HK]
    go_enter Try.func42, Try.ntmps42
    go_wp2_with fail
    refine (bLen_any _ hb).mono ?_
    rintro e w1 ⟨rfl, rfl⟩
    go_wp2
    go_ret
    exact ⟨Below.refl _ _, Kp.refl _ _, .inl ⟨rfl, rfl⟩⟩
  · have HK : keepS r (p, wd, rs) = some (p, wd ++ Lib.encodeRune r, rs) := by simp [keepS, hl]
    have hl2 : ¬ (16 : Int) ≤ (wd.length : Int) := by omega
    have HW : Hid (wd.length ≤ 100000) := by show _ ≤ _; omega
    rw [HK]
    go_enter Try.func42, Try.ntmps42
    go_wp2_with fail
    refine (bLen_any _ hb).mono ?_
    rintro e w1 ⟨rfl, rfl⟩
    go_wp2_with fail
    refine (writeRune_any r _ hb HW hr0 hr1).mono ?_
    rintro e w2 ⟨⟨q, rfl⟩, hp2⟩
    have R2 := RdAt.word (r := rs) c0 c3 c4 c5 hown hh hp2
    have HOT : Hid (RPost B R (p, wd ++ Lib.encodeRune r, rs) w1 w2) := R2
    clear hb c0 c3 c4 c5 hown hh hp2 R2
    go_wp2
    go_ret
    exact ⟨HOT.out.2.1, HOT.out.2.2, .inr ⟨_, rfl, rfl, HOT.out.1⟩⟩
end Go.Proofs.Ytnjbpiekbekpeaa
