/-
  The contracts of maps.within, mayCount, New; Check of maps that have no Temps and empty Pasts.
  Check of maps that have no Temps and empty Pasts: they may be.
  The contracts of copied: a row of one's own.
  Bare maps (no Temps, no Pasts) as they lie; clone of them.
-/
import Derived.Test.YtcncbjknfcjnmaaGreatMa
import Derived.Test.YtcncbjknfcjnmaaGreatTpC
import Derived.Maps.Own
import Derived.Laws.AppendOwnNone
namespace Go.Proofs.YtcncbjknfcjnmaaGreat.Tp
open Go.ChangeShapes Go.WideShapes Go.ChangeAt Go.RowKit
theorem mwithin_any (x lo hi : Int) (w : World) : Calls Tryz.prog 39 #[.int .i64 x, .int .i64 lo, .int .i64 hi] w fun e w' => e = .returned (.bool (inB x lo hi)) ∧ w' = w := by
  by_cases h1 : lo ≤ x
  · by_cases h2 : x ≤ hi
    · have hr : inB x lo hi = true := by simp [inB, h1, h2]
      rw [hr]
      go_enter Tryz.func39, Tryz.ntmps39
      go_wp2
      go_ret
      exact ⟨rfl, rfl⟩
    · have hr : inB x lo hi = false := by simp [inB, h2]
      have d : decide (x ≤ hi) = false := decide_eq_false h2
      rw [hr]
      go_enter Tryz.func39, Tryz.ntmps39
      go_wp2
      go_ret
      exact ⟨rfl, rfl⟩
  · have hr : inB x lo hi = false := by simp [inB, h1]
    have d : decide (lo ≤ x) = false := decide_eq_false h1
    rw [hr]
    go_enter Tryz.func39, Tryz.ntmps39
    go_wp2
    go_ret
    exact ⟨rfl, rfl⟩
theorem mwithin_yes {x lo hi : Int} (h1 : lo ≤ x) (h2 : x ≤ hi) (w : World) : Calls Tryz.prog 39 #[.int .i64 x, .int .i64 lo, .int .i64 hi] w fun e w' => e = .returned (.bool true) ∧ w' = w :=
  (mwithin_any x lo hi w).mono fun _ _ ⟨he, hw⟩ => ⟨by rw [he, (inB_iff x lo hi).2 ⟨h1, h2⟩], hw⟩
theorem mwithin_no {x lo hi : Int} (h : ¬ (lo ≤ x ∧ x ≤ hi)) (w : World) : Calls Tryz.prog 39 #[.int .i64 x, .int .i64 lo, .int .i64 hi] w fun e w' => e = .returned (.bool false) ∧ w' = w :=
  (mwithin_any x lo hi w).mono fun _ _ ⟨he, hw⟩ => ⟨by
    rw [he]
    cases hq : inB x lo hi with
    | false => rfl
    | true => exact absurd ((inB_iff x lo hi).1 hq) h, hw⟩
/-- numbers that a map may have -/
def CountOk (s l g : Int) : Prop := (1 ≤ s ∧ s ≤ 3) ∧ (1 ≤ l ∧ l ≤ s) ∧ 1 ≤ g ∧ g ≤ 8
def countB (s l g : Int) : Bool := inB s 1 3 && inB l 1 s && inB g 1 8
theorem countB_iff (s l g : Int) : countB s l g = true ↔ CountOk s l g := by
  unfold countB CountOk
  simp only [Bool.and_eq_true, inB_iff]
  exact ⟨fun ⟨⟨h1, h2⟩, h3⟩ => ⟨h1, h2, h3⟩, fun ⟨h1, h2, h3⟩ => ⟨⟨h1, h2⟩, h3⟩⟩
theorem countB_no {s l g : Int} (h : ¬ CountOk s l g) : countB s l g = false := by
  cases hq : countB s l g with
  | false => rfl
  | true => exact absurd ((countB_iff s l g).1 hq) h
theorem mayCount_any (s l g : Int) (w : World) : Calls Tryz.prog 30 #[.int .i64 s, .int .i64 l, .int .i64 g] w fun e w' => e = .returned (.bool (countB s l g)) ∧ w' = w := by
  have H1 : Hid (∀ w : World, Calls Tryz.prog 39 #[.int .i64 s, .int .i64 1, .int .i64 3] w fun e w' => e = .returned (.bool (inB s 1 3)) ∧ w' = w) := mwithin_any s 1 3
  have H2 : Hid (∀ w : World, Calls Tryz.prog 39 #[.int .i64 l, .int .i64 1, .int .i64 s] w fun e w' => e = .returned (.bool (inB l 1 s)) ∧ w' = w) := mwithin_any l 1 s
  have H3 : Hid (∀ w : World, Calls Tryz.prog 39 #[.int .i64 g, .int .i64 1, .int .i64 8] w fun e w' => e = .returned (.bool (inB g 1 8)) ∧ w' = w) := mwithin_any g 1 8
  unfold countB
  generalize inB s 1 3 = b1 at *
  generalize inB l 1 s = b2 at *
  generalize inB g 1 8 = b3 at *
  cases b1 with
  | false =>
    go_enter Tryz.func30, Tryz.ntmps30
    go_wp2_with (go_at_call_of 39 s; refine (H1.out _).mono ?_; rintro e w' ⟨rfl, rfl⟩)
    go_ret
    exact ⟨rfl, rfl⟩
  | true =>
    cases b2 with
    | false =>
      go_enter Tryz.func30, Tryz.ntmps30
      go_wp2_with (first | (go_at_call_of 39 l; refine (H2.out _).mono ?_; rintro e w' ⟨rfl, rfl⟩) | (go_at_call_of 39 s; refine (H1.out _).mono ?_; rintro e w' ⟨rfl, rfl⟩))
      go_ret
      exact ⟨rfl, rfl⟩
    | true =>
      cases b3 with
      | false =>
        go_enter Tryz.func30, Tryz.ntmps30
        go_wp2_with (first | (go_at_call_of 39 l; refine (H2.out _).mono ?_; rintro e w' ⟨rfl, rfl⟩) | (go_at_call_of 39 s; refine (H1.out _).mono ?_; rintro e w' ⟨rfl, rfl⟩) | (go_at_call_of 39 g; refine (H3.out _).mono ?_; rintro e w' ⟨rfl, rfl⟩))
        go_ret
        exact ⟨rfl, rfl⟩
      | true =>
        go_enter Tryz.func30, Tryz.ntmps30
        go_wp2_with (first | (go_at_call_of 39 l; refine (H2.out _).mono ?_; rintro e w' ⟨rfl, rfl⟩) | (go_at_call_of 39 s; refine (H1.out _).mono ?_; rintro e w' ⟨rfl, rfl⟩) | (go_at_call_of 39 g; refine (H3.out _).mono ?_; rintro e w' ⟨rfl, rfl⟩))
        go_ret
        exact ⟨rfl, rfl⟩
/-- a new map -/
def newM (s l g : Int) : Mp := ⟨0, s, l, g, [], [], List.replicate g.toNat tr0⟩
/-- a map told, new in memory -/
def MapErr (m : Mp) (err : Int) (w : World) (e : Ending) (w' : World) : Prop := Below w.heap.size w w' ∧ ∃ s, e = .returned (.tuple #[.agg (mapCells m s).toArray, .int .i64 err]) ∧ MapAt w' m s
theorem ret_maperr {fn : Func} {p q : Tmp} (h : fn.results = #[.cell p 26, .tmp q]) (tmps : Array Value) (w : World) (b : Nat) (m : Mp) (s : MV) (v : Value) (hp : tmps.getD p undef = .pointer (some ⟨b, 0, none⟩)) (hq : tmps.getD q undef = v)
    (h0 : w.cell? ⟨b, 0, none⟩ = some (.int .i64 m.ep)) (h1 : w.cell? ⟨b, 1, none⟩ = some (.int .i64 m.size)) (h2 : w.cell? ⟨b, 2, none⟩ = some (.int .i64 m.mn)) (h3 : w.cell? ⟨b, 3, none⟩ = some (.int .i64 m.gr))
    (h4 : w.cell? ⟨b, 4, none⟩ = some (.slice s.aN s.lN s.cN)) (h5 : w.cell? ⟨b, 5, none⟩ = some (.slice s.aT s.lT s.cT)) (h6 : w.cell? ⟨b, 6, none⟩ = some (.slice s.aR s.lR s.cR)) :
    (results fn tmps).run Tryz.prog w = .ok (.tuple #[.agg (mapCells m s).toArray, v]) w := by
  simp only [Array.getD_eq_getD_getElem?] at hp hq
  simp only [results, h]
  simp [go_sem, hp, hq, h0, h1, h2, h3, h4, h5, h6, mapCells]
/-- rows of a number and a slice each, as they lie -/
def pairCells (L : List (Int × Value)) : List Value := L.flatMap fun x => [.int .i64 x.1, x.2]
theorem pairCells_len (L : List (Int × Value)) : (pairCells L).length = L.length * 2 := by
  induction L with
  | nil => rfl
  | cons x L ih => have e : pairCells (x :: L) = .int .i64 x.1 :: x.2 :: pairCells L := rfl; rw [e, List.length_cons, List.length_cons, List.length_cons, ih]; omega
theorem pairCells_get (L : List (Int × Value)) (k : Nat) (h : k < L.length) : (pairCells L)[k * 2]? = some (.int .i64 (L[k]).1) ∧ (pairCells L)[k * 2 + 1]? = some (L[k]).2 := by
  induction L generalizing k with
  | nil => simp at h
  | cons x L ih =>
    cases k with
    | zero => exact ⟨rfl, rfl⟩
    | succ k =>
      have := ih k (by simpa using h)
      rw [show (k + 1) * 2 = k * 2 + 1 + 1 by omega]
      exact this
theorem pairCells_set (L : List (Int × Value)) (k : Nat) (h : k < L.length) (v : Value) : (pairCells L).set (k * 2 + 1) v = pairCells (L.set k ((L[k]).1, v)) := by
  induction L generalizing k with
  | nil => simp at h
  | cons x L ih =>
    cases k with
    | zero => rfl
    | succ k =>
      have := ih k (by simpa using h)
      rw [show (k + 1) * 2 + 1 = (k * 2 + 1) + 1 + 1 by omega]
      show Value.int .i64 x.1 :: x.2 :: (pairCells L).set (k * 2 + 1) v = _
      rw [this]
      rfl
theorem pairCells_set0 (L : List (Int × Value)) (k : Nat) (h : k < L.length) (z : Int) : (pairCells L).set (k * 2) (.int .i64 z) = pairCells (L.set k (z, (L[k]).2)) := by
  induction L generalizing k with
  | nil => simp at h
  | cons x L ih =>
    cases k with
    | zero => rfl
    | succ k =>
      have := ih k (by simpa using h)
      rw [show (k + 1) * 2 = (k * 2) + 1 + 1 by omega]
      show Value.int .i64 x.1 :: x.2 :: (pairCells L).set (k * 2) (.int .i64 z) = _
      rw [this]
      rfl
theorem pairCells_one (z : Value) (n : Nat) (x : Int) : (madeCells (Value.agg #[.int .i64 x, z]).cells (n * 2)).toList = pairCells (List.replicate n (x, z)) ∨ (Value.agg #[.int .i64 x, z]).cells ≠ #[.int .i64 x, z] := by
  by_cases hc : (Value.agg #[.int .i64 x, z]).cells = #[.int .i64 x, z]
  · left
    rw [hc]
    apply List.ext_getElem?
    intro i
    by_cases hi : i < n * 2
    · rw [Array.getElem?_toList]
      have hg := pairCells_get (List.replicate n (x, z)) (i / 2) (by simp; omega)
      have h2 : i % 2 = 0 ∨ i % 2 = 1 := by omega
      unfold madeCells
      rcases h2 with h | h
      · rw [show i / 2 * 2 = i by omega] at hg
        rw [hg.1]
        simp [hi, h]
      · rw [show i / 2 * 2 + 1 = i by omega] at hg
        rw [hg.2]
        simp [hi, h]
    · rw [List.getElem?_eq_none (by simp [size_madeCells]; omega), List.getElem?_eq_none (by rw [pairCells_len]; simp; omega)]
  · exact .inr hc
/-- a row of trails of one's own, read -/
theorem trs_own {w : World} {B n : Nat} {a : Option Addr} {cap : Nat} {L : List (Int × Value)} {ls : List Tr} (h : w.ownsRow B 53 2 (.slice a n cap) n (pairCells L)) (hl : ls.length = n) (hL : L.length = n)
    (hx : ∀ i (h1 : i < L.length) (h2 : i < ls.length), (L[i]).1 = (ls[i]).since ∧ ∃ b m c, (L[i]).2 = .slice b m c ∧ TmsAt w b m c (ls[i]).past) : TrsAt w a n cap ls := by
  rcases h.2 with ⟨e, h0⟩ | ⟨g, cap', cur, hv, hB, hh, hcc, hcm, -⟩
  · injection e with e1 e2 e3
    subst e1 e2 e3
    exact ⟨hl, Nat.le_refl _, Nat.zero_le _, fun _ => rfl, .inl rfl⟩
  · injection hv with ha hn hc'
    subst ha
    refine ⟨hl, by omega, by omega, fun h => by simp at h, .inr ⟨g, 0, rfl, fun i hi => ?_⟩⟩
    obtain ⟨g0, g1⟩ := pairCells_get L i (by omega)
    obtain ⟨x0, b, m, c, x1, hT⟩ := hx i (by omega) (by omega)
    have c0 := h.cellAt (i * 2) (by omega)
    have c1 := h.cellAt (i * 2 + 1) (by omega)
    rw [show ls.getD i tr0 = ls[i] by simp [show i < ls.length by omega], Nat.zero_add]
    exact ⟨by rw [c0, g0, x0], b, m, c, by rw [c1, g1, x1], hT⟩
theorem infoTrail : (Tryz.prog.info? 53).map (fun i => (i.zero, i.size, i.bytes)) = some (some (.agg #[.int .i64 0, .slice none 0 0]), 2, 32) := by kernel_rfl
theorem trs_zero {w : World} {B n : Nat} {a : Option Addr} {cap : Nat} (h : w.ownsRow B 53 2 (.slice a n cap) n (pairCells (List.replicate n (0, .slice none 0 0)))) : TrsAt w a n cap (List.replicate n tr0) :=
  trs_own h (by simp) (by simp) (fun i h1 h2 => ⟨by simp [tr0], none, 0, 0, by simp, by simp [tr0]; exact TmsAt.nil w⟩)
/-- a new map, told: where its trails lie -/
def NewPost (s l : Int) (n : Nat) (w : World) (e : Ending) (w' : World) : Prop := Below w.heap.size w w' ∧ ∃ p, e = .returned (.tuple #[.agg (mapCells (newM s l n) ⟨none, 0, 0, none, 0, 0, some ⟨p, 0, none⟩, n, n⟩).toArray, .int .i64 0]) ∧ w'.ownsRow 0 53 2 (.slice (some ⟨p, 0, none⟩) n n) n (pairCells (List.replicate n (0, .slice none 0 0)))
set_option maxRecDepth 60000 in
theorem new_yes {s l : Int} {n : Nat} (h : CountOk s l n) (w : World) : Calls Tryz.prog 9 #[.int .i64 s, .int .i64 l, .int .i64 (n : Int)] w fun e w' => NewPost s l n w e w' := by
  have HC : Hid (∀ w : World, Calls Tryz.prog 30 #[.int .i64 s, .int .i64 l, .int .i64 (n : Int)] w fun e w' => e = .returned (.bool true) ∧ w' = w) := fun w => (mayCount_any s l n w).mono fun _ _ ⟨he, hw⟩ => ⟨by rw [he, (countB_iff s l n).2 h], hw⟩
  have h8 : (n : Int) ≤ 8 := h.2.2.2
  obtain ⟨i0, hi, hz0, hz1, hz2⟩ := info_parts infoTrail
  have hb1 := below_alloc w (.cells #[.int .i64 0, .int .i64 0, .int .i64 0, .int .i64 0, .slice none 0 0, .slice none 0 0, .slice none 0 0] 26)
  obtain ⟨wM, hmk, hownM, hgM⟩ := run_make_full (P := Tryz.prog) (w.alloc (.cells #[.int .i64 0, .int .i64 0, .int .i64 0, .int .i64 0, .slice none 0 0, .slice none 0 0, .slice none 0 0] 26)) (w.alloc (.cells #[.int .i64 0, .int .i64 0, .int .i64 0, .int .i64 0, .slice none 0 0, .slice none 0 0, .slice none 0 0] 26)).heap.size 24 53 i0 (.agg #[.int .i64 0, .slice none 0 0]) 2 Tryz.underlying24 hi hz0 hz1 .i64 .i64 n (by rw [hz2]; omega) (by unfold maxLen; omega) (Nat.le_refl _)
  have hbM : Below (w.alloc (.cells #[.int .i64 0, .int .i64 0, .int .i64 0, .int .i64 0, .slice none 0 0, .slice none 0 0, .slice none 0 0] 26)).heap.size (w.alloc (.cells #[.int .i64 0, .int .i64 0, .int .i64 0, .int .i64 0, .slice none 0 0, .slice none 0 0, .slice none 0 0] 26)) wM := ⟨hgM.os, hgM.tape, hgM.output, hgM.size, fun k hk => hgM.block k hk (by simp)⟩
  rcases pairCells_one (.slice none 0 0) n 0 with hp | hp
  case inr => exact absurd rfl hp
  rw [hp] at hownM
  have HBX : Hid (Box7 wM w.heap.size (.int .i64 0) (.int .i64 0) (.int .i64 0) (.int .i64 0) (.slice none 0 0) (.slice none 0 0) (.slice none 0 0)) := (Box7.new w _ _ _ _ _ _ _ _).below hbM
  have hbw : Below w.heap.size w wM := below2 hb1 hbM
  have hlt : w.heap.size < wM.heap.size := HBX.out.lt
  have HBL : Hid (Below w.heap.size w (set7 wM w.heap.size (.int .i64 0) (.int .i64 s) (.int .i64 l) (.int .i64 (n : Int)) (.slice none 0 0) (.slice none 0 0) (.slice (some ⟨w.heap.size + 1, 0, none⟩) n n))) := set7_below hbw (Nat.le_refl _) _ _ _ _ _ _ _
  have hne : (wM.ownsRow (w.heap.size + 1) 53 2 (.slice (some ⟨w.heap.size + 1, 0, none⟩) n n) n (pairCells (List.replicate n (0, .slice none 0 0)))) := by
    have := hownM
    rwa [show (w.alloc (.cells #[.int .i64 0, .int .i64 0, .int .i64 0, .int .i64 0, .slice none 0 0, .slice none 0 0, .slice none 0 0] 26)).heap.size = w.heap.size + 1 by simp] at this
  have HTT : Hid ((set7 wM w.heap.size (.int .i64 0) (.int .i64 s) (.int .i64 l) (.int .i64 (n : Int)) (.slice none 0 0) (.slice none 0 0) (.slice (some ⟨w.heap.size + 1, 0, none⟩) n n)).ownsRow 0 53 2 (.slice (some ⟨w.heap.size + 1, 0, none⟩) n n) n (pairCells (List.replicate n (0, .slice none 0 0)))) := own_base (hne.kept (set7_grownBy _ _ _ _ _ _ _ _ _) (.inr (by simp [Value.ownBlock]))) (Nat.zero_le _)
  obtain ⟨⟨c0, c1, c2, c3, c4, c5, c6⟩, ⟨f0, f1, f2, f3, f4, f5, f6⟩⟩ := HBX.out
  clear hp hgM hownM hbM hb1 hne
  go_enter Tryz.func9, Tryz.ntmps9
  go_wp2_with (go_at_call 30; refine (HC.out _).mono ?_; rintro e w' ⟨rfl, hw'⟩; obtain rfl := hw'.symm)
  refine bodyPost_ret (ret_maperr rfl _ _ w.heap.size (newM s l n) ⟨none, 0, 0, none, 0, 0, some ⟨w.heap.size + 1, 0, none⟩, n, n⟩ _ rfl rfl (HBX.out.set _ _ _ _ _ _ _).1.1 (HBX.out.set _ _ _ _ _ _ _).1.2.1 (HBX.out.set _ _ _ _ _ _ _).1.2.2.1 (HBX.out.set _ _ _ _ _ _ _).1.2.2.2.1 (HBX.out.set _ _ _ _ _ _ _).1.2.2.2.2.1 (HBX.out.set _ _ _ _ _ _ _).1.2.2.2.2.2.1 (HBX.out.set _ _ _ _ _ _ _).1.2.2.2.2.2.2) rfl ?_
  exact ⟨HBL.out, _, rfl, HTT.out⟩
theorem new_no {s l g : Int} (h : ¬ CountOk s l g) (w : World) : Calls Tryz.prog 9 #[.int .i64 s, .int .i64 l, .int .i64 g] w fun e w' => MapErr mp0 1 w e w' := by
  have HC : Hid (∀ w : World, Calls Tryz.prog 30 #[.int .i64 s, .int .i64 l, .int .i64 g] w fun e w' => e = .returned (.bool false) ∧ w' = w) := fun w => (mayCount_any s l g w).mono fun _ _ ⟨he, hw⟩ => ⟨by rw [he, countB_no h], hw⟩
  clear h
  go_enter Tryz.func9, Tryz.ntmps9
  go_wp2_with (go_at_call 30; refine (HC.out _).mono ?_; rintro e w' ⟨rfl, hw'⟩; obtain rfl := hw'.symm)
  refine bodyPost_ret (ret_maperr rfl _ _ w.heap.size mp0 mv0 _ rfl rfl (by simp [mp0]) (by simp [mp0]) (by simp [mp0]) (by simp [mp0]) (by simp [mv0]) (by simp [mv0]) (by simp [mv0])) rfl ?_
  exact ⟨below_alloc _ _, _, rfl, map0_at _⟩
end Go.Proofs.YtcncbjknfcjnmaaGreat.Tp
namespace Go.Proofs.YtcncbjknfcjnmaaGreat.Tp
open Go.ChangeShapes Go.WideShapes Go.ChangeAt Go.RowKit
/-- a map that may be, without Temps and Pasts -/
structure BareOk (m : Mp) : Prop where
  ep0 : 0 ≤ m.ep
  ep1 : m.ep ≤ 2147483647
  cnt : CountOk m.size m.mn m.gr
  nds : MayN m.nds
  tms : m.tms = []
  trn : (m.trs.length : Int) = m.gr
  trs : ∀ t ∈ m.trs, t.past = [] ∧ 0 ≤ t.since ∧ t.since ≤ m.ep
theorem mayStand_none (e s l g : Int) (aN : Option Addr) (lN cN : Nat) (aT : Option Addr) (cT : Nat) (aR : Option Addr) (lR cR : Nat) (w : World) :
    Calls Tryz.prog 41 #[.agg #[.int .i64 e, .int .i64 s, .int .i64 l, .int .i64 g, .slice aN lN cN, .slice aT 0 cT, .slice aR lR cR]] w fun e w' => e = .returned (.bool true) ∧ Below w.heap.size w w' := by
  have hb := below_alloc w (.cells #[.int .i64 e, .int .i64 s, .int .i64 l, .int .i64 g, .slice aN lN cN, .slice aT 0 cT, .slice aR lR cR] 26)
  go_enter Tryz.func41, Tryz.ntmps41
  go_wp2_with fail
  go_loopw [9] (fun i wr => i = .int .i64 0 ∧ wr = w.alloc (.cells #[.int .i64 e, .int .i64 s, .int .i64 l, .int .i64 g, .slice aN lN cN, .slice aT 0 cT, .slice aR lR cR] 26)) (fun i _ => 0)
  case atStart => exact ⟨rfl, rfl⟩
  case round =>
    obtain ⟨rfl, rfl⟩ := hrel
    go_wp2_with fail
    go_ret
    exact ⟨rfl, hb⟩
set_option maxRecDepth 60000 in
theorem mayPast_none (e s l g : Int) (aN : Option Addr) (lN cN : Nat) (aT : Option Addr) (lT cT : Nat) (aR : Option Addr) (lR cR : Nat) (since : Int) (aP : Option Addr) (cP : Nat) (w : World) :
    Calls Tryz.prog 76 #[.agg #[.int .i64 e, .int .i64 s, .int .i64 l, .int .i64 g, .slice aN lN cN, .slice aT lT cT, .slice aR lR cR], .agg #[.int .i64 since, .slice aP 0 cP]] w fun e w' => e = .returned (.bool true) ∧ Below w.heap.size w w' := by
  have hmm := @run_makeMap Tryz.prog
  go_enter Tryz.func76, Tryz.ntmps76
  go_wp2_with fail
  go_loopw [16] (fun i wr => i = .int .i64 0 ∧ Below w.heap.size w wr) (fun i _ => 0)
  case atStart => exact ⟨rfl, below2 (below_alloc _ _) (below2 (below_alloc _ _) (below_alloc _ _))⟩
  case round =>
    obtain ⟨rfl, hbel⟩ := hrel
    go_wp2_with fail
    go_ret
    exact ⟨rfl, hbel⟩
set_option maxHeartbeats 1000000 in
set_option maxRecDepth 60000 in
theorem mayTrail_bare {m : Mp} {s : MV} (hB : BareOk m) (w : World) (h : MapAt w m s) : Calls Tryz.prog 42 #[.agg (mapCells m s).toArray] w fun e w' => e = .returned (.bool true) ∧ Below w.heap.size w w' := by
  obtain ⟨ep, sz, mn, gr, nds, tms, trs⟩ := m
  obtain ⟨aN, lN, cN, aT, lT, cT, aR, lR, cR⟩ := s
  have hl : trs.length = lR := h.trs.1
  have hm : lR ≤ maxLen := Nat.le_trans h.trs.2.1 h.trs.2.2.1
  unfold maxLen at hm
  have hb1 := below_alloc w (.cells #[.int .i64 ep, .int .i64 sz, .int .i64 mn, .int .i64 gr, .slice aN lN cN, .slice aT lT cT, .slice aR lR cR] 26)
  have HL : Hid (TrsAt w aR lR cR trs) := h.trs
  have hgr : (lR : Int) = gr := by have := hB.trn; simp only at this; omega
  have HBR : Hid (∀ k, k < lR → (trs.getD k tr0).past = [] ∧ 0 ≤ (trs.getD k tr0).since ∧ (trs.getD k tr0).since ≤ ep) := fun k hk => by
    rw [show trs.getD k tr0 = trs[k] by simp [show k < trs.length by omega]]
    exact hB.trs _ (List.getElem_mem _)
  obtain rfl := hgr
  clear h hB
  show Calls Tryz.prog 42 #[.agg #[.int .i64 ep, .int .i64 sz, .int .i64 mn, .int .i64 (lR : Int), .slice aN lN cN, .slice aT lT cT, .slice aR lR cR]] w _
  go_enter Tryz.func42, Tryz.ntmps42
  go_wp2_with fail
  have HBX : Hid (Box7 (w.alloc (.cells #[.int .i64 ep, .int .i64 sz, .int .i64 mn, .int .i64 (lR : Int), .slice aN lN cN, .slice aT lT cT, .slice aR lR cR] 26)) w.heap.size (.int .i64 ep) (.int .i64 sz) (.int .i64 mn) (.int .i64 (lR : Int)) (.slice aN lN cN) (.slice aT lT cT) (.slice aR lR cR)) := Box7.new w _ _ _ _ _ _ _ _
  generalize w.alloc (.cells #[.int .i64 ep, .int .i64 sz, .int .i64 mn, .int .i64 (lR : Int), .slice aN lN cN, .slice aT lT cT, .slice aR lR cR] 26) = w1 at *
  go_loopw [14] (fun i wr => ∃ k : Nat, k ≤ lR ∧ i = .int .i64 k ∧ Below w1.heap.size w1 wr) (fun i _ => lR - (intOf i).toNat)
  case atStart => exact ⟨0, Nat.zero_le _, rfl, Below.refl _ _⟩
  case round =>
    obtain ⟨k, hk, rfl, hbel⟩ := hrel
    have hbw := below2 hb1 hbel
    by_cases hlt : k < lR
    · obtain ⟨b, off, rfl, hbs, hcell⟩ := (HL.out.below hbw).some (by omega)
      obtain ⟨e0, aP, lP, cP, e1, hP⟩ := hcell k hlt
      obtain ⟨hp0, hs0, hs1⟩ := HBR.out k hlt
      have hk1 : (k : Int) < (lR : Int) := by omega
      have hk0 : (0 : Int) ≤ (k : Int) := by omega
      rw [hp0] at hP
      obtain rfl : lP = 0 := hP.1.symm
      clear hcell hP hp0
      generalize (trs.getD k tr0).since = sn at *
      obtain ⟨⟨c0, c1, c2, c3, c4, c5, c6⟩, -⟩ := HBX.out.below hbel
      have hlt1 : w.heap.size < wr.heap.size := (HBX.out.below hbel).lt
      have HC : Hid (∀ W, Calls Tryz.prog 76 #[.agg #[.int .i64 ep, .int .i64 sz, .int .i64 mn, .int .i64 (lR : Int), .slice aN lN cN, .slice aT lT cT, .slice (some ⟨b, off, none⟩) lR cR], .agg #[.int .i64 sn, .slice aP 0 cP]] W fun e w' => e = .returned (.bool true) ∧ Below W.heap.size W w') := fun W => mayPast_none _ _ _ _ _ _ _ _ _ _ _ _ _ _ _ _ W
      have HW : Hid (∀ w : World, Calls Tryz.prog 39 #[.int .i64 sn, .int .i64 0, .int .i64 ep] w fun e w' => e = .returned (.bool true) ∧ w' = w) := mwithin_yes hs0 hs1
      clear hs0 hs1
      go_wp2_with (first | (go_at_call 76; refine (HC.out _).mono ?_; rintro e w4 ⟨rfl, hb4⟩) | (go_at_call 39; refine (HW.out _).mono ?_; rintro e w' ⟨rfl, hw'⟩; obtain rfl := hw'.symm))
      exact ⟨⟨k + 1, by omega, by go_num, below2 hbel (below2 (below_alloc _ _) hb4)⟩, by simp [intOf]; omega⟩
    · go_wp2_with fail
      go_ret
      exact ⟨rfl, hbw⟩
theorem map_split (m : Mp) (s : MV) : Value.agg (mapCells m s).toArray = .agg #[.int .i64 m.ep, .int .i64 m.size, .int .i64 m.mn, .int .i64 m.gr, .slice s.aN s.lN s.cN, .slice s.aT s.lT s.cT, .slice s.aR s.lR s.cR] := rfl
set_option maxRecDepth 60000 in
theorem check_bare {m : Mp} {s : MV} (hB : BareOk m) (w : World) (h : MapAt w m s) : Calls Tryz.prog 17 #[.agg (mapCells m s).toArray] w fun e w' => e = .returned (.int .i64 0) ∧ Below w.heap.size w w' := by
  have HT : Hid (∀ w', Below w.heap.size w w' → Calls Tryz.prog 42 #[.agg (mapCells m s).toArray] w' fun e w'' => e = .returned (.bool true) ∧ Below w'.heap.size w' w'') := fun w' hb => mayTrail_bare hB w' (h.below hb)
  have hl0 : s.lT = 0 := by have := h.tms.1; rw [hB.tms] at this; simpa using this.symm
  have HN : Hid (∀ w', Below w.heap.size w w' → Calls Tryz.prog 40 #[.slice s.aN s.lN s.cN] w' fun e w'' => e = .returned (.int .i64 0) ∧ Below w'.heap.size w' w'') := fun w' hb => (check_any s.aN s.lN s.cN m.nds w' (h.nds.below hb)).mono fun e w'' ⟨hb2, hh⟩ => by
    rcases hh with ⟨he, _⟩ | ⟨_, hn⟩
    · exact ⟨he, hb2⟩
    · exact absurd hB.nds hn
  have HS : Hid (∀ w', Calls Tryz.prog 41 #[.agg (mapCells m s).toArray] w' fun e w'' => e = .returned (.bool true) ∧ Below w'.heap.size w' w'') := fun w' => by
    rw [map_split, hl0]
    exact mayStand_none _ _ _ _ _ _ _ _ _ _ _ _ w'
  have HC : Hid (∀ w : World, Calls Tryz.prog 30 #[.int .i64 m.size, .int .i64 m.mn, .int .i64 m.gr] w fun e w' => e = .returned (.bool true) ∧ w' = w) := fun w => (mayCount_any _ _ _ w).mono fun _ _ ⟨he, hw⟩ => ⟨by rw [he, (countB_iff _ _ _).2 hB.cnt], hw⟩
  have HE : Hid (∀ w : World, Calls Tryz.prog 39 #[.int .i64 m.ep, .int .i64 0, .int .i64 2147483647] w fun e w' => e = .returned (.bool true) ∧ w' = w) := mwithin_yes hB.ep0 hB.ep1
  clear h hB hl0
  rw [map_split] at *
  obtain ⟨ep, sz, mn, gr, nds, tms, trs⟩ := m
  obtain ⟨aN, lN, cN, aT, lT, cT, aR, lR, cR⟩ := s
  simp only at *
  have hb1 := below_alloc w (.cells #[.int .i64 ep, .int .i64 sz, .int .i64 mn, .int .i64 gr, .slice aN lN cN, .slice aT lT cT, .slice aR lR cR] 26)
  have HBX : Hid (Box7 (w.alloc (.cells #[.int .i64 ep, .int .i64 sz, .int .i64 mn, .int .i64 gr, .slice aN lN cN, .slice aT lT cT, .slice aR lR cR] 26)) w.heap.size (.int .i64 ep) (.int .i64 sz) (.int .i64 mn) (.int .i64 gr) (.slice aN lN cN) (.slice aT lT cT) (.slice aR lR cR)) := Box7.new w _ _ _ _ _ _ _ _
  go_enter Tryz.func17, Tryz.ntmps17
  go_wp2_with (first
    | (go_at_call 39; refine (HE.out _).mono ?_; rintro e w' ⟨rfl, hw'⟩; obtain rfl := hw'.symm)
    | (go_at_call 30; refine (HC.out _).mono ?_; rintro e w' ⟨rfl, hw'⟩; obtain rfl := hw'.symm)
    | (go_at_call 40; refine (HN.out _ hb1).mono ?_; rintro e w2 ⟨rfl, hb2⟩; obtain ⟨⟨c0, c1, c2, c3, c4, c5, c6⟩, -⟩ := HBX.out.below hb2)
    | (go_at_call 41; refine (HS.out _).mono ?_; rintro e w3 ⟨rfl, hb3⟩; obtain ⟨⟨d0, d1, d2, d3, d4, d5, d6⟩, -⟩ := (HBX.out.below hb2).below hb3)
    | (go_at_call 42; refine (HT.out _ (below2 hb1 (below2 hb2 hb3))).mono ?_; rintro e w4 ⟨rfl, hb4⟩))
  go_ret
  exact ⟨rfl, below2 hb1 (below2 hb2 (below2 hb3 hb4))⟩
end Go.Proofs.YtcncbjknfcjnmaaGreat.Tp
namespace Go.Proofs.YtcncbjknfcjnmaaGreat.Tp
open Go.ChangeShapes Go.WideShapes Go.ChangeAt Go.RowKit
/-- a copy, in a row of one's own -/
def CopyPost (E : TypeId) (size len : Nat) (xs : List Value) (w : World) (e : Ending) (w' : World) : Prop := Below w.heap.size w w' ∧ ∃ v, e = .returned v ∧ w'.ownsRow w.heap.size E size v len xs ∧ (v = .slice none 0 0 ↔ len = 0)
def Lies (w : World) (a : Option Addr) (len : Nat) (xs : List Value) : Prop := len = 0 ∨ ∃ b off, a = some ⟨b, off, none⟩ ∧ ∀ j u, xs[j]? = some u → w.cell? ⟨b, off + j, none⟩ = some u
theorem own_nothing (w : World) (B E size : Nat) : w.ownsRow B E size (.slice none 0 0) 0 [] := ⟨by simp, .inl ⟨rfl, rfl⟩⟩
theorem infoNode8 : (Tryz.prog.info? 72).map (fun i => (i.zero, i.size, i.bytes)) = some (some (.agg #[.int .i64 0, .int .i64 0, .int .i64 0, .int .i64 0, .bool false, .bool false]), 6, 40) := by kernel_rfl
theorem copiedNode (a : Option Addr) (len cap : Nat) (xs : List Value) (w : World) (hl : xs.length = len * 6) (hm : len ≤ 1000) (hx : Lies w a len xs) (ha : a = none → cap = 0) (h1 : ∀ u ∈ xs, u.oneCell' = true) :
    Calls Tryz.prog 59 #[.slice a len cap] w fun e w' => CopyPost 72 6 len xs w e w' := by
  have HM : Hid (len ≤ 1000) := hm
  clear hm
  have HX : Hid (∀ ad, a = some ad → ∀ j u, xs[j]? = some u → w.cell? (ad.add j) = some u) := fun ad had j u hj => by
    rcases hx with h0 | ⟨b, off, rfl, h⟩
    · have hl0 : xs = [] := List.length_eq_zero_iff.1 (by rw [hl, h0, Nat.zero_mul])
      rw [hl0] at hj
      simp at hj
    · obtain rfl := Option.some.inj had
      rw [addr_add]
      exact h j u hj
  have HN : Hid (a = none → len = 0) := fun h => by
    rcases hx with h0 | ⟨b, off, e, _⟩
    · exact h0
    · rw [h] at e; simp at e
  have H1 : Hid (∀ u ∈ xs, u.oneCell' = true) := h1
  clear hx h1
  have HL : Hid (xs.length = len * 6) := hl
  clear hl
  obtain ⟨i0, hi, hz0, hz1, hz2⟩ := info_parts infoNode8
  have H0 := own_nothing w w.heap.size 72 6
  cases a with
  | none =>
    obtain rfl := HN.out rfl
    obtain rfl := ha rfl
    have hx0 : xs = [] := List.length_eq_zero_iff.1 (by have := HL.out; omega)
    subst hx0
    go_enter Tryz.func59, Tryz.ntmps59
    go_wp2_with (at_builtin; refine wpList_append_own_none rfl _ _ 22 rfl w.heap.size 72 i0 6 Tryz.underlying22 hi _ _ _ rfl H0 rfl ?_)
    go_ret
    exact ⟨Below.refl _ _, _, rfl, H0, by simp⟩
  | some ad =>
    have HA := HX.out ad rfl
    go_enter Tryz.func59, Tryz.ntmps59
    go_wp2_with (at_builtin; refine wpList_append_own _ rfl _ _ 22 rfl w.heap.size 72 i0 (.agg #[.int .i64 0, .int .i64 0, .int .i64 0, .int .i64 0, .bool false, .bool false]) 6 40 Tryz.underlying22 hi hz0 hz1 hz2 rfl (by decide) _ _ _ rfl H0 ad len cap xs rfl HL.out HA H1.out (by have := HM.out; unfold maxLen; omega) (by have := HM.out; omega) (Nat.le_refl _) ?_)
    intro v7 w7 hown7 hg7 hiff
    have HO : Hid (w7.ownsRow w.heap.size 72 6 v7 len xs) := by unfold Hid; simpa using hown7
    have HI : Hid (v7 = .slice none 0 0 ↔ len = 0) := by unfold Hid; simpa using hiff
    have hb7 : Below w.heap.size w w7 := ⟨hg7.os, hg7.tape, hg7.output, hg7.size, fun k hk => hg7.block k hk (by simp [Value.ownBlock])⟩
    clear hown7 hg7 hiff HA H0
    go_wp2_with fail
    go_ret
    exact ⟨hb7, v7, rfl, HO.out, HI.out⟩
theorem infoTemp8 : (Tryz.prog.info? 59).map (fun i => (i.zero, i.size, i.bytes)) = some (some (.agg #[.int .i64 0, .slice none 0 0]), 2, 32) := by kernel_rfl
theorem copiedTemp (a : Option Addr) (len cap : Nat) (xs : List Value) (w : World) (hl : xs.length = len * 2) (hm : len ≤ 1000) (hx : Lies w a len xs) (ha : a = none → cap = 0) (h1 : ∀ u ∈ xs, u.oneCell' = true) :
    Calls Tryz.prog 60 #[.slice a len cap] w fun e w' => CopyPost 59 2 len xs w e w' := by
  have HM : Hid (len ≤ 1000) := hm
  clear hm
  have HX : Hid (∀ ad, a = some ad → ∀ j u, xs[j]? = some u → w.cell? (ad.add j) = some u) := fun ad had j u hj => by
    rcases hx with h0 | ⟨b, off, rfl, h⟩
    · have hl0 : xs = [] := List.length_eq_zero_iff.1 (by rw [hl, h0, Nat.zero_mul])
      rw [hl0] at hj
      simp at hj
    · obtain rfl := Option.some.inj had
      rw [addr_add]
      exact h j u hj
  have HN : Hid (a = none → len = 0) := fun h => by
    rcases hx with h0 | ⟨b, off, e, _⟩
    · exact h0
    · rw [h] at e; simp at e
  have H1 : Hid (∀ u ∈ xs, u.oneCell' = true) := h1
  clear hx h1
  have HL : Hid (xs.length = len * 2) := hl
  clear hl
  obtain ⟨i0, hi, hz0, hz1, hz2⟩ := info_parts infoTemp8
  have H0 := own_nothing w w.heap.size 59 2
  cases a with
  | none =>
    obtain rfl := HN.out rfl
    obtain rfl := ha rfl
    have hx0 : xs = [] := List.length_eq_zero_iff.1 (by have := HL.out; omega)
    subst hx0
    go_enter Tryz.func60, Tryz.ntmps60
    go_wp2_with (at_builtin; refine wpList_append_own_none rfl _ _ 23 rfl w.heap.size 59 i0 2 Tryz.underlying23 hi _ _ _ rfl H0 rfl ?_)
    go_ret
    exact ⟨Below.refl _ _, _, rfl, H0, by simp⟩
  | some ad =>
    have HA := HX.out ad rfl
    go_enter Tryz.func60, Tryz.ntmps60
    go_wp2_with (at_builtin; refine wpList_append_own _ rfl _ _ 23 rfl w.heap.size 59 i0 (.agg #[.int .i64 0, .slice none 0 0]) 2 32 Tryz.underlying23 hi hz0 hz1 hz2 rfl (by decide) _ _ _ rfl H0 ad len cap xs rfl HL.out HA H1.out (by have := HM.out; unfold maxLen; omega) (by have := HM.out; omega) (Nat.le_refl _) ?_)
    intro v7 w7 hown7 hg7 hiff
    have HO : Hid (w7.ownsRow w.heap.size 59 2 v7 len xs) := by unfold Hid; simpa using hown7
    have HI : Hid (v7 = .slice none 0 0 ↔ len = 0) := by unfold Hid; simpa using hiff
    have hb7 : Below w.heap.size w w7 := ⟨hg7.os, hg7.tape, hg7.output, hg7.size, fun k hk => hg7.block k hk (by simp [Value.ownBlock])⟩
    clear hown7 hg7 hiff HA H0
    go_wp2_with fail
    go_ret
    exact ⟨hb7, v7, rfl, HO.out, HI.out⟩
theorem infoInt8 : (Tryz.prog.info? 3).map (fun i => (i.zero, i.size, i.bytes)) = some (some (.int .i64 0), 1, 8) := by kernel_rfl
theorem copiedInt (a : Option Addr) (len cap : Nat) (xs : List Value) (w : World) (hl : xs.length = len * 1) (hm : len ≤ 1000) (hx : Lies w a len xs) (ha : a = none → cap = 0) (h1 : ∀ u ∈ xs, u.oneCell' = true) :
    Calls Tryz.prog 61 #[.slice a len cap] w fun e w' => CopyPost 3 1 len xs w e w' := by
  have HM : Hid (len ≤ 1000) := hm
  clear hm
  have HX : Hid (∀ ad, a = some ad → ∀ j u, xs[j]? = some u → w.cell? (ad.add j) = some u) := fun ad had j u hj => by
    rcases hx with h0 | ⟨b, off, rfl, h⟩
    · have hl0 : xs = [] := List.length_eq_zero_iff.1 (by rw [hl, h0, Nat.zero_mul])
      rw [hl0] at hj
      simp at hj
    · obtain rfl := Option.some.inj had
      rw [addr_add]
      exact h j u hj
  have HN : Hid (a = none → len = 0) := fun h => by
    rcases hx with h0 | ⟨b, off, e, _⟩
    · exact h0
    · rw [h] at e; simp at e
  have H1 : Hid (∀ u ∈ xs, u.oneCell' = true) := h1
  clear hx h1
  have HL : Hid (xs.length = len * 1) := hl
  clear hl
  obtain ⟨i0, hi, hz0, hz1, hz2⟩ := info_parts infoInt8
  have H0 := own_nothing w w.heap.size 3 1
  cases a with
  | none =>
    obtain rfl := HN.out rfl
    obtain rfl := ha rfl
    have hx0 : xs = [] := List.length_eq_zero_iff.1 (by have := HL.out; omega)
    subst hx0
    go_enter Tryz.func61, Tryz.ntmps61
    go_wp2_with (at_builtin; refine wpList_append_own_none rfl _ _ 35 rfl w.heap.size 3 i0 1 Tryz.underlying35 hi _ _ _ rfl H0 rfl ?_)
    go_ret
    exact ⟨Below.refl _ _, _, rfl, H0, by simp⟩
  | some ad =>
    have HA := HX.out ad rfl
    go_enter Tryz.func61, Tryz.ntmps61
    go_wp2_with (at_builtin; refine wpList_append_own _ rfl _ _ 35 rfl w.heap.size 3 i0 (.int .i64 0) 1 8 Tryz.underlying35 hi hz0 hz1 hz2 rfl (by decide) _ _ _ rfl H0 ad len cap xs rfl HL.out HA H1.out (by have := HM.out; unfold maxLen; omega) (by have := HM.out; omega) (Nat.le_refl _) ?_)
    intro v7 w7 hown7 hg7 hiff
    have HO : Hid (w7.ownsRow w.heap.size 3 1 v7 len xs) := by unfold Hid; simpa using hown7
    have HI : Hid (v7 = .slice none 0 0 ↔ len = 0) := by unfold Hid; simpa using hiff
    have hb7 : Below w.heap.size w w7 := ⟨hg7.os, hg7.tape, hg7.output, hg7.size, fun k hk => hg7.block k hk (by simp [Value.ownBlock])⟩
    clear hown7 hg7 hiff HA H0
    go_wp2_with fail
    go_ret
    exact ⟨hb7, v7, rfl, HO.out, HI.out⟩
theorem infoTrail8 : (Tryz.prog.info? 53).map (fun i => (i.zero, i.size, i.bytes)) = some (some (.agg #[.int .i64 0, .slice none 0 0]), 2, 32) := by kernel_rfl
theorem copiedTrail (a : Option Addr) (len cap : Nat) (xs : List Value) (w : World) (hl : xs.length = len * 2) (hm : len ≤ 1000) (hx : Lies w a len xs) (ha : a = none → cap = 0) (h1 : ∀ u ∈ xs, u.oneCell' = true) :
    Calls Tryz.prog 62 #[.slice a len cap] w fun e w' => CopyPost 53 2 len xs w e w' := by
  have HM : Hid (len ≤ 1000) := hm
  clear hm
  have HX : Hid (∀ ad, a = some ad → ∀ j u, xs[j]? = some u → w.cell? (ad.add j) = some u) := fun ad had j u hj => by
    rcases hx with h0 | ⟨b, off, rfl, h⟩
    · have hl0 : xs = [] := List.length_eq_zero_iff.1 (by rw [hl, h0, Nat.zero_mul])
      rw [hl0] at hj
      simp at hj
    · obtain rfl := Option.some.inj had
      rw [addr_add]
      exact h j u hj
  have HN : Hid (a = none → len = 0) := fun h => by
    rcases hx with h0 | ⟨b, off, e, _⟩
    · exact h0
    · rw [h] at e; simp at e
  have H1 : Hid (∀ u ∈ xs, u.oneCell' = true) := h1
  clear hx h1
  have HL : Hid (xs.length = len * 2) := hl
  clear hl
  obtain ⟨i0, hi, hz0, hz1, hz2⟩ := info_parts infoTrail8
  have H0 := own_nothing w w.heap.size 53 2
  cases a with
  | none =>
    obtain rfl := HN.out rfl
    obtain rfl := ha rfl
    have hx0 : xs = [] := List.length_eq_zero_iff.1 (by have := HL.out; omega)
    subst hx0
    go_enter Tryz.func62, Tryz.ntmps62
    go_wp2_with (at_builtin; refine wpList_append_own_none rfl _ _ 24 rfl w.heap.size 53 i0 2 Tryz.underlying24 hi _ _ _ rfl H0 rfl ?_)
    go_ret
    exact ⟨Below.refl _ _, _, rfl, H0, by simp⟩
  | some ad =>
    have HA := HX.out ad rfl
    go_enter Tryz.func62, Tryz.ntmps62
    go_wp2_with (at_builtin; refine wpList_append_own _ rfl _ _ 24 rfl w.heap.size 53 i0 (.agg #[.int .i64 0, .slice none 0 0]) 2 32 Tryz.underlying24 hi hz0 hz1 hz2 rfl (by decide) _ _ _ rfl H0 ad len cap xs rfl HL.out HA H1.out (by have := HM.out; unfold maxLen; omega) (by have := HM.out; omega) (Nat.le_refl _) ?_)
    intro v7 w7 hown7 hg7 hiff
    have HO : Hid (w7.ownsRow w.heap.size 53 2 v7 len xs) := by unfold Hid; simpa using hown7
    have HI : Hid (v7 = .slice none 0 0 ↔ len = 0) := by unfold Hid; simpa using hiff
    have hb7 : Below w.heap.size w w7 := ⟨hg7.os, hg7.tape, hg7.output, hg7.size, fun k hk => hg7.block k hk (by simp [Value.ownBlock])⟩
    clear hown7 hg7 hiff HA H0
    go_wp2_with fail
    go_ret
    exact ⟨hb7, v7, rfl, HO.out, HI.out⟩
theorem infoSpan8 : (Tryz.prog.info? 55).map (fun i => (i.zero, i.size, i.bytes)) = some (some (.agg #[.int .i64 0, .slice none 0 0]), 2, 32) := by kernel_rfl
theorem copiedSpan (a : Option Addr) (len cap : Nat) (xs : List Value) (w : World) (hl : xs.length = len * 2) (hm : len ≤ 1000) (hx : Lies w a len xs) (ha : a = none → cap = 0) (h1 : ∀ u ∈ xs, u.oneCell' = true) :
    Calls Tryz.prog 63 #[.slice a len cap] w fun e w' => CopyPost 55 2 len xs w e w' := by
  have HM : Hid (len ≤ 1000) := hm
  clear hm
  have HX : Hid (∀ ad, a = some ad → ∀ j u, xs[j]? = some u → w.cell? (ad.add j) = some u) := fun ad had j u hj => by
    rcases hx with h0 | ⟨b, off, rfl, h⟩
    · have hl0 : xs = [] := List.length_eq_zero_iff.1 (by rw [hl, h0, Nat.zero_mul])
      rw [hl0] at hj
      simp at hj
    · obtain rfl := Option.some.inj had
      rw [addr_add]
      exact h j u hj
  have HN : Hid (a = none → len = 0) := fun h => by
    rcases hx with h0 | ⟨b, off, e, _⟩
    · exact h0
    · rw [h] at e; simp at e
  have H1 : Hid (∀ u ∈ xs, u.oneCell' = true) := h1
  clear hx h1
  have HL : Hid (xs.length = len * 2) := hl
  clear hl
  obtain ⟨i0, hi, hz0, hz1, hz2⟩ := info_parts infoSpan8
  have H0 := own_nothing w w.heap.size 55 2
  cases a with
  | none =>
    obtain rfl := HN.out rfl
    obtain rfl := ha rfl
    have hx0 : xs = [] := List.length_eq_zero_iff.1 (by have := HL.out; omega)
    subst hx0
    go_enter Tryz.func63, Tryz.ntmps63
    go_wp2_with (at_builtin; refine wpList_append_own_none rfl _ _ 51 rfl w.heap.size 55 i0 2 Tryz.underlying51 hi _ _ _ rfl H0 rfl ?_)
    go_ret
    exact ⟨Below.refl _ _, _, rfl, H0, by simp⟩
  | some ad =>
    have HA := HX.out ad rfl
    go_enter Tryz.func63, Tryz.ntmps63
    go_wp2_with (at_builtin; refine wpList_append_own _ rfl _ _ 51 rfl w.heap.size 55 i0 (.agg #[.int .i64 0, .slice none 0 0]) 2 32 Tryz.underlying51 hi hz0 hz1 hz2 rfl (by decide) _ _ _ rfl H0 ad len cap xs rfl HL.out HA H1.out (by have := HM.out; unfold maxLen; omega) (by have := HM.out; omega) (Nat.le_refl _) ?_)
    intro v7 w7 hown7 hg7 hiff
    have HO : Hid (w7.ownsRow w.heap.size 55 2 v7 len xs) := by unfold Hid; simpa using hown7
    have HI : Hid (v7 = .slice none 0 0 ↔ len = 0) := by unfold Hid; simpa using hiff
    have hb7 : Below w.heap.size w w7 := ⟨hg7.os, hg7.tape, hg7.output, hg7.size, fun k hk => hg7.block k hk (by simp [Value.ownBlock])⟩
    clear hown7 hg7 hiff HA H0
    go_wp2_with fail
    go_ret
    exact ⟨hb7, v7, rfl, HO.out, HI.out⟩
end Go.Proofs.YtcncbjknfcjnmaaGreat.Tp
namespace Go.Proofs.YtcncbjknfcjnmaaGreat.Tp
open Go.ChangeShapes Go.WideShapes Go.ChangeAt Go.RowKit
def ndsCells (l : List Nd) : List Value := l.flatMap ndCells
theorem ndsCells_len (l : List Nd) : (ndsCells l).length = l.length * 6 := by
  induction l with
  | nil => rfl
  | cons x l ih =>
    have e : ndsCells (x :: l) = ndCells x ++ ndsCells l := rfl
    rw [e, List.length_append, ih, List.length_cons]
    show 6 + _ = _
    omega
theorem ndsCells_get (l : List Nd) (k j : Nat) (h : k < l.length) (hj : j < 6) : (ndsCells l)[k * 6 + j]? = (ndCells (l.getD k nd0))[j]? := by
  induction l generalizing k with
  | nil => simp at h
  | cons x l ih =>
    have e : ndsCells (x :: l) = ndCells x ++ ndsCells l := rfl
    have e6 : (ndCells x).length = 6 := rfl
    rw [e]
    cases k with
    | zero =>
      rw [List.getElem?_append_left (by omega), Nat.zero_mul, Nat.zero_add]
      rfl
    | succ k =>
      rw [List.getElem?_append_right (by omega), e6, show (k + 1) * 6 + j - 6 = k * 6 + j by omega, ih k (by simpa using h)]
      rfl
theorem nds_lies {w : World} {a : Option Addr} {len cap : Nat} {ls : List Nd} (h : NdsAt w a len cap ls) : Lies w a len (ndsCells ls) := by
  rcases h.2.2.2 with h0 | ⟨b, off, e, hc⟩
  · exact .inl h0
  · refine .inr ⟨b, off, e, fun j u hj => ?_⟩
    have hl := h.1
    have hlt : j < (ndsCells ls).length := (List.getElem?_eq_some_iff.1 hj).1
    rw [ndsCells_len] at hlt
    have hg := ndsCells_get ls (j / 6) (j % 6) (by omega) (by omega)
    rw [show j / 6 * 6 + j % 6 = j by omega, hj] at hg
    obtain ⟨n0, n1, n2, n3, n4, n5⟩ := hc (j / 6) (by omega)
    have hj6 : off + j = off + j / 6 * 6 + j % 6 := by omega
    have hr : j % 6 < 6 := by omega
    rw [hj6]
    generalize j % 6 = r at *
    have hcase : r = 0 ∨ r = 1 ∨ r = 2 ∨ r = 3 ∨ r = 4 ∨ r = 5 := by omega
    rcases hcase with rfl | rfl | rfl | rfl | rfl | rfl
    · exact n0.trans hg.symm
    · exact n1.trans hg.symm
    · exact n2.trans hg.symm
    · exact n3.trans hg.symm
    · exact n4.trans hg.symm
    · exact n5.trans hg.symm
theorem nds_own {w : World} {B n : Nat} {a : Option Addr} {cap : Nat} {ls : List Nd} (h : w.ownsRow B 72 6 (.slice a n cap) n (ndsCells ls)) (hl : ls.length = n) : NdsAt w a n cap ls ∧ (a = none → cap = 0) := by
  rcases h.2 with ⟨e, h0⟩ | ⟨g, cap', cur, hv, hB, hh, hcc, hcm, -⟩
  · injection e with e1 e2 e3
    subst e1 e2 e3
    exact ⟨⟨hl, Nat.le_refl _, Nat.zero_le _, .inl rfl⟩, fun _ => rfl⟩
  · injection hv with ha hn hc'
    subst ha
    refine ⟨⟨hl, by omega, by omega, .inr ⟨g, 0, rfl, fun i hi => ?_⟩⟩, fun h => by simp at h⟩
    have key : ∀ j, j < 6 → w.cell? ⟨g, i * 6 + j, none⟩ = (ndCells (ls.getD i nd0))[j]? := fun j hj => by
      rw [h.cellAt (i * 6 + j) (by omega), ndsCells_get ls i j (by omega) hj]
    rw [Nat.zero_add]
    exact ⟨key 0 (by omega), key 1 (by omega), key 2 (by omega), key 3 (by omega), key 4 (by omega), key 5 (by omega)⟩
theorem ndsCells_one (l : List Nd) : ∀ u ∈ ndsCells l, u.oneCell' = true := fun u hu => by
  obtain ⟨x, _, hx⟩ := List.mem_flatMap.1 hu
  simp [ndCells] at hx
  rcases hx with rfl | rfl | rfl | rfl | rfl | rfl <;> rfl
/-- trails without Pasts, as they lie -/
def barePairs (l : List Tr) : List (Int × Value) := l.map fun t => (t.since, .slice none 0 0)
/-- a bare map, anywhere -/
structure BareAt (w : World) (m : Mp) (s : MV) : Prop where
  nds : NdsAt w s.aN s.lN s.cN m.nds
  nilN : s.aN = none → s.cN = 0
  aT : s.aT = none
  lT : s.lT = 0
  cT : s.cT = 0
  tms : m.tms = []
  past : ∀ t ∈ m.trs, t.past = []
  trl : m.trs.length = s.lR
  cap : s.lR ≤ s.cR ∧ s.cR ≤ maxLen
  nilR : s.aR = none → s.cR = 0
  trs : Lies w s.aR s.lR (pairCells (barePairs m.trs))
/-- a bare map in rows of one's own -/
structure OwnBare (w : World) (B : Nat) (m : Mp) (s : MV) : Prop where
  nds : w.ownsRow B 72 6 (.slice s.aN s.lN s.cN) s.lN (ndsCells m.nds)
  ndl : m.nds.length = s.lN
  aT : s.aT = none
  lT : s.lT = 0
  cT : s.cT = 0
  tms : m.tms = []
  past : ∀ t ∈ m.trs, t.past = []
  trl : m.trs.length = s.lR
  trs : w.ownsRow B 53 2 (.slice s.aR s.lR s.cR) s.lR (pairCells (barePairs m.trs))
theorem Lies.below {w w' : World} {a : Option Addr} {len : Nat} {xs : List Value} (h : Lies w a len xs) (hb : Below w.heap.size w w') : Lies w' a len xs := by
  rcases h with h | ⟨b, off, e, h⟩
  · exact .inl h
  · refine .inr ⟨b, off, e, fun j u hj => ?_⟩
    have h0 := h j u hj
    exact (hb.cell (p := ⟨b, off + j, none⟩) (World.block_lt_of_cell? w _ h0)).trans h0
theorem BareAt.below {w w' : World} {m : Mp} {s : MV} (h : BareAt w m s) (hb : Below w.heap.size w w') : BareAt w' m s :=
  ⟨h.nds.below hb, h.nilN, h.aT, h.lT, h.cT, h.tms, h.past, h.trl, h.cap, h.nilR, h.trs.below hb⟩
theorem own_caps {w : World} {B T sz n : Nat} {a : Option Addr} {cap : Nat} {xs : List Value} (h : w.ownsRow B T sz (.slice a n cap) n xs) : n ≤ cap ∧ cap ≤ maxLen ∧ (a = none → cap = 0) := by
  rcases h.2 with ⟨e, h0⟩ | ⟨g, cap', cur, hv, hB, hh, hcc, hcm, -⟩
  · injection e with e1 e2 e3
    subst e1 e2 e3
    exact ⟨Nat.le_refl _, Nat.zero_le _, fun _ => rfl⟩
  · injection hv with ha hn hc'
    subst ha
    exact ⟨by omega, by omega, fun h => by simp at h⟩
theorem own_lies {w : World} {B T sz n : Nat} {a : Option Addr} {cap : Nat} {xs : List Value} (h : w.ownsRow B T sz (.slice a n cap) n xs) : Lies w a n xs := by
  rcases h.2 with ⟨e, h0⟩ | ⟨g, cap', cur, hv, hB, hh, hcc, hcm, -⟩
  · exact .inl h0
  · injection hv with ha hn hc'
    subst ha
    refine .inr ⟨g, 0, rfl, fun j u hj => ?_⟩
    have hlt : j < xs.length := (List.getElem?_eq_some_iff.1 hj).1
    rw [Nat.zero_add, h.cellAt j (by rw [← h.1]; exact hlt)]
    exact hj
theorem OwnBare.bare {w : World} {B : Nat} {m : Mp} {s : MV} (h : OwnBare w B m s) : BareAt w m s := by
  have hc := own_caps h.trs
  exact ⟨(nds_own h.nds h.ndl).1, (nds_own h.nds h.ndl).2, h.aT, h.lT, h.cT, h.tms, h.past, h.trl, ⟨hc.1, hc.2.1⟩, hc.2.2, own_lies h.trs⟩
theorem BareAt.map {w : World} {m : Mp} {s : MV} (h : BareAt w m s) : MapAt w m s := by
  refine ⟨h.nds, h.nilN, ?_, ?_⟩
  · rw [h.aT, h.lT, h.cT, h.tms]
    exact TmsAt.nil w
  · refine ⟨h.trl, h.cap.1, h.cap.2, h.nilR, ?_⟩
    rcases h.trs with h0 | ⟨b, off, e, hc⟩
    · exact .inl h0
    · refine .inr ⟨b, off, e, fun i hi => ?_⟩
      have hl := h.trl
      have hb : i < (barePairs m.trs).length := by unfold barePairs; rw [List.length_map]; omega
      obtain ⟨g0, g1⟩ := pairCells_get (barePairs m.trs) i hb
      have hx : m.trs.getD i tr0 = m.trs[i]'(by omega) := by simp [show i < m.trs.length by omega]
      have hp : (m.trs.getD i tr0).past = [] := by rw [hx]; exact h.past _ (List.getElem_mem _)
      have e0 : (barePairs m.trs)[i] = ((m.trs.getD i tr0).since, .slice none 0 0) := by rw [hx]; simp [barePairs]
      rw [e0] at g0 g1
      exact ⟨hc _ _ g0, none, 0, 0, by rw [Nat.add_assoc]; exact hc _ _ g1, by rw [hp]; exact TmsAt.nil w⟩
theorem copySpan_nil (w : World) : Calls Tryz.prog 63 #[.slice none 0 0] w fun e w' => e = .returned (.slice none 0 0) ∧ w' = w := by
  obtain ⟨i0, hi, hz0, hz1, hz2⟩ := info_parts infoSpan8
  have H0 := own_nothing w w.heap.size 55 2
  go_enter Tryz.func63, Tryz.ntmps63
  go_wp2_with (at_builtin; refine wpList_append_own_none rfl _ _ 51 rfl w.heap.size 55 i0 2 Tryz.underlying51 hi _ _ _ rfl H0 rfl ?_)
  go_ret
  exact ⟨rfl, rfl⟩
theorem copyTemp_nil (w : World) : Calls Tryz.prog 60 #[.slice none 0 0] w fun e w' => e = .returned (.slice none 0 0) ∧ w' = w := by
  obtain ⟨i0, hi, hz0, hz1, hz2⟩ := info_parts infoTemp8
  have H0 := own_nothing w w.heap.size 59 2
  go_enter Tryz.func60, Tryz.ntmps60
  go_wp2_with (at_builtin; refine wpList_append_own_none rfl _ _ 23 rfl w.heap.size 59 i0 2 Tryz.underlying23 hi _ _ _ rfl H0 rfl ?_)
  go_ret
  exact ⟨rfl, rfl⟩
theorem bare_new {w : World} {p n : Nat} (s l : Int) (h8 : n ≤ 8) (h : w.ownsRow 0 53 2 (.slice (some ⟨p, 0, none⟩) n n) n (pairCells (List.replicate n (0, .slice none 0 0)))) : BareAt w (newM s l n) ⟨none, 0, 0, none, 0, 0, some ⟨p, 0, none⟩, n, n⟩ := by
  have et : (newM s l n).trs = List.replicate n tr0 := by simp [newM]
  have eb : barePairs (newM s l n).trs = List.replicate n (0, .slice none 0 0) := by rw [et]; simp [barePairs, tr0]
  refine ⟨NdsAt.nil _, fun _ => rfl, rfl, rfl, rfl, rfl, ?_, ?_, ⟨Nat.le_refl _, by unfold maxLen; show n ≤ _; omega⟩, fun h => by simp at h, ?_⟩
  · intro t ht
    rw [et] at ht
    rw [(List.mem_replicate.1 ht).2]
    rfl
  · rw [et]; simp
  · rw [eb]
    exact own_lies h
theorem new_ok {s l : Int} {n : Nat} (h : CountOk s l n) : BareOk (newM s l n) := by
  have et : (newM s l n).trs = List.replicate n tr0 := by simp [newM]
  refine ⟨Int.le_refl _, by show (0 : Int) ≤ _; decide, h, ⟨Nat.zero_le _, fun i hi => by simp [newM] at hi⟩, rfl, ?_, ?_⟩
  · rw [et]; simp [newM]
  · intro t ht
    rw [et] at ht
    rw [(List.mem_replicate.1 ht).2]
    exact ⟨rfl, Int.le_refl _, Int.le_refl _⟩
end Go.Proofs.YtcncbjknfcjnmaaGreat.Tp
