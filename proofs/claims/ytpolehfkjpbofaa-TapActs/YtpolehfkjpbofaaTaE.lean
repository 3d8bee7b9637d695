/-
  The contracts of Counts, least and Spread.
-/
import Derived.Test.YtpolehfkjpbofaaTaD
namespace Go.Proofs.Ytpolehfkjpbofaa.Ta
open Go.ChangeShapes Go.WideShapes Go.ChangeAt Go.RowKit
open Go.Conc (G solo rcase scase)
theorem TapG.below {B : Nat} {w w' : World} {p : Nat} {P : List (List Int)} {R t g : Nat} {cs : List Nat} (h : TapG B w p P R t g cs) (hb : Below w.heap.size w w') : TapG B w' p P R t g cs :=
  ⟨h.bp, h.bg, h.bc, h.nd, h.len, h.box.kept (hb.block _ h.box.lt), (hb.block _ h.row.lt).trans h.row, fun i c hc => by
    obtain ⟨s, r, hh⟩ := h.chs i c hc
    exact ⟨s, r, (hb.block _ (Array.getElem?_eq_some_iff.1 hh).1).trans hh⟩⟩
theorem TapAt.below {B : Nat} {w w' : World} {p : Nat} {P : List (List Int)} {R t : Nat} (h : TapAt B w p P R t) (hb : Below w.heap.size w w') : TapAt B w' p P R t := by
  obtain ⟨g, cs, h⟩ := h
  exact ⟨g, cs, h.below hb⟩
def IntsAt (w : World) (a : Option Addr) (l : List Int) : Prop := l = [] ∨ ∃ b, a = some ⟨b, 0, none⟩ ∧ b < w.heap.size ∧ ∀ i, i < l.length → w.cell? ⟨b, i, none⟩ = some (.int .i64 (l.getD i 0))
/-- how many are in each -/
def cntsP (P : List (List Int)) : List Int := P.map fun l => (l.length : Int)
theorem cntsP_len (P : List (List Int)) : (cntsP P).length = P.length := by simp [cntsP]
theorem cntsP_get (P : List (List Int)) {i : Nat} (h : i < P.length) : (cntsP P).getD i 0 = ((P.getD i []).length : Int) := by simp [cntsP, h]
/-- new ints, told -/
def IntsPost (l : List Int) (w : World) (e : Ending) (w' : World) : Prop := ∃ a, e = .returned (.slice a l.length l.length) ∧ (IntsAt w' a l ∧ ∀ b, a = some ⟨b, 0, none⟩ → w.heap.size ≤ b) ∧ Below w.heap.size w w'
/-- the first so many of one list, then noughts -/
def mixL (l : List Int) (i : Nat) : List Int := l.take i ++ List.replicate (l.length - i) 0
theorem mixL_zero (l : List Int) : mixL l 0 = List.replicate l.length 0 := by simp [mixL]
theorem mixL_all (l : List Int) : mixL l l.length = l := by simp [mixL]
theorem mixL_set (l : List Int) {i : Nat} (h : i < l.length) : (mixL l i).set i (l.getD i 0) = mixL l (i + 1) := by
  apply List.ext_getElem?
  intro j
  unfold mixL
  rw [List.getElem?_set]
  by_cases e : i = j
  · subst e
    rw [if_pos rfl]
    grind
  · simp only [e, if_false, List.getElem?_append, List.length_take, List.getElem?_take, List.getElem?_replicate]
    grind
theorem info3z : (Try.prog.info? 3).map (fun i => (i.zero, i.size, i.bytes)) = some (some (.int .i64 0), 1, 8) := by kernel_rfl
theorem info55z : (Try.prog.info? 55).map (fun i => (i.zero, i.size, i.bytes)) = some (some (.chan none), 1, 8) := by kernel_rfl
theorem info_parts {T : Nat} {z : Option Value} {s b : Nat} (h : (Try.prog.info? T).map (fun i => (i.zero, i.size, i.bytes)) = some (z, s, b)) : ∃ i, Try.prog.info? T = some i ∧ i.zero = z ∧ i.size = s ∧ i.bytes = b := by
  obtain ⟨i, hi, hb⟩ := Option.map_eq_some_iff.1 h
  simp at hb
  exact ⟨i, hi, hb.1, hb.2.1, hb.2.2⟩
theorem makeI (n : Nat) (hn : (n : Int) ≤ 1000) (w : World) : (Instr.makeSlice 44 (.int .i64 (n : Int)) (.int .i64 (n : Int))).run Try.prog w = .ok (.slice (some ⟨w.heap.size, 0, none⟩) n n) (w.alloc (.cells (intsV (List.replicate n 0)).toArray 3)) := by
  obtain ⟨i0, hi, hz0, hz1, hz2⟩ := info_parts info3z
  have e := run_make (P := Try.prog) w 44 3 i0 (.int .i64 0) Try.underlying44 hi hz0 .i64 .i64 n n (by omega) (by omega) (by rw [hz2]; omega) (by omega)
  rw [e, hz1]
  have e2 : madeCells (Value.int .i64 0).cells ((n : Int).toNat * 1) = (intsV (List.replicate n 0)).toArray := by
    apply Array.toList_inj.1
    rw [show (Value.int .i64 0).cells = #[Value.int .i64 0] from rfl, toList_madeCells_one]
    simp [intsV]
  rw [e2]
  rfl
theorem makeC (n : Nat) (hn : (n : Int) ≤ 1000) (w : World) : (Instr.makeSlice 51 (.int .i64 (n : Int)) (.int .i64 (n : Int))).run Try.prog w = .ok (.slice (some ⟨w.heap.size, 0, none⟩) n n) (w.alloc (.cells (List.replicate n (Value.chan none)).toArray 55)) := by
  obtain ⟨i0, hi, hz0, hz1, hz2⟩ := info_parts info55z
  have e := run_make (P := Try.prog) w 51 55 i0 (.chan none) Try.underlying51 hi hz0 .i64 .i64 n n (by omega) (by omega) (by rw [hz2]; omega) (by omega)
  rw [e, hz1]
  have e2 : madeCells (Value.chan none).cells ((n : Int).toNat * 1) = (List.replicate n (Value.chan none)).toArray := by
    apply Array.toList_inj.1
    rw [show (Value.chan none).cells = #[Value.chan none] from rfl, toList_madeCells_one]
    simp
  rw [e2]
  rfl
theorem counts_none (v : Value) (w : World) (h : Cnt w v 0) : Calls Try.prog 18 #[v] w fun e w' => IntsPost [] w e w' := by
  have H := Hid.mk9 h
  have hmk := makeI 0 (by decide) w
  have HE := Hid.mk9 (show IntsPost [] w (.returned (.slice (some ⟨w.heap.size, 0, none⟩) 0 0)) (w.alloc (.cells (intsV (List.replicate 0 0)).toArray 3)) from ⟨_, rfl, ⟨.inl rfl, fun b hb => by simp at hb; omega⟩, (Below.refl _ _).alloc (Nat.le_refl _) _⟩)
  generalize World.alloc _ _ = W9 at HE hmk
  simp only [Int.cast_ofNat_Int] at hmk
  clear h
  go_enter Try.func18, Try.ntmps18
  go_wp2_with (go_at_call 21; refine H.out.mono ?_; rintro e w' ⟨rfl, rfl⟩)
  go_rounds 1
  go_ret
  exact HE.out
theorem rw_set {w : World} {g T : Nat} {l : List Int} (h : Rw w g T (intsV l)) (i : Nat) (x : Int) : Rw (w.setCell ⟨g, i, none⟩ (.int .i64 x)) g T (intsV (l.set i x)) := by
  have := heap_setCell_same w g i _ _ (.int .i64 x) h
  unfold Rw
  rw [this]
  simp [intsV]
theorem Rw.fz {w : World} {g T : Nat} {l : List Value} (h : Rw w g T l) (i : Nat) : w.frozen? ⟨g, i, none⟩ = false := by
  unfold World.frozen?; rw [show w.heap[(⟨g, i, none⟩ : Addr).block]? = _ from h]; simp
theorem Rw.new (w : World) (T : Nat) (l : List Value) : Rw (w.alloc (.cells l.toArray T)) w.heap.size T l := heap_alloc_new w _
theorem rw_ints {w : World} {g T : Nat} {l : List Int} (h : Rw w g T (intsV l)) : IntsAt w (some ⟨g, 0, none⟩) l := by
  refine .inr ⟨g, rfl, h.lt, fun i hi => h.cell ?_⟩
  simp [intsV, hi]
set_option maxRecDepth 60000 in
theorem counts_any (B p R t k : Nat) (P : List (List Int)) (w : World) (h : TapAt B w p P R t) (hl : P.length = k) (hk : k ≤ 8) :
    Calls Try.prog 18 #[.pointer (some ⟨p, 0, none⟩)] w fun e w' => IntsPost (cntsP P) w e w' := by
  have H := Hid.mk9 (cnt_tap h)
  rw [hl] at H
  obtain ⟨g, cs, h⟩ := h
  have HT := Hid.mk9 h
  have HL := Hid.mk9 hl
  have hm : (k : Int) ≤ 8 := by omega
  have hmk := makeI k (by omega) w
  have HB : Hid (Below w.heap.size w (w.alloc (.cells (intsV (List.replicate k 0)).toArray 3))) := ⟨(Below.refl _ _).alloc (Nat.le_refl _) _⟩
  have HRw : Hid (Rw (w.alloc (.cells (intsV (List.replicate k 0)).toArray 3)) w.heap.size 3 (intsV (mixL (cntsP P) 0))) := ⟨by rw [mixL_zero, cntsP_len, hl]; exact Rw.new _ _ _⟩
  generalize World.alloc _ _ = W9 at HB HRw hmk
  clear h hl hk
  go_enter Try.func18, Try.ntmps18
  go_wp2_with (go_at_call 21; refine H.out.mono ?_; rintro e w' ⟨rfl, rfl⟩)
  go_loopw [10] (fun i wr => ∃ n : Nat, n ≤ k ∧ i = .int .i64 n ∧ Hid (Below w'.heap.size w' wr) ∧ Hid (Rw wr w'.heap.size 3 (intsV (mixL (cntsP P) n)))) (fun i _ => k - (intOf i).toNat)
  case atStart => exact ⟨0, Nat.zero_le _, rfl, HB, HRw⟩
  case round =>
    obtain ⟨n, hn, rfl, hb, hrw⟩ := hrel
    clear hmk HRw HB
    by_cases hlt : n < k
    · have hn1 : (n : Int) < (k : Int) := by omega
      have hT := HT.out.below hb.out
      have h1 := hT.box.c0
      rw [HL.out] at h1
      obtain ⟨c, hc, hB, h3⟩ := hT.lt (i := n) (by rw [HL.out]; exact hlt)
      obtain ⟨s, r, hh⟩ := hT.chs _ c hc
      have hlen := Go.Conc.run_len_chan (P := Try.prog) (w := wr) 55 3 Try.underlying55 hh
      have h4 := hrw.out.cell (i := n) (v := .int .i64 ((mixL (cntsP P) n).getD n 0)) (by have : n < (mixL (cntsP P) n).length := by { simp [mixL, cntsP_len, HL.out]; omega }; simp [intsV, this])
      have h5 := hrw.out.fz n
      have HN : Hid (Rw (wr.setCell ⟨w'.heap.size, n, none⟩ (.int .i64 ((P.getD n []).length : Int))) w'.heap.size 3 (intsV (mixL (cntsP P) (n + 1)))) := ⟨by
        rw [← mixL_set _ (by rw [cntsP_len, HL.out]; exact hlt), cntsP_get P (by rw [HL.out]; exact hlt)]
        exact rw_set hrw.out n ((P.getD n []).length : Int)⟩
      have HB2 : Hid (Below w'.heap.size w' (wr.setCell ⟨w'.heap.size, n, none⟩ (.int .i64 ((P.getD n []).length : Int)))) := ⟨hb.out.setCell (p := ⟨w'.heap.size, n, none⟩) (Nat.le_refl _) _⟩
      simp only [List.size_toArray, intsV_len] at hlen
      generalize (P.getD n []).length = m at *
      clear hh hc hB hT hrw hb
      generalize w'.heap.size = q at *
      go_wp2_with fail
      exact ⟨⟨n + 1, by omega, by go_num, HB2, HN⟩, by simp [intOf]; omega⟩
    · obtain rfl : n = k := by omega
      have HE : Hid (IntsPost (cntsP P) w' (.returned (.slice (some ⟨w'.heap.size, 0, none⟩) n n)) wr) := ⟨⟨_, by rw [cntsP_len, HL.out], ⟨rw_ints (by have := hrw.out; rwa [show n = (cntsP P).length by rw [cntsP_len, HL.out], mixL_all] at this), fun b hb => by simp at hb; omega⟩, hb.out⟩⟩
      go_wp2_with fail
      go_ret
      exact HE.out
end Go.Proofs.Ytpolehfkjpbofaa.Ta
