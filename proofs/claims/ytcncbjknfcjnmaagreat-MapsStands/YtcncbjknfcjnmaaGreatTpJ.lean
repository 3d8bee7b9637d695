/-
  Choices as they lie; the contract of weigh.
-/
import Derived.Test.YtcncbjknfcjnmaaGreatTpI
import Derived.Test.YtcncbjknfcjnmaaGreatTpC
namespace Go.Proofs.YtcncbjknfcjnmaaGreat.Tp
open Go.ChangeShapes Go.WideShapes Go.ChangeAt Go.RowKit
/-- a choice -/
abbrev Ch := Int × Int
def ch0 : Ch := (0, 0)
def ChsAt (w : World) (a : Option Addr) (len cap : Nat) (ls : List Ch) : Prop :=
  ls.length = len ∧ len ≤ cap ∧ cap ≤ maxLen ∧ (len = 0 ∨ ∃ b off, a = some ⟨b, off, none⟩ ∧ ∀ i, i < len → w.cell? ⟨b, off + i * 2, none⟩ = some (.int .i64 (ls.getD i ch0).1) ∧ w.cell? ⟨b, off + i * 2 + 1, none⟩ = some (.int .i64 (ls.getD i ch0).2))
theorem ChsAt.below {w w' : World} {a : Option Addr} {len cap : Nat} {ls : List Ch} (h : ChsAt w a len cap ls) (hb : Below w.heap.size w w') : ChsAt w' a len cap ls := by
  refine ⟨h.1, h.2.1, h.2.2.1, ?_⟩
  rcases h.2.2.2 with h0 | ⟨b, off, e, hc⟩
  · exact .inl h0
  · refine .inr ⟨b, off, e, fun i hi => ?_⟩
    obtain ⟨c0, c1⟩ := hc i hi
    have hlt : b < w.heap.size := World.block_lt_of_cell? w ⟨b, off + i * 2, none⟩ c0
    exact ⟨(hb.cell (p := ⟨b, off + i * 2, none⟩) hlt).trans c0, (hb.cell (p := ⟨b, off + i * 2 + 1, none⟩) hlt).trans c1⟩
theorem ChsAt.some {w : World} {a : Option Addr} {len cap : Nat} {ls : List Ch} (h : ChsAt w a len cap ls) (h0 : 0 < len) :
    ∃ b off, a = Option.some ⟨b, off, none⟩ ∧ b < w.heap.size ∧ ∀ i, i < len → w.cell? ⟨b, off + i * 2, none⟩ = Option.some (.int .i64 (ls.getD i ch0).1) ∧ w.cell? ⟨b, off + i * 2 + 1, none⟩ = Option.some (.int .i64 (ls.getD i ch0).2) := by
  rcases h.2.2.2 with h | ⟨b, off, e, h⟩
  · omega
  · exact ⟨b, off, e, World.block_lt_of_cell? w ⟨b, off + 0 * 2, none⟩ (h 0 h0).1, h⟩
def chCells (c : Ch) : List Value := [.int .i64 c.1, .int .i64 c.2]
def cellsC (l : List Ch) : List Value := l.flatMap chCells
theorem cellsC_get (l : List Ch) : ∀ i, i < l.length → (cellsC l)[i * 2]? = some (.int .i64 (l.getD i ch0).1) ∧ (cellsC l)[i * 2 + 1]? = some (.int .i64 (l.getD i ch0).2) := by
  induction l with
  | nil => intro i h; simp at h
  | cons c l ih =>
    intro i h
    cases i with
    | zero => exact ⟨rfl, rfl⟩
    | succ i =>
      have h1 := ih i (by simpa using h)
      have e : ∀ j, (cellsC (c :: l))[(i + 1) * 2 + j]? = (cellsC l)[i * 2 + j]? := fun j => by
        unfold cellsC
        rw [List.flatMap_cons, show (i + 1) * 2 + j = (chCells c).length + (i * 2 + j) from by simp [chCells]; omega, List.getElem?_append_right (by omega), Nat.add_sub_cancel_left]
      exact ⟨(e 0).trans h1.1, (e 1).trans h1.2⟩
theorem chs_own {w : World} {B n cap : Nat} {a : Option Addr} {l : List Ch} (h : w.ownsRow B 148 2 (.slice a n cap) n (cellsC l)) (hn : l.length = n) : ChsAt w a n cap l := by
  rcases h.2 with ⟨hv, h0⟩ | ⟨g, cap', cur, hv, hB, hh, hc, hm, _⟩
  · injection hv with ha hn' hc
    exact ⟨hn, by omega, by rw [hc]; exact Nat.zero_le _, .inl h0⟩
  · injection hv with ha hn' hc'
    subst ha
    subst hc'
    refine ⟨hn, hc, hm, .inr ⟨g, 0, rfl, fun i hi => ?_⟩⟩
    obtain ⟨h0, h1⟩ := cellsC_get l i (by omega)
    rw [Nat.zero_add]
    exact ⟨(h.cellAt (i * 2) (by omega)).trans h0, (h.cellAt (i * 2 + 1) (by omega)).trans h1⟩
theorem cellsC_set {l : List Ch} {k : Nat} (hk : k < l.length) (x y : Int) : ((cellsC l).set (k * 2) (.int .i64 x)).set (k * 2 + 1) (.int .i64 y) = cellsC (l.set k (x, y)) := by
  induction l generalizing k with
  | nil => simp at hk
  | cons c l ih =>
    cases k with
    | zero => rfl
    | succ k =>
      have h := ih (k := k) (by simpa using hk)
      have e0 : (k + 1) * 2 = k * 2 + 2 := by omega
      rw [e0, show k * 2 + 2 + 1 = (k * 2 + 1) + 2 by omega]
      show Value.int .i64 c.1 :: Value.int .i64 c.2 :: ((cellsC l).set (k * 2) (.int .i64 x)).set (k * 2 + 1) (.int .i64 y) = _
      rw [h]
      rfl
theorem cellsC_zero (n : Nat) : cellsC (List.replicate n ch0) = List.replicate (n * 2) (.int .i64 0) := by
  induction n with
  | zero => rfl
  | succ n ih =>
    rw [show (n + 1) * 2 = n * 2 + 1 + 1 by omega, List.replicate_succ, List.replicate_succ, List.replicate_succ, ← ih]
    rfl
theorem made_two (z : Value) (m : Nat) : (madeCells #[z, z] m).toList = List.replicate m z := by
  apply List.ext_getElem?
  intro i
  by_cases hi : i < m
  · rw [List.getElem?_replicate, if_pos hi, Array.getElem?_toList]
    unfold madeCells
    have h2 : i % 2 = 0 ∨ i % 2 = 1 := by omega
    rcases h2 with h | h <;> simp [hi, h]
  · rw [List.getElem?_eq_none (by simp [size_madeCells]; omega), List.getElem?_eq_none (by simp; omega)]
theorem info35 : (Tryz.prog.info? 148).map (fun i => (i.zero, i.size, i.bytes)) = some (some (.agg #[.int .i64 0, .int .i64 0]), 2, 16) := by kernel_rfl
/-- what is told of a load: nothing above 65536 -/
def told (c : Ld) : Ch := (c.1, min c.2.2 65536)
/-- the first k of these, none yet behind them -/
def fillC (out : List Ch) (n k : Nat) : List Ch := out.take k ++ List.replicate (n - k) ch0
theorem fill_len {out : List Ch} {n k : Nat} (h : out.length = n) (hk : k ≤ n) : (fillC out n k).length = n := by
  unfold fillC; simp; omega
theorem fill_next {out : List Ch} {n k : Nat} (h : out.length = n) (hk : k < n) : (fillC out n k).set k (out.getD k ch0) = fillC out n (k + 1) := by
  unfold fillC
  have hl : (out.take k).length = k := by simp; omega
  obtain ⟨m, hm⟩ : ∃ m, n - k = m + 1 := ⟨n - k - 1, by omega⟩
  have hg : out.getD k ch0 = out[k]'(by omega) := by simp [show k < out.length by omega]
  rw [List.set_append_right _ _ (by omega), hl, Nat.sub_self, hm, List.replicate_succ, List.set_cons_zero, show n - (k + 1) = m by omega, List.take_succ_eq_append_getElem (by omega), hg, List.append_assoc]
  rfl
theorem fill_end {out : List Ch} {n : Nat} (h : out.length = n) : fillC out n n = out := by
  unfold fillC
  rw [Nat.sub_self, List.replicate_zero, List.append_nil, List.take_of_length_le (by omega)]
def WeighIs (f : Nd → Int × Int) (zone rack : Int) (ls : List Nd) (out : List Ch) : Prop :=
  (MayN ls ∧ ∃ L', L'.Perm (loadsF f zone rack ls) ∧ SortedL L' ∧ out = L'.map told) ∨ (¬ MayN ls ∧ out = [])
def WeighPost (f : Nd → Int × Int) (zone rack : Int) (ls : List Nd) (w : World) (e : Ending) (w' : World) : Prop :=
  Below w.heap.size w w' ∧ ∃ a cap out, e = .returned (.slice a out.length cap) ∧ ChsAt w' a out.length cap out ∧ out.length ≤ 12 ∧ WeighIs f zone rack ls out
theorem loadsF_len (f : Nd → Int × Int) (zone rack : Int) (ls : List Nd) : (loadsF f zone rack ls).length ≤ ls.length := by
  unfold loadsF
  have h : ∀ (l : List Nd) (L : List Ld), (l.foldl (stepL f) L).length ≤ L.length + l.length := by
    intro l
    induction l with
    | nil => intro L; simp
    | cons x l ih =>
      intro L
      rw [List.foldl_cons]
      have h1 := ih (stepL f L x)
      have h2 : (stepL f L x).length ≤ L.length + 1 := putL_len _ _ _ _
      simp
      omega
  have h1 := h (ls.filter (selN zone rack)) []
  have h2 := List.length_filter_le (selN zone rack) ls
  simp at h1
  omega
theorem none_post {f : Nd → Int × Int} {zone rack : Int} {ls : List Nd} {w w' : World} (hb : Below w.heap.size w w') (hN : ¬ MayN ls) : WeighPost f zone rack ls w (.returned (.slice none 0 0)) w' :=
  ⟨hb, none, 0, [], rfl, ⟨rfl, Nat.le_refl _, Nat.zero_le _, .inl rfl⟩, Nat.zero_le _, .inr ⟨hN, rfl⟩⟩
set_option maxHeartbeats 4000000 in
set_option maxRecDepth 60000 in
theorem weigh_of (f : Nd → Int × Int) (fv : Value) (a : Option Addr) (len cap : Nat) (ls : List Nd) (zone rack : Int) (w : World) (h : NdsAt w a len cap ls)
    (hfv : MayN ls → ∀ W : World, NdsAt W a len cap ls → Calls Tryz.prog 196 #[.slice a len cap, .int .i64 zone, .int .i64 rack, fv] W fun e w' => LoadsPost f zone rack ls W e w') :
    Calls Tryz.prog 179 #[.slice a len cap, .int .i64 zone, .int .i64 rack, fv] w fun e w' => WeighPost f zone rack ls w e w' := by
  have HC : Hid (Calls Tryz.prog 40 #[.slice a len cap] w fun e w' => ErrPost (MayN ls) w e w') := check_any a len cap ls w h
  have HL : Hid (NdsAt w a len cap ls) := h
  have HF : Hid (MayN ls → ∀ W : World, NdsAt W a len cap ls → Calls Tryz.prog 196 #[.slice a len cap, .int .i64 zone, .int .i64 rack, fv] W fun e w' => LoadsPost f zone rack ls W e w') := hfv
  clear h hfv
  obtain ⟨i0, hi, hz0, hz1, hz2⟩ := info_parts info35
  go_enter Tryz.func179, Tryz.ntmps179
  go_wp2_with fail
  refine HC.out.mono ?_
  rintro e w2 ⟨hb2, ⟨rfl, hM⟩ | ⟨rfl, hN⟩⟩
  · have HLD : Hid (Calls Tryz.prog 196 #[.slice a len cap, .int .i64 zone, .int .i64 rack, fv] w2 fun e w' => LoadsPost f zone rack ls w2 e w') := HF.out hM w2 (HL.out.below hb2)
    have h12 : (loadsF f zone rack ls).length ≤ 12 := Nat.le_trans (loadsF_len _ _ _ _) hM.1
    have HM : Hid (MayN ls) := hM
    clear hM HF HC
    go_wp2_with fail
    refine HLD.out.mono ?_
    rintro e w3 ⟨lv, rfl, hown, hb3⟩
    have HW : Hid (∀ L', L'.Perm (loadsF f zone rack ls) → SortedL L' → WeighIs f zone rack ls (L'.map told)) := fun L' h1 h2 => .inl ⟨HM.out, L', h1, h2, rfl⟩
    have HPL : Hid (∀ L' : List Ld, L'.Perm (loadsF f zone rack ls) → L'.length = (loadsF f zone rack ls).length) := fun L' h1 => h1.length_eq
    have HS : Hid (Calls Tryz.prog 197 #[lv, .func (.func 198) #[] #[]] w3 fun e w' => e = .returned (.tuple #[]) ∧ SortPost w2.heap.size lv (loadsF f zone rack ls) w3 w') := sort_any lv _ w3 hown h12
    have HLT : Hid (∀ k, lv.ownBlock = some k → w2.heap.size ≤ k ∧ k < w3.heap.size) := hown.lt
    clear hown HLD HM HL
    go_wp2_with fail
    refine HS.out.mono ?_
    rintro e w4 ⟨rfl, ⟨L', hp, hs, hown⟩, hg⟩
    clear HS
    have hb4 : Below w2.heap.size w2 w4 := hb3.grown hg hb3.size (fun j hj => (HLT.out j hj).1)
    have hbw4 : Below w.heap.size w w4 := below2 hb2 hb4
    have HWI : Hid (WeighIs f zone rack ls (L'.map told)) := HW.out L' hp hs
    have hll := HPL.out L' hp
    clear hg HLT HW HPL hp hs hb4 hb3 hb2
    generalize (loadsF f zone rack ls).length = n at *
    obtain ⟨al, capl, rfl, hcl⟩ := own_slice hown
    have HLA : Hid (0 < n → ∃ g, al = some ⟨g, 0, none⟩ ∧ g < w4.heap.size ∧ LdsAt w4 g L') := fun h0 => by
      obtain ⟨g, c', hv, -, hg, -⟩ := own_some hown h0
      injection hv with ha hn hc
      subst ha
      exact ⟨g, rfl, hg, lds_own hown hll.symm⟩
    clear hown
    have h12' : (n : Int) ≤ 12 := by omega
    obtain ⟨wM, hmk, hownM, hgM⟩ := run_make_full (P := Tryz.prog) w4 w4.heap.size 122 148 i0 (.agg #[.int .i64 0, .int .i64 0]) 2 Tryz.underlying122 hi hz0 hz1 .i64 .i64 n (by rw [hz2]; omega) (by unfold maxLen; omega) (Nat.le_refl _)
    have hbM : Below w4.heap.size w4 wM := ⟨hgM.os, hgM.tape, hgM.output, hgM.size, fun k hk => hgM.block k hk (by simp)⟩
    have hxs : (madeCells (Value.agg #[.int .i64 0, .int .i64 0]).cells (n * 2)).toList = cellsC (fillC (L'.map told) n 0) := by
      have e1 : fillC (L'.map told) n 0 = List.replicate n ch0 := by unfold fillC; simp
      rw [e1, cellsC_zero]
      exact made_two _ _
    have HOM : Hid (wM.ownsRow w4.heap.size 148 2 (.slice (some ⟨w4.heap.size, 0, none⟩) n n) n (cellsC (fillC (L'.map told) n 0))) := by rw [← hxs]; exact hownM
    clear hownM hgM hxs hi hz0 hz1 hz2
    go_wp2_with fail
    clear hmk
    go_loopw [28] (fun i wr => ∃ k : Nat, k ≤ n ∧ i = .int .i64 k ∧ Hid (wr.ownsRow w4.heap.size 148 2 (.slice (some ⟨w4.heap.size, 0, none⟩) n n) n (cellsC (fillC (L'.map told) n k))) ∧ Below w4.heap.size w4 wr) (fun i _ => n - (intOf i).toNat)
    case atStart => exact ⟨0, Nat.zero_le _, rfl, HOM, hbM⟩
    case round =>
      obtain ⟨k, hk, rfl, hT, hbel⟩ := hrel
      by_cases hlt : k < n
      · obtain ⟨g, rfl, hg, hat⟩ := HLA.out (by omega)
        obtain ⟨e0, e1, e2⟩ := (hat.below hg hbel) k (by omega)
        have hk1 : (k : Int) < (n : Int) := by omega
        have hk0 : (0 : Int) ≤ (k : Int) := by omega
        have hlm : (L'.map told).length = n := by simp [hll]
        have HNX := fill_next hlm hlt
        have hgx : (L'.map told).getD k ch0 = told (L'.getD k ld0) := by simp [show k < L'.length by omega]
        rw [hgx] at HNX
        have hfl := fill_len hlm hk
        obtain ⟨m0, m1⟩ := cellsC_get (fillC (L'.map told) n k) k (by omega)
        have HST := fun x y => cellsC_set (l := fillC (L'.map told) n k) (k := k) (by omega) x y
        clear hgx
        generalize L'.getD k ld0 = x at *
        obtain ⟨x1, x2, x3⟩ := x
        have hown4 := own_alloc hT.out (.cells #[.int .i64 x1, .int .i64 x2, .int .i64 x3] 212)
        have c4 := (hown4.cellAt (k * 2) (by omega)).trans m0
        have d4 := (hown4.cellAt (k * 2 + 1) (by omega)).trans m1
        have f4 := hown4.frozenAt (k * 2)
        have f5 := hown4.frozenAt (k * 2 + 1)
        have hsz := hbel.size
        simp only at e0 e1 e2
        have et : told (x1, x2, x3) = (x1, min x3 65536) := rfl
        rw [et] at HNX
        clear et
        have HO5 : Hid _ := ((hown4.stored (k * 2) (.int .i64 x1)).1.stored (k * 2 + 1) (.int .i64 (min x3 65536))).1
        rw [HST, HNX] at HO5
        have hb5 : Below w4.heap.size w4 (((wr.alloc (.cells #[.int .i64 x1, .int .i64 x2, .int .i64 x3] 212)).setCell ⟨w4.heap.size, k * 2, none⟩ (.int .i64 x1)).setCell ⟨w4.heap.size, k * 2 + 1, none⟩ (.int .i64 (min x3 65536))) := ((below2 hbel (below_alloc _ _)).setCell (p := ⟨w4.heap.size, k * 2, none⟩) (Nat.le_refl _) _).setCell (p := ⟨w4.heap.size, k * 2 + 1, none⟩) (Nat.le_refl _) _
        clear HNX HST hown4 hT hat m0 m1
        go_wp2_with fail
        exact ⟨⟨k + 1, by omega, by go_num, HO5, hb5⟩, by simp [intOf]; omega⟩
      · obtain rfl : k = n := by omega
        have HI : Hid (ChsAt wr (some ⟨w4.heap.size, 0, none⟩) k k (L'.map told)) := by
          have := hT.out
          rw [fill_end (by simp [hll])] at this
          exact chs_own this (by simp [hll])
        clear hT
        go_wp2_with fail
        go_ret
        have e1 : (L'.map told).length = k := by simp [hll]
        exact ⟨below2 hbw4 hbel, some ⟨w4.heap.size, 0, none⟩, k, L'.map told, by rw [e1]; rfl, by rw [e1]; exact HI.out, by omega, HWI.out⟩
  · have HN : Hid (¬ MayN ls) := hN
    clear hN HF HC HL
    go_wp2_with fail
    go_ret
    exact none_post hb2 HN.out
end Go.Proofs.YtcncbjknfcjnmaaGreat.Tp
