/-
  The law PlaceMoves.
-/
import Derived.Test.YtmifdjkaclgibaaPe
import Derived.Test.YtmifdjkaclgibaaPt
import Derived.Test.YtmifdjkaclgibaaTpD
import Derived.Test.YtmifdjkaclgibaaTpF
namespace Go.Proofs.Ytmifdjkaclgibaa.Tp
open Go.ChangeShapes Go.WideShapes Go.ChangeAt Go.RowKit
def cellsN (l : List Nd) : List Value := l.flatMap ndCells
theorem cellsN_length (l : List Nd) : (cellsN l).length = l.length * 6 := by
  induction l with
  | nil => rfl
  | cons x l ih =>
    unfold cellsN at *
    rw [List.flatMap_cons, List.length_append, ih]
    simp [ndCells]
    omega
theorem cellsN_get (l : List Nd) : ∀ i j, i < l.length → j < 6 → (cellsN l)[i * 6 + j]? = (ndCells (l.getD i nd0))[j]? := by
  induction l with
  | nil => intro i j h _; simp at h
  | cons c l ih =>
    intro i j h hj
    unfold cellsN
    rw [List.flatMap_cons]
    cases i with
    | zero =>
      rw [Nat.zero_mul, Nat.zero_add, List.getElem?_append_left (by simp [ndCells]; omega)]
      rfl
    | succ i =>
      rw [show (i + 1) * 6 + j = (ndCells c).length + (i * 6 + j) by simp [ndCells]; omega, List.getElem?_append_right (by omega), Nat.add_sub_cancel_left]
      exact ih i j (by simpa using h) hj
theorem cellsN_out {l : List Nd} {k : Nat} (h : k < l.length) : (cellsN l).set (k * 6 + 5) (.bool false) = cellsN (l.set k (outN (l.getD k nd0))) := by
  induction l generalizing k with
  | nil => simp at h
  | cons c l ih =>
    cases k with
    | zero => rfl
    | succ k =>
      have h1 := ih (k := k) (by simpa using h)
      show (ndCells c ++ cellsN l).set ((k + 1) * 6 + 5) (.bool false) = ndCells c ++ cellsN (l.set k (outN (l.getD k nd0)))
      rw [← h1, List.set_append_right _ _ (by simp [ndCells]; omega)]
      congr 2
      simp [ndCells]
      omega
theorem nds_own {w : World} {B n cap : Nat} {a : Option Addr} {l : List Nd} (h : w.ownsRow B 40 6 (.slice a n cap) n (cellsN l)) (hn : l.length = n) : NdsAt w a n cap l := by
  rcases h.2 with ⟨hv, h0⟩ | ⟨g, cap', cur, hv, hB, hh, hc, hm, _⟩
  · injection hv with ha hn' hc
    exact ⟨hn, by omega, by rw [hc]; exact Nat.zero_le _, .inl h0⟩
  · injection hv with ha hn' hc'
    subst ha
    subst hc'
    refine ⟨hn, hc, hm, .inr ⟨g, 0, rfl, fun i hi => ?_⟩⟩
    have hg := fun j (hj : j < 6) => (h.cellAt (i * 6 + j) (by omega)).trans (cellsN_get l i j (by omega) hj)
    rw [Nat.zero_add]
    exact ⟨hg 0 (by decide), hg 1 (by decide), hg 2 (by decide), hg 3 (by decide), hg 4 (by decide), hg 5 (by decide)⟩
theorem infoNd : (Try.prog.info? 40).map (fun i => (i.zero, i.size, i.bytes)) = some (some (.agg #[.int .i64 0, .int .i64 0, .int .i64 0, .int .i64 0, .bool false, .bool false]), 6, 40) := by kernel_rfl
theorem set_parts {l : List Nd} {k : Nat} (h : k < l.length) (y : Nd) : l = l.take k ++ l.getD k nd0 :: l.drop (k + 1) ∧ l.set k y = l.take k ++ y :: l.drop (k + 1) := by
  induction l generalizing k with
  | nil => simp at h
  | cons c l ih =>
    cases k with
    | zero => exact ⟨rfl, rfl⟩
    | succ k =>
      obtain ⟨h1, h2⟩ := ih (k := k) (by simpa using h)
      refine ⟨?_, ?_⟩
      · show c :: l = c :: (l.take k ++ l.getD k nd0 :: l.drop (k + 1))
        rw [← h1]
      · show c :: l.set k y = c :: (l.take k ++ y :: l.drop (k + 1))
        rw [h2]
/-- what the law asks of both answers -/
def MovesIs (ls : List Nd) (x : Nd) (oa ob Z : List Int) : Prop := Z.length = oa.length ∧ ∀ i, i < Z.length → ∃ n, findN ls (oa.getD i 0) = some n ∧ n.zone = Z.getD i 0 ∧ (n.id = x.id → n.zone = x.zone) ∧ ((∀ j, j ≤ i → Z.getD j 0 ≠ x.zone) → i < ob.length ∧ ob.getD i 0 = oa.getD i 0)
theorem moves_is {ls : List Nd} (hM : MayN ls) {k : Nat} (hk : k < ls.length) {g : Int} (hg : 0 ≤ g ∧ g ≤ 7) {oa ob : List Int} (ha : OfIs ls g 3 oa) (hb : OfIs (ls.set k (outN (ls.getD k nd0))) g 3 ob) : ∃ Z, MovesIs ls (ls.getD k nd0) oa ob Z ∧ oa.length ≤ 3 ∧ ob.length ≤ 3 := by
  obtain ⟨h1, h2⟩ := set_parts hk (outN (ls.getD k nd0))
  rw [h2] at hb
  generalize ls.take k = A at *
  generalize ls.drop (k + 1) = B at *
  generalize ls.getD k nd0 = x at *
  subst h1
  have hM' := may_out hM
  have ea : oa = ofP (A ++ x :: B) g 3 := by
    rcases ha with ⟨_, h⟩ | ⟨h, _⟩
    · exact h
    · exact absurd ⟨⟨hM, hg⟩, by decide, by decide⟩ h
  have eb : ob = ofP (A ++ outN x :: B) g 3 := by
    rcases hb with ⟨_, h⟩ | ⟨h, _⟩
    · exact h
    · exact absurd ⟨⟨hM', hg⟩, by decide, by decide⟩ h
  obtain ⟨Z, hZ1, hZ2⟩ := moves_plain hM g 3
  rw [← ea, ← eb] at hZ2
  rw [← ea] at hZ1
  exact ⟨Z, ⟨hZ1, hZ2⟩, by rw [ea]; exact of_len hM g 3, by rw [eb]; exact of_len hM' g 3⟩
theorem nds_cells {w : World} {b off len cap : Nat} {ls : List Nd} (h : NdsAt w (some ⟨b, off, none⟩) len cap ls) (h0 : 0 < len) : ∀ j u, (cellsN ls)[j]? = some u → w.cell? ((⟨b, off, none⟩ : Addr).add j) = some u := by
  intro j u hj
  obtain ⟨b', off', e, _, hc⟩ := h.some h0
  injection e with e
  injection e with e1 e2
  subst e1
  subst e2
  have hjl : j < ls.length * 6 := by
    rw [← cellsN_length]
    exact (List.getElem?_eq_some_iff.1 hj).1
  have hd : j = j / 6 * 6 + j % 6 := by omega
  have hm : j % 6 < 6 := Nat.mod_lt _ (by decide)
  have hi : j / 6 < len := by have := h.1; omega
  rw [addr_add]
  rw [hd, cellsN_get ls (j / 6) (j % 6) (by have := h.1; omega) hm] at hj
  rw [hd, ← Nat.add_assoc]
  generalize j / 6 = i at *
  generalize j % 6 = r at *
  obtain ⟨c0, c1, c2, c3, c4, c5⟩ := hc i hi
  have hr : r = 0 ∨ r = 1 ∨ r = 2 ∨ r = 3 ∨ r = 4 ∨ r = 5 := by omega
  rcases hr with rfl | rfl | rfl | rfl | rfl | rfl
  · exact c0.trans hj
  · exact c1.trans hj
  · exact c2.trans hj
  · exact c3.trans hj
  · exact c4.trans hj
  · exact c5.trans hj
theorem cellsN_one (l : List Nd) : ∀ u ∈ cellsN l, u.oneCell' = true := by
  intro u hu
  unfold cellsN at hu
  obtain ⟨x, _, hx⟩ := List.mem_flatMap.1 hu
  simp [ndCells] at hx
  rcases hx with rfl | rfl | rfl | rfl | rfl | rfl <;> rfl
set_option maxHeartbeats 4000000 in
set_option maxRecDepth 60000 in
theorem placeMoves_any (a : Option Addr) (len cap : Nat) (ls : List Nd) (g u : Int) (w : World) (h : NdsAt w a len cap ls) (hu : (Lit.int .u8 u).wf = true) : Calls Try.prog 5 #[.slice a len cap, .int .i64 g, .int .u8 u] w fun e w' => e = .returned (.bool true) ∧ Below w.heap.size w w' := by
  have hu2 : 0 ≤ u ∧ u ≤ 255 := by simpa [Lit.wf, IntKind.min, IntKind.max, IntKind.bits, IntKind.signed] using hu
  obtain ⟨hu0, hu1⟩ := hu2
  have hl : ls.length = len := h.1
  have hmx : len ≤ maxLen := Nat.le_trans h.2.1 h.2.2.1
  unfold maxLen at hmx
  have HL : Hid (NdsAt w a len cap ls) := h
  have HAW : Hid (∀ W : World, Calls Try.prog 11 #[] W fun e w' => TruePost W e w') := awake_any
  clear hu h
  by_cases h40 : 40 < len
  · have h40' : (40 : Int) < (len : Int) := by omega
    go_enter Try.func5, Try.ntmps5
    go_wp2_with (go_at_call 11; refine (HAW.out _).mono ?_; rintro e w2 ⟨rfl, hb2⟩)
    go_ret
    exact ⟨rfl, hb2⟩
  have h40' : (len : Int) ≤ 40 := by omega
  have h40d : decide ((40 : Int) < (len : Int)) = false := by simp; omega
  have HMY : Hid (Calls Try.prog 13 #[.slice a len cap] w fun e w' => BoolPost (MayN ls) w e w') := refMay_any a len cap ls w HL.out
  go_enter Try.func5, Try.ntmps5
  go_wp2_with fail
  refine HMY.out.mono ?_
  rintro e w2 ⟨hb2, q, rfl, hq⟩
  clear HMY
  cases q with
  | false =>
    clear hq
    go_wp2_with (go_at_call 11; refine (HAW.out _).mono ?_; rintro e w3 ⟨rfl, hb3⟩)
    go_ret
    exact ⟨rfl, below2 hb2 hb3⟩
  | true =>
    have HM : Hid (MayN ls) := hq.1 rfl
    clear hq
    by_cases hg0 : g < 0
    · have d0 : decide (g < 0) = true := by simpa using hg0
      go_wp2_with (go_at_call 11; refine (HAW.out _).mono ?_; rintro e w3 ⟨rfl, hb3⟩)
      go_ret
      exact ⟨rfl, below2 hb2 hb3⟩
    have d0 : decide (g < 0) = false := decide_eq_false hg0
    by_cases hg7 : 7 < g
    · have d7 : decide (7 < g) = true := by simpa using hg7
      go_wp2_with (go_at_call 11; refine (HAW.out _).mono ?_; rintro e w3 ⟨rfl, hb3⟩)
      go_ret
      exact ⟨rfl, below2 hb2 hb3⟩
    have d7 : decide (7 < g) = false := decide_eq_false hg7
    by_cases hl0 : len = 0
    · have dl : ((len : Int) == 0) = true := by simp [hl0]
      go_wp2_with (go_at_call 11; refine (HAW.out _).mono ?_; rintro e w3 ⟨rfl, hb3⟩)
      go_ret
      exact ⟨rfl, below2 hb2 hb3⟩
    have dl : ((len : Int) == 0) = false := by simpa using hl0
    have hg : 0 ≤ g ∧ g ≤ 7 := by omega
    obtain ⟨b, off, rfl, hbs, -⟩ := HL.out.some (by omega)
    have HL2 : Hid (NdsAt w2 (some ⟨b, off, none⟩) len cap ls) := HL.out.below hb2
    have HLIT : Hid ((w2.alloc (.cells #[] 40)).ownsRow w2.heap.size 40 6 (.slice (some ⟨w2.heap.size, 0, none⟩) 0 0) 0 (cellsN [])) := World.ownsRow_lit (base := w2.heap.size) (size := 6) (e := 40) w2 #[] 0 (Nat.le_refl _) (Nat.zero_le _) (by simp)
    have hlit := HLIT.out
    obtain ⟨i0, hi, hz0, hz1, hz2⟩ := info_parts infoNd
    have hnews := nds_cells (HL2.out.below (below_alloc w2 (.cells #[] 40))) (by omega)
    have HB3 : Hid (Below w2.heap.size w2 (w2.alloc (.cells #[] 40))) := below_alloc _ _
    go_wp2_with (at_builtin; refine wpList_append_own _ rfl _ _ 30 rfl w2.heap.size 40 i0 (.agg #[.int .i64 0, .int .i64 0, .int .i64 0, .int .i64 0, .bool false, .bool false]) 6 40 Try.underlying30 hi hz0 hz1 hz2 rfl (by decide) _ _ _ rfl hlit ⟨b, off, none⟩ len cap (cellsN ls) rfl (by rw [cellsN_length, hl]) hnews (cellsN_one ls) (by unfold maxLen; omega) (by omega) (by simp) ?_)
    intro v7 w7 hown7 hg7 _
    have hb7 : Below w2.heap.size w2 w7 := HB3.out.grown hg7 (by simp) (fun k hk => (hlit.lt k hk).1)
    obtain ⟨g7, cap7, rfl, hg7a, hg7b, -⟩ := own_some hown7 (by omega)
    have hown7' : w7.ownsRow w2.heap.size 40 6 (.slice (some ⟨g7, 0, none⟩) len cap7) len (cellsN ls) := hown7
    clear hown7 hg7 hlit HLIT hnews HB3 hi hz0 hz1 hz2
    obtain ⟨un, rfl⟩ : ∃ un : Nat, u = (un : Int) := ⟨u.toNat, by omega⟩
    obtain ⟨k, hkd⟩ : ∃ k : Nat, k = un % len := ⟨_, rfl⟩
    have hkl : k < len := by rw [hkd]; exact Nat.mod_lt _ (by omega)
    have hk0 : (0 : Int) ≤ (k : Int) := by omega
    have hk1 : (k : Int) < (len : Int) := by omega
    have hkm : (un : Int) % (len : Int) = (k : Int) := by rw [hkd]; rfl
    have hkt : Int.tmod (un : Int) (len : Int) = (k : Int) := by rw [hkd]; rfl
    clear hkd
    obtain ⟨c5, hc5⟩ : ∃ c5, w7.cell? ⟨g7, k * 6 + 5, none⟩ = some c5 := ⟨_, (hown7'.cellAt (k * 6 + 5) (by omega)).trans (cellsN_get ls k 5 (by omega) (by decide))⟩
    have hf5 := hown7'.frozenAt (k * 6 + 5)
    have HO8 : Hid ((w7.setCell ⟨g7, k * 6 + 5, none⟩ (.bool false)).ownsRow w2.heap.size 40 6 (.slice (some ⟨g7, 0, none⟩) len cap7) len (cellsN (ls.set k (outN (ls.getD k nd0))))) := by
      have := (hown7'.stored (k * 6 + 5) (.bool false)).1
      rw [cellsN_out (by omega)] at this
      exact this
    have hb8 : Below w2.heap.size w2 (w7.setCell ⟨g7, k * 6 + 5, none⟩ (.bool false)) := hb7.setCell (p := ⟨g7, k * 6 + 5, none⟩) hg7a _
    clear hown7' hmx
    go_wp2_with fail
    generalize hw8 : w7.setCell ⟨g7, k * 6 + 5, none⟩ (.bool false) = w8 at *
    clear hw8 hc5 hf5 hkm hkt
    have HLM : Hid (NdsAt w8 (some ⟨g7, 0, none⟩) len cap7 (ls.set k (outN (ls.getD k nd0)))) := nds_own HO8.out (by simp [hl])
    have hbw8 : Below w.heap.size w w8 := below2 hb2 hb8
    have HOA : Hid (Calls Try.prog 16 #[.slice (some ⟨b, off, none⟩) len cap, .int .i64 g, .int .i64 3] w8 fun e w' => OfPost ls g 3 w8 e w') := of_any _ len cap ls g 3 w8 (HL.out.below hbw8)
    have HG : Hid (0 ≤ g ∧ g ≤ 7) := hg
    clear HO8 hb7 hb8 hg d0 d7 hg0 hg7
    refine HOA.out.mono ?_
    rintro e w9 ⟨hb9, aa, ca, oa, rfl, hIa, hOa⟩
    have HIA : Hid (IntsAt w9 aa oa) := hIa
    have HOOA : Hid (OfIs ls g 3 oa) := hOa
    have HOB : Hid (Calls Try.prog 16 #[.slice (some ⟨g7, 0, none⟩) len cap7, .int .i64 g, .int .i64 3] w9 fun e w' => OfPost (ls.set k (outN (ls.getD k nd0))) g 3 w9 e w') := of_any _ len cap7 _ g 3 w9 (HLM.out.below hb9)
    clear hIa hOa HOA
    go_wp2_with fail
    refine HOB.out.mono ?_
    rintro e w10 ⟨hb10, ab, cb, ob, rfl, hIb, hOb⟩
    have HIB : Hid (IntsAt w10 ab ob) := hIb
    have HIA2 : Hid (IntsAt w10 aa oa) := HIA.out.below hb10
    obtain ⟨Z, hZ, hla, hlb⟩ := moves_is HM.out (by omega) HG.out HOOA.out hOb
    have HZ : Hid (MovesIs ls (ls.getD k nd0) oa ob Z) := hZ
    have hb010 : Below w.heap.size w w10 := below2 hbw8 (below2 hb9 hb10)
    have hlaI : (oa.length : Int) ≤ 3 := by omega
    have hlbI : (ob.length : Int) ≤ 3 := by omega
    have HX : Hid (NdAt w b (off + k * 6) (ls.getD k nd0)) := by
      obtain ⟨b', off', e, _, hc⟩ := HL.out.some (by omega)
      injection e with e
      injection e with e1 e2
      subst e1
      subst e2
      exact hc k hkl
    clear hIb hOb hZ HOB HLM hb9 hb10 HIA HOOA hbw8
    generalize ls.getD k nd0 = x at *
    obtain ⟨v1, v2, v3, v4, v5, v6⟩ := x
    generalize hna : oa.length = na at *
    generalize hnb : ob.length = nb at *
    have HNA : Hid (oa.length = na) := hna
    have HNB : Hid (ob.length = nb) := hnb
    clear hna hnb
    go_wp2_with fail
    go_loopw [11] (fun i wr => ∃ t : Nat, t ≤ na ∧ i = .int .i64 t ∧ Hid (∀ j, j < t → Z.getD j 0 ≠ v2) ∧ Below w10.heap.size w10 wr) (fun i _ => na - (intOf i).toNat)
    case atStart => exact ⟨0, Nat.zero_le _, rfl, (fun j hj => absurd hj (Nat.not_lt_zero _)), Below.refl _ _⟩
    case round =>
      obtain ⟨t, ht, rfl, hT, hbel⟩ := hrel
      have hbw : Below w.heap.size w wr := below2 hb010 hbel
      by_cases hlt : t < na
      · have ht1 : (t : Int) < (na : Int) := by omega
        have ht0 : (0 : Int) ≤ (t : Int) := by omega
        obtain ⟨n, hf, hnz, hnx, hmv⟩ := HZ.out.2 t (by rw [HZ.out.1, HNA.out]; exact hlt)
        rcases HIA2.out.below hbel with h0 | ⟨pa, rfl, hpa, hca⟩
        · have := HNA.out; rw [h0] at this; simp at this; omega
        have ca0 := hca t (by have := HNA.out; omega)
        have ca00 := ca0
        obtain ⟨n1, n2, n3, n4, n5, n6⟩ := n
        have HFD : Hid (Calls Try.prog 17 #[.slice (some ⟨b, off, none⟩) len cap, .int .i64 (oa.getD t 0)] wr fun e w' => e = .returned (.tuple #[.agg #[.int .i64 n1, .int .i64 n2, .int .i64 n3, .int .i64 n4, .bool n5, .bool n6], .bool true]) ∧ Below wr.heap.size wr w') := (refFind_any _ len cap ls _ wr (HL.out.below hbw)).mono fun _ _ ⟨hb, he⟩ => ⟨by rw [he, hf]; rfl, hb⟩
        have HMV : Hid ((∀ j, j ≤ t → Z.getD j 0 ≠ v2) → t < ob.length ∧ ob.getD t 0 = oa.getD t 0) := hmv
        have HNX : Hid (n1 = v1 → n2 = v2) := hnx
        have HNZ : Hid (n2 = Z.getD t 0) := hnz
        clear hmv hnx hnz hf hca
        generalize oa.getD t 0 = ia at *
        go_wp2_with fail
        refine HFD.out.mono ?_
        rintro e w11 ⟨rfl, hb11⟩
        have hbB : Below wr.heap.size wr (w11.alloc (.cells #[.int .i64 n1, .int .i64 n2, .int .i64 n3, .int .i64 n4, .bool n5, .bool n6] 40)) := below2 hb11 (below_alloc _ _)
        have y0 := cell_grown (w := w11.alloc (.cells #[.int .i64 n1, .int .i64 n2, .int .i64 n3, .int .i64 n4, .bool n5, .bool n6] 40)) (a := ⟨w11.heap.size, 0, none⟩) (v := .int .i64 n1) (by simp) (by simp)
        have y1 := cell_grown (w := w11.alloc (.cells #[.int .i64 n1, .int .i64 n2, .int .i64 n3, .int .i64 n4, .bool n5, .bool n6] 40)) (a := ⟨w11.heap.size, 1, none⟩) (v := .int .i64 n2) (by simp) (by simp)
        obtain ⟨z0, z1, -⟩ := HX.out.below (below2 hbw hbB)
        have hbsB : b < (w11.alloc (.cells #[.int .i64 n1, .int .i64 n2, .int .i64 n3, .int .i64 n4, .bool n5, .bool n6] 40)).heap.size := Nat.lt_of_lt_of_le hbs (below2 hbw hbB).size
        have x0 := cell_grown (a := ⟨b, off + k * 6, none⟩) hbsB z0
        have x1 := cell_grown (a := ⟨b, off + k * 6 + 1, none⟩) hbsB z1
        simp only at x0 x1
        have HBB : Hid (∀ n os, Below wr.heap.size wr (Go.Sort.grow ((w11.alloc (.cells #[.int .i64 n1, .int .i64 n2, .int .i64 n3, .int .i64 n4, .bool n5, .bool n6] 40)).drewN n) os)) := fun n os => below2 hbB (below_grow _ _ _)
        clear z0 z1 HFD hb11 ca0
        have hw11 : ∃ m11, m11 = w11.heap.size := ⟨_, rfl⟩
        go_wp2_with fail
        by_cases hz : n2 = v2
        · have dz : (n2 == v2) = true := by simpa using hz
          clear HMV HNX HNZ
          generalize hw1 : w11.alloc (.cells #[.int .i64 n1, .int .i64 n2, .int .i64 n3, .int .i64 n4, .bool n5, .bool n6] 40) = wB at *
          clear hw1
          refine wp_region_QW mixed5 (by kernel_rfl) ?_
          repeat (refine QW_step (fun K hK => ?_); go_simp; first | (refine hK _ ?_; clear hK K) | (apply Exists.intro; refine ⟨fun _ => ?_, hK _ ?_⟩; fail; clear hK K))
          refine QW_nil ?_
          intro _ hw9
          obtain ⟨⟨nq, osq⟩, hw8⟩ := hw9
          subst hw8
          have hb := HBB.out nq osq
          go_wp2_with (go_at_call 11; refine (HAW.out _).mono ?_; rintro e w12 ⟨rfl, hb12⟩)
          go_ret
          exact ⟨rfl, below2 hbw (below2 hb hb12)⟩
        · have dz : (n2 == v2) = false := by simpa using hz
          have di : (n1 == v1) = false := by simpa using fun e => hz (HNX.out e)
          have HT2 : Hid (∀ j, j < t + 1 → Z.getD j 0 ≠ v2) := fun j hj => by
            rcases Nat.lt_succ_iff_lt_or_eq.1 hj with h' | rfl
            · exact hT.out j h'
            · rw [← HNZ.out]; exact hz
          obtain ⟨hob, hoe⟩ := HMV.out fun j hj => HT2.out j (by omega)
          rcases HIB.out.below hbel with h0 | ⟨pb, rfl, hpb, hcb⟩
          · rw [h0] at hob; simp at hob
          have cb0 := hcb t hob
          rw [hoe] at cb0
          have htb : (t : Int) < (nb : Int) := by have := HNB.out; omega
          have htb2 : decide ((nb : Int) ≤ (t : Int)) = false := by simp; omega
          have htb3 : decide (nb ≤ t) = false := by simp; omega
          clear HMV HNX HNZ hob hoe hcb hT
          generalize hw1 : w11.alloc (.cells #[.int .i64 n1, .int .i64 n2, .int .i64 n3, .int .i64 n4, .bool n5, .bool n6] 40) = wB at *
          clear hw1
          refine wp_region_QW mixed5 (by kernel_rfl) ?_
          repeat (refine QW_step (fun K hK => ?_); go_simp; first | (refine hK _ ?_; clear hK K) | (apply Exists.intro; refine ⟨fun _ => ?_, hK _ ?_⟩; fail; clear hK K))
          refine QW_nil ?_
          intro _ hw9
          obtain ⟨⟨nq, osq⟩, hw8⟩ := hw9
          subst hw8
          have hb := HBB.out nq osq
          have hsq := hb.size
          have ca1 := (hb.cell (p := ⟨pa, t, none⟩) hpa).trans ca00
          have cb1 := (hb.cell (p := ⟨pb, t, none⟩) hpb).trans cb0
          clear x0 x1 y0 y1 HBB
          generalize Go.Sort.grow (wB.drewN nq) osq = wC at *
          have hpa2 : pa < wC.heap.size := Nat.lt_of_lt_of_le hpa hsq
          have hpb2 : pb < wC.heap.size := Nat.lt_of_lt_of_le hpb hsq
          have ca2 := cell_grown (a := ⟨pa, t, none⟩) hpa2 ca1
          have cb2 := cell_grown (a := ⟨pb, t, none⟩) hpb2 cb1
          have HBC : Hid (∀ n os, Below wr.heap.size wr (Go.Sort.grow (wC.drewN n) os)) := fun n os => below2 hb (below_grow _ _ _)
          clear ca1 cb1 cb0 ca00
          go_wp2_with fail
          refine wp_region_QW mixed5 (by kernel_rfl) ?_
          repeat (refine QW_step (fun K hK => ?_); go_simp; first | (refine hK _ ?_; clear hK K) | (apply Exists.intro; refine ⟨fun _ => ?_, hK _ ?_⟩; fail; clear hK K))
          refine QW_nil ?_
          intro _ hw9
          obtain ⟨⟨nq, osq⟩, hw8⟩ := hw9
          subst hw8
          have hb13 := HBC.out nq osq
          go_wp2_with fail
          exact ⟨⟨t + 1, by omega, by go_num, HT2, below2 hbel hb13⟩, by simp [intOf]; omega⟩
      · obtain rfl : t = na := by omega
        go_wp2_with (go_at_call 11; refine (HAW.out _).mono ?_; rintro e w12 ⟨rfl, hb12⟩)
        go_ret
        exact ⟨rfl, below2 hbw hb12⟩
end Go.Proofs.Ytmifdjkaclgibaa.Tp
