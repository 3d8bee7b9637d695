/-
  The law SamplesOrders.
-/
import Derived.Test.YtppajhjfnlhmaaaSpM
namespace Go.Proofs.Ytppajhjfnlhmaaa.Bk
open Go.ChangeShapes Go.WideShapes Go.ChangeAt Go.RowKit
theorem wth_perm (l : List Sm) (s : Sm) : (wth l s).Perm (l ++ [s]) := by
  induction l with
  | nil => exact List.Perm.refl _
  | cons c l ih =>
    unfold wth
    split
    · exact (List.perm_append_singleton s (c :: l)).symm
    · exact List.Perm.cons c ih
theorem perm_apart {L ls : List Sm} (h : L.Perm ls) (hs : Sorted ls) : L.Pairwise fun a b => a.1 ≠ b.1 := by
  refine (List.Perm.pairwise_iff (R := fun a b : Sm => a.1 ≠ b.1) (fun h e => h e.symm) h).2 ?_
  exact hs.imp fun h e => by omega
/-- so far: a row of the first ones -/
def OrdIn (L : List Sm) (k : Nat) (X : List Sm) : Prop := Sorted X ∧ X.Perm (L.take k)
theorem ord_nil (L : List Sm) : OrdIn L 0 [] := ⟨List.Pairwise.nil, by simp⟩
theorem ord_step {L ls X : List Sm} {k : Nat} (h : OrdIn L k X) (hp : L.Perm ls) (hM : MayS ls) (hk : k < L.length) : MayS X ∧ putE X (L.getD k sm0) = 0 ∧ OrdIn L (k + 1) (putL X (L.getD k sm0)) := by
  obtain ⟨h1, h2, h3⟩ := (may_iff ls).1 hM
  have hll := hp.length_eq
  have hxl : X.length = k := by rw [h.2.length_eq]; simp; omega
  have hin : ∀ x ∈ L, InS x := fun x hx => h2 x (hp.mem_iff.1 hx)
  have hX : MayS X := (may_iff X).2 ⟨by omega, fun x hx => hin x (List.mem_of_mem_take (h.2.mem_iff.1 hx)), h.1⟩
  have hs : L.getD k sm0 ∈ L := by rw [getD_get hk]; exact List.getElem_mem hk
  have hf : findP X (L.getD k sm0).1 = none := find_none.2 fun x hx e => by
    obtain ⟨i, hi, rfl⟩ := List.mem_take_iff_getElem.1 (h.2.mem_iff.1 hx)
    rw [getD_get hk] at e
    exact List.pairwise_iff_getElem.1 (perm_apart hp h3) i k (by omega) hk (by omega) e
  have hE : putE X (L.getD k sm0) = 0 := putE_ok (hin _ hs) hf (by omega)
  refine ⟨hX, hE, ?_⟩
  rw [putL_yes hE]
  refine ⟨wth_sorted h.1 (find_none.1 hf), ?_⟩
  rw [take_next hk]
  exact (wth_perm X _).trans (List.Perm.append_right _ h.2)
theorem ord_all {L ls X : List Sm} (h : OrdIn L L.length X) (hp : L.Perm ls) (hM : MayS ls) : X = ls := by
  rw [OrdIn, List.take_length] at h
  exact sorted_ext h.1 ((may_iff ls).1 hM).2.2 fun z => (h.2.trans hp).mem_iff
theorem ord_again {L ls : List Sm} {k : Nat} (hp : L.Perm ls) (hM : MayS ls) (hk : k < L.length) : putE ls (L.getD k sm0) = 7 ∧ putL ls (L.getD k sm0) = ls := by
  obtain ⟨h1, h2, h3⟩ := (may_iff ls).1 hM
  have hs : L.getD k sm0 ∈ ls := hp.mem_iff.1 (by rw [getD_get hk]; exact List.getElem_mem hk)
  have hE : putE ls (L.getD k sm0) = 7 := putE_same (h2 _ hs) (find_some h3 hs rfl)
  exact ⟨hE, putL_no (by rw [hE]; decide)⟩
/-- a copy behind what is not nil is not nil -/
theorem append_some {w w0 : World} {ops : Array Oper} {rest : List Oper} {o : Oper} {a : Act} {Q : Exit → Act → World → Prop} (hgd : o.guard = none) (s x : Operand)
    (ho : o.op = .call { callee := .builtin .append, args := #[s, x], argTypes := #[22, 22] })
    (g0 c0 : Nat) (hs : a.eval s = .slice (some ⟨g0, 0, none⟩) 0 c0) (hown : w.ownsRow w0.heap.size 24 2 (.slice (some ⟨g0, 0, none⟩) 0 c0) 0 (cellsS [])) (hb : Below w0.heap.size w0 w)
    (ad : Option Addr) (m c : Nat) (M : List Sm) (hx : a.eval x = .slice ad m c) (hM : SmsAt w ad m c M) (hm : (m : Int) ≤ 1000)
    (h : ∀ g cp w', w'.ownsRow w0.heap.size 24 2 (.slice (some ⟨g, 0, none⟩) m cp) m (cellsS M) → Below w0.heap.size w0 w' → wpList Try.prog ops Q rest (a.put o.dst (.slice (some ⟨g, 0, none⟩) m cp)) w') : wpList Try.prog ops Q (o :: rest) a w := by
  obtain ⟨i0, hi, hz0, hz1, hz2⟩ := info_parts infoS
  by_cases h0 : m = 0
  · subst h0
    have hM0 : M = [] := List.length_eq_zero_iff.1 hM.1
    subst hM0
    refine wpList_append_zero hgd s x 22 ho w0.heap.size 24 i0 2 Try.underlying22 hi _ 0 (cellsS []) hs hown ad c hx ?_
    exact h g0 c0 w hown hb
  · obtain ⟨b, off, rfl, -, -⟩ := hM.some (by omega)
    refine wpList_append_own _ hgd s x 22 ho w0.heap.size 24 i0 (.agg #[.int .i64 0, .int .i64 0]) 2 16 Try.underlying22 hi hz0 hz1 hz2 rfl (by decide) _ 0 (cellsS []) hs hown ⟨b, off, none⟩ m c (cellsS M) hx (by rw [cellsS_length, hM.1]) (sms_cells hM) (cellsS_one M) (by unfold maxLen; omega) (by omega) hb.size ?_
    intro v' w' hown' hg hiff
    obtain ⟨g, cp, rfl⟩ := own_formS hown' (fun e => by have := (hiff.1 e).1; simp at this)
    rw [Nat.zero_add] at hown'
    rw [Nat.zero_add]
    exact h g cp w' hown' (hb.grown hg hb.size (fun k hk => (hown.lt k hk).1))
set_option maxHeartbeats 4000000 in
set_option maxRecDepth 60000 in
theorem samplesOrders_any (a : Option Addr) (len cap : Nat) (ls : List Sm) (ta : Option Addr) (tl tc : Nat) (w : World) (h : SmsAt w a len cap ls) (ht : TurnAt w ta tl) :
    Calls Try.prog 6 #[.slice a len cap, .slice ta tl tc] w fun e w' => TruePost w e w' := by
  have hl : ls.length = len := h.1
  have hm : len ≤ maxLen := Nat.le_trans h.2.1 h.2.2.1
  have htl : tl ≤ maxLen := ht.1
  unfold maxLen at hm htl
  have HL := Hid.mk9 h
  have HTu := Hid.mk9 ht
  clear h ht
  by_cases hbig : 64 < len
  · have hb' : (64 : Int) < (len : Int) := by omega
    go_enter Try.func6, Try.ntmps6
    go_wp2_with (go_at_call 7; refine (awake_t _).mono ?_; rintro e w1 ⟨rfl, hb1⟩)
    go_ret
    exact ⟨rfl, hb1⟩
  have hb' : (len : Int) ≤ 64 := by omega
  clear hbig
  by_cases hM : MayS ls
  · have HM := Hid.mk9 hM
    clear hM
    go_enter Try.func6, Try.ntmps6
    go_upto_region 3 with (go_at_call 9; refine (mayS_true HL.out HM.out).mono ?_; rintro e w1 ⟨rfl, hb1⟩)
    have HB := Hid.mk9 hb1
    clear hb1
    go_wp2_with (at_builtin; refine append_some (w0 := w1) rfl _ _ rfl _ 0 rfl (pick_start w1).2 (pick_start w1).1 _ _ _ ls rfl ((HL.out.below HB.out).below (pick_start w1).1) (by omega) ?_; intro g cp w2 ho2 hb2)
    have HR0 : Hid (∃ L, MRow w2 g len L ∧ L.Perm ls) := ⟨ls, mrow_own ho2, List.Perm.refl _⟩
    have hgw : w.heap.size ≤ g := by have := (own_sms ho2).2.2; have := HB.out.size; omega
    have hcp : len ≤ cp ∧ cp ≤ maxLen := ⟨(own_sms ho2).1.2.1, (own_sms ho2).1.2.2.1⟩
    have HCP := Hid.mk9 hcp
    replace HB := Hid.mk9 (below2 HB.out hb2)
    clear ho2 hb2 hcp
    go_loopw [6] (fun i wr => ∃ k : Nat, k ≤ len ∧ i = .int .i64 k ∧ Hid (∃ L, MRow wr g len L ∧ L.Perm ls) ∧ Hid (Below w.heap.size w wr)) (fun i _ => len - (intOf i).toNat)
    case atStart => exact ⟨0, Nat.zero_le _, rfl, HR0, HB⟩
    case round =>
      clear HR0 HB
      obtain ⟨k, hk, rfl, HR, HB⟩ := hrel
      have hk0 : (0 : Int) ≤ (k : Int) := by omega
      by_cases hlt : k + 1 < len ∧ k < tl
      · obtain ⟨hlt, hkt⟩ := hlt
        have q1 : (k : Int) + 1 < (len : Int) := by omega
        have q2 : (k : Int) < (tl : Int) := by omega
        rcases (HTu.out.below HB.out).2 with hbad | ⟨tb, toff, f, rfl, hf⟩
        · omega
        obtain ⟨e0, hf1⟩ := hf k hkt
        clear hf
        generalize f k = x at *
        obtain ⟨K, hKe, hKl⟩ : ∃ K : Nat, (k : Int) + (x : Int) % ((len : Int) - (k : Int)) = (K : Int) ∧ K < len := by
          refine ⟨k + x % (len - k), ?_, ?_⟩
          · rw [show (len : Int) - (k : Int) = ((len - k : Nat) : Int) from by omega, ← Int.natCast_emod]; omega
          · have := Nat.mod_lt x (show 0 < len - k by omega)
            omega
        have hK1 : (K : Int) < 64 := by omega
        go_upto_region 8 with fail
        obtain ⟨L, hR, hp⟩ := HR.out
        have hLl : L.length = len := by rw [hp.length_eq]; exact hl
        have HS := Hid.mk9 (swap_perm (L := L) (i := k) (k := K) (by omega) (by omega))
        have HR2 := Hid.mk9 (fun p1 p2 q1 q2 => (((hR.below (below_drew wr)).put k (show k < len by omega) q1 q2).put K hKl p1 p2))
        have HB2 := Hid.mk9 (fun p1 p2 q1 q2 : Int => putS_below (putS_below (below2 HB.out (below_drew wr)) hgw q1 q2 (i := k)) hgw p1 p2 (i := K))
        obtain ⟨p, hpe⟩ : ∃ p, L.getD k sm0 = p := ⟨_, rfl⟩
        obtain ⟨q, hqe⟩ : ∃ q, L.getD K sm0 = q := ⟨_, rfl⟩
        rw [hpe, hqe] at HS
        obtain ⟨p1, p2⟩ := p
        obtain ⟨q1, q2⟩ := q
        refine swap_8 _ _ _ _ _ _ _ _ _ _ _ _ _ _ _ _ _ _ _ _ _ _ _ _ _ _ _ _ _ _ _ _ _ _ _ _ _ _ _ _ _ _ _ _ _ _ _ _ _ _ _ _ _ _ _ _ _ _ _ _ _ _ _ _ _ _ _ _ _ _ _ _ _ _ _ _ _ _ _ _ _ _ _ _ _ _ _ _ _ _ _ _ _ _ _ _ _ _ _ _ _ _ _ _ _ _ _ _ _ _ g len cp k K p1 p2 q1 q2 L wr _ hR (by omega) hKl hpe hqe (Hid.mk9 (fun u52 u53 u54 u55 u56 u57 u58 u59 u60 u61 u62 u63 u64 u65 _ => ?_))
        have HR3 : Hid (∃ L, MRow (putS (putS wr.drew g k q1 q2) g K p1 p2) g len L ∧ L.Perm ls) := ⟨_, HR2.out p1 p2 q1 q2, HS.out.trans hp⟩
        have HB3 := Hid.mk9 (HB2.out p1 p2 q1 q2)
        clear HR HB HR2 HB2 HS hp hR hpe hqe hLl
        generalize putS (putS wr.drew g k q1 q2) g K p1 p2 = w3 at *
        go_wp2_with fail
        exact ⟨⟨k + 1, by omega, by go_num, HR3, HB3⟩, by simp [intOf]; omega⟩
      · by_cases hl1 : k + 1 < len
        · have q1 : (k : Int) + 1 < (len : Int) := by omega
          have q2 : (tl : Int) ≤ (k : Int) := by omega
          obtain ⟨L, hR, hp⟩ := HR.out
          have hLl : L.length = len := by rw [hp.length_eq]; exact hl
          have HR2 := Hid.mk9 hR
          have HP := Hid.mk9 hp
          have HBw := HB
          clear HR hR hp
          go_upto_region 9 with fail
          generalize decide (k < tl) = dk at *
          clear q1 q2 hl1 hlt
          have HS0 : Hid (SmsAt (wr.alloc (.cells #[] 24)) (some ⟨wr.heap.size, 0, none⟩) 0 0 []) := ⟨rfl, Nat.le_refl _, Nat.zero_le _, .inl rfl⟩
          obtain ⟨wL, hwL⟩ : ∃ wL, wL = wr := ⟨_, rfl⟩
          have HRL : Hid (MRow wL g len L) := by rw [hwL]; exact HR2
          have HBL : Hid (Below w.heap.size w wL) := by rw [hwL]; exact HB
          have HB0 : Hid (Below wL.heap.size wL (wr.alloc (.cells #[] 24))) := by rw [hwL]; exact Hid.mk9 (below_alloc wr (.cells #[] 24))
          go_wp2_with fail
          go_loopw [8, 9] (fun v i wr => ∃ (j : Nat) (xa : Option Addr) (xl xc : Nat) (X : List Sm), j ≤ len ∧ v = .slice xa xl xc ∧ i = .int .i64 j ∧ Hid (SmsAt wr xa xl xc X) ∧ Hid (OrdIn L j X) ∧ Hid (Below wL.heap.size wL wr)) (fun _ i _ => len - (intOf i).toNat)
          case atStart => exact ⟨0, _, 0, 0, [], Nat.zero_le _, rfl, rfl, HS0, Hid.mk9 (ord_nil L), HB0⟩
          case round =>
            clear HS0 HB0 HB HBw HR2 hwL
            obtain ⟨j, xa, xl, xc, X, hj, rfl, rfl, HSx, HOr, HB⟩ := hrel
            have hj0 : (0 : Int) ≤ (j : Int) := by omega
            by_cases hjl : j < len
            · have qj : (j : Int) < (len : Int) := by omega
              obtain ⟨e0, e1, -, -⟩ := (HRL.out.below HB.out).at j hjl
              obtain ⟨s1, s2, s3⟩ := ord_step HOr.out HP.out HM.out (show j < L.length by omega)
              generalize L.getD j sm0 = s at *
              obtain ⟨y1, y2⟩ := s
              have HC := Hid.mk9 (put_yes xa xl xc X y1 y2 wr HSx.out s1)
              rw [s2] at HC
              have HO2 := Hid.mk9 s3
              clear s1 s2 s3
              go_wp2_with (go_at_call 8; refine HC.out.mono ?_; rintro e w5 ⟨hb5, za, zl, zc, rfl, hs5⟩)
              exact ⟨⟨j + 1, za, zl, zc, _, by omega, rfl, by go_num, Hid.mk9 hs5, HO2, Hid.mk9 (below2 HB.out hb5)⟩, by simp [intOf]; omega⟩
            · obtain rfl : j = len := by omega
              have HX : Hid (X = ls) := Hid.mk9 (ord_all (by rw [hLl]; exact HOr.out) HP.out HM.out)
              obtain rfl := HX.out
              have HSa := Hid.mk9 ((HL.out.below HBL.out).below HB.out)
              clear HX HOr
              go_upto_region 19 with (go_at_call 11; refine (bool_true (refSameS_any _ _ _ _ _ _ X X _ HSx.out HSa.out) rfl).mono ?_; rintro e w6 ⟨rfl, hb6⟩)
              replace HB := Hid.mk9 (below2 HB.out hb6)
              replace HSx := Hid.mk9 (HSx.out.below hb6)
              clear hb6 HSa
              go_wp2_with fail
              go_loopw [12] (fun i wr => ∃ n : Nat, n ≤ j ∧ i = .int .i64 n ∧ Hid (SmsAt wr xa xl xc X) ∧ Hid (Below wL.heap.size wL wr)) (fun i _ => j - (intOf i).toNat)
              case atStart => exact ⟨0, Nat.zero_le _, rfl, HSx, HB⟩
              case round =>
                clear HSx HB
                obtain ⟨n, hn, rfl, HSx, HB⟩ := hrel
                have hn0 : (0 : Int) ≤ (n : Int) := by omega
                by_cases hnl : n < j
                · have qn : (n : Int) < (j : Int) := by omega
                  obtain ⟨e0, e1, -, -⟩ := (HRL.out.below HB.out).at n hnl
                  obtain ⟨s1, s2⟩ := ord_again HP.out HM.out (show n < L.length by omega)
                  generalize L.getD n sm0 = s at *
                  obtain ⟨y1, y2⟩ := s
                  have HC := Hid.mk9 (put_yes xa xl xc X y1 y2 wr HSx.out HM.out)
                  rw [s1, s2] at HC
                  clear s1 s2
                  go_wp2_with (first
                    | (go_at_call 8; refine HC.out.mono ?_; rintro e w7 ⟨hb7, za, zl, zc, rfl, hs7⟩; replace HB := Hid.mk9 (below2 HB.out hb7); replace HSx := Hid.mk9 (HSx.out.below hb7); have HSz := Hid.mk9 hs7; clear hb7 hs7)
                    | (go_at_call 11; refine (bool_true (refSameS_any _ _ _ _ _ _ X X _ HSx.out HSz.out) rfl).mono ?_; rintro e w8 ⟨rfl, hb8⟩; replace HB := Hid.mk9 (below2 HB.out hb8); replace HSx := Hid.mk9 (HSx.out.below hb8); clear hb8))
                  exact ⟨⟨n + 1, by omega, by go_num, HSx, HB⟩, by simp [intOf]; omega⟩
                · obtain rfl : n = j := by omega
                  go_wp2_with (go_at_call 7; refine (awake_t _).mono ?_; rintro e w9 ⟨rfl, hb9⟩)
                  go_ret
                  exact ⟨rfl, below2 HBL.out (below2 HB.out hb9)⟩
        · have q1 : (len : Int) ≤ (k : Int) + 1 := by omega
          obtain ⟨L, hR, hp⟩ := HR.out
          have hLl : L.length = len := by rw [hp.length_eq]; exact hl
          have HR2 := Hid.mk9 hR
          have HP := Hid.mk9 hp
          have HBw := HB
          clear HR hR hp
          go_upto_region 9 with fail
          clear q1 hl1 hlt
          have HS0 : Hid (SmsAt (wr.alloc (.cells #[] 24)) (some ⟨wr.heap.size, 0, none⟩) 0 0 []) := ⟨rfl, Nat.le_refl _, Nat.zero_le _, .inl rfl⟩
          obtain ⟨wL, hwL⟩ : ∃ wL, wL = wr := ⟨_, rfl⟩
          have HRL : Hid (MRow wL g len L) := by rw [hwL]; exact HR2
          have HBL : Hid (Below w.heap.size w wL) := by rw [hwL]; exact HB
          have HB0 : Hid (Below wL.heap.size wL (wr.alloc (.cells #[] 24))) := by rw [hwL]; exact Hid.mk9 (below_alloc wr (.cells #[] 24))
          go_wp2_with fail
          go_loopw [8, 9] (fun v i wr => ∃ (j : Nat) (xa : Option Addr) (xl xc : Nat) (X : List Sm), j ≤ len ∧ v = .slice xa xl xc ∧ i = .int .i64 j ∧ Hid (SmsAt wr xa xl xc X) ∧ Hid (OrdIn L j X) ∧ Hid (Below wL.heap.size wL wr)) (fun _ i _ => len - (intOf i).toNat)
          case atStart => exact ⟨0, _, 0, 0, [], Nat.zero_le _, rfl, rfl, HS0, Hid.mk9 (ord_nil L), HB0⟩
          case round =>
            clear HS0 HB0 HB HBw HR2 hwL
            obtain ⟨j, xa, xl, xc, X, hj, rfl, rfl, HSx, HOr, HB⟩ := hrel
            have hj0 : (0 : Int) ≤ (j : Int) := by omega
            by_cases hjl : j < len
            · have qj : (j : Int) < (len : Int) := by omega
              obtain ⟨e0, e1, -, -⟩ := (HRL.out.below HB.out).at j hjl
              obtain ⟨s1, s2, s3⟩ := ord_step HOr.out HP.out HM.out (show j < L.length by omega)
              generalize L.getD j sm0 = s at *
              obtain ⟨y1, y2⟩ := s
              have HC := Hid.mk9 (put_yes xa xl xc X y1 y2 wr HSx.out s1)
              rw [s2] at HC
              have HO2 := Hid.mk9 s3
              clear s1 s2 s3
              go_wp2_with (go_at_call 8; refine HC.out.mono ?_; rintro e w5 ⟨hb5, za, zl, zc, rfl, hs5⟩)
              exact ⟨⟨j + 1, za, zl, zc, _, by omega, rfl, by go_num, Hid.mk9 hs5, HO2, Hid.mk9 (below2 HB.out hb5)⟩, by simp [intOf]; omega⟩
            · obtain rfl : j = len := by omega
              have HX : Hid (X = ls) := Hid.mk9 (ord_all (by rw [hLl]; exact HOr.out) HP.out HM.out)
              obtain rfl := HX.out
              have HSa := Hid.mk9 ((HL.out.below HBL.out).below HB.out)
              clear HX HOr
              go_upto_region 19 with (go_at_call 11; refine (bool_true (refSameS_any _ _ _ _ _ _ X X _ HSx.out HSa.out) rfl).mono ?_; rintro e w6 ⟨rfl, hb6⟩)
              replace HB := Hid.mk9 (below2 HB.out hb6)
              replace HSx := Hid.mk9 (HSx.out.below hb6)
              clear hb6 HSa
              go_wp2_with fail
              go_loopw [12] (fun i wr => ∃ n : Nat, n ≤ j ∧ i = .int .i64 n ∧ Hid (SmsAt wr xa xl xc X) ∧ Hid (Below wL.heap.size wL wr)) (fun i _ => j - (intOf i).toNat)
              case atStart => exact ⟨0, Nat.zero_le _, rfl, HSx, HB⟩
              case round =>
                clear HSx HB
                obtain ⟨n, hn, rfl, HSx, HB⟩ := hrel
                have hn0 : (0 : Int) ≤ (n : Int) := by omega
                by_cases hnl : n < j
                · have qn : (n : Int) < (j : Int) := by omega
                  obtain ⟨e0, e1, -, -⟩ := (HRL.out.below HB.out).at n hnl
                  obtain ⟨s1, s2⟩ := ord_again HP.out HM.out (show n < L.length by omega)
                  generalize L.getD n sm0 = s at *
                  obtain ⟨y1, y2⟩ := s
                  have HC := Hid.mk9 (put_yes xa xl xc X y1 y2 wr HSx.out HM.out)
                  rw [s1, s2] at HC
                  clear s1 s2
                  go_wp2_with (first
                    | (go_at_call 8; refine HC.out.mono ?_; rintro e w7 ⟨hb7, za, zl, zc, rfl, hs7⟩; replace HB := Hid.mk9 (below2 HB.out hb7); replace HSx := Hid.mk9 (HSx.out.below hb7); have HSz := Hid.mk9 hs7; clear hb7 hs7)
                    | (go_at_call 11; refine (bool_true (refSameS_any _ _ _ _ _ _ X X _ HSx.out HSz.out) rfl).mono ?_; rintro e w8 ⟨rfl, hb8⟩; replace HB := Hid.mk9 (below2 HB.out hb8); replace HSx := Hid.mk9 (HSx.out.below hb8); clear hb8))
                  exact ⟨⟨n + 1, by omega, by go_num, HSx, HB⟩, by simp [intOf]; omega⟩
                · obtain rfl : n = j := by omega
                  go_wp2_with (go_at_call 7; refine (awake_t _).mono ?_; rintro e w9 ⟨rfl, hb9⟩)
                  go_ret
                  exact ⟨rfl, below2 HBL.out (below2 HB.out hb9)⟩
  · have HM := Hid.mk9 hM
    clear hM
    go_enter Try.func6, Try.ntmps6
    go_wp2_with (first
      | (go_at_call 9; refine (mayS_false HL.out HM.out).mono ?_; rintro e w1 ⟨rfl, hb1⟩; have HB := Hid.mk9 hb1; clear hb1)
      | (go_at_call 7; refine (awake_t _).mono ?_; rintro e w2 ⟨rfl, hb1⟩; replace HB := Hid.mk9 (below2 HB.out hb1); clear hb1))
    go_ret
    exact ⟨rfl, HB.out⟩
end Go.Proofs.Ytppajhjfnlhmaaa.Bk
