/-
  The contracts of node's comparison, of the search among nodes, and of node.
  The contracts of temp's comparison, of the search among Temps, and of temp.
-/
import Derived.Test.YtcncbjknfcjnmaaGreatK1
import Derived.Test.YtcncbjknfcjnmaaGreatTpE
import Derived.Deep.Cut
namespace Go.Proofs.YtcncbjknfcjnmaaGreat.Tp
open Go.ChangeShapes Go.WideShapes Go.ChangeAt Go.RowKit
theorem nodeCmp (x : Nd) (i : Int) (w : World) : Calls Tryz.prog 90 #[.agg (ndCells x).toArray, .int .i64 i] w fun e w' => e = .returned (.int .i64 (cmpI x.id i)) ∧ Grown w w' := by
  obtain ⟨c1, c2, c3, c4, c5, c6⟩ := x
  have H : Hid (∀ w : World, Calls Tryz.prog 91 #[.int .i64 c1, .int .i64 i] w fun e w' => e = .returned (.int .i64 (cmpI c1 i)) ∧ w' = w) := cmpInt_any c1 i
  show Calls Tryz.prog 90 #[.agg #[.int .i64 c1, .int .i64 c2, .int .i64 c3, .int .i64 c4, .bool c5, .bool c6], .int .i64 i] w fun e w' => e = .returned (.int .i64 (cmpI c1 i)) ∧ Grown w w'
  generalize cmpI c1 i = r at *
  go_enter Tryz.func90, Tryz.ntmps90
  go_wp2_with (go_at_call 91; refine (H.out _).mono ?_; rintro e w' ⟨rfl, hw'⟩; obtain rfl := hw'.symm)
  go_ret
  exact ⟨rfl, grown_alloc _ _⟩
/-- where a number stands, or would stand, among rising ones -/
def SrchIs (keys : List Int) (id : Int) (p : Nat) (t : Bool) : Prop := p ≤ keys.length ∧ (∀ j, j < p → keys.getD j 0 < id) ∧ (∀ j, p ≤ j → j < keys.length → id ≤ keys.getD j 0) ∧ (t = true ↔ p < keys.length ∧ keys.getD p 0 = id)
def SrchPost (keys : List Int) (id : Int) (w : World) (e : Ending) (w' : World) : Prop := Below w.heap.size w w' ∧ ∃ (p : Nat) (t : Bool), e = .returned (.tuple #[.int .i64 (p : Int), .bool t]) ∧ SrchIs keys id p t
def SrchPostG (keys : List Int) (id : Int) (w : World) (e : Ending) (w' : World) : Prop := Grown w w' ∧ ∃ (p : Nat) (t : Bool), e = .returned (.tuple #[.int .i64 (p : Int), .bool t]) ∧ SrchIs keys id p t
def Rising (keys : List Int) : Prop := ∀ i j, i < j → j < keys.length → keys.getD i 0 < keys.getD j 0
set_option maxHeartbeats 1000000 in
set_option maxRecDepth 60000 in
theorem srchNode (a : Option Addr) (len cap : Nat) (ls : List Nd) (id : Int) (w : World) (h : NdsAt w a len cap ls) (h12 : len ≤ 12) (hR : Rising (ls.map (·.id))) :
    Calls Tryz.prog 89 #[.slice a len cap, .int .i64 id, .func (.func 90) #[] #[]] w fun e w' => SrchPostG (ls.map (·.id)) id w e w' := by
  have hl : ls.length = len := h.1
  have h12' : (len : Int) ≤ 12 := by omega
  have HL : Hid (NdsAt w a len cap ls) := h
  have HR : Hid (Rising (ls.map (·.id))) := hR
  have HKL : Hid ((ls.map (·.id)).length = len) := by unfold Hid; simp [hl]
  have HK : Hid (∀ k, k < len → (ls.map (·.id)).getD k 0 = (ls.getD k nd0).id) := fun k hk => by simp [show k < ls.length by omega]
  clear h hR h12
  generalize ls.map (·.id) = keys at *
  go_enter Tryz.func89, Tryz.ntmps89
  go_wp2_with fail
  go_loopw [9, 10] (fun i j wr => ∃ p q : Nat, p ≤ q ∧ q ≤ len ∧ i = .int .i64 p ∧ j = .int .i64 q ∧ Hid (∀ t, t < p → keys.getD t 0 < id) ∧ Hid (∀ t, q ≤ t → t < len → id ≤ keys.getD t 0) ∧ Grown w wr) (fun i j _ => (intOf j).toNat - (intOf i).toNat)
  case atStart => exact ⟨0, len, Nat.zero_le _, Nat.le_refl _, rfl, rfl, (fun t ht => absurd ht (Nat.not_lt_zero _)), (fun t h1 h2 => by omega), grown_refl _⟩
  case round =>
    obtain ⟨p, q, hpq, hq, rfl, rfl, hT1, hT2, hbel⟩ := hrel
    by_cases hlt : p < q
    · have hlt' : (p : Int) < (q : Int) := by omega
      have hq' : (q : Int) ≤ 12 := by omega
      have hp0 : (0 : Int) ≤ (p : Int) := by omega
      go_upto_region 5 with fail
      obtain ⟨h, hh⟩ : ∃ h : Nat, ((p : Int) + (q : Int)) / 2 = (h : Int) := ⟨(p + q) / 2, by omega⟩
      rw [hh]
      have hph : p ≤ h := by omega
      have hhq : h < q := by omega
      clear hh
      have hh0 : (0 : Int) ≤ (h : Int) := by omega
      have hh1 : (h : Int) < (len : Int) := by omega
      have hh12 : (h : Int) ≤ 12 := by omega
      obtain ⟨b, off, rfl, hbs, hcell⟩ := (HL.out.below (grown_below hbel)).some (by omega)
      obtain ⟨e0, e1, e2, e3, e4, e5⟩ := hcell h (by omega)
      have HKH := HK.out h (by omega)
      have HUP : Hid (keys.getD h 0 < id → ∀ t, t < h + 1 → keys.getD t 0 < id) := fun hk t ht => by
        by_cases h' : t = h
        · rw [h']; exact hk
        · exact Int.lt_trans (HR.out t h (by omega) (by have := HKL.out; omega)) hk
      have HDN : Hid (¬ keys.getD h 0 < id → ∀ t, h ≤ t → t < len → id ≤ keys.getD t 0) := fun hk t h1 h2 => by
        by_cases h' : t = h
        · rw [h']; omega
        · have := HR.out h t (by omega) (by have := HKL.out; omega)
          omega
      rw [HKH] at HUP HDN
      clear HKH hcell
      have HC : Hid (∀ W, Calls Tryz.prog 90 #[.agg (ndCells (ls.getD h nd0)).toArray, .int .i64 id] W fun e w' => e = .returned (.int .i64 (cmpI (ls.getD h nd0).id id)) ∧ Grown W w') := nodeCmp _ id
      generalize ls.getD h nd0 = x at *
      obtain ⟨x1, x2, x3, x4, x5, x6⟩ := x
      simp only [ndCells] at *
      by_cases hc : x1 < id
      · have hcv : cmpI x1 id = -1 := by unfold cmpI; rw [if_pos hc]
        rw [hcv] at HC
        have HUP' : Hid (∀ t, t < h + 1 → keys.getD t 0 < id) := HUP.out hc
        clear HUP HDN hcv hc
        go_wp2_with (go_at_call 90; refine (HC.out _).mono ?_; rintro e w4 ⟨rfl, hb4⟩)
        exact ⟨⟨h + 1, q, by omega, by omega, by go_num, rfl, HUP', hT2, grown2 hbel hb4⟩, by simp [intOf]; omega⟩
      · have hcv : ∃ r : Int, cmpI x1 id = r ∧ 0 ≤ r ∧ r ≤ 1 := by unfold cmpI; rw [if_neg hc]; split <;> exact ⟨_, rfl, by decide, by decide⟩
        obtain ⟨r, hr, hr0, hr1⟩ := hcv
        have hrd : decide (r < 0) = false := by simp; omega
        rw [hr] at HC
        have HDN' : Hid (∀ t, h ≤ t → t < len → id ≤ keys.getD t 0) := HDN.out hc
        clear HUP HDN hr hc
        go_wp2_with (go_at_call 90; refine (HC.out _).mono ?_; rintro e w4 ⟨rfl, hb4⟩)
        exact ⟨⟨p, h, by omega, by omega, rfl, rfl, hT1, HDN', grown2 hbel hb4⟩, by simp [intOf]; omega⟩
    · obtain rfl : p = q := by omega
      have hp0 : (0 : Int) ≤ (p : Int) := by omega
      by_cases hpl : p < len
      · have hpl' : (p : Int) < (len : Int) := by omega
        obtain ⟨b, off, rfl, hbs, hcell⟩ := (HL.out.below (grown_below hbel)).some (by omega)
        obtain ⟨e0, e1, e2, e3, e4, e5⟩ := hcell p hpl
        have HKH := HK.out p hpl
        have HY : Hid (keys.getD p 0 = id → SrchIs keys id p true) := fun hk => ⟨by have := HKL.out; omega, hT1.out, fun j h1 h2 => hT2.out j h1 (by have := HKL.out; omega), ⟨fun _ => ⟨by have := HKL.out; omega, hk⟩, fun _ => rfl⟩⟩
        have HN : Hid (keys.getD p 0 ≠ id → SrchIs keys id p false) := fun hk => ⟨by have := HKL.out; omega, hT1.out, fun j h1 h2 => hT2.out j h1 (by have := HKL.out; omega), by simp; intro _; simpa using hk⟩
        rw [HKH] at HY HN
        clear HKH hcell hT1 hT2
        have HC : Hid (∀ W, Calls Tryz.prog 90 #[.agg (ndCells (ls.getD p nd0)).toArray, .int .i64 id] W fun e w' => e = .returned (.int .i64 (cmpI (ls.getD p nd0).id id)) ∧ Grown W w') := nodeCmp _ id
        generalize ls.getD p nd0 = x at *
        obtain ⟨x1, x2, x3, x4, x5, x6⟩ := x
        simp only [ndCells] at *
        by_cases hc : x1 = id
        · have hcv : cmpI x1 id = 0 := by unfold cmpI; rw [if_neg (by omega), if_neg (by omega)]
          rw [hcv] at HC
          have HS : Hid (SrchIs keys id p true) := HY.out hc
          clear HY HN hc hcv
          go_wp2_with (go_at_call 90; refine (HC.out _).mono ?_; rintro e w4 ⟨rfl, hb4⟩)
          go_ret2
          exact ⟨grown2 hbel hb4, p, true, rfl, HS.out⟩
        · have hcv : ∃ r : Int, cmpI x1 id = r ∧ (r == 0) = false := by
            unfold cmpI
            by_cases h1 : x1 < id
            · exact ⟨-1, by rw [if_pos h1], rfl⟩
            · exact ⟨1, by rw [if_neg h1, if_pos (by omega)], rfl⟩
          obtain ⟨r, hr, hrd⟩ := hcv
          rw [hr] at HC
          have HS : Hid (SrchIs keys id p false) := HN.out hc
          clear HY HN hc hr
          go_wp2_with (go_at_call 90; refine (HC.out _).mono ?_; rintro e w4 ⟨rfl, hb4⟩)
          go_ret2
          exact ⟨grown2 hbel hb4, p, false, rfl, HS.out⟩
      · have hd : decide (p < len) = false := by simp; omega
        have hd' : decide ((p : Int) < (len : Int)) = false := by simp; omega
        have HS : Hid (SrchIs keys id p false) := ⟨by have := HKL.out; omega, hT1.out, fun j h1 h2 => hT2.out j h1 (by have := HKL.out; omega), by simp; have := HKL.out; omega⟩
        clear hT1 hT2
        go_wp2_with fail
        go_ret2
        exact ⟨hbel, p, false, rfl, HS.out⟩
theorem may_rising {ls : List Nd} (h : MayN ls) : Rising (ls.map (·.id)) := by
  have hs : ∀ d i, i + d + 1 < ls.length → (ls.getD i nd0).id < (ls.getD (i + d + 1) nd0).id := by
    intro d
    induction d with
    | zero => intro i hi; exact (h.2 (i + 1) hi).2 (by omega)
    | succ d ih =>
      intro i hi
      have h1 := ih i (by omega)
      have h2 := (h.2 (i + (d + 1) + 1) hi).2 (by omega)
      exact Int.lt_trans h1 h2
  intro i j hij hj
  rw [List.length_map] at hj
  have := hs (j - i - 1) i (by omega)
  rw [show i + (j - i - 1) + 1 = j by omega] at this
  simpa [List.getD_eq_getElem?_getD, hj, show i < ls.length by omega] using this
set_option maxRecDepth 60000 in
theorem node_grown (m : Mp) (s : MV) (id : Int) (w : World) (hN : NdsAt w s.aN s.lN s.cN m.nds) (hM : MayN m.nds) : Calls Tryz.prog 68 #[.agg (mapCells m s).toArray, .int .i64 id] w fun e w' => SrchPostG (m.nds.map (·.id)) id w e w' := by
  obtain ⟨ep, sz, mn, gr, nds, tms, trs⟩ := m
  obtain ⟨aN, lN, cN, aT, lT, cT, aR, lR, cR⟩ := s
  simp only at *
  have hb1 := below_alloc w (.cells #[.int .i64 ep, .int .i64 sz, .int .i64 mn, .int .i64 gr, .slice aN lN cN, .slice aT lT cT, .slice aR lR cR] 26)
  have HS : Hid (Calls Tryz.prog 89 #[.slice aN lN cN, .int .i64 id, .func (.func 90) #[] #[]] (w.alloc (.cells #[.int .i64 ep, .int .i64 sz, .int .i64 mn, .int .i64 gr, .slice aN lN cN, .slice aT lT cT, .slice aR lR cR] 26)) fun e w' => SrchPostG (nds.map (·.id)) id (w.alloc (.cells #[.int .i64 ep, .int .i64 sz, .int .i64 mn, .int .i64 gr, .slice aN lN cN, .slice aT lT cT, .slice aR lR cR] 26)) e w') := srchNode aN lN cN nds id _ (hN.below hb1) (by have := hN.1; have := hM.1; omega) (may_rising hM)
  clear hN hM
  show Calls Tryz.prog 68 #[.agg #[.int .i64 ep, .int .i64 sz, .int .i64 mn, .int .i64 gr, .slice aN lN cN, .slice aT lT cT, .slice aR lR cR], .int .i64 id] w fun e w' => SrchPostG (nds.map (·.id)) id w e w'
  go_enter Tryz.func68, Tryz.ntmps68
  go_wp2_with (go_at_call 89; refine HS.out.mono ?_; rintro e w2 ⟨hb2, p, t, rfl, hIs⟩; have HI : Hid (SrchIs (nds.map (·.id)) id p t) := hIs; clear hIs)
  go_ret2
  exact ⟨grown2 (grown_alloc _ _) hb2, p, t, rfl, HI.out⟩
theorem node_any (m : Mp) (s : MV) (id : Int) (w : World) (hN : NdsAt w s.aN s.lN s.cN m.nds) (hM : MayN m.nds) : Calls Tryz.prog 68 #[.agg (mapCells m s).toArray, .int .i64 id] w fun e w' => SrchPost (m.nds.map (·.id)) id w e w' :=
  (node_grown m s id w hN hM).mono fun _ _ ⟨hg, r⟩ => ⟨grown_below hg, r⟩
end Go.Proofs.YtcncbjknfcjnmaaGreat.Tp
namespace Go.Proofs.YtcncbjknfcjnmaaGreat.Tp
open Go.ChangeShapes Go.WideShapes Go.ChangeAt Go.RowKit
theorem tempCmp (g : Int) (a : Option Addr) (len cap : Nat) (i : Int) (w : World) : Calls Tryz.prog 102 #[.agg #[.int .i64 g, .slice a len cap], .int .i64 i] w fun e w' => e = .returned (.int .i64 (cmpI g i)) ∧ Below w.heap.size w w' := by
  have H : Hid (∀ w : World, Calls Tryz.prog 91 #[.int .i64 g, .int .i64 i] w fun e w' => e = .returned (.int .i64 (cmpI g i)) ∧ w' = w) := cmpInt_any g i
  generalize cmpI g i = r at *
  go_enter Tryz.func102, Tryz.ntmps102
  go_wp2_with (go_at_call 91; refine (H.out _).mono ?_; rintro e w' ⟨rfl, hw'⟩; obtain rfl := hw'.symm)
  go_ret
  exact ⟨rfl, below_alloc _ _⟩
set_option maxHeartbeats 1000000 in
set_option maxRecDepth 60000 in
theorem srchTemp (a : Option Addr) (len cap : Nat) (ls : List Tm) (id : Int) (w : World) (h : TmsAt w a len cap ls) (h12 : len ≤ 12) (hR : Rising (ls.map (·.g))) :
    Calls Tryz.prog 101 #[.slice a len cap, .int .i64 id, .func (.func 102) #[] #[]] w fun e w' => SrchPost (ls.map (·.g)) id w e w' := by
  have hl : ls.length = len := h.1
  have h12' : (len : Int) ≤ 12 := by omega
  have HL : Hid (TmsAt w a len cap ls) := h
  have HR : Hid (Rising (ls.map (·.g))) := hR
  have HKL : Hid ((ls.map (·.g)).length = len) := by unfold Hid; simp [hl]
  have HK : Hid (∀ k, k < len → (ls.map (·.g)).getD k 0 = (ls.getD k tm0).g) := fun k hk => by simp [show k < ls.length by omega]
  clear h hR h12
  generalize ls.map (·.g) = keys at *
  go_enter Tryz.func101, Tryz.ntmps101
  go_wp2_with fail
  go_loopw [9, 10] (fun i j wr => ∃ p q : Nat, p ≤ q ∧ q ≤ len ∧ i = .int .i64 p ∧ j = .int .i64 q ∧ Hid (∀ t, t < p → keys.getD t 0 < id) ∧ Hid (∀ t, q ≤ t → t < len → id ≤ keys.getD t 0) ∧ Below w.heap.size w wr) (fun i j _ => (intOf j).toNat - (intOf i).toNat)
  case atStart => exact ⟨0, len, Nat.zero_le _, Nat.le_refl _, rfl, rfl, (fun t ht => absurd ht (Nat.not_lt_zero _)), (fun t h1 h2 => by omega), Below.refl _ _⟩
  case round =>
    obtain ⟨p, q, hpq, hq, rfl, rfl, hT1, hT2, hbel⟩ := hrel
    by_cases hlt : p < q
    · have hlt' : (p : Int) < (q : Int) := by omega
      have hq' : (q : Int) ≤ 12 := by omega
      have hp0 : (0 : Int) ≤ (p : Int) := by omega
      go_upto_region 5 with fail
      obtain ⟨h, hh⟩ : ∃ h : Nat, ((p : Int) + (q : Int)) / 2 = (h : Int) := ⟨(p + q) / 2, by omega⟩
      rw [hh]
      have hph : p ≤ h := by omega
      have hhq : h < q := by omega
      clear hh
      have hh0 : (0 : Int) ≤ (h : Int) := by omega
      have hh1 : (h : Int) < (len : Int) := by omega
      have hh12 : (h : Int) ≤ 12 := by omega
      obtain ⟨b, off, rfl, hbs, hcell⟩ := (HL.out.below hbel).some (by omega)
      obtain ⟨e0, aq, lq, cq, e1, -⟩ := hcell h (by omega)
      have HKH := HK.out h (by omega)
      have HUP : Hid (keys.getD h 0 < id → ∀ t, t < h + 1 → keys.getD t 0 < id) := fun hk t ht => by
        by_cases h' : t = h
        · rw [h']; exact hk
        · exact Int.lt_trans (HR.out t h (by omega) (by have := HKL.out; omega)) hk
      have HDN : Hid (¬ keys.getD h 0 < id → ∀ t, h ≤ t → t < len → id ≤ keys.getD t 0) := fun hk t h1 h2 => by
        by_cases h' : t = h
        · rw [h']; omega
        · have := HR.out h t (by omega) (by have := HKL.out; omega)
          omega
      rw [HKH] at HUP HDN
      clear HKH hcell
      have HC : Hid (∀ W, Calls Tryz.prog 102 #[.agg #[.int .i64 (ls.getD h tm0).g, .slice aq lq cq], .int .i64 id] W fun e w' => e = .returned (.int .i64 (cmpI (ls.getD h tm0).g id)) ∧ Below W.heap.size W w') := tempCmp _ aq lq cq id
      generalize (ls.getD h tm0).g = x1 at *
      by_cases hc : x1 < id
      · have hcv : cmpI x1 id = -1 := by unfold cmpI; rw [if_pos hc]
        rw [hcv] at HC
        have HUP' : Hid (∀ t, t < h + 1 → keys.getD t 0 < id) := HUP.out hc
        clear HUP HDN hcv hc
        go_wp2_with (go_at_call 102; refine (HC.out _).mono ?_; rintro e w4 ⟨rfl, hb4⟩)
        exact ⟨⟨h + 1, q, by omega, by omega, by go_num, rfl, HUP', hT2, below2 hbel hb4⟩, by simp [intOf]; omega⟩
      · have hcv : ∃ r : Int, cmpI x1 id = r ∧ 0 ≤ r ∧ r ≤ 1 := by unfold cmpI; rw [if_neg hc]; split <;> exact ⟨_, rfl, by decide, by decide⟩
        obtain ⟨r, hr, hr0, hr1⟩ := hcv
        have hrd : decide (r < 0) = false := by simp; omega
        rw [hr] at HC
        have HDN' : Hid (∀ t, h ≤ t → t < len → id ≤ keys.getD t 0) := HDN.out hc
        clear HUP HDN hr hc
        go_wp2_with (go_at_call 102; refine (HC.out _).mono ?_; rintro e w4 ⟨rfl, hb4⟩)
        exact ⟨⟨p, h, by omega, by omega, rfl, rfl, hT1, HDN', below2 hbel hb4⟩, by simp [intOf]; omega⟩
    · obtain rfl : p = q := by omega
      have hp0 : (0 : Int) ≤ (p : Int) := by omega
      by_cases hpl : p < len
      · have hpl' : (p : Int) < (len : Int) := by omega
        obtain ⟨b, off, rfl, hbs, hcell⟩ := (HL.out.below hbel).some (by omega)
        obtain ⟨e0, aq, lq, cq, e1, -⟩ := hcell p hpl
        have HKH := HK.out p hpl
        have HY : Hid (keys.getD p 0 = id → SrchIs keys id p true) := fun hk => ⟨by have := HKL.out; omega, hT1.out, fun j h1 h2 => hT2.out j h1 (by have := HKL.out; omega), ⟨fun _ => ⟨by have := HKL.out; omega, hk⟩, fun _ => rfl⟩⟩
        have HN : Hid (keys.getD p 0 ≠ id → SrchIs keys id p false) := fun hk => ⟨by have := HKL.out; omega, hT1.out, fun j h1 h2 => hT2.out j h1 (by have := HKL.out; omega), by simp; intro _; simpa using hk⟩
        rw [HKH] at HY HN
        clear HKH hcell hT1 hT2
        have HC : Hid (∀ W, Calls Tryz.prog 102 #[.agg #[.int .i64 (ls.getD p tm0).g, .slice aq lq cq], .int .i64 id] W fun e w' => e = .returned (.int .i64 (cmpI (ls.getD p tm0).g id)) ∧ Below W.heap.size W w') := tempCmp _ aq lq cq id
        generalize (ls.getD p tm0).g = x1 at *
        by_cases hc : x1 = id
        · have hcv : cmpI x1 id = 0 := by unfold cmpI; rw [if_neg (by omega), if_neg (by omega)]
          rw [hcv] at HC
          have HS : Hid (SrchIs keys id p true) := HY.out hc
          clear HY HN hc hcv
          go_wp2_with (go_at_call 102; refine (HC.out _).mono ?_; rintro e w4 ⟨rfl, hb4⟩)
          go_ret2
          exact ⟨below2 hbel hb4, p, true, rfl, HS.out⟩
        · have hcv : ∃ r : Int, cmpI x1 id = r ∧ (r == 0) = false := by
            unfold cmpI
            by_cases h1 : x1 < id
            · exact ⟨-1, by rw [if_pos h1], rfl⟩
            · exact ⟨1, by rw [if_neg h1, if_pos (by omega)], rfl⟩
          obtain ⟨r, hr, hrd⟩ := hcv
          rw [hr] at HC
          have HS : Hid (SrchIs keys id p false) := HN.out hc
          clear HY HN hc hr
          go_wp2_with (go_at_call 102; refine (HC.out _).mono ?_; rintro e w4 ⟨rfl, hb4⟩)
          go_ret2
          exact ⟨below2 hbel hb4, p, false, rfl, HS.out⟩
      · have hd : decide (p < len) = false := by simp; omega
        have hd' : decide ((p : Int) < (len : Int)) = false := by simp; omega
        have HS : Hid (SrchIs keys id p false) := ⟨by have := HKL.out; omega, hT1.out, fun j h1 h2 => hT2.out j h1 (by have := HKL.out; omega), by simp; have := HKL.out; omega⟩
        clear hT1 hT2
        go_wp2_with fail
        go_ret2
        exact ⟨hbel, p, false, rfl, HS.out⟩
set_option maxRecDepth 60000 in
theorem temp_any (m : Mp) (s : MV) (id : Int) (w : World) (hN : TmsAt w s.aT s.lT s.cT m.tms) (hM : Rising (m.tms.map (·.g))) (h8 : m.tms.length ≤ 8) : Calls Tryz.prog 82 #[.agg (mapCells m s).toArray, .int .i64 id] w fun e w' => SrchPost (m.tms.map (·.g)) id w e w' := by
  obtain ⟨ep, sz, mn, gr, nds, tms, trs⟩ := m
  obtain ⟨aN, lN, cN, aT, lT, cT, aR, lR, cR⟩ := s
  simp only at *
  have hb1 := below_alloc w (.cells #[.int .i64 ep, .int .i64 sz, .int .i64 mn, .int .i64 gr, .slice aN lN cN, .slice aT lT cT, .slice aR lR cR] 26)
  have HS : Hid (Calls Tryz.prog 101 #[.slice aT lT cT, .int .i64 id, .func (.func 102) #[] #[]] (w.alloc (.cells #[.int .i64 ep, .int .i64 sz, .int .i64 mn, .int .i64 gr, .slice aN lN cN, .slice aT lT cT, .slice aR lR cR] 26)) fun e w' => SrchPost (tms.map (·.g)) id (w.alloc (.cells #[.int .i64 ep, .int .i64 sz, .int .i64 mn, .int .i64 gr, .slice aN lN cN, .slice aT lT cT, .slice aR lR cR] 26)) e w') := srchTemp aT lT cT tms id _ (hN.below hb1) (by have := hN.1; omega) hM
  clear hN hM h8
  show Calls Tryz.prog 82 #[.agg #[.int .i64 ep, .int .i64 sz, .int .i64 mn, .int .i64 gr, .slice aN lN cN, .slice aT lT cT, .slice aR lR cR], .int .i64 id] w fun e w' => SrchPost (tms.map (·.g)) id w e w'
  go_enter Tryz.func82, Tryz.ntmps82
  go_wp2_with (go_at_call 101; refine HS.out.mono ?_; rintro e w2 ⟨hb2, p, t, rfl, hIs⟩; have HI : Hid (SrchIs (tms.map (·.g)) id p t) := hIs; clear hIs)
  go_ret2
  exact ⟨below2 hb1 hb2, p, t, rfl, HI.out⟩
end Go.Proofs.YtcncbjknfcjnmaaGreat.Tp
