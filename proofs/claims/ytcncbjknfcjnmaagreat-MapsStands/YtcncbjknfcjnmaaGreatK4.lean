/-
  The contracts of raw and acting.
-/
import Derived.Test.YtcncbjknfcjnmaaGreatK3
import Derived.Test.YtcncbjknfcjnmaaGreatPe
namespace Go.Proofs.YtcncbjknfcjnmaaGreat.Tp
open Go.ChangeShapes Go.WideShapes Go.ChangeAt Go.RowKit
/-- where a group shall stand -/
def rawP (m : Mp) (g : Int) : List Int := match m.tms.find? (fun t => t.g == g) with | some t => t.ns | none => ofP m.nds g m.size.toNat
def actP (m : Mp) (g : Int) : List Int := (rawP m g).filter (upB m.nds)
/-- a map whose nodes and Temps may be -/
structure StandOk (m : Mp) : Prop where
  size : 1 ≤ m.size ∧ m.size ≤ 3
  nds : MayN m.nds
  rise : Rising (m.tms.map (·.g))
  few : m.tms.length ≤ 8
  ns : ∀ t ∈ m.tms, (t.ns.length : Int) ≤ m.size
theorem srch_find {ls : List Tm} {g : Int} {p : Nat} {t : Bool} (hR : Rising (ls.map (·.g))) (h : SrchIs (ls.map (·.g)) g p t) : (t = true → p < ls.length ∧ ls.find? (fun t => t.g == g) = some (ls.getD p tm0)) ∧ (t = false → ls.find? (fun t => t.g == g) = none) := by
  obtain ⟨h1, h2, h3, h4⟩ := h
  have key : ∀ j, j < ls.length → (ls.map (·.g)).getD j 0 = (ls.getD j tm0).g := fun j hj => by simp [hj]
  simp only [List.length_map] at h1 h3 h4
  constructor
  · intro ht
    obtain ⟨hp, he⟩ := h4.1 ht
    refine ⟨hp, ?_⟩
    rw [List.find?_eq_some_iff_getElem, show ls.getD p tm0 = ls[p] by simp [hp]]
    have he' := (key p hp).symm.trans he
    rw [show ls.getD p tm0 = ls[p] by simp [hp]] at he'
    refine ⟨by simpa using he', p, hp, rfl, fun j hj => ?_⟩
    have := h2 j hj
    rw [key j (by omega), show ls.getD j tm0 = ls[j] by simp [show j < ls.length by omega]] at this
    simp
    omega
  · intro ht
    rw [List.find?_eq_none]
    intro x hx
    obtain ⟨j, hj, rfl⟩ := List.getElem_of_mem hx
    have kj := key j hj
    rw [show ls.getD j tm0 = ls[j] by simp [hj]] at kj
    intro e
    have e' : (ls[j]).g = g := by simpa using e
    by_cases hjp : j < p
    · have := h2 j hjp
      omega
    · by_cases hpe : j = p
      · subst hpe
        have := h4.2 ⟨hj, kj.trans e'⟩
        rw [ht] at this
        exact absurd this (by decide)
      · have h5 := h3 p (Nat.le_refl _) (by omega)
        have h6 := hR p j (by omega) (by rw [List.length_map]; exact hj)
        omega
theorem RowI.lies {w : World} {a : Option Addr} {len cap : Nat} {l : List Int} (h : RowI w a len cap l) : Lies w a len (intCells l) := by
  rcases h.2.2.2.2 with h0 | ⟨b, off, e, hc⟩
  · exact .inl h0
  · refine .inr ⟨b, off, e, fun j u hj => ?_⟩
    have hl := h.1
    have hlt : j < (intCells l).length := (List.getElem?_eq_some_iff.1 hj).1
    have hlt' : j < l.length := by simpa [intCells] using hlt
    rw [hc j (by omega)]
    rw [show (intCells l)[j]? = Option.some (Value.int .i64 (l.getD j 0)) by simp [intCells, hlt']] at hj
    exact hj
theorem intCells_one (l : List Int) : ∀ u ∈ intCells l, u.oneCell' = true := fun u hu => by
  obtain ⟨x, _, rfl⟩ := List.mem_map.1 hu
  rfl
theorem copyInts (a : Option Addr) (len cap : Nat) (l : List Int) (w : World) (h : RowI w a len cap l) (hm : len ≤ 1000) : Calls Tryz.prog 61 #[.slice a len cap] w fun e w' => IntsPost l w e w' :=
  (copiedInt a len cap (intCells l) w (by simp [intCells, h.1]) hm h.lies h.2.2.2.1 (intCells_one l)).mono fun e w' ⟨hb, v, he, ho, _⟩ => by
    obtain ⟨a', cap', rfl, hc⟩ := own_slice ho
    have hl := h.1
    subst hl
    exact ⟨hb, a', cap', he, ints_own ho rfl, ho⟩
set_option maxRecDepth 60000 in
theorem raw_any {m : Mp} {s : MV} (hS : StandOk m) {g : Int} (hg : 0 ≤ g ∧ g ≤ 7) (w : World) (hN : NdsAt w s.aN s.lN s.cN m.nds) (hT : TmsAt w s.aT s.lT s.cT m.tms) :
    Calls Tryz.prog 53 #[.agg (mapCells m s).toArray, .int .i64 g] w fun e w' => IntsPost (rawP m g) w e w' := by
  have hb1 := below_alloc w (.cells (mapCells m s).toArray 26)
  have HC : Hid (Calls Tryz.prog 82 #[.agg (mapCells m s).toArray, .int .i64 g] (w.alloc (.cells (mapCells m s).toArray 26)) fun e w' => SrchPost (m.tms.map (·.g)) g (w.alloc (.cells (mapCells m s).toArray 26)) e w') := temp_any m s g _ (hT.below hb1) hS.rise hS.few
  have HO : Hid (∀ W, Below w.heap.size w W → Calls Tryz.prog 83 #[.slice s.aN s.lN s.cN, .int .i64 g, .int .i64 m.size] W fun e w' => OfPost m.nds g m.size W e w') := fun W hb => of_any _ _ _ m.nds g m.size W (hN.below hb)
  have HOF : Hid (∀ out, OfIs m.nds g m.size out → out = ofP m.nds g m.size.toNat) := fun out h => by
    rcases h with ⟨_, h⟩ | ⟨h, _⟩
    · exact h
    · exact absurd ⟨⟨hS.nds, hg⟩, hS.size⟩ h
  have HT : Hid (TmsAt w s.aT s.lT s.cT m.tms) := hT
  have HF : Hid (∀ p t, SrchIs (m.tms.map (·.g)) g p t → (t = true → p < m.tms.length ∧ rawP m g = (m.tms.getD p tm0).ns) ∧ (t = false → rawP m g = ofP m.nds g m.size.toNat)) := fun p t h => ⟨fun e => ⟨((srch_find hS.rise h).1 e).1, by unfold rawP; rw [((srch_find hS.rise h).1 e).2]⟩, fun e => by unfold rawP; rw [(srch_find hS.rise h).2 e]⟩
  have H3 : Hid (∀ p, p < m.tms.length → ((m.tms.getD p tm0).ns.length : Int) ≤ 3) := fun p hp => by
    rw [show m.tms.getD p tm0 = m.tms[p] by simp [hp]]
    exact Int.le_trans (hS.ns _ (List.getElem_mem _)) hS.size.2
  have h8 : (s.lT : Int) ≤ 8 := by have := hT.1; have := hS.few; omega
  have HTL : Hid (m.tms.length = s.lT) := hT.1
  clear hS hN hT hg
  rw [map_split] at *
  generalize rawP m g = rw0 at *
  obtain ⟨ep, sz, mn, gr, nds, tms, trs⟩ := m
  obtain ⟨aN, lN, cN, aT, lT, cT, aR, lR, cR⟩ := s
  simp only [mapCells] at *
  have HBX : Hid (Box7 (w.alloc (.cells #[.int .i64 ep, .int .i64 sz, .int .i64 mn, .int .i64 gr, .slice aN lN cN, .slice aT lT cT, .slice aR lR cR] 26)) w.heap.size (.int .i64 ep) (.int .i64 sz) (.int .i64 mn) (.int .i64 gr) (.slice aN lN cN) (.slice aT lT cT) (.slice aR lR cR)) := Box7.new w _ _ _ _ _ _ _ _
  go_enter Tryz.func53, Tryz.ntmps53
  go_upto_region 2 with (go_at_call 82; refine HC.out.mono ?_; rintro e w2 ⟨hb2, p, t, rfl, hIs⟩; have HI : Hid (SrchIs (tms.map (·.g)) g p t) := hIs; clear hIs)
  obtain ⟨⟨c0, c1, c2, c3, c4, c5, c6⟩, -⟩ := HBX.out.below hb2
  have hbw2 := below2 hb1 hb2
  clear HC HBX
  cases t with
  | true =>
    obtain ⟨hp, hr⟩ := (HF.out p true HI.out).1 rfl
    have hpl : p < lT := by have := HTL.out; omega
    obtain ⟨bb, off, rfl, hbs, hcell⟩ := (HT.out.below hbw2).some (by omega)
    obtain ⟨e0, aq, lq, cq, e1, hrow⟩ := hcell p hpl
    have hp0 : (0 : Int) ≤ (p : Int) := by omega
    have hp1 : (p : Int) < (lT : Int) := by omega
    have h3 := H3.out p hp
    have hrl := hrow.1
    have HCI : Hid (Calls Tryz.prog 61 #[.slice aq lq cq] w2 fun e w' => IntsPost rw0 w2 e w') := by
      rw [hr]
      exact copyInts aq lq cq _ w2 hrow (by omega)
    clear hcell hrow h3 hrl hr HF HI H3 HO HOF e0 hp
    go_wp2_with (go_at_call 61; refine HCI.out.mono ?_; rintro e w3 ⟨hb3, a3, c3', rfl, hO3⟩; have HO3 : Hid (IntsOwn w2.heap.size w3 a3 c3' rw0) := hO3; clear hO3)
    go_ret
    exact ⟨below2 hbw2 hb3, a3, c3', rfl, HO3.out.base hbw2.size⟩
  | false =>
    have hr := (HF.out p false HI.out).2 rfl
    have HOO : Hid (Calls Tryz.prog 83 #[.slice aN lN cN, .int .i64 g, .int .i64 sz] w2 fun e w' => IntsPost rw0 w2 e w') := (HO.out w2 hbw2).mono fun e w' ⟨hb, a, cap, out, he, hI, hOf⟩ => by
      obtain rfl := HOF.out out hOf
      rw [hr]
      exact ⟨hb, a, cap, he, hI⟩
    clear HF HI H3 HO HOF hr
    go_wp2_with (go_at_call 83; refine HOO.out.mono ?_; rintro e w3 ⟨hb3, a3, c3', rfl, hO3⟩; have HO3 : Hid (IntsOwn w2.heap.size w3 a3 c3' rw0) := hO3; clear hO3)
    go_ret
    exact ⟨below2 hbw2 hb3, a3, c3', rfl, HO3.out.base hbw2.size⟩
theorem raw_len {m : Mp} (hS : StandOk m) (g : Int) : ((rawP m g).length : Int) ≤ m.size := by
  unfold rawP
  cases h : m.tms.find? (fun t => t.g == g) with
  | some t => exact hS.ns t (List.mem_of_find?_eq_some h)
  | none =>
    have := of_len hS.nds g m.size.toNat
    have := hS.size
    show ((ofP m.nds g m.size.toNat).length : Int) ≤ _
    omega
set_option maxRecDepth 60000 in
theorem acting_any {m : Mp} {s : MV} (hS : StandOk m) {g : Int} (hg : 0 ≤ g ∧ g ≤ 7) (w : World) (hN : NdsAt w s.aN s.lN s.cN m.nds) (hT : TmsAt w s.aT s.lT s.cT m.tms) :
    Calls Tryz.prog 56 #[.agg (mapCells m s).toArray, .int .i64 g] w fun e w' => IntsPost (actP m g) w e w' := by
  have hb1 := below_alloc w (.cells (mapCells m s).toArray 26)
  have HC : Hid (Calls Tryz.prog 53 #[.agg (mapCells m s).toArray, .int .i64 g] (w.alloc (.cells (mapCells m s).toArray 26)) fun e w' => IntsPost (rawP m g) (w.alloc (.cells (mapCells m s).toArray 26)) e w') := raw_any hS hg _ (hN.below hb1) (hT.below hb1)
  have HBX : Hid (Box7 (w.alloc (.cells (mapCells m s).toArray 26)) w.heap.size (.int .i64 m.ep) (.int .i64 m.size) (.int .i64 m.mn) (.int .i64 m.gr) (.slice s.aN s.lN s.cN) (.slice s.aT s.lT s.cT) (.slice s.aR s.lR s.cR)) := Box7.new w _ _ _ _ _ _ _ _
  have HD : Hid (∀ (w2 : World) (a : Option Addr) (cap : Nat), Below (w.alloc (.cells (mapCells m s).toArray 26)).heap.size (w.alloc (.cells (mapCells m s).toArray 26)) w2 → IntsOwn (w.alloc (.cells (mapCells m s).toArray 26)).heap.size w2 a cap (rawP m g) →
      Calls Tryz.prog 86 #[.slice a (rawP m g).length cap, .func (.func 87) #[] #[.pointer (some ⟨w.heap.size, 0, none⟩)]] w2 fun e w' => IntsPost (actP m g) w e w') := fun w2 a cap hb2 hO => by
    have hl := raw_len hS g
    have h3 := hS.size
    refine (deleteFunc_any w.heap.size _ _ (fun x => !upB m.nds x) (fun W x hb => up_closure m s w.heap.size x W ((hN.below hb1).below hb) hS.nds (HBX.out.below hb)) (Nat.le_refl _) a cap (rawP m g) w2 hb2 hO (by omega)).mono ?_
    rintro e w3 ⟨hb3, rfl, hO3⟩
    have ef : ((rawP m g).filter fun x => !(!upB m.nds x)) = actP m g := by unfold actP; congr 1; funext x; simp
    rw [ef] at hO3 ⊢
    exact ⟨below2 hb1 hb3, a, cap, rfl, hO3.base (by simp)⟩
  clear hS hN hT hg HBX
  rw [map_split] at *
  generalize rawP m g = rw0 at *
  generalize actP m g = ac0 at *
  obtain ⟨ep, sz, mn, gr, nds, tms, trs⟩ := m
  obtain ⟨aN, lN, cN, aT, lT, cT, aR, lR, cR⟩ := s
  simp only [mapCells] at *
  go_enter Tryz.func56, Tryz.ntmps56
  go_wp2_with (first
    | (go_at_call 53; refine HC.out.mono ?_; rintro e w2 ⟨hb2, a2, c2', rfl, hO2⟩; have HO2 : Hid (IntsOwn _ w2 a2 c2' rw0) := hO2; clear hO2)
    | (go_at_call 86; refine (HD.out _ _ _ hb2 HO2.out).mono ?_; rintro e w3 ⟨hb3, a3, c3', rfl, hO3⟩; have HO3 : Hid (IntsOwn w.heap.size w3 a3 c3' ac0) := hO3; clear hO3))
  go_ret
  exact ⟨hb3, a3, c3', rfl, HO3.out⟩
end Go.Proofs.YtcncbjknfcjnmaaGreat.Tp
