/-
  The contracts of hasGroup, Raw and Acting, of maps that Check takes.
  The contract of awake.
-/
import Derived.Test.YtcncbjknfcjnmaaGreatK7
namespace Go.Proofs.YtcncbjknfcjnmaaGreat.Tp
open Go.ChangeShapes Go.WideShapes Go.ChangeAt Go.RowKit
theorem hasGroup_any (m : Mp) (s : MV) (g : Int) (h : 1 ≤ m.gr ∧ m.gr ≤ 8) (w : World) : Calls Tryz.prog 52 #[.agg (mapCells m s).toArray, .int .i64 g] w fun e w' => e = .returned (.bool (inB g 0 (m.gr - 1))) ∧ Below w.heap.size w w' := by
  have HW : Hid (∀ w : World, Calls Tryz.prog 39 #[.int .i64 g, .int .i64 0, .int .i64 (m.gr - 1)] w fun e w' => e = .returned (.bool (inB g 0 (m.gr - 1))) ∧ w' = w) := mwithin_any g 0 (m.gr - 1)
  rw [map_split]
  obtain ⟨ep, sz, mn, gr, nds, tms, trs⟩ := m
  obtain ⟨aN, lN, cN, aT, lT, cT, aR, lR, cR⟩ := s
  simp only at *
  obtain ⟨h1, h2⟩ := h
  generalize inB g 0 (gr - 1) = q at *
  go_enter Tryz.func52, Tryz.ntmps52
  go_wp2_with (go_at_call 39; refine (HW.out _).mono ?_; rintro e w' ⟨rfl, hw'⟩; obtain rfl := hw'.symm)
  go_ret
  exact ⟨rfl, below_alloc _ _⟩
set_option maxRecDepth 60000 in
theorem rawX_yes {m : Mp} {s : MV} (hS : StandOk m) {g : Int} (hg : 0 ≤ g ∧ g < m.gr) (h8 : m.gr ≤ 8) (w : World) (hck : ∀ W, Below w.heap.size w W → Calls Tryz.prog 17 #[.agg (mapCells m s).toArray] W fun e w' => e = .returned (.int .i64 0) ∧ Below W.heap.size W w') (hN : NdsAt w s.aN s.lN s.cN m.nds) (hT : TmsAt w s.aT s.lT s.cT m.tms) :
    Calls Tryz.prog 23 #[.agg (mapCells m s).toArray, .int .i64 g] w fun e w' => IntsPost (rawP m g) w e w' := by
  have HCK : Hid (∀ W, Below w.heap.size w W → Calls Tryz.prog 17 #[.agg (mapCells m s).toArray] W fun e w' => e = .returned (.int .i64 0) ∧ Below W.heap.size W w') := hck
  have HHG : Hid (∀ W, Calls Tryz.prog 52 #[.agg (mapCells m s).toArray, .int .i64 g] W fun e w' => e = .returned (.bool true) ∧ Below W.heap.size W w') := fun W => (hasGroup_any m s g (by omega) W).mono fun e w' ⟨he, hb⟩ => ⟨by rw [he, (inB_iff g 0 (m.gr - 1)).2 (by omega)], hb⟩
  have HRW : Hid (∀ W, Below w.heap.size w W → Calls Tryz.prog 53 #[.agg (mapCells m s).toArray, .int .i64 g] W fun e w' => IntsPost (rawP m g) W e w') := fun W hb => raw_any hS (by omega) W (hN.below hb) (hT.below hb)
  have hb1 := below_alloc w (.cells (mapCells m s).toArray 26)
  clear hck hN hT hS hg h8
  rw [map_split] at *
  generalize rawP m g = out at *
  obtain ⟨ep, sz, mn, gr, nds, tms, trs⟩ := m
  obtain ⟨aN, lN, cN, aT, lT, cT, aR, lR, cR⟩ := s
  simp only [mapCells] at *
  have HBX : Hid (Box7 (w.alloc (.cells #[.int .i64 ep, .int .i64 sz, .int .i64 mn, .int .i64 gr, .slice aN lN cN, .slice aT lT cT, .slice aR lR cR] 26)) w.heap.size (.int .i64 ep) (.int .i64 sz) (.int .i64 mn) (.int .i64 gr) (.slice aN lN cN) (.slice aT lT cT) (.slice aR lR cR)) := Box7.new w _ _ _ _ _ _ _ _
  go_enter Tryz.func23, Tryz.ntmps23
  go_wp2_with (first
    | (go_at_call 17; refine (HCK.out _ hb1).mono ?_; rintro e w2 ⟨rfl, hb2⟩; obtain ⟨⟨c0, c1, c2, c3, c4, c5, c6⟩, -⟩ := HBX.out.below hb2)
    | (go_at_call 52; refine (HHG.out _).mono ?_; rintro e w3 ⟨rfl, hb3⟩; obtain ⟨⟨d0, d1, d2, d3, d4, d5, d6⟩, -⟩ := (HBX.out.below hb2).below hb3)
    | (go_at_call 53; refine (HRW.out _ (below2 hb1 (below2 hb2 hb3))).mono ?_; rintro e w4 ⟨hb4, a4, cp4, rfl, hO4⟩; have HO4 := show Hid (IntsOwn w3.heap.size w4 a4 cp4 out) from hO4; clear hO4))
  go_ret
  exact ⟨below2 hb1 (below2 hb2 (below2 hb3 hb4)), a4, cp4, rfl, HO4.out.base (below2 hb1 (below2 hb2 hb3)).size⟩
set_option maxRecDepth 60000 in
theorem actX_yes {m : Mp} {s : MV} (hS : StandOk m) {g : Int} (hg : 0 ≤ g ∧ g < m.gr) (h8 : m.gr ≤ 8) (w : World) (hck : ∀ W, Below w.heap.size w W → Calls Tryz.prog 17 #[.agg (mapCells m s).toArray] W fun e w' => e = .returned (.int .i64 0) ∧ Below W.heap.size W w') (hN : NdsAt w s.aN s.lN s.cN m.nds) (hT : TmsAt w s.aT s.lT s.cT m.tms) :
    Calls Tryz.prog 25 #[.agg (mapCells m s).toArray, .int .i64 g] w fun e w' => IntsPost (actP m g) w e w' := by
  have HCK : Hid (∀ W, Below w.heap.size w W → Calls Tryz.prog 17 #[.agg (mapCells m s).toArray] W fun e w' => e = .returned (.int .i64 0) ∧ Below W.heap.size W w') := hck
  have HHG : Hid (∀ W, Calls Tryz.prog 52 #[.agg (mapCells m s).toArray, .int .i64 g] W fun e w' => e = .returned (.bool true) ∧ Below W.heap.size W w') := fun W => (hasGroup_any m s g (by omega) W).mono fun e w' ⟨he, hb⟩ => ⟨by rw [he, (inB_iff g 0 (m.gr - 1)).2 (by omega)], hb⟩
  have HRW : Hid (∀ W, Below w.heap.size w W → Calls Tryz.prog 56 #[.agg (mapCells m s).toArray, .int .i64 g] W fun e w' => IntsPost (actP m g) W e w') := fun W hb => acting_any hS (by omega) W (hN.below hb) (hT.below hb)
  have hb1 := below_alloc w (.cells (mapCells m s).toArray 26)
  clear hck hN hT hS hg h8
  rw [map_split] at *
  generalize actP m g = out at *
  obtain ⟨ep, sz, mn, gr, nds, tms, trs⟩ := m
  obtain ⟨aN, lN, cN, aT, lT, cT, aR, lR, cR⟩ := s
  simp only [mapCells] at *
  have HBX : Hid (Box7 (w.alloc (.cells #[.int .i64 ep, .int .i64 sz, .int .i64 mn, .int .i64 gr, .slice aN lN cN, .slice aT lT cT, .slice aR lR cR] 26)) w.heap.size (.int .i64 ep) (.int .i64 sz) (.int .i64 mn) (.int .i64 gr) (.slice aN lN cN) (.slice aT lT cT) (.slice aR lR cR)) := Box7.new w _ _ _ _ _ _ _ _
  go_enter Tryz.func25, Tryz.ntmps25
  go_wp2_with (first
    | (go_at_call 17; refine (HCK.out _ hb1).mono ?_; rintro e w2 ⟨rfl, hb2⟩; obtain ⟨⟨c0, c1, c2, c3, c4, c5, c6⟩, -⟩ := HBX.out.below hb2)
    | (go_at_call 52; refine (HHG.out _).mono ?_; rintro e w3 ⟨rfl, hb3⟩; obtain ⟨⟨d0, d1, d2, d3, d4, d5, d6⟩, -⟩ := (HBX.out.below hb2).below hb3)
    | (go_at_call 56; refine (HRW.out _ (below2 hb1 (below2 hb2 hb3))).mono ?_; rintro e w4 ⟨hb4, a4, cp4, rfl, hO4⟩; have HO4 := show Hid (IntsOwn w3.heap.size w4 a4 cp4 out) from hO4; clear hO4))
  go_ret
  exact ⟨below2 hb1 (below2 hb2 (below2 hb3 hb4)), a4, cp4, rfl, HO4.out.base (below2 hb1 (below2 hb2 hb3)).size⟩
/-- what awake asks, plainly -/
def n5 : Nd := ⟨5, 1, 1, 3, false, true⟩
def n5u : Nd := ⟨5, 1, 1, 3, true, true⟩
def aw0 : Mp := newM 3 2 4
def aw0' : Mp := { aw0 with nds := [n5] }
def aw1 : Mp := turnM aw0 aw0' 4
def aw1' : Mp := { aw1 with nds := [n5u] }
def aw2 : Mp := turnM aw1 aw1' 4
theorem n5_in : InN n5 := by unfold InN; decide
theorem n5u_in : InN n5u := by unfold InN; decide
theorem of_empty (g : Int) (n : Nat) : ofP [] g n = [] := by
  have hM : MayN [] := ⟨Nat.zero_le _, fun i hi => by simp at hi⟩
  rw [of_eq hM]
  have hp : (ordF (keyOf g 1 0 0) (zonesOf [])).Perm ((Dr.heavy (zonesOf [])).map (·.1)) := ord_perm _ (sumF_may hM)
  have hh : (Dr.heavy (zonesOf [])).map (·.1) = [] := by decide +kernel
  rw [hh] at hp
  unfold zsOf
  rw [List.perm_nil.1 hp]
  simp
theorem of_n5 (g : Int) (n : Nat) : ofP [n5] g (n + 1) = [5] := by
  have hM : MayN [n5] := one_may n5_in
  have hzo : zonesOf [n5] = [(1, 3)] := by decide +kernel
  rw [of_eq hM]
  have hp : (ordF (keyOf g 1 0 0) (zonesOf [n5])).Perm ((Dr.heavy (zonesOf [n5])).map (·.1)) := ord_perm _ (sumF_may hM)
  have hh : (Dr.heavy (zonesOf [n5])).map (·.1) = [1] := by rw [hzo]; decide
  rw [hh] at hp
  have hz : zsOf [n5] g (n + 1) = [1] := by
    unfold zsOf
    rw [List.perm_singleton.1 hp]
    simp
  rw [hz]
  obtain ⟨m, hm, _, _, _, e⟩ := pk_one hM g (z := 1) ⟨(1, 3), by rw [hzo]; simp, by decide, rfl⟩
  rw [List.map_cons, List.map_nil, e]
  simp at hm
  rw [hm]
  rfl
theorem of_n5u (g : Int) (n : Nat) : ofP [n5u] g (n + 1) = [5] := by
  have hM : MayN [n5u] := one_may n5u_in
  have hzo : zonesOf [n5u] = [(1, 3)] := by decide +kernel
  rw [of_eq hM]
  have hp : (ordF (keyOf g 1 0 0) (zonesOf [n5u])).Perm ((Dr.heavy (zonesOf [n5u])).map (·.1)) := ord_perm _ (sumF_may hM)
  have hh : (Dr.heavy (zonesOf [n5u])).map (·.1) = [1] := by rw [hzo]; decide
  rw [hh] at hp
  have hz : zsOf [n5u] g (n + 1) = [1] := by
    unfold zsOf
    rw [List.perm_singleton.1 hp]
    simp
  rw [hz]
  obtain ⟨m, hm, _, _, _, e⟩ := pk_one hM g (z := 1) ⟨(1, 3), by rw [hzo]; simp, by decide, rfl⟩
  rw [List.map_cons, List.map_nil, e]
  simp at hm
  rw [hm]
  rfl
theorem raw_eq {m : Mp} (ht : m.tms = []) (g : Int) : rawP m g = ofP m.nds g m.size.toNat := by unfold rawP; rw [ht]; rfl
theorem act_eq {m : Mp} (ht : m.tms = []) (g : Int) : actP m g = (ofP m.nds g m.size.toNat).filter (upB m.nds) := by unfold actP; rw [raw_eq ht]
theorem act0 (g : Int) : actP aw0 g = [] := by
  rw [act_eq rfl, show aw0.nds = [] from rfl, show aw0.size.toNat = 3 from rfl, of_empty]
  rfl
theorem act0' (g : Int) : actP aw0' g = [] := by
  rw [act_eq rfl, show aw0'.nds = [n5] from rfl, show aw0'.size.toNat = 2 + 1 from rfl, of_n5]
  rfl
theorem act1' (g : Int) : actP aw1' g = [5] := by
  rw [act_eq rfl, show aw1'.nds = [n5u] from rfl, show aw1'.size.toNat = 2 + 1 from rfl, of_n5u]
  rfl
theorem act1 (g : Int) : actP aw1 g = [] := by
  rw [act_eq rfl, show aw1.nds = [n5] from rfl, show aw1.size.toNat = 2 + 1 from rfl, of_n5]
  rfl
theorem act2 (g : Int) : actP aw2 g = [5] := by
  rw [act_eq rfl, show aw2.nds = [n5u] from rfl, show aw2.size.toNat = 2 + 1 from rfl, of_n5u]
  rfl
theorem raw1 (g : Int) : rawP aw1 g = [5] := by
  rw [raw_eq rfl, show aw1.nds = [n5] from rfl, show aw1.size.toNat = 2 + 1 from rfl, of_n5]
theorem turnTrs_mem (m m' : Mp) (k : Nat) : ∀ t ∈ turnTrs m m' k, t ∈ m.trs ∨ t = ⟨m.ep + 1, []⟩ := by
  induction k with
  | zero => exact fun t ht => .inl ht
  | succ k ih =>
    intro t ht
    unfold turnTrs at ht
    split at ht
    · exact ih t ht
    · rcases List.mem_or_eq_of_mem_set ht with h | h
      · exact ih t h
      · exact .inr h
theorem turn_ok {m m' : Mp} (h : BareOk m) (hm' : m' = { m with nds := m'.nds }) (hN : MayN m'.nds) (hep : m.ep < 2147483647) (n : Nat) : BareOk (turnM m m' n) := by
  have e1 : m'.size = m.size := by rw [hm']
  have e2 : m'.mn = m.mn := by rw [hm']
  have e3 : m'.gr = m.gr := by rw [hm']
  have e4 : m'.tms = m.tms := by rw [hm']
  have := h.ep0
  refine ⟨by show 0 ≤ m.ep + 1; omega, by show m.ep + 1 ≤ _; omega, ?_, hN, e4.trans h.tms, ?_, ?_⟩
  · show CountOk m'.size m'.mn m'.gr
    rw [e1, e2, e3]
    exact h.cnt
  · show ((turnTrs m m' n).length : Int) = m'.gr
    rw [turnTrs_len, e3]
    exact h.trn
  · intro t ht
    rcases turnTrs_mem m m' n t ht with h1 | h1
    · obtain ⟨q1, q2, q3⟩ := h.trs t h1
      exact ⟨q1, q2, by show t.since ≤ m.ep + 1; omega⟩
    · rw [h1]
      exact ⟨rfl, by show 0 ≤ m.ep + 1; omega, Int.le_refl _⟩
theorem aw0_ok : BareOk aw0 := new_ok (n := 4) (by unfold CountOk; decide)
theorem aw1_ok : BareOk aw1 := turn_ok aw0_ok rfl (one_may n5_in) (by decide) 4
theorem aw2_ok : BareOk aw2 := turn_ok aw1_ok rfl (one_may n5u_in) (by decide) 4
theorem aw0'_stand : StandOk aw0' := ⟨by decide, one_may n5_in, fun i j _ hj => by simp [aw0', aw0, newM] at hj, Nat.zero_le _, fun t ht => by simp [aw0', aw0, newM] at ht⟩
theorem aw1'_stand : StandOk aw1' := ⟨by decide, one_may n5u_in, fun i j _ hj => by simp [aw1', aw1, turnM, aw0', aw0, newM] at hj, Nat.zero_le _, fun t ht => by simp [aw1', aw1, turnM, aw0', aw0, newM] at ht⟩
theorem apply_one {s : MV} (w : World) (h : BareAt w aw0 s) : Calls Tryz.prog 15 #[.agg (mapCells aw0 s).toArray, .agg #[.int .i64 1, .int .i64 5, .int .i64 1, .int .i64 1, .int .i64 3, .int .i64 0, .slice none 0 0]] w fun e w' => BarePost aw1 w e w' :=
  apply_bare (m' := aw0') 4 _ _ _ _ _ _ _ aw0_ok aw0'_stand rfl (by decide) rfl (fun k _ hne => absurd ((act0 k).trans (act0' k).symm) hne) (fun W s' hN => refusal_add (id := 5) (z := 1) (r := 1) (wt := 3) n5_in rfl (by decide) W hN) (fun W g => concerns_add g 5 1 1 3 W) (fun pm N s' hs W hl hN => change_add (id := 5) (z := 1) (r := 1) (wt := 3) rfl (hs rfl) W hl hN) w h
theorem apply_two {s : MV} (w : World) (h : BareAt w aw1 s) : Calls Tryz.prog 15 #[.agg (mapCells aw1 s).toArray, .agg #[.int .i64 3, .int .i64 5, .int .i64 0, .int .i64 0, .int .i64 0, .int .i64 0, .slice none 0 0]] w fun e w' => BarePost aw2 w e w' :=
  apply_bare (m' := aw1') 4 _ _ _ _ _ _ _ aw1_ok aw1'_stand rfl (by decide) rfl (fun k _ _ => by rw [act1]; decide) (fun W s' hN => refusal_up (id := 5) (c2 := 1) (c3 := 1) (c4 := 3) (c6 := true) n5_in rfl (by decide) W hN) (fun W g => concerns_up g 5 0 0 0 W) (fun pm N s' hs W hl hN => change_up (id := 5) (c2 := 1) (c3 := 1) (c4 := 3) (c6 := true) n5_in rfl W hl hN) w h
end Go.Proofs.YtcncbjknfcjnmaaGreat.Tp
namespace Go.Proofs.YtcncbjknfcjnmaaGreat.Tp
open Go.ChangeShapes Go.WideShapes Go.ChangeAt Go.RowKit
theorem ints_row {w : World} {B : Nat} {a : Option Addr} {c : Nat} {l : List Int} (h : IntsOwn B w a c l) : RowI w a l.length c l := own_rowI h.2
theorem five_row (w : World) : RowI (w.alloc (.cells #[.int .i64 5] 3)) (some ⟨w.heap.size, 0, none⟩) 1 1 [5] :=
  ⟨rfl, Nat.le_refl _, by unfold maxLen; omega, fun h => by simp at h, .inr ⟨w.heap.size, 0, rfl, fun i hi => by
    obtain rfl : i = 0 := by omega
    simp⟩⟩
set_option maxHeartbeats 2000000 in
set_option maxRecDepth 60000 in
theorem awake_any (w : World) : Calls Tryz.prog 11 #[] w fun e w' => TruePost w e w' := by
  have HNEW : Hid (∀ W, Calls Tryz.prog 9 #[.int .i64 3, .int .i64 2, .int .i64 4] W fun e w' => ∃ s0 : MV, e = .returned (.tuple #[.agg #[.int .i64 0, .int .i64 3, .int .i64 2, .int .i64 4, .slice s0.aN s0.lN s0.cN, .slice s0.aT s0.lT s0.cT, .slice s0.aR s0.lR s0.cR], .int .i64 0]) ∧ BareAt w' aw0 s0 ∧ Below W.heap.size W w') := fun W =>
    (new_yes (s := 3) (l := 2) (n := 4) (by unfold CountOk; decide) W).mono fun e w' ⟨hb, p, he, ho⟩ => ⟨_, he, bare_new (n := 4) 3 2 (by decide) ho, hb⟩
  have HAP1 : Hid (∀ W s0, BareAt W aw0 s0 → Calls Tryz.prog 15 #[.agg #[.int .i64 0, .int .i64 3, .int .i64 2, .int .i64 4, .slice s0.aN s0.lN s0.cN, .slice s0.aT s0.lT s0.cT, .slice s0.aR s0.lR s0.cR], .agg #[.int .i64 1, .int .i64 5, .int .i64 1, .int .i64 1, .int .i64 3, .int .i64 0, .slice none 0 0]] W fun e w' => ∃ s1 : MV, e = .returned (.tuple #[.agg #[.int .i64 1, .int .i64 3, .int .i64 2, .int .i64 4, .slice s1.aN s1.lN s1.cN, .slice s1.aT s1.lT s1.cT, .slice s1.aR s1.lR s1.cR], .int .i64 0]) ∧ OwnBare w' W.heap.size aw1 s1 ∧ Below W.heap.size W w') := fun W s0 h => (apply_one W h).mono fun e w' ⟨hb, s, he, ho⟩ => ⟨s, he, ho, hb⟩
  have HAP2 : Hid (∀ W s1, BareAt W aw1 s1 → Calls Tryz.prog 15 #[.agg #[.int .i64 1, .int .i64 3, .int .i64 2, .int .i64 4, .slice s1.aN s1.lN s1.cN, .slice s1.aT s1.lT s1.cT, .slice s1.aR s1.lR s1.cR], .agg #[.int .i64 3, .int .i64 5, .int .i64 0, .int .i64 0, .int .i64 0, .int .i64 0, .slice none 0 0]] W fun e w' => ∃ s2 : MV, e = .returned (.tuple #[.agg #[.int .i64 2, .int .i64 3, .int .i64 2, .int .i64 4, .slice s2.aN s2.lN s2.cN, .slice s2.aT s2.lT s2.cT, .slice s2.aR s2.lR s2.cR], .int .i64 0]) ∧ OwnBare w' W.heap.size aw2 s2 ∧ Below W.heap.size W w') := fun W s1 h => (apply_two W h).mono fun e w' ⟨hb, s, he, ho⟩ => ⟨s, he, ho, hb⟩
  have HRAW : Hid (∀ W s1, BareAt W aw1 s1 → Calls Tryz.prog 23 #[.agg #[.int .i64 1, .int .i64 3, .int .i64 2, .int .i64 4, .slice s1.aN s1.lN s1.cN, .slice s1.aT s1.lT s1.cT, .slice s1.aR s1.lR s1.cR], .int .i64 0] W fun e w' => ∃ a c, e = .returned (.slice a 1 c) ∧ RowI w' a 1 c [5] ∧ Below W.heap.size W w') := fun W s1 h => (rawX_yes aw1_ok.stand (by decide) (by decide) W (fun W' hb => check_bare aw1_ok W' (h.below hb).map) h.nds h.map.tms).mono fun e w' ⟨hb, a, c, he, hO⟩ => by
    rw [raw1] at he hO
    exact ⟨a, c, he, ints_row hO, hb⟩
  have HAC1 : Hid (∀ W s1, BareAt W aw1 s1 → Calls Tryz.prog 25 #[.agg #[.int .i64 1, .int .i64 3, .int .i64 2, .int .i64 4, .slice s1.aN s1.lN s1.cN, .slice s1.aT s1.lT s1.cT, .slice s1.aR s1.lR s1.cR], .int .i64 0] W fun e w' => ∃ a c, e = .returned (.slice a 0 c) ∧ Below W.heap.size W w') := fun W s1 h => (actX_yes aw1_ok.stand (by decide) (by decide) W (fun W' hb => check_bare aw1_ok W' (h.below hb).map) h.nds h.map.tms).mono fun e w' ⟨hb, a, c, he, hO⟩ => by
    rw [act1] at he
    exact ⟨a, c, he, hb⟩
  have HAC2 : Hid (∀ W s2, BareAt W aw2 s2 → Calls Tryz.prog 25 #[.agg #[.int .i64 2, .int .i64 3, .int .i64 2, .int .i64 4, .slice s2.aN s2.lN s2.cN, .slice s2.aT s2.lT s2.cT, .slice s2.aR s2.lR s2.cR], .int .i64 0] W fun e w' => ∃ a c, e = .returned (.slice a 1 c) ∧ RowI w' a 1 c [5] ∧ Below W.heap.size W w') := fun W s2 h => (actX_yes aw2_ok.stand (by decide) (by decide) W (fun W' hb => check_bare aw2_ok W' (h.below hb).map) h.nds h.map.tms).mono fun e w' ⟨hb, a, c, he, hO⟩ => by
    rw [act2] at he hO
    exact ⟨a, c, he, ints_row hO, hb⟩
  have HIN : Hid (∀ (W : World) a c, RowI W a 1 c [5] → Calls Tryz.prog 22 #[.slice a 1 c, .slice (some ⟨W.heap.size, 0, none⟩) 1 1] (W.alloc (.cells #[.int .i64 5] 3)) fun e w' => e = .returned (.bool true) ∧ Below W.heap.size W w') := fun W a c h => (refInts a _ 1 c 1 1 [5] [5] _ (h.below (below_alloc _ _)) (five_row W)).mono fun e w' ⟨he, hg⟩ => ⟨by rw [he]; rfl, below2 (below_alloc _ _) (grown_below hg)⟩
  go_enter Tryz.func11, Tryz.ntmps11
  go_upto_region 2 with (go_at_call 9; refine (HNEW.out _).mono ?_; rintro e w1 ⟨s0, rfl, hB0, hb1⟩; have HB0 := show Hid (BareAt w1 aw0 s0) from hB0; clear hB0)
  have HX1 : Hid (Box7 (w1.alloc (.cells #[.int .i64 0, .int .i64 3, .int .i64 2, .int .i64 4, .slice s0.aN s0.lN s0.cN, .slice s0.aT s0.lT s0.cT, .slice s0.aR s0.lR s0.cR] 26)) w1.heap.size (.int .i64 0) (.int .i64 3) (.int .i64 2) (.int .i64 4) (.slice s0.aN s0.lN s0.cN) (.slice s0.aT s0.lT s0.cT) (.slice s0.aR s0.lR s0.cR)) := Box7.new w1 _ _ _ _ _ _ _ _
  have HB1 : Hid (BareAt (w1.alloc (.cells #[.int .i64 0, .int .i64 3, .int .i64 2, .int .i64 4, .slice s0.aN s0.lN s0.cN, .slice s0.aT s0.lT s0.cT, .slice s0.aR s0.lR s0.cR] 26)) aw0 s0) := HB0.out.below (below_alloc _ _)
  have hbw1 : Below w.heap.size w (w1.alloc (.cells #[.int .i64 0, .int .i64 3, .int .i64 2, .int .i64 4, .slice s0.aN s0.lN s0.cN, .slice s0.aT s0.lT s0.cT, .slice s0.aR s0.lR s0.cR] 26)) := below2 hb1 (below_alloc _ _)
  have hs1 : w.heap.size ≤ w1.heap.size := hb1.size
  clear HB0 HNEW hb1
  have hs1' := HX1.out.lt
  generalize hv1 : w1.alloc (.cells #[.int .i64 0, .int .i64 3, .int .i64 2, .int .i64 4, .slice s0.aN s0.lN s0.cN, .slice s0.aT s0.lT s0.cT, .slice s0.aR s0.lR s0.cR] 26) = v1 at *
  clear hv1
  obtain ⟨⟨c0, c1, c2, c3, c4, c5, c6⟩, -⟩ := HX1.out
  go_upto_region 3 with (go_at_call 15; refine (HAP1.out _ _ HB1.out).mono ?_; rintro e w2 ⟨s1, rfl, hO1, hb2⟩; have HO1 := show Hid (OwnBare w2 v1.heap.size aw1 s1) from hO1; clear hO1; obtain ⟨⟨d0, d1, d2, d3, d4, d5, d6⟩, ⟨f0, f1, f2, f3, f4, f5, f6⟩⟩ := HX1.out.below hb2)
  have HX2 : Hid (Box7 (set7 w2 w1.heap.size (.int .i64 1) (.int .i64 3) (.int .i64 2) (.int .i64 4) (.slice s1.aN s1.lN s1.cN) (.slice s1.aT s1.lT s1.cT) (.slice s1.aR s1.lR s1.cR)) w1.heap.size (.int .i64 1) (.int .i64 3) (.int .i64 2) (.int .i64 4) (.slice s1.aN s1.lN s1.cN) (.slice s1.aT s1.lT s1.cT) (.slice s1.aR s1.lR s1.cR)) := (HX1.out.below hb2).set _ _ _ _ _ _ _
  have HB2 : Hid (BareAt (set7 w2 w1.heap.size (.int .i64 1) (.int .i64 3) (.int .i64 2) (.int .i64 4) (.slice s1.aN s1.lN s1.cN) (.slice s1.aT s1.lT s1.cT) (.slice s1.aR s1.lR s1.cR)) aw1 s1) := (HO1.out.else (set7_grownBy _ _ _ _ _ _ _ _ _) hs1').bare
  have hbw2 : Below w.heap.size w (set7 w2 w1.heap.size (.int .i64 1) (.int .i64 3) (.int .i64 2) (.int .i64 4) (.slice s1.aN s1.lN s1.cN) (.slice s1.aT s1.lT s1.cT) (.slice s1.aR s1.lR s1.cR)) := set7_below (below2 hbw1 hb2) hs1 _ _ _ _ _ _ _
  clear HX1 HB1 HO1 HAP1 hbw1 hb2 hs1' c0 c1 c2 c3 c4 c5 c6 d0 d1 d2 d3 d4 d5 d6 f0 f1 f2 f3 f4 f5 f6
  generalize hv2 : set7 w2 w1.heap.size (.int .i64 1) (.int .i64 3) (.int .i64 2) (.int .i64 4) (.slice s1.aN s1.lN s1.cN) (.slice s1.aT s1.lT s1.cT) (.slice s1.aR s1.lR s1.cR) = v2 at *
  unfold set7 at hv2
  rw [hv2]
  clear hv2
  obtain ⟨⟨c0, c1, c2, c3, c4, c5, c6⟩, -⟩ := HX2.out
  go_upto_region 4 with (go_at_call 15; refine (HAP2.out _ _ HB2.out).mono ?_; rintro e w3 ⟨s2, rfl, hO2, hb3⟩; have HO2 := show Hid (OwnBare w3 v2.heap.size aw2 s2) from hO2; clear hO2)
  have HX3 : Hid (Box7 (w3.alloc (.cells #[.int .i64 2, .int .i64 3, .int .i64 2, .int .i64 4, .slice s2.aN s2.lN s2.cN, .slice s2.aT s2.lT s2.cT, .slice s2.aR s2.lR s2.cR] 26)) w1.heap.size (.int .i64 1) (.int .i64 3) (.int .i64 2) (.int .i64 4) (.slice s1.aN s1.lN s1.cN) (.slice s1.aT s1.lT s1.cT) (.slice s1.aR s1.lR s1.cR)) := (HX2.out.below hb3).below (below_alloc _ _)
  have HY3 : Hid (Box7 (w3.alloc (.cells #[.int .i64 2, .int .i64 3, .int .i64 2, .int .i64 4, .slice s2.aN s2.lN s2.cN, .slice s2.aT s2.lT s2.cT, .slice s2.aR s2.lR s2.cR] 26)) w3.heap.size (.int .i64 2) (.int .i64 3) (.int .i64 2) (.int .i64 4) (.slice s2.aN s2.lN s2.cN) (.slice s2.aT s2.lT s2.cT) (.slice s2.aR s2.lR s2.cR)) := Box7.new w3 _ _ _ _ _ _ _ _
  have HB3 : Hid (BareAt (w3.alloc (.cells #[.int .i64 2, .int .i64 3, .int .i64 2, .int .i64 4, .slice s2.aN s2.lN s2.cN, .slice s2.aT s2.lT s2.cT, .slice s2.aR s2.lR s2.cR] 26)) aw1 s1) := (HB2.out.below hb3).below (below_alloc _ _)
  have HC3 : Hid (BareAt (w3.alloc (.cells #[.int .i64 2, .int .i64 3, .int .i64 2, .int .i64 4, .slice s2.aN s2.lN s2.cN, .slice s2.aT s2.lT s2.cT, .slice s2.aR s2.lR s2.cR] 26)) aw2 s2) := HO2.out.bare.below (below_alloc _ _)
  have hbw3 : Below w.heap.size w (w3.alloc (.cells #[.int .i64 2, .int .i64 3, .int .i64 2, .int .i64 4, .slice s2.aN s2.lN s2.cN, .slice s2.aT s2.lT s2.cT, .slice s2.aR s2.lR s2.cR] 26)) := below2 hbw2 (below2 hb3 (below_alloc _ _))
  clear HX2 HB2 HO2 HAP2 hbw2 hb3 c0 c1 c2 c3 c4 c5 c6
  generalize hv3 : w3.alloc (.cells #[.int .i64 2, .int .i64 3, .int .i64 2, .int .i64 4, .slice s2.aN s2.lN s2.cN, .slice s2.aT s2.lT s2.cT, .slice s2.aR s2.lR s2.cR] 26) = v3 at *
  clear hv3
  obtain ⟨⟨c0, c1, c2, c3, c4, c5, c6⟩, -⟩ := HX3.out
  obtain ⟨⟨d0, d1, d2, d3, d4, d5, d6⟩, -⟩ := HY3.out
  go_wp2_with (first
    | (go_at_call 23; refine (HRAW.out _ _ HB3.out).mono ?_; rintro e w4 ⟨a4, cp4, rfl, hR4, hb4⟩; have HR4 := show Hid (RowI w4 a4 1 cp4 [5]) from hR4; clear hR4)
    | (go_at_call_of 22 a4; refine (HIN.out _ _ _ HR4.out).mono ?_; rintro e w5 ⟨rfl, hb5⟩; have hbv5 := below2 hb4 hb5; have HB5 := show Hid (BareAt w5 aw1 s1) from HB3.out.below hbv5; obtain ⟨⟨p0, p1, p2, p3, p4, p5, p6⟩, -⟩ := HX3.out.below hbv5)
    | (go_at_call_of 25 s1.aN; refine (HAC1.out _ _ HB5.out).mono ?_; rintro e w6 ⟨a6, cp6, rfl, hb6⟩; have hbv6 := below2 hbv5 hb6; have HC6 := show Hid (BareAt w6 aw2 s2) from HC3.out.below hbv6; obtain ⟨⟨q0, q1, q2, q3, q4, q5, q6⟩, -⟩ := HY3.out.below hbv6)
    | (go_at_call_of 25 s2.aN; refine (HAC2.out _ _ HC6.out).mono ?_; rintro e w7 ⟨a7, cp7, rfl, hR7, hb7⟩; have HR7 := show Hid (RowI w7 a7 1 cp7 [5]) from hR7; clear hR7)
    | (go_at_call_of 22 a7; refine (HIN.out _ _ _ HR7.out).mono ?_; rintro e w8 ⟨rfl, hb8⟩))
  go_ret
  exact ⟨rfl, below2 hbw3 (below2 hbv6 (below2 hb7 hb8))⟩
end Go.Proofs.YtcncbjknfcjnmaaGreat.Tp
