/-
  The contract of topo.Apart: whether nodes are of unlike zones.
  The contracts of maySpan and mayStand.
  Spans by their nodes in a map: plainly; the contract of mayPast.
  The contract of mayPast.
  The contracts of mayTrail and Check: which maps may be.
  The contracts of the answer's Find and Apart, as worlds that only grow.
  The contract of the answer's Apart.
-/
import Derived.Test.YtcncbjknfcjnmaaGreatMa
import Derived.Test.YtcncbjknfcjnmaaGreatTpF
import Derived.WalkMore
import Derived.Deep.LoopGhost
import Derived.Test.YtcncbjknfcjnmaaGreatK1
import Derived.Maps.Own
import Derived.Maps.OwnSet
import Derived.Maps.Views
import Derived.WalkArith
import Derived.WideKeyArr
import Derived.Laws.IdiomCopy
import Derived.Deep.Cut
import Derived.Test.YtcncbjknfcjnmaaGreatK3
namespace Go.Proofs.YtcncbjknfcjnmaaGreat.Tp
open Go.ChangeShapes Go.WideShapes Go.ChangeAt Go.RowKit
/-- the zone of a node -/
def zoneN (ls : List Nd) (id : Int) : Int := ((findN ls id).getD nd0).zone
/-- the first ids are there, and of unlike zones -/
def ApartTo (ls : List Nd) (ids : List Int) (k : Nat) : Prop := (∀ i, i < k → (findN ls (ids.getD i 0)).isSome = true) ∧ ∀ i j, j < i → i < k → zoneN ls (ids.getD i 0) ≠ zoneN ls (ids.getD j 0)
def ApartP (ls : List Nd) (ids : List Int) : Prop := ApartTo ls ids ids.length
theorem apart_none {ls : List Nd} {ids : List Int} {k : Nat} (hk : k < ids.length) (h : findN ls (ids.getD k 0) = none) : ¬ ApartP ls ids := fun hA => by
  have := hA.1 k hk
  rw [h] at this
  simp at this
theorem apart_twice {ls : List Nd} {ids : List Int} {j k : Nat} (hk : k < ids.length) (hj : j < k) (h : zoneN ls (ids.getD k 0) = zoneN ls (ids.getD j 0)) : ¬ ApartP ls ids := fun hA => hA.2 k j hj hk h
theorem apart_next {ls : List Nd} {ids : List Int} {k : Nat} (h : ApartTo ls ids k) (h1 : (findN ls (ids.getD k 0)).isSome = true) (h2 : ∀ j, j < k → zoneN ls (ids.getD k 0) ≠ zoneN ls (ids.getD j 0)) : ApartTo ls ids (k + 1) := by
  refine ⟨fun i hi => ?_, fun i j hj hi => ?_⟩
  · by_cases e : i = k
    · rw [e]; exact h1
    · exact h.1 i (by omega)
  · by_cases e : i = k
    · subst e; exact h2 j hj
    · exact h.2 i j hj (by omega)
/-- a block of ten bools -/
def TakAt (w : World) (b : Nat) (T : Nat → Bool) : Prop := ∀ z, z < 10 → w.cell? ⟨b, z, none⟩ = some (.bool (T z)) ∧ w.frozen? ⟨b, z, none⟩ = false
theorem TakAt.below {w w' : World} {b : Nat} {T : Nat → Bool} (h : TakAt w b T) (hb : Below w.heap.size w w') : TakAt w' b T := fun z hz => by
  have hl : b < w.heap.size := World.block_lt_of_cell? w ⟨b, z, none⟩ (h z hz).1
  exact ⟨(hb.cell (p := ⟨b, z, none⟩) hl).trans (h z hz).1, (hb.frozen (p := ⟨b, z, none⟩) hl).trans (h z hz).2⟩
theorem TakAt.lt {w : World} {b : Nat} {T : Nat → Bool} (h : TakAt w b T) : b < w.heap.size := World.block_lt_of_cell? w ⟨b, 0, none⟩ (h 0 (by decide)).1
theorem TakAt.set {w : World} {b : Nat} {T : Nat → Bool} (h : TakAt w b T) (z0 : Nat) : TakAt (w.setCell ⟨b, z0, none⟩ (.bool true)) b (fun z => if z = z0 then true else T z) := fun z hz => by
  refine ⟨?_, by rw [World.frozen?_setCell]; exact (h z hz).2⟩
  by_cases e : z = z0
  · subst e
    show _ = some (Value.bool (if z = z then true else T z))
    rw [if_pos rfl]
    exact set_same (h z hz).1 _
  · show _ = some (Value.bool (if z = z0 then true else T z))
    rw [if_neg e, set_else (by omega)]
    exact (h z hz).1
theorem tak_new (w : World) (t : TypeId) : TakAt (w.alloc (.cells #[.bool false, .bool false, .bool false, .bool false, .bool false, .bool false, .bool false, .bool false, .bool false, .bool false] t)) w.heap.size (fun _ => false) := fun z hz => by
  have hc : z = 0 ∨ z = 1 ∨ z = 2 ∨ z = 3 ∨ z = 4 ∨ z = 5 ∨ z = 6 ∨ z = 7 ∨ z = 8 ∨ z = 9 := by omega
  rcases hc with rfl | rfl | rfl | rfl | rfl | rfl | rfl | rfl | rfl | rfl <;> exact ⟨by simp, by simp⟩
/-- what is taken: the zones of the first ids -/
def TakIs (ls : List Nd) (ids : List Int) (k : Nat) (T : Nat → Bool) : Prop := ∀ z : Nat, z < 10 → (T z = true ↔ ∃ j, j < k ∧ zoneN ls (ids.getD j 0) = (z : Int))
set_option maxHeartbeats 2000000 in
set_option maxRecDepth 60000 in
theorem apart_any {a : Option Addr} {len cap : Nat} {ls : List Nd} (hM : MayN ls) (b : Option Addr) (n c : Nat) (ids : List Int) (w : World) (hL : NdsAt w a len cap ls) (hI : RowI w b n c ids) :
    Calls Tryz.prog 75 #[.slice a len cap, .slice b n c] w fun e w' => BoolPost (ApartP ls ids) w e w' := by
  have HCK : Hid (Calls Tryz.prog 40 #[.slice a len cap] w fun e w' => e = .returned (.int .i64 0) ∧ Below w.heap.size w w') := (check_any a len cap ls w hL).mono fun e w' ⟨hb, hh⟩ => by
    rcases hh with ⟨he, _⟩ | ⟨_, hn⟩
    · exact ⟨he, hb⟩
    · exact absurd hM hn
  have hl : ls.length = len := hL.1
  have h12 : (len : Int) ≤ 12 := by have := hM.1; omega
  have hn : ids.length = n := hI.1
  have hmx : n ≤ maxLen := Nat.le_trans hI.2.1 hI.2.2.1
  unfold maxLen at hmx
  have HL : Hid (NdsAt w a len cap ls) := hL
  have HI : Hid (RowI w b n c ids) := hI
  have HZ : Hid (∀ k, k < len → 1 ≤ (ls.getD k nd0).zone ∧ (ls.getD k nd0).zone ≤ 9) := fun k hk => (hM.2 k (by omega)).1.2.1
  have HNL : Hid (ids.length = n) := hn
  have HLL : Hid (ls.length = len) := hl
  clear hM hL hI hl hn
  go_enter Tryz.func75, Tryz.ntmps75
  go_wp2_with fail
  go_step3
  go_wp2_with (go_at_call 40; refine HCK.out.mono ?_; rintro e w1 ⟨rfl, hb1⟩)
  have hb2 := below_alloc w1 (.cells #[.bool false, .bool false, .bool false, .bool false, .bool false, .bool false, .bool false, .bool false, .bool false, .bool false] 111)
  have HT2 : Hid (TakAt (w1.alloc (.cells #[.bool false, .bool false, .bool false, .bool false, .bool false, .bool false, .bool false, .bool false, .bool false, .bool false] 111)) w1.heap.size (fun _ => false)) := tak_new w1 _
  have hs1 := hb1.size
  go_step3
  go_wp2_with fail
  generalize w1.alloc (.cells #[.bool false, .bool false, .bool false, .bool false, .bool false, .bool false, .bool false, .bool false, .bool false, .bool false] 111) = w2 at *
  go_loopw [15] (fun i wr => ∃ (k : Nat) (T : Nat → Bool), k ≤ n ∧ i = .int .i64 k ∧ Hid (ApartTo ls ids k) ∧ Hid (TakIs ls ids k T) ∧ Hid (TakAt wr w1.heap.size T) ∧ Below w.heap.size w wr) (fun i _ => n - (intOf i).toNat)
  case atStart => exact ⟨0, _, Nat.zero_le _, rfl, ⟨fun i hi => absurd hi (Nat.not_lt_zero _), fun i j _ hi => absurd hi (Nat.not_lt_zero _)⟩, (fun z hz => ⟨fun h => by simp at h, fun ⟨j, hj, _⟩ => absurd hj (Nat.not_lt_zero _)⟩), HT2, below2 hb1 hb2⟩
  case round =>
    obtain ⟨k, T, hk, rfl, hA, hTI, hTA, hbel⟩ := hrel
    clear HT2 hb2
    by_cases hlt : k < n
    · have hk1 : (k : Int) < (n : Int) := by omega
      have hk0 : (0 : Int) ≤ (k : Int) := by omega
      obtain ⟨q, qo, rfl, hq, hcq⟩ := (HI.out.below hbel).some (by omega)
      have x0 := hcq k hlt
      have HFN : Hid (∀ j, j < len → (ls.getD j nd0).id = ids.getD k 0 → (∀ t, t < j → (ls.getD t nd0).id ≠ ids.getD k 0) → findN ls (ids.getD k 0) = some (ls.getD j nd0)) := fun j hj h1 h2 => find_some (by have := HLL.out; omega) h1 h2
      have HNO : Hid ((∀ j, j < len → (ls.getD j nd0).id ≠ ids.getD k 0) → ¬ ApartP ls ids) := fun h => apart_none (by have := HNL.out; omega) (find_none fun j hj => h j (by have := HLL.out; omega))
      have HTW : Hid (∀ x z0, findN ls (ids.getD k 0) = some x → x.zone = ((z0 : Nat) : Int) → z0 < 10 → (T z0 = true → ¬ ApartP ls ids) ∧ (T z0 = false → ApartTo ls ids (k + 1) ∧ TakIs ls ids (k + 1) (fun z => if z = z0 then true else T z))) := fun x z0 hx hz h10 => by
        have hzn : zoneN ls (ids.getD k 0) = (z0 : Int) := by unfold zoneN; rw [hx]; exact hz
        refine ⟨fun ht => ?_, fun ht => ⟨?_, ?_⟩⟩
        · obtain ⟨j, hj, e⟩ := (hTI.out z0 h10).1 ht
          exact apart_twice (by have := HNL.out; omega) hj (hzn.trans e.symm)
        · refine apart_next hA.out (by rw [hx]; rfl) (fun j hj e => ?_)
          have := (hTI.out z0 h10).2 ⟨j, hj, e.symm.trans hzn⟩
          rw [ht] at this
          exact absurd this (by decide)
        · intro z hz'
          show (if z = z0 then true else T z) = true ↔ _
          by_cases e : z = z0
          · subst e
            rw [if_pos rfl]
            exact ⟨fun _ => ⟨k, by omega, hzn⟩, fun _ => rfl⟩
          · rw [if_neg e, hTI.out z hz']
            constructor
            · rintro ⟨j, hj, h⟩
              exact ⟨j, by omega, h⟩
            · rintro ⟨j, hj, h⟩
              by_cases e' : j = k
              · subst e'
                rw [hzn] at h
                omega
              · exact ⟨j, by omega, h⟩
      clear hcq hA hTI
      generalize ids.getD k 0 = id at *
      go_wp2_with fail
      go_loopw [21] (fun i wq => ∃ j : Nat, j ≤ len ∧ i = .int .i64 j ∧ Hid (∀ t, t < j → (ls.getD t nd0).id ≠ id) ∧ Hid (TakAt wq w1.heap.size T) ∧ Below w.heap.size w wq) (fun i _ => len - (intOf i).toNat)
      case atStart => exact ⟨0, Nat.zero_le _, rfl, (fun t ht => absurd ht (Nat.not_lt_zero _)), hTA, hbel⟩
      case round =>
        obtain ⟨j, hj, rfl, hU, hTB, hbq⟩ := hrel
        by_cases hjl : j < len
        · have hj1 : (j : Int) < (len : Int) := by omega
          have hj0 : (0 : Int) ≤ (j : Int) := by omega
          obtain ⟨p, po, rfl, hp, hcp⟩ := (HL.out.below hbq).some (by omega)
          obtain ⟨e0, e1, e2, e3, e4, e5⟩ := hcp j hjl
          obtain ⟨z1, z2⟩ := HZ.out j hjl
          have HF := HFN.out j hjl
          have HNX : Hid ((ls.getD j nd0).id ≠ id → ∀ t, t < j + 1 → (ls.getD t nd0).id ≠ id) := fun h t ht => by
            by_cases e : t = j
            · rw [e]; exact h
            · exact hU.out t (by omega)
          have HFD : Hid ((ls.getD j nd0).id = id → findN ls id = some (ls.getD j nd0)) := fun h => HF h hU.out
          clear hcp hU HF
          generalize ls.getD j nd0 = x at *
          obtain ⟨c1, c2, c3, c4, c5, c6⟩ := x
          simp only at e0 e1 e2 e3 e4 e5 z1 z2
          have hba := below_alloc wr (.cells #[.int .i64 c1, .int .i64 c2, .int .i64 c3, .int .i64 c4, .bool c5, .bool c6] 72)
          by_cases hid : c1 = id
          · have hfd := HFD.out hid
            obtain ⟨z0, hz0⟩ : ∃ z0 : Nat, c2 = (z0 : Int) := ⟨c2.toNat, by omega⟩
            subst hz0
            have hz9 : z0 < 10 := by omega
            obtain ⟨k1, k2⟩ := HTW.out _ z0 hfd rfl hz9
            have HTA2 : Hid (TakAt (wr.alloc (.cells #[.int .i64 c1, .int .i64 (z0 : Int), .int .i64 c3, .int .i64 c4, .bool c5, .bool c6] 72)) w1.heap.size T) := hTB.out.below hba
            obtain ⟨t0, t1⟩ := HTA2.out z0 hz9
            have hz0' : (0 : Int) ≤ (z0 : Int) := by omega
            have hz9' : (z0 : Int) < 10 := by omega
            have hlw : w1.heap.size < wr.heap.size := hTB.out.lt
            subst hid
            clear HNX HFD hfd HTW HFN HNO
            cases hT0 : T z0 with
            | true =>
              rw [hT0] at t0
              have hno := k1 hT0
              have HNA : Hid (¬ ApartP ls ids) := hno
              clear k1 k2 hno hT0
              go_wp2_with fail
              go_ret
              exact bool_no (below2 hbq hba) HNA.out
            | false =>
              rw [hT0] at t0
              obtain ⟨m1, m2⟩ := k2 hT0
              have M1 : Hid (ApartTo ls ids (k + 1)) := m1
              have M2 : Hid (TakIs ls ids (k + 1) (fun z => if z = z0 then true else T z)) := m2
              have M3 : Hid (TakAt ((wr.alloc (.cells #[.int .i64 c1, .int .i64 (z0 : Int), .int .i64 c3, .int .i64 c4, .bool c5, .bool c6] 72)).setCell ⟨w1.heap.size, z0, none⟩ (.bool true)) w1.heap.size (fun z => if z = z0 then true else T z)) := HTA2.out.set z0
              have hbf : Below w.heap.size w ((wr.alloc (.cells #[.int .i64 c1, .int .i64 (z0 : Int), .int .i64 c3, .int .i64 c4, .bool c5, .bool c6] 72)).setCell ⟨w1.heap.size, z0, none⟩ (.bool true)) := (below2 hbq hba).setCell (p := ⟨w1.heap.size, z0, none⟩) hs1 _
              clear k1 k2 m1 m2 hT0
              generalize hwz : (wr.alloc (.cells #[.int .i64 c1, .int .i64 (z0 : Int), .int .i64 c3, .int .i64 c4, .bool c5, .bool c6] 72)).setCell ⟨w1.heap.size, z0, none⟩ (.bool true) = wz at *
              go_wp2_with fail
              exact ⟨⟨k + 1, _, by omega, by go_num, M1, M2, M3, hbf⟩, by simp [intOf]; omega⟩
          · have hd : (c1 == id) = false := by simpa using hid
            have HN' : Hid (∀ t, t < j + 1 → (ls.getD t nd0).id ≠ id) := HNX.out hid
            clear HNX HFD HTW HFN HNO
            go_wp2_with fail
            exact ⟨⟨j + 1, by omega, by go_num, HN', hTB.out.below hba, below2 hbq hba⟩, by simp [intOf]; omega⟩
        · obtain rfl : j = len := by omega
          have HNA : Hid (¬ ApartP ls ids) := HNO.out hU.out
          clear hU HTW HFN HNO
          go_wp2_with fail
          go_ret
          exact bool_no hbq HNA.out
    · obtain rfl : k = n := by omega
      have HY : Hid (ApartP ls ids) := by
        unfold Hid ApartP
        rw [HNL.out]
        exact hA.out
      clear hA hTI
      go_wp2_with fail
      go_ret
      exact bool_yes hbel HY.out
end Go.Proofs.YtcncbjknfcjnmaaGreat.Tp
namespace Go.Proofs.YtcncbjknfcjnmaaGreat.Tp
open Go.ChangeShapes Go.WideShapes Go.ChangeAt Go.RowKit
theorem bool_is {f : Nat} {args : Array Value} {w : World} {P : Prop} (h : Calls Tryz.prog f args w fun e w' => BoolPost P w e w') (hP : P) : Calls Tryz.prog f args w fun e w' => e = .returned (.bool true) ∧ Below w.heap.size w w' :=
  h.mono fun _ _ ⟨hb, q, he, hq⟩ => ⟨by rw [he, hq.2 hP], hb⟩
theorem bool_isnt {f : Nat} {args : Array Value} {w : World} {P : Prop} (h : Calls Tryz.prog f args w fun e w' => BoolPost P w e w') (hP : ¬ P) : Calls Tryz.prog f args w fun e w' => e = .returned (.bool false) ∧ Below w.heap.size w w' :=
  h.mono fun _ _ ⟨hb, q, he, hq⟩ => ⟨by rw [he]; cases q with | false => rfl | true => exact absurd (hq.1 rfl) hP, hb⟩
/-- nodes of a Span that may be, the first ones -/
def IdsTo (ns : List Int) (k : Nat) : Prop := ∀ i, i < k → (1 ≤ ns.getD i 0 ∧ ns.getD i 0 ≤ 999) ∧ (0 < i → ns.getD (i - 1) 0 < ns.getD i 0)
def SpanOk (mn sz : Int) (ns : List Int) : Prop := (mn ≤ (ns.length : Int) ∧ (ns.length : Int) ≤ sz) ∧ IdsTo ns ns.length
def nextId (ns : List Int) (k : Nat) : Int := if k = 0 then 1 else ns.getD (k - 1) 0 + 1
theorem nextId_bd {ns : List Int} {k : Nat} (h : IdsTo ns k) : 1 ≤ nextId ns k ∧ nextId ns k ≤ 1000 := by
  unfold nextId
  split
  · omega
  · have := (h (k - 1) (by omega)).1
    omega
theorem nextId_yes {ns : List Int} {k : Nat} (h : IdsTo ns k) (h1 : nextId ns k ≤ ns.getD k 0 ∧ ns.getD k 0 ≤ 999) : IdsTo ns (k + 1) := fun i hi => by
  by_cases e : i = k
  · subst e
    have hb := nextId_bd h
    refine ⟨by omega, fun h0 => ?_⟩
    have : nextId ns i = ns.getD (i - 1) 0 + 1 := if_neg (by omega)
    omega
  · exact h i (by omega)
theorem nextId_no {ns : List Int} {k n : Nat} (hk : k < n) (h1 : ¬ (nextId ns k ≤ ns.getD k 0 ∧ ns.getD k 0 ≤ 999)) : ¬ IdsTo ns n := fun h => by
  obtain ⟨h2, h3⟩ := h k hk
  apply h1
  refine ⟨?_, h2.2⟩
  unfold nextId
  split
  · exact h2.1
  · have := h3 (by omega)
    omega
theorem nextId_succ (ns : List Int) (k : Nat) : nextId ns (k + 1) = ns.getD k 0 + 1 := if_neg (by omega)
set_option maxHeartbeats 1000000 in
set_option maxRecDepth 60000 in
theorem maySpan_any (m : Mp) (s : MV) (f : Int) (a : Option Addr) (len cap : Nat) (ns : List Int) (w : World) (hR : RowI w a len cap ns) : Calls Tryz.prog 100 #[.agg (mapCells m s).toArray, .agg #[.int .i64 f, .slice a len cap]] w fun e w' => BoolPost (SpanOk m.mn m.size ns) w e w' := by
  rw [map_split]
  obtain ⟨ep, sz, mn, gr, nds, tms, trs⟩ := m
  obtain ⟨aN, lN, cN, aT, lT, cT, aR, lR, cR⟩ := s
  simp only
  have hl : ns.length = len := hR.1
  have hmx : len ≤ maxLen := Nat.le_trans hR.2.1 hR.2.2.1
  unfold maxLen at hmx
  have HR : Hid (RowI w a len cap ns) := hR
  clear hR
  obtain ⟨w1, hw1⟩ : ∃ w1, w1 = (w.alloc (.cells #[.int .i64 ep, .int .i64 sz, .int .i64 mn, .int .i64 gr, .slice aN lN cN, .slice aT lT cT, .slice aR lR cR] 26)).alloc (.cells #[.int .i64 f, .slice a len cap] 55) := ⟨_, rfl⟩
  have hb1 : Below w.heap.size w w1 := by rw [hw1]; exact below2 (below_alloc _ _) (below_alloc _ _)
  have HBM : Hid (Box7 w1 w.heap.size (.int .i64 ep) (.int .i64 sz) (.int .i64 mn) (.int .i64 gr) (.slice aN lN cN) (.slice aT lT cT) (.slice aR lR cR)) := by
    rw [hw1]
    exact (Box7.new w _ _ _ _ _ _ _ _).below (below_alloc _ _)
  have s1 : w1.cell? ⟨w.heap.size + 1, 1, none⟩ = some (.slice a len cap) := by rw [hw1]; simp
  obtain ⟨⟨c0, c1, c2, c3, c4, c5, c6⟩, -⟩ := HBM.out
  by_cases hc : mn ≤ (len : Int) ∧ (len : Int) ≤ sz
  · have HW : Hid (∀ w : World, Calls Tryz.prog 39 #[.int .i64 (len : Int), .int .i64 mn, .int .i64 sz] w fun e w' => e = .returned (.bool true) ∧ w' = w) := mwithin_yes hc.1 hc.2
    have HWI : Hid (∀ (x y : Int) (w : World), Calls Tryz.prog 39 #[.int .i64 x, .int .i64 y, .int .i64 999] w fun e w' => e = .returned (.bool (inB x y 999)) ∧ w' = w) := fun x y w => mwithin_any x y 999 w
    have HYES : Hid (IdsTo ns len → SpanOk mn sz ns) := fun h => ⟨by rw [hl]; exact hc, by rw [hl]; exact h⟩
    have HNO : Hid (¬ IdsTo ns len → ¬ SpanOk mn sz ns) := fun h h' => h (by have := h'.2; rw [hl] at this; exact this)
    clear hc hl
    go_enter Tryz.func100, Tryz.ntmps100
    go_upto_region 1 with fail
    rw [← hw1]
    clear hw1
    go_wp2_with (go_at_call 39; refine (HW.out _).mono ?_; rintro e w' ⟨rfl, hw'⟩; obtain rfl := hw'.symm)
    clear HW
    go_loopw [5, 20] (fun nx i wr => ∃ k : Nat, k ≤ len ∧ i = .int .i64 k ∧ nx = .int .i64 (nextId ns k) ∧ wr = w1 ∧ Hid (IdsTo ns k)) (fun _ i _ => len - (intOf i).toNat)
    case atStart => exact ⟨0, Nat.zero_le _, rfl, rfl, rfl, fun i hi => absurd hi (Nat.not_lt_zero _)⟩
    case round =>
      obtain ⟨k, hk, rfl, rfl, rfl, hT⟩ := hrel
      have hbd := nextId_bd hT.out
      by_cases hlt : k < len
      · have hk1 : (k : Int) < (len : Int) := by omega
        have hk0 : (0 : Int) ≤ (k : Int) := by omega
        obtain ⟨b, off, rfl, hbs, hcell⟩ := (HR.out.below hb1).some (by omega)
        have x0 := hcell k hlt
        have HNX : Hid (nextId ns (k + 1) = ns.getD k 0 + 1) := nextId_succ ns k
        have HY : Hid (nextId ns k ≤ ns.getD k 0 ∧ ns.getD k 0 ≤ 999 → IdsTo ns (k + 1)) := nextId_yes hT.out
        have HN : Hid (¬ (nextId ns k ≤ ns.getD k 0 ∧ ns.getD k 0 ≤ 999) → ¬ IdsTo ns len) := fun h => nextId_no hlt h
        clear hcell hT
        generalize ns.getD k 0 = y at *
        generalize nextId ns k = nx at *
        by_cases hy : nx ≤ y ∧ y ≤ 999
        · have hin : inB y nx 999 = true := (inB_iff y nx 999).2 hy
          have HWY : Hid (∀ w : World, Calls Tryz.prog 39 #[.int .i64 y, .int .i64 nx, .int .i64 999] w fun e w' => e = .returned (.bool true) ∧ w' = w) := fun w => by have := HWI.out y nx w; rw [hin] at this; exact this
          have HI2 : Hid (IdsTo ns (k + 1)) := HY.out hy
          obtain ⟨hy1, hy2⟩ := hy
          have hy3 : 1 ≤ y := by omega
          clear HY HN hin
          go_wp2_with (go_at_call 39; refine (HWY.out _).mono ?_; rintro e w' ⟨rfl, hw'⟩; obtain rfl := hw'.symm)
          exact ⟨⟨k + 1, by omega, by go_num, by rw [HNX.out], by trivial, HI2⟩, by simp [intOf]; omega⟩
        · have HWY : Hid (∀ w : World, Calls Tryz.prog 39 #[.int .i64 y, .int .i64 nx, .int .i64 999] w fun e w' => e = .returned (.bool false) ∧ w' = w) := mwithin_no hy
          have HBAD : Hid (¬ SpanOk mn sz ns) := HNO.out (HN.out hy)
          clear HY HN hy HNX
          go_wp2_with (go_at_call 39; refine (HWY.out _).mono ?_; rintro e w' ⟨rfl, hw'⟩; obtain rfl := hw'.symm)
          go_ret
          exact bool_no hb1 HBAD.out
      · obtain rfl : k = len := by omega
        have HOK : Hid (SpanOk mn sz ns) := HYES.out hT.out
        clear hT
        go_wp2_with fail
        go_ret
        exact bool_yes hb1 HOK.out
  · have HW : Hid (∀ w : World, Calls Tryz.prog 39 #[.int .i64 (len : Int), .int .i64 mn, .int .i64 sz] w fun e w' => e = .returned (.bool false) ∧ w' = w) := mwithin_no hc
    have HBAD : Hid (¬ SpanOk mn sz ns) := fun h => hc (by have := h.1; rw [hl] at this; exact this)
    clear hc hl
    go_enter Tryz.func100, Tryz.ntmps100
    go_upto_region 1 with fail
    rw [← hw1]
    clear hw1
    go_wp2_with (go_at_call 39; refine (HW.out _).mono ?_; rintro e w' ⟨rfl, hw'⟩; obtain rfl := hw'.symm)
    go_ret
    exact bool_no hb1 HBAD.out
/-- Temps that may be, the first ones -/
def TempsTo (m : Mp) (k : Nat) : Prop := ∀ i, i < k → (0 ≤ (m.tms.getD i tm0).g ∧ (m.tms.getD i tm0).g < m.gr) ∧ (0 < i → (m.tms.getD (i - 1) tm0).g < (m.tms.getD i tm0).g) ∧ (1 ≤ ((m.tms.getD i tm0).ns.length : Int) ∧ ((m.tms.getD i tm0).ns.length : Int) ≤ m.size) ∧ ApartP m.nds (m.tms.getD i tm0).ns
def nextG (m : Mp) (k : Nat) : Int := if k = 0 then 0 else (m.tms.getD (k - 1) tm0).g + 1
theorem nextG_bd {m : Mp} {k : Nat} (h : TempsTo m k) (hg : 1 ≤ m.gr) : 0 ≤ nextG m k ∧ nextG m k ≤ m.gr := by
  unfold nextG
  split
  · omega
  · have := (h (k - 1) (by omega)).1
    omega
theorem nextG_yes {m : Mp} {k : Nat} (h : TempsTo m k) (hg : 1 ≤ m.gr) (h1 : nextG m k ≤ (m.tms.getD k tm0).g ∧ (m.tms.getD k tm0).g ≤ m.gr - 1) (h2 : 1 ≤ ((m.tms.getD k tm0).ns.length : Int) ∧ ((m.tms.getD k tm0).ns.length : Int) ≤ m.size) (h3 : ApartP m.nds (m.tms.getD k tm0).ns) : TempsTo m (k + 1) := fun i hi => by
  by_cases e : i = k
  · subst e
    have hb := nextG_bd h hg
    refine ⟨by omega, fun h0 => ?_, h2, h3⟩
    have : nextG m i = (m.tms.getD (i - 1) tm0).g + 1 := if_neg (by omega)
    omega
  · exact h i (by omega)
theorem nextG_no {m : Mp} {k n : Nat} (hk : k < n) (h1 : ¬ ((nextG m k ≤ (m.tms.getD k tm0).g ∧ (m.tms.getD k tm0).g ≤ m.gr - 1) ∧ (1 ≤ ((m.tms.getD k tm0).ns.length : Int) ∧ ((m.tms.getD k tm0).ns.length : Int) ≤ m.size) ∧ ApartP m.nds (m.tms.getD k tm0).ns)) : ¬ TempsTo m n := fun h => by
  obtain ⟨h2, h3, h4, h5⟩ := h k hk
  apply h1
  refine ⟨⟨?_, by omega⟩, h4, h5⟩
  unfold nextG
  split
  · exact h2.1
  · have := h3 (by omega)
    omega
theorem nextG_succ (m : Mp) (k : Nat) : nextG m (k + 1) = (m.tms.getD k tm0).g + 1 := if_neg (by omega)
set_option maxHeartbeats 2000000 in
set_option maxRecDepth 60000 in
theorem mayStand_any {m : Mp} {s : MV} (hg : 1 ≤ m.gr ∧ m.gr ≤ 8) (hM : MayN m.nds) (w : World) (h : MapAt w m s) : Calls Tryz.prog 41 #[.agg (mapCells m s).toArray] w fun e w' => BoolPost (TempsTo m m.tms.length) w e w' := by
  have HT : Hid (TmsAt w s.aT s.lT s.cT m.tms) := h.tms
  have HN : Hid (NdsAt w s.aN s.lN s.cN m.nds) := h.nds
  have HM : Hid (MayN m.nds) := hM
  have hl : m.tms.length = s.lT := h.tms.1
  have hmx : s.lT ≤ maxLen := Nat.le_trans h.tms.2.1 h.tms.2.2.1
  unfold maxLen at hmx
  have HYES : Hid (TempsTo m s.lT → TempsTo m m.tms.length) := fun h => by rw [hl]; exact h
  have HNO : Hid (¬ TempsTo m s.lT → ¬ TempsTo m m.tms.length) := fun h => by rw [hl]; exact h
  have HAP : Hid (∀ W b n c ids, Below w.heap.size w W → RowI W b n c ids → Calls Tryz.prog 75 #[.slice s.aN s.lN s.cN, .slice b n c] W fun e w' => BoolPost (ApartP m.nds ids) W e w') := fun W b n c ids hb hr => apart_any hM b n c ids W (h.nds.below hb) hr
  have HBD : Hid (∀ k, TempsTo m k → 0 ≤ nextG m k ∧ nextG m k ≤ m.gr) := fun k h => nextG_bd h hg.1
  have HSY : Hid (∀ k, TempsTo m k → (nextG m k ≤ (m.tms.getD k tm0).g ∧ (m.tms.getD k tm0).g ≤ m.gr - 1) → (1 ≤ ((m.tms.getD k tm0).ns.length : Int) ∧ ((m.tms.getD k tm0).ns.length : Int) ≤ m.size) → ApartP m.nds (m.tms.getD k tm0).ns → TempsTo m (k + 1)) := fun k h h1 h2 h3 => nextG_yes h hg.1 h1 h2 h3
  have HSN : Hid (∀ k, k < s.lT → ¬ ((nextG m k ≤ (m.tms.getD k tm0).g ∧ (m.tms.getD k tm0).g ≤ m.gr - 1) ∧ (1 ≤ ((m.tms.getD k tm0).ns.length : Int) ∧ ((m.tms.getD k tm0).ns.length : Int) ≤ m.size) ∧ ApartP m.nds (m.tms.getD k tm0).ns) → ¬ TempsTo m s.lT) := fun k hk h => nextG_no hk h
  have HSC : Hid (∀ k, nextG m (k + 1) = (m.tms.getD k tm0).g + 1) := nextG_succ m
  have HZ : Hid (nextG m 0 = 0) := rfl
  have HZT : Hid (TempsTo m 0) := fun i hi => absurd hi (Nat.not_lt_zero _)
  rw [map_split]
  have HBX : Hid (Box7 (w.alloc (.cells #[.int .i64 m.ep, .int .i64 m.size, .int .i64 m.mn, .int .i64 m.gr, .slice s.aN s.lN s.cN, .slice s.aT s.lT s.cT, .slice s.aR s.lR s.cR] 26)) w.heap.size (.int .i64 m.ep) (.int .i64 m.size) (.int .i64 m.mn) (.int .i64 m.gr) (.slice s.aN s.lN s.cN) (.slice s.aT s.lT s.cT) (.slice s.aR s.lR s.cR)) := Box7.new w _ _ _ _ _ _ _ _
  have hb1 := below_alloc w (.cells #[.int .i64 m.ep, .int .i64 m.size, .int .i64 m.mn, .int .i64 m.gr, .slice s.aN s.lN s.cN, .slice s.aT s.lT s.cT, .slice s.aR s.lR s.cR] 26)
  obtain ⟨hg1, hg2⟩ := hg
  clear hl h hM
  go_enter Tryz.func41, Tryz.ntmps41
  go_wp2_with fail
  generalize w.alloc (.cells #[.int .i64 m.ep, .int .i64 m.size, .int .i64 m.mn, .int .i64 m.gr, .slice s.aN s.lN s.cN, .slice s.aT s.lT s.cT, .slice s.aR s.lR s.cR] 26) = w1 at *
  go_loopw [3, 9] (fun nx i wr => ∃ k : Nat, k ≤ s.lT ∧ i = .int .i64 k ∧ nx = .int .i64 (nextG m k) ∧ Hid (TempsTo m k) ∧ Below w1.heap.size w1 wr) (fun _ i _ => s.lT - (intOf i).toNat)
  case atStart => exact ⟨0, Nat.zero_le _, rfl, by rw [HZ.out], HZT, Below.refl _ _⟩
  case round =>
    obtain ⟨k, hk, rfl, rfl, hT, hbel⟩ := hrel
    have hbw := below2 hb1 hbel
    obtain ⟨hn0, hn1⟩ := HBD.out k hT.out
    obtain ⟨⟨c0, c1, c2, c3, c4, c5, c6⟩, -⟩ := HBX.out.below hbel
    have hlw : w.heap.size < wr.heap.size := (HBX.out.below hbel).lt
    by_cases hlt : k < s.lT
    · have hk1 : (k : Int) < (s.lT : Int) := by omega
      have hk0 : (0 : Int) ≤ (k : Int) := by omega
      obtain ⟨b, off, hae, hbs, hcell⟩ := (HT.out.below hbw).some (by omega)
      obtain ⟨e0, aq, lq, cq, e1, hrow⟩ := hcell k hlt
      have hql : (m.tms.getD k tm0).ns.length = lq := hrow.1
      have HAQ : Hid (∀ W, Below wr.heap.size wr W → Calls Tryz.prog 75 #[.slice s.aN s.lN s.cN, .slice aq lq cq] W fun e w' => BoolPost (ApartP m.nds (m.tms.getD k tm0).ns) W e w') := fun W hb => HAP.out W aq lq cq _ (below2 hbw hb) (hrow.below hb)
      have HSY' := HSY.out k hT.out
      have HSN' := HSN.out k hlt
      have HSC' : Hid (nextG m (k + 1) = (m.tms.getD k tm0).g + 1) := HSC.out k
      rw [hql] at HSY' HSN'
      have HY2 := show Hid _ from HSY'
      have HN2 := show Hid _ from HSN'
      clear HSY' HSN' hcell hrow hql hT
      generalize ApartP m.nds (m.tms.getD k tm0).ns = PA at *
      generalize (m.tms.getD k tm0).g = y at *
      generalize nextG m k = nx at *
      have hba := below_alloc wr (.cells #[.int .i64 y, .slice aq lq cq] 59)
      have HXA : Hid (Box7 (wr.alloc (.cells #[.int .i64 y, .slice aq lq cq] 59)) w.heap.size (.int .i64 m.ep) (.int .i64 m.size) (.int .i64 m.mn) (.int .i64 m.gr) (.slice s.aN s.lN s.cN) (.slice s.aT s.lT s.cT) (.slice s.aR s.lR s.cR)) := (HBX.out.below hbel).below hba
      have HE : Hid (s.aT = some ⟨b, off, none⟩) := hae
      rw [hae] at c5
      rw [hae]
      clear hae
      have hgw : 0 ≤ m.gr - 1 := by omega
      obtain ⟨⟨d0, d1, d2, d3, d4, d5, d6⟩, -⟩ := HXA.out
      clear HXA
      by_cases h1 : nx ≤ y ∧ y ≤ m.gr - 1
      · have HW1 : Hid (∀ w : World, Calls Tryz.prog 39 #[.int .i64 y, .int .i64 nx, .int .i64 (m.gr - 1)] w fun e w' => e = .returned (.bool true) ∧ w' = w) := mwithin_yes h1.1 h1.2
        by_cases h2 : 1 ≤ (lq : Int) ∧ (lq : Int) ≤ m.size
        · have HW2 : Hid (∀ w : World, Calls Tryz.prog 39 #[.int .i64 (lq : Int), .int .i64 1, .int .i64 m.size] w fun e w' => e = .returned (.bool true) ∧ w' = w) := mwithin_yes h2.1 h2.2
          by_cases h3 : PA
          · have HA3 : Hid (∀ W, Below wr.heap.size wr W → Calls Tryz.prog 75 #[.slice s.aN s.lN s.cN, .slice aq lq cq] W fun e w' => e = .returned (.bool true) ∧ Below W.heap.size W w') := fun W hb => bool_is (HAQ.out W hb) h3
            have HT3 : Hid (TempsTo m (k + 1)) := HY2.out h1 h2 h3
            obtain ⟨h11, h12⟩ := h1
            have hy9 : y ≤ 8 := by omega
            have hy0 : 0 ≤ y := by omega
            clear h2 h3 HY2 HN2 HAQ
            have t0 : (wr.alloc (.cells #[.int .i64 y, .slice aq lq cq] 59)).cell? ⟨wr.heap.size, 0, none⟩ = some (.int .i64 y) := by simp
            have hlz : wr.heap.size < (wr.alloc (.cells #[.int .i64 y, .slice aq lq cq] 59)).heap.size := by simp
            go_wp2_with (first
              | (go_at_call_of 39 nx; refine (HW1.out _).mono ?_; rintro e w' ⟨rfl, hw'⟩; obtain rfl := hw'.symm)
              | (go_at_call_of 39 lq; refine (HW2.out _).mono ?_; rintro e w' ⟨rfl, hw'⟩; obtain rfl := hw'.symm)
              | (go_at_call 75; refine (HA3.out _ hba).mono ?_; rintro e w4 ⟨rfl, hb4⟩; have t4 := (hb4.cell (p := ⟨wr.heap.size, 0, none⟩) hlz).trans t0))
            exact ⟨⟨k + 1, by omega, by go_num, by rw [HSC'.out], HT3, below2 hbel (below2 hba hb4)⟩, by simp [intOf]; omega⟩
          · have HA3 : Hid (∀ W, Below wr.heap.size wr W → Calls Tryz.prog 75 #[.slice s.aN s.lN s.cN, .slice aq lq cq] W fun e w' => e = .returned (.bool false) ∧ Below W.heap.size W w') := fun W hb => bool_isnt (HAQ.out W hb) h3
            have HBAD : Hid (¬ TempsTo m m.tms.length) := HNO.out (HN2.out fun h => h3 h.2.2)
            clear h1 h2 h3 HY2 HN2 HAQ
            go_wp2_with (first
              | (go_at_call_of 39 nx; refine (HW1.out _).mono ?_; rintro e w' ⟨rfl, hw'⟩; obtain rfl := hw'.symm)
              | (go_at_call_of 39 lq; refine (HW2.out _).mono ?_; rintro e w' ⟨rfl, hw'⟩; obtain rfl := hw'.symm)
              | (go_at_call 75; refine (HA3.out _ hba).mono ?_; rintro e w4 ⟨rfl, hb4⟩))
            go_ret
            exact bool_no (below2 hbw (below2 hba hb4)) HBAD.out
        · have HW2 : Hid (∀ w : World, Calls Tryz.prog 39 #[.int .i64 (lq : Int), .int .i64 1, .int .i64 m.size] w fun e w' => e = .returned (.bool false) ∧ w' = w) := mwithin_no h2
          have HBAD : Hid (¬ TempsTo m m.tms.length) := HNO.out (HN2.out fun h => h2 h.2.1)
          clear h1 h2 HY2 HN2 HAQ
          go_wp2_with (first
            | (go_at_call_of 39 nx; refine (HW1.out _).mono ?_; rintro e w' ⟨rfl, hw'⟩; obtain rfl := hw'.symm)
            | (go_at_call_of 39 lq; refine (HW2.out _).mono ?_; rintro e w' ⟨rfl, hw'⟩; obtain rfl := hw'.symm))
          go_ret
          exact bool_no (below2 hbw hba) HBAD.out
      · have HW1 : Hid (∀ w : World, Calls Tryz.prog 39 #[.int .i64 y, .int .i64 nx, .int .i64 (m.gr - 1)] w fun e w' => e = .returned (.bool false) ∧ w' = w) := mwithin_no h1
        have HBAD : Hid (¬ TempsTo m m.tms.length) := HNO.out (HN2.out fun h => h1 h.1)
        clear h1 HY2 HN2 HAQ
        go_wp2_with (go_at_call_of 39 nx; refine (HW1.out _).mono ?_; rintro e w' ⟨rfl, hw'⟩; obtain rfl := hw'.symm)
        go_ret
        exact bool_no (below2 hbw hba) HBAD.out
    · obtain rfl : k = s.lT := by omega
      have HOK : Hid (TempsTo m m.tms.length) := HYES.out hT.out
      clear hT
      go_wp2_with fail
      go_ret
      exact bool_yes hbw HOK.out
end Go.Proofs.YtcncbjknfcjnmaaGreat.Tp
namespace Go.Proofs.YtcncbjknfcjnmaaGreat.Tp
open Go.ChangeShapes Go.WideShapes Go.ChangeAt Go.RowKit
open Go.Maps
theorem arr3 : WideMaps.ArrKey Tryz.prog 114 3 3 := ⟨Tryz.underlying114, by kernel_rfl, by kernel_rfl, by kernel_rfl⟩
theorem law3 : Keyed Tryz.prog 114 := Keyed.of_law arr3.law
theorem wf_in {x : Int} (h : -9223372036854775808 ≤ x ∧ x ≤ 9223372036854775807) : (Lit.int .i64 x).wf = true := WalkArith.wf_i64 h
/-- three numbers as a key -/
def key3 (a b c : Int) : Lit := .string (keyBytes [.int .i64 a, .int .i64 b, .int .i64 c])
theorem keyOf3 {a b c : Int} (wa : (Lit.int .i64 a).wf = true) (wb : (Lit.int .i64 b).wf = true) (wc : (Lit.int .i64 c).wf = true) : Go.keyOf Tryz.prog 114 (.agg #[.int .i64 a, .int .i64 b, .int .i64 c]) = some (key3 a b c) := by
  have he := Tryz.underlying3
  have hkt : Tryz.prog.keyType 114 = true := by kernel_rfl
  have hsz : ∃ m, Tryz.prog.types.size = m + 1 := ⟨_, rfl⟩
  obtain ⟨m, hm⟩ := hsz
  unfold Go.keyOf key3
  simp only [arr3.hu]
  rw [if_pos (by simp [hkt, Value.formed, arr3.hu, arr3.size]), hm]
  unfold Program.keyLits
  simp only [arr3.hu, Value.cells]
  rw [if_pos (by rw [arr3.size]; rfl), show List.range 3 = [0, 1, 2] from rfl, List.mapM_cons, List.mapM_cons, List.mapM_cons, List.mapM_nil]
  simp [arr3.one, Program.keyLits, he, wa, wb, wc]
def pad (ns : List Int) : Lit := key3 (ns.getD 0 0) (ns.getD 1 0) (ns.getD 2 0)
theorem ids_wf {ns : List Int} (h : IdsTo ns ns.length) (i : Nat) : (Lit.int .i64 (ns.getD i 0)).wf = true := by
  by_cases hi : i < ns.length
  · have := (h i hi).1
    exact wf_in (by omega)
  · rw [show ns.getD i 0 = 0 by simp [List.getD_eq_getElem?_getD, List.getElem?_eq_none (Nat.le_of_not_lt hi)]]
    exact wf_in (by omega)
theorem pad_of {ns : List Int} (h : IdsTo ns ns.length) : Go.keyOf Tryz.prog 114 (.agg #[.int .i64 (ns.getD 0 0), .int .i64 (ns.getD 1 0), .int .i64 (ns.getD 2 0)]) = some (pad ns) := keyOf3 (ids_wf h 0) (ids_wf h 1) (ids_wf h 2)
theorem pad_inj {a b : List Int} (ha : IdsTo a a.length) (hb : IdsTo b b.length) (la : a.length ≤ 3) (lb : b.length ≤ 3) (h : pad a = pad b) : a = b := by
  have h1 := pad_of ha
  have h2 := pad_of hb
  rw [h] at h1
  have h3 := law3.inj h1 h2
  simp only [Value.agg.injEq, Array.mk.injEq, List.cons.injEq, Value.int.injEq, true_and, and_true] at h3
  obtain ⟨e0, e1, e2⟩ := h3
  have key : ∀ i, a.getD i 0 = b.getD i 0 := fun i => by
    have hc : i = 0 ∨ i = 1 ∨ i = 2 ∨ 3 ≤ i := by omega
    rcases hc with rfl | rfl | rfl | h
    · exact e0
    · exact e1
    · exact e2
    · simp [List.getD_eq_getElem?_getD, List.getElem?_eq_none (Nat.le_trans la h), List.getElem?_eq_none (Nat.le_trans lb h)]
  have hl : a.length = b.length := by
    rcases Nat.lt_trichotomy a.length b.length with h | h | h
    · have h5 := (hb a.length h).1
      rw [← key a.length] at h5
      simp [List.getD_eq_getElem?_getD] at h5
    · exact h
    · have h5 := (ha b.length h).1
      rw [key b.length] at h5
      simp [List.getD_eq_getElem?_getD] at h5
  apply List.ext_getElem hl
  intro i h1 h2
  have := key i
  simpa [h1, h2] using this
/-- the spans that were met, by their nodes -/
def metTo (past : List Tm) : Nat → DataW Unit
  | 0 => .map []
  | k + 1 => (metTo past k).put (pad (past.getD k tm0).ns) (.lit (.int .i64 (past.getD k tm0).g))
theorem met_isMap (past : List Tm) (k : Nat) : IsMap (metTo past k) := by
  induction k with
  | zero => exact isMap_empty
  | succ k ih => exact ih.put _ _
def PastTo (mn sz since : Int) (past : List Tm) (k : Nat) : Prop := ∀ i, i < k → (0 ≤ (past.getD i tm0).g ∧ (past.getD i tm0).g < since) ∧ (0 < i → (past.getD (i - 1) tm0).g < (past.getD i tm0).g) ∧ SpanOk mn sz (past.getD i tm0).ns ∧ ∀ j, j < i → (past.getD j tm0).ns ≠ (past.getD i tm0).ns
def nextF (past : List Tm) (k : Nat) : Int := if k = 0 then 0 else (past.getD (k - 1) tm0).g + 1
theorem met_has {mn sz since : Int} {past : List Tm} (hs : sz ≤ 3) {ns : List Int} (hn : SpanOk mn sz ns) : ∀ {k : Nat}, PastTo mn sz since past k → (has (metTo past k) (pad ns) = true ↔ ∃ j, j < k ∧ (past.getD j tm0).ns = ns) := by
  intro k
  induction k with
  | zero => intro _; exact ⟨fun h => by simp [metTo, has] at h, fun ⟨j, hj, _⟩ => absurd hj (Nat.not_lt_zero _)⟩
  | succ k ih =>
    intro hP
    have hP' : PastTo mn sz since past k := fun i hi => hP i (by omega)
    have hk := (hP k (by omega)).2.2.1
    by_cases e : (past.getD k tm0).ns = ns
    · refine ⟨fun _ => ⟨k, by omega, e⟩, fun _ => ?_⟩
      unfold metTo
      rw [e]
      exact has_put_same (met_isMap past k) (law3.key (pad_of hn.2)) _
    · have hne : pad ns ≠ pad (past.getD k tm0).ns := fun h => e (pad_inj hk.2 hn.2 (by have := hk.1; omega) (by have := hn.1; omega) h.symm)
      unfold metTo
      rw [has_put_other hne, ih hP']
      constructor
      · rintro ⟨j, hj, h⟩
        exact ⟨j, by omega, h⟩
      · rintro ⟨j, hj, h⟩
        by_cases ej : j = k
        · subst ej; exact absurd h e
        · exact ⟨j, by omega, h⟩
theorem nextF_bd {mn sz since : Int} {past : List Tm} {k : Nat} (h : PastTo mn sz since past k) (h0 : 0 ≤ since) : 0 ≤ nextF past k ∧ nextF past k ≤ since := by
  unfold nextF
  split
  · omega
  · have := (h (k - 1) (by omega)).1
    omega
theorem nextF_yes {mn sz since : Int} {past : List Tm} {k : Nat} (h : PastTo mn sz since past k) (h0 : 0 ≤ since) (h1 : nextF past k ≤ (past.getD k tm0).g ∧ (past.getD k tm0).g ≤ since - 1) (h2 : SpanOk mn sz (past.getD k tm0).ns) (h3 : ¬ ∃ j, j < k ∧ (past.getD j tm0).ns = (past.getD k tm0).ns) : PastTo mn sz since past (k + 1) := fun i hi => by
  by_cases e : i = k
  · subst e
    have hb := nextF_bd h h0
    refine ⟨by omega, fun hi0 => ?_, h2, fun j hj e => h3 ⟨j, hj, e⟩⟩
    have : nextF past i = (past.getD (i - 1) tm0).g + 1 := if_neg (by omega)
    omega
  · exact h i (by omega)
theorem nextF_no {mn sz since : Int} {past : List Tm} {k n : Nat} (hk : k < n) (h1 : ¬ ((nextF past k ≤ (past.getD k tm0).g ∧ (past.getD k tm0).g ≤ since - 1) ∧ SpanOk mn sz (past.getD k tm0).ns ∧ ¬ ∃ j, j < k ∧ (past.getD j tm0).ns = (past.getD k tm0).ns)) : ¬ PastTo mn sz since past n := fun h => by
  obtain ⟨h2, h3, h4, h5⟩ := h k hk
  apply h1
  refine ⟨⟨?_, by omega⟩, h4, fun ⟨j, hj, e⟩ => h5 j hj e⟩
  unfold nextF
  split
  · exact h2.1
  · have := h3 (by omega)
    omega
theorem nextF_succ (past : List Tm) (k : Nat) : nextF past (k + 1) = (past.getD k tm0).g + 1 := if_neg (by omega)
theorem map_below {a b : World} {M n : Nat} {D : DataW Unit} (h : a.ownsMap Tryz.prog 114 (plainElem Tryz.prog 3) M n D) (hb : Below a.heap.size a b) : b.ownsMap Tryz.prog 114 (plainElem Tryz.prog 3) M n D := h.kept (below_grownBy hb none) (by simp)
end Go.Proofs.YtcncbjknfcjnmaaGreat.Tp
namespace Go.Proofs.YtcncbjknfcjnmaaGreat.Tp
open Go.ChangeShapes Go.WideShapes Go.ChangeAt Go.RowKit
open Go.Maps
theorem key_cells (W : World) (kb : Nat) (ns : List Int) (h3 : ns.length ≤ 3) (h : ∀ i, i < 3 → W.cell? ⟨kb, i, none⟩ = some (.int .i64 0)) (i : Nat) (hi : i < 3) : (W.setCells kb 0 (intCells ns)).cell? ⟨kb, i, none⟩ = some (.int .i64 (ns.getD i 0)) := by
  have hl : (intCells ns).length = ns.length := by simp [intCells]
  by_cases hin : i < ns.length
  · have := World.cell?_setCells_in kb (intCells ns) 0 W (fun j hj => by rw [Nat.zero_add, h j (by omega)]; rfl) i (by omega)
    rw [Nat.zero_add] at this
    rw [this]
    simp [intCells, hin]
  · rw [World.cell?_setCells_out kb (intCells ns) 0 W ⟨kb, i, none⟩ (fun _ _ => by right; show 0 + _ ≤ i; omega), h i hi]
    simp [List.getD_eq_getElem?_getD, List.getElem?_eq_none (Nat.le_of_not_lt hin)]
theorem infoInt1 : (Tryz.prog.info? 3).map (·.size) = some 1 := by kernel_rfl
theorem zeroInt (w : World) : (zeroValue 3).run Tryz.prog w = .ok (.int .i64 0) w := Tryz.zeroValue3 w
set_option maxHeartbeats 4000000 in
set_option maxRecDepth 60000 in
theorem mayPast_any {m : Mp} {s : MV} (hc : CountOk m.size m.mn m.gr) {since : Int} (hsn : 0 ≤ since ∧ since ≤ 2147483647) (a : Option Addr) (len cap : Nat) (past : List Tm) (w : World) (h : TmsAt w a len cap past) :
    Calls Tryz.prog 76 #[.agg (mapCells m s).toArray, .agg #[.int .i64 since, .slice a len cap]] w fun e w' => BoolPost (PastTo m.mn m.size since past past.length) w e w' := by
  have hl : past.length = len := h.1
  have hmx : len ≤ maxLen := Nat.le_trans h.2.1 h.2.2.1
  have hmx2 : Hid (len ≤ maxLen) := hmx
  unfold maxLen at hmx
  have HT : Hid (TmsAt w a len cap past) := h
  have HSP : Hid (∀ W f aq lq cq ns, RowI W aq lq cq ns → Calls Tryz.prog 100 #[.agg #[.int .i64 m.ep, .int .i64 m.size, .int .i64 m.mn, .int .i64 m.gr, .slice s.aN s.lN s.cN, .slice s.aT s.lT s.cT, .slice s.aR s.lR s.cR], .agg #[.int .i64 f, .slice aq lq cq]] W fun e w' => BoolPost (SpanOk m.mn m.size ns) W e w') := fun W f aq lq cq ns hr => maySpan_any m s f aq lq cq ns W hr
  have HYES : Hid (PastTo m.mn m.size since past len → PastTo m.mn m.size since past past.length) := fun h => by rw [hl]; exact h
  have HNO : Hid (¬ PastTo m.mn m.size since past len → ¬ PastTo m.mn m.size since past past.length) := fun h => by rw [hl]; exact h
  have HBD : Hid (∀ k, PastTo m.mn m.size since past k → 0 ≤ nextF past k ∧ nextF past k ≤ since) := fun k h => nextF_bd h hsn.1
  have HSY : Hid (∀ k, PastTo m.mn m.size since past k → (nextF past k ≤ (past.getD k tm0).g ∧ (past.getD k tm0).g ≤ since - 1) → SpanOk m.mn m.size (past.getD k tm0).ns → ¬ (∃ j, j < k ∧ (past.getD j tm0).ns = (past.getD k tm0).ns) → PastTo m.mn m.size since past (k + 1)) := fun k h h1 h2 h3 => nextF_yes h hsn.1 h1 h2 h3
  have HSN : Hid (∀ k, k < len → ¬ ((nextF past k ≤ (past.getD k tm0).g ∧ (past.getD k tm0).g ≤ since - 1) ∧ SpanOk m.mn m.size (past.getD k tm0).ns ∧ ¬ ∃ j, j < k ∧ (past.getD j tm0).ns = (past.getD k tm0).ns) → ¬ PastTo m.mn m.size since past len) := fun k hk h => nextF_no hk h
  have HMH : Hid (∀ k ns, SpanOk m.mn m.size ns → PastTo m.mn m.size since past k → (has (metTo past k) (pad ns) = true ↔ ∃ j, j < k ∧ (past.getD j tm0).ns = ns)) := fun k ns hn hp => met_has (by have := hc.1.2; omega) hn hp
  have HL3 : Hid (∀ ns, SpanOk m.mn m.size ns → 1 ≤ ns.length ∧ ns.length ≤ 3) := fun ns h => by have := h.1; have := hc.1; have := hc.2.1; omega
  have hsn0 : 0 ≤ since := hsn.1
  have hsn1 : since ≤ 2147483647 := hsn.2
  rw [map_split]
  obtain ⟨w1, hw1⟩ : ∃ w1, w1 = (w.alloc (.cells #[.int .i64 m.ep, .int .i64 m.size, .int .i64 m.mn, .int .i64 m.gr, .slice s.aN s.lN s.cN, .slice s.aT s.lT s.cT, .slice s.aR s.lR s.cR] 26)).alloc (.cells #[.int .i64 since, .slice a len cap] 53) := ⟨_, rfl⟩
  have hb1 : Below w.heap.size w w1 := by rw [hw1]; exact below2 (below_alloc _ _) (below_alloc _ _)
  have HBX : Hid (Box7 w1 w.heap.size (.int .i64 m.ep) (.int .i64 m.size) (.int .i64 m.mn) (.int .i64 m.gr) (.slice s.aN s.lN s.cN) (.slice s.aT s.lT s.cT) (.slice s.aR s.lR s.cR)) := by
    rw [hw1]
    exact (Box7.new w _ _ _ _ _ _ _ _).below (below_alloc _ _)
  have T0 : Hid (w1.cell? ⟨w.heap.size + 1, 0, none⟩ = some (.int .i64 since)) := by unfold Hid; rw [hw1]; simp
  have T1 : Hid (w1.cell? ⟨w.heap.size + 1, 1, none⟩ = some (.slice a len cap)) := by unfold Hid; rw [hw1]; simp
  have hlt : w.heap.size + 1 < w1.heap.size := World.block_lt_of_cell? w1 ⟨w.heap.size + 1, 0, none⟩ T0.out
  have HMP : Hid ((w1.alloc (.map #[] 0)).ownsMap Tryz.prog 114 (plainElem Tryz.prog 3) w1.heap.size 0 (metTo past 0)) := World.ownsMap_made w1 Tryz.prog 114 (plainElem Tryz.prog 3)
  have hmm := @run_makeMap Tryz.prog
  have t1 := T1.out
  clear h hl hc hsn
  go_enter Tryz.func76, Tryz.ntmps76
  go_upto_region 1 with fail
  rw [← hw1]
  clear hw1
  go_wp2_with fail
  clear hmm t1
  go_loopw [5, 16] (fun nx i wr => ∃ k : Nat, k ≤ len ∧ i = .int .i64 k ∧ nx = .int .i64 (nextF past k) ∧ Hid (PastTo m.mn m.size since past k) ∧ Hid (wr.ownsMap Tryz.prog 114 (plainElem Tryz.prog 3) w1.heap.size k (metTo past k)) ∧ Below w1.heap.size w1 wr) (fun _ i _ => len - (intOf i).toNat)
  case atStart => exact ⟨0, Nat.zero_le _, rfl, rfl, (fun i hi => absurd hi (Nat.not_lt_zero _)), HMP, below_alloc _ _⟩
  case round =>
    obtain ⟨k, hk, rfl, rfl, hP, hOM, hbel⟩ := hrel
    have hbw := below2 hb1 hbel
    obtain ⟨hn0, hn1⟩ := HBD.out k hP.out
    obtain ⟨⟨c0, c1, c2, c3, c4, c5, c6⟩, -⟩ := HBX.out.below hbel
    have hlw : w.heap.size < wr.heap.size := (HBX.out.below hbel).lt
    have hlw1 : w.heap.size + 1 < wr.heap.size := Nat.lt_of_lt_of_le hlt hbel.size
    have u0 := (hbel.cell (p := ⟨w.heap.size + 1, 0, none⟩) hlt).trans T0.out
    by_cases hltk : k < len
    · have hk1 : (k : Int) < (len : Int) := by omega
      have hk0 : (0 : Int) ≤ (k : Int) := by omega
      obtain ⟨b, off, hae, hbs, hcell⟩ := (HT.out.below hbw).some (by omega)
      obtain ⟨e0, aq, lq, cq, e1, hrow⟩ := hcell k hltk
      subst hae
      have hql : (past.getD k tm0).ns.length = lq := hrow.1
      have HY2 := show Hid _ from HSY.out k hP.out
      have HN2 := show Hid _ from HSN.out k hltk
      have HSC' : Hid (nextF past (k + 1) = (past.getD k tm0).g + 1) := nextF_succ past k
      have HMT : Hid (metTo past (k + 1) = (metTo past k).put (pad (past.getD k tm0).ns) (.lit (.int .i64 (past.getD k tm0).g))) := rfl
      have HMK := show Hid _ from HMH.out k (past.getD k tm0).ns
      have HP : Hid (PastTo m.mn m.size since past k) := hP.out
      have HROW : Hid (RowI wr aq lq cq (past.getD k tm0).ns) := hrow
      have HQL : Hid ((past.getD k tm0).ns.length = lq) := hql
      clear hcell hrow hP hql
      generalize (past.getD k tm0).ns = ns at *
      generalize (past.getD k tm0).g = y at *
      generalize nextF past k = nx at *
      have hba := below_alloc wr (.cells #[.int .i64 y, .slice aq lq cq] 55)
      have hlz : wr.heap.size < (wr.alloc (.cells #[.int .i64 y, .slice aq lq cq] 55)).heap.size := by simp
      have q0 : (wr.alloc (.cells #[.int .i64 y, .slice aq lq cq] 55)).cell? ⟨wr.heap.size, 0, none⟩ = some (.int .i64 y) := by simp
      have q1 : (wr.alloc (.cells #[.int .i64 y, .slice aq lq cq] 55)).cell? ⟨wr.heap.size, 1, none⟩ = some (.slice aq lq cq) := by simp
      by_cases h1 : nx ≤ y ∧ y ≤ since - 1
      · have HW1 : Hid (∀ w : World, Calls Tryz.prog 39 #[.int .i64 y, .int .i64 nx, .int .i64 (since - 1)] w fun e w' => e = .returned (.bool true) ∧ w' = w) := mwithin_yes h1.1 h1.2
        by_cases h2 : SpanOk m.mn m.size ns
        · have HS2 : Hid (∀ W, Below wr.heap.size wr W → Calls Tryz.prog 100 #[.agg #[.int .i64 m.ep, .int .i64 m.size, .int .i64 m.mn, .int .i64 m.gr, .slice s.aN s.lN s.cN, .slice s.aT s.lT s.cT, .slice s.aR s.lR s.cR], .agg #[.int .i64 y, .slice aq lq cq]] W fun e w' => e = .returned (.bool true) ∧ Below W.heap.size W w') := fun W hb => bool_is (HSP.out W y aq lq cq ns (HROW.out.below hb)) h2
          have hl3 := HL3.out ns h2
          have hlq1 : 1 ≤ lq := by have := HQL.out; omega
          have hlq3 : lq ≤ 3 := by have := HQL.out; omega
          have HMK2 : Hid (has (metTo past k) (pad ns) = true ↔ ∃ j, j < k ∧ (past.getD j tm0).ns = ns) := HMK.out h2 HP.out
          have HPO : Hid (Go.keyOf Tryz.prog 114 (.agg #[.int .i64 (ns.getD 0 0), .int .i64 (ns.getD 1 0), .int .i64 (ns.getD 2 0)]) = some (pad ns)) := pad_of h2.2
          have HNS3 : Hid (ns.length ≤ 3) := hl3.2
          have hy0 : 0 ≤ y := by omega
          have hy1 : y ≤ 2147483647 := by omega
          go_upto_region 9 with (first
            | (go_at_call 39; refine (HW1.out _).mono ?_; rintro e w' ⟨rfl, hw'⟩; obtain rfl := hw'.symm)
            | (go_at_call 100; refine (HS2.out _ hba).mono ?_; rintro e w4 ⟨rfl, hb4⟩))
          have hb4r : Below wr.heap.size wr w4 := below2 hba hb4
          have hbk := below_alloc w4 (.cells #[.int .i64 0, .int .i64 0, .int .i64 0] 114)
          obtain ⟨bq, oq, haq, hbq, hcq⟩ := ((HROW.out.below hb4r).below hbk).some (by omega)
          subst haq
          have q1' := (hbk.cell (p := ⟨wr.heap.size, 1, none⟩) (Nat.lt_of_lt_of_le hlz hb4.size)).trans ((hb4.cell (p := ⟨wr.heap.size, 1, none⟩) hlz).trans q1)
          have q0' := (hbk.cell (p := ⟨wr.heap.size, 0, none⟩) (Nat.lt_of_lt_of_le hlz hb4.size)).trans ((hb4.cell (p := ⟨wr.heap.size, 0, none⟩) hlz).trans q0)
          have hkz : ∀ i, i < 3 → (w4.alloc (.cells #[.int .i64 0, .int .i64 0, .int .i64 0] 114)).drew.cell? ⟨w4.heap.size, i, none⟩ = some (.int .i64 0) := fun i hi => by
            have hci : i = 0 ∨ i = 1 ∨ i = 2 := by omega
            rcases hci with rfl | rfl | rfl <;> simp
          have hkf : ∀ i, (w4.alloc (.cells #[.int .i64 0, .int .i64 0, .int .i64 0] 114)).drew.frozen? ⟨w4.heap.size, i, none⟩ = false := fun i => by simp
          have hil : (intCells ns).length = lq := by simp [intCells, HQL.out]
          have hcp : ∀ ty, (Builtin.copy_ #[35, 35] ty #[.slice (some ⟨w4.heap.size, 0, none⟩) 3 3, .slice (some ⟨bq, oq, none⟩) lq cq]).run Tryz.prog (w4.alloc (.cells #[.int .i64 0, .int .i64 0, .int .i64 0] 114)).drew = .ok (.int .i64 (lq : Int)) ((w4.alloc (.cells #[.int .i64 0, .int .i64 0, .int .i64 0] 114)).drew.setCells w4.heap.size 0 (intCells ns)) := fun ty => by
            have := run_copy_cells (P := Tryz.prog) (w4.alloc (.cells #[.int .i64 0, .int .i64 0, .int .i64 0] 114)).drew 35 35 ty 3 w4.heap.size 0 3 3 ⟨bq, oq, none⟩ lq cq (intCells ns) Tryz.underlying35 infoInt1 (by rw [hil]; exact (Nat.min_eq_left hlq3).symm) (fun j v hj => by
              have hj' : j < ns.length := by have := (List.getElem?_eq_some_iff.1 hj).1; rw [hil] at this; have := HQL.out; omega
              rw [addr_add]
              have h5 := hcq j (by have := HQL.out; omega)
              rw [show (intCells ns)[j]? = some (.int .i64 (ns.getD j 0)) by simp [intCells, hj']] at hj
              exact h5.trans hj) (fun j hj => by rw [Nat.zero_add, hkz j (by omega)]; rfl) (fun j hj => by rw [Nat.zero_add]; exact hkf j) (fun v hv => by
              obtain ⟨x, _, rfl⟩ := List.mem_map.1 hv
              rfl)
            rw [hil] at this
            exact this
          have K0 := key_cells _ w4.heap.size ns HNS3.out hkz 0 (by decide)
          have K1 := key_cells _ w4.heap.size ns HNS3.out hkz 1 (by decide)
          have K2 := key_cells _ w4.heap.size ns HNS3.out hkz 2 (by decide)
          have hne4 : wr.heap.size ≠ w4.heap.size := by have := hb4.size; omega
          have hbC : Below w4.heap.size w4 ((w4.alloc (.cells #[.int .i64 0, .int .i64 0, .int .i64 0] 114)).drew.setCells w4.heap.size 0 (intCells ns)) := below_setCells (Nat.le_refl _) _ _ _ (below2 hbk (below_drew _))
          have r0 := (hbC.cell (p := ⟨wr.heap.size, 0, none⟩) (Nat.lt_of_lt_of_le hlz hb4.size)).trans ((hb4.cell (p := ⟨wr.heap.size, 0, none⟩) hlz).trans q0)
          have hOC := map_below (map_below hOM.out hb4r) hbC
          have HOC : Hid (((w4.alloc (.cells #[.int .i64 0, .int .i64 0, .int .i64 0] 114)).drew.setCells w4.heap.size 0 (intCells ns)).ownsMap Tryz.prog 114 (plainElem Tryz.prog 3) w1.heap.size k (metTo past k)) := hOC
          have hbwC : Below w1.heap.size w1 ((w4.alloc (.cells #[.int .i64 0, .int .i64 0, .int .i64 0] 114)).drew.setCells w4.heap.size 0 (intCells ns)) := below2 hbel (below2 hb4r hbC)
          obtain ⟨vv, ps, hlk, -⟩ := hOC.look_ok law3 Tryz.underlying112 (zeroInt _) (plainElem_int Tryz.underlying3 (wf_in (by omega))) HPO.out
          have hMl := hOM.out.lt
          clear hkz hkf hcq hOM
          generalize ns.getD 0 0 = g0 at *
          generalize ns.getD 1 0 = g1 at *
          generalize ns.getD 2 0 = g2 at *
          go_region
          all_goals
            generalize hwC : (w4.alloc (.cells #[.int .i64 0, .int .i64 0, .int .i64 0] 114)).drew.setCells w4.heap.size 0 (intCells ns) = wC at *
            have hlC := hOC.lt
            cases hq : has (metTo past k) (pad ns) with
            | true =>
              rw [hq] at hlk
              have HBAD : Hid (¬ PastTo m.mn m.size since past past.length) := HNO.out (HN2.out fun h => h.2.2 (HMK2.out.1 hq))
              clear hwC hcp HY2 HN2 h1 h2 hq
              go_wp2_with fail
              go_ret
              exact bool_no (below2 hb1 hbwC) HBAD.out
            | false =>
              rw [hq] at hlk
              have HP3 : Hid (PastTo m.mn m.size since past (k + 1)) := HY2.out h1 h2 (fun h => by have := HMK2.out.2 h; rw [hq] at this; exact absurd this (by decide))
              have hsz1 : w1.heap.size ≤ w4.heap.size := Nat.le_trans hbel.size hb4r.size
              have hne1 : wr.heap.size ≠ w1.heap.size := by omega
              clear hwC hcp HY2 HN2 h1 h2 hq
              go_wp2_with (at_mapUpdate; refine wpList_mapUpdate_own _ rfl _ _ _ 112 rfl 114 3 law3 Tryz.underlying112 _ w1.heap.size k (metTo past k) rfl HOC.out (by have := hmx2.out; omega) _ _ (pad ns) rfl rfl HPO.out (.lit (.int .i64 y)) [] (plainElem_int Tryz.underlying3 (wf_in (by omega))) ?_)
              intro w7 hown7 hg7
              have HO7 : Hid (w7.ownsMap Tryz.prog 114 (plainElem Tryz.prog 3) w1.heap.size (k + 1) (metTo past (k + 1))) := by unfold Hid; rw [HMT.out]; exact hown7
              have hb7 : Below w1.heap.size w1 w7 := hbwC.grown hg7 hbwC.size (fun j hj => by injection hj with hj; omega)
              have z0 := (grownBy_cell hg7 (p := ⟨wr.heap.size, 0, none⟩) (World.block_lt_of_cell? _ ⟨wr.heap.size, 0, none⟩ r0) (by simpa using hne1)).trans r0
              clear hown7 hg7 HOC
              go_wp2_with fail
              exact ⟨⟨k + 1, by omega, by go_num, by rw [HSC'.out], HP3, HO7, hb7⟩, by simp [intOf]; omega⟩
        · have HS2 : Hid (∀ W, Below wr.heap.size wr W → Calls Tryz.prog 100 #[.agg #[.int .i64 m.ep, .int .i64 m.size, .int .i64 m.mn, .int .i64 m.gr, .slice s.aN s.lN s.cN, .slice s.aT s.lT s.cT, .slice s.aR s.lR s.cR], .agg #[.int .i64 y, .slice aq lq cq]] W fun e w' => e = .returned (.bool false) ∧ Below W.heap.size W w') := fun W hb => bool_isnt (HSP.out W y aq lq cq ns (HROW.out.below hb)) h2
          have HBAD : Hid (¬ PastTo m.mn m.size since past past.length) := HNO.out (HN2.out fun h => h2 h.2.1)
          clear h1 h2 HY2 HN2
          go_wp2_with (first
            | (go_at_call 39; refine (HW1.out _).mono ?_; rintro e w' ⟨rfl, hw'⟩; obtain rfl := hw'.symm)
            | (go_at_call 100; refine (HS2.out _ hba).mono ?_; rintro e w4 ⟨rfl, hb4⟩))
          go_ret
          exact bool_no (below2 hbw (below2 hba hb4)) HBAD.out
      · have HW1 : Hid (∀ w : World, Calls Tryz.prog 39 #[.int .i64 y, .int .i64 nx, .int .i64 (since - 1)] w fun e w' => e = .returned (.bool false) ∧ w' = w) := mwithin_no h1
        have HBAD : Hid (¬ PastTo m.mn m.size since past past.length) := HNO.out (HN2.out fun h => h1 h.1)
        clear h1 HY2 HN2
        go_wp2_with (go_at_call 39; refine (HW1.out _).mono ?_; rintro e w' ⟨rfl, hw'⟩; obtain rfl := hw'.symm)
        go_ret
        exact bool_no (below2 hbw hba) HBAD.out
    · obtain rfl : k = len := by omega
      have HOK : Hid (PastTo m.mn m.size since past past.length) := HYES.out hP.out
      clear hP
      go_wp2_with fail
      go_ret
      exact bool_yes hbw HOK.out
end Go.Proofs.YtcncbjknfcjnmaaGreat.Tp
namespace Go.Proofs.YtcncbjknfcjnmaaGreat.Tp
open Go.ChangeShapes Go.WideShapes Go.ChangeAt Go.RowKit
def TrailsTo (m : Mp) (k : Nat) : Prop := ∀ i, i < k → (0 ≤ (m.trs.getD i tr0).since ∧ (m.trs.getD i tr0).since ≤ m.ep) ∧ PastTo m.mn m.size (m.trs.getD i tr0).since (m.trs.getD i tr0).past (m.trs.getD i tr0).past.length
def TrailsOk (m : Mp) : Prop := (m.trs.length : Int) = m.gr ∧ TrailsTo m m.trs.length
theorem trails_next {m : Mp} {k : Nat} (h : TrailsTo m k) (h1 : (0 ≤ (m.trs.getD k tr0).since ∧ (m.trs.getD k tr0).since ≤ m.ep) ∧ PastTo m.mn m.size (m.trs.getD k tr0).since (m.trs.getD k tr0).past (m.trs.getD k tr0).past.length) : TrailsTo m (k + 1) := fun i hi => by
  by_cases e : i = k
  · rw [e]; exact h1
  · exact h i (by omega)
set_option maxHeartbeats 2000000 in
set_option maxRecDepth 60000 in
theorem mayTrail_any {m : Mp} {s : MV} (hc : CountOk m.size m.mn m.gr) (he : 0 ≤ m.ep ∧ m.ep ≤ 2147483647) (w : World) (h : MapAt w m s) : Calls Tryz.prog 42 #[.agg (mapCells m s).toArray] w fun e w' => BoolPost (TrailsOk m) w e w' := by
  have HT : Hid (TrsAt w s.aR s.lR s.cR m.trs) := h.trs
  have hl : m.trs.length = s.lR := h.trs.1
  have hmx : s.lR ≤ maxLen := Nat.le_trans h.trs.2.1 h.trs.2.2.1
  unfold maxLen at hmx
  have HPA : Hid (∀ W sn b n c past, 0 ≤ sn ∧ sn ≤ m.ep → TmsAt W b n c past → Calls Tryz.prog 76 #[.agg #[.int .i64 m.ep, .int .i64 m.size, .int .i64 m.mn, .int .i64 m.gr, .slice s.aN s.lN s.cN, .slice s.aT s.lT s.cT, .slice s.aR s.lR s.cR], .agg #[.int .i64 sn, .slice b n c]] W fun e w' => BoolPost (PastTo m.mn m.size sn past past.length) W e w') := fun W sn b n c past h1 h2 => mayPast_any hc (by omega) b n c past W h2
  rw [map_split]
  obtain ⟨aN, lN, cN, aT, lT, cT, aR, lR, cR⟩ := s
  simp only at *
  have hb1 := below_alloc w (.cells #[.int .i64 m.ep, .int .i64 m.size, .int .i64 m.mn, .int .i64 m.gr, .slice aN lN cN, .slice aT lT cT, .slice aR lR cR] 26)
  have HBX : Hid (Box7 (w.alloc (.cells #[.int .i64 m.ep, .int .i64 m.size, .int .i64 m.mn, .int .i64 m.gr, .slice aN lN cN, .slice aT lT cT, .slice aR lR cR] 26)) w.heap.size (.int .i64 m.ep) (.int .i64 m.size) (.int .i64 m.mn) (.int .i64 m.gr) (.slice aN lN cN) (.slice aT lT cT) (.slice aR lR cR)) := Box7.new w _ _ _ _ _ _ _ _
  by_cases hn : (lR : Int) = m.gr
  · rw [← hn] at HPA HBX hb1 ⊢
    have HYES : Hid (TrailsTo m lR → TrailsOk m) := fun h => ⟨by rw [hl]; exact hn, by rw [hl]; exact h⟩
    have HNO : Hid (¬ TrailsTo m lR → ¬ TrailsOk m) := fun h h' => h (by have := h'.2; rw [hl] at this; exact this)
    clear h hl hn hc he
    go_enter Tryz.func42, Tryz.ntmps42
    go_wp2_with fail
    generalize w.alloc (.cells #[.int .i64 m.ep, .int .i64 m.size, .int .i64 m.mn, .int .i64 (lR : Int), .slice aN lN cN, .slice aT lT cT, .slice aR lR cR] 26) = w1 at *
    go_loopw [14] (fun i wr => ∃ k : Nat, k ≤ lR ∧ i = .int .i64 k ∧ Hid (TrailsTo m k) ∧ Below w1.heap.size w1 wr) (fun i _ => lR - (intOf i).toNat)
    case atStart => exact ⟨0, Nat.zero_le _, rfl, (fun i hi => absurd hi (Nat.not_lt_zero _)), Below.refl _ _⟩
    case round =>
      obtain ⟨k, hk, rfl, hT, hbel⟩ := hrel
      have hbw := below2 hb1 hbel
      obtain ⟨⟨c0, c1, c2, c3, c4, c5, c6⟩, -⟩ := HBX.out.below hbel
      have hlw : w.heap.size < wr.heap.size := (HBX.out.below hbel).lt
      by_cases hlt : k < lR
      · have hk1 : (k : Int) < (lR : Int) := by omega
        have hk0 : (0 : Int) ≤ (k : Int) := by omega
        obtain ⟨b, off, hae, hbs, hcell⟩ := (HT.out.below hbw).some (by omega)
        obtain ⟨e0, aq, lq, cq, e1, hpast⟩ := hcell k hlt
        have HP2 : Hid (∀ W, 0 ≤ (m.trs.getD k tr0).since ∧ (m.trs.getD k tr0).since ≤ m.ep → Below wr.heap.size wr W → Calls Tryz.prog 76 #[.agg #[.int .i64 m.ep, .int .i64 m.size, .int .i64 m.mn, .int .i64 (lR : Int), .slice aN lN cN, .slice aT lT cT, .slice aR lR cR], .agg #[.int .i64 (m.trs.getD k tr0).since, .slice aq lq cq]] W fun e w' => BoolPost (PastTo m.mn m.size (m.trs.getD k tr0).since (m.trs.getD k tr0).past (m.trs.getD k tr0).past.length) W e w') := fun W h1 hb => HPA.out W _ aq lq cq _ h1 (hpast.below hb)
        have HNX : Hid ((0 ≤ (m.trs.getD k tr0).since ∧ (m.trs.getD k tr0).since ≤ m.ep) ∧ PastTo m.mn m.size (m.trs.getD k tr0).since (m.trs.getD k tr0).past (m.trs.getD k tr0).past.length → TrailsTo m (k + 1)) := fun h => trails_next hT.out h
        have HBD : Hid (¬ ((0 ≤ (m.trs.getD k tr0).since ∧ (m.trs.getD k tr0).since ≤ m.ep) ∧ PastTo m.mn m.size (m.trs.getD k tr0).since (m.trs.getD k tr0).past (m.trs.getD k tr0).past.length) → ¬ TrailsTo m lR) := fun h h' => h (h' k hlt)
        clear hcell hpast hT
        generalize PastTo m.mn m.size (m.trs.getD k tr0).since (m.trs.getD k tr0).past (m.trs.getD k tr0).past.length = PP at *
        generalize (m.trs.getD k tr0).since = sn at *
        subst hae
        have hba := below_alloc wr (.cells #[.int .i64 sn, .slice aq lq cq] 53)
        by_cases h1 : 0 ≤ sn ∧ sn ≤ m.ep
        · have HW1 : Hid (∀ w : World, Calls Tryz.prog 39 #[.int .i64 sn, .int .i64 0, .int .i64 m.ep] w fun e w' => e = .returned (.bool true) ∧ w' = w) := mwithin_yes h1.1 h1.2
          by_cases h2 : PP
          · have HS2 := show Hid _ from fun W (hb : Below wr.heap.size wr W) => bool_is (HP2.out W h1 hb) h2
            have HT2 : Hid (TrailsTo m (k + 1)) := HNX.out ⟨h1, h2⟩
            clear h1 h2 HNX HBD HP2
            go_wp2_with (first
              | (go_at_call 39; refine (HW1.out _).mono ?_; rintro e w' ⟨rfl, hw'⟩; obtain rfl := hw'.symm)
              | (go_at_call 76; refine (HS2.out _ hba).mono ?_; rintro e w4 ⟨rfl, hb4⟩))
            exact ⟨⟨k + 1, by omega, by go_num, HT2, below2 hbel (below2 hba hb4)⟩, by simp [intOf]; omega⟩
          · have HS2 := show Hid _ from fun W (hb : Below wr.heap.size wr W) => bool_isnt (HP2.out W h1 hb) h2
            have HB2 : Hid (¬ TrailsOk m) := HNO.out (HBD.out fun h => h2 h.2)
            clear h1 h2 HNX HBD HP2
            go_wp2_with (first
              | (go_at_call 39; refine (HW1.out _).mono ?_; rintro e w' ⟨rfl, hw'⟩; obtain rfl := hw'.symm)
              | (go_at_call 76; refine (HS2.out _ hba).mono ?_; rintro e w4 ⟨rfl, hb4⟩))
            go_ret
            exact bool_no (below2 hbw (below2 hba hb4)) HB2.out
        · have HW1 : Hid (∀ w : World, Calls Tryz.prog 39 #[.int .i64 sn, .int .i64 0, .int .i64 m.ep] w fun e w' => e = .returned (.bool false) ∧ w' = w) := mwithin_no h1
          have HB2 : Hid (¬ TrailsOk m) := HNO.out (HBD.out fun h => h1 h.1)
          clear h1 HNX HBD HP2
          go_wp2_with (go_at_call 39; refine (HW1.out _).mono ?_; rintro e w' ⟨rfl, hw'⟩; obtain rfl := hw'.symm)
          go_ret
          exact bool_no (below2 hbw hba) HB2.out
      · obtain rfl : k = lR := by omega
        have HOK : Hid (TrailsOk m) := HYES.out hT.out
        clear hT
        go_wp2_with fail
        go_ret
        exact bool_yes hbw HOK.out
  · have hnd : ((lR : Int) == m.gr) = false := by simpa using hn
    have HB2 : Hid (¬ TrailsOk m) := fun h => hn (by have := h.1; rw [hl] at this; exact this)
    clear h hl hn hc he
    go_enter Tryz.func42, Tryz.ntmps42
    go_wp2_with fail
    go_ret
    exact bool_no hb1 HB2.out
/-- a map that may be -/
structure MayM (m : Mp) : Prop where
  ep : 0 ≤ m.ep ∧ m.ep ≤ 2147483647
  cnt : CountOk m.size m.mn m.gr
  nds : MayN m.nds
  tms : TempsTo m m.tms.length
  trs : TrailsOk m
set_option maxHeartbeats 2000000 in
set_option maxRecDepth 60000 in
theorem mcheck_any {m : Mp} {s : MV} (w : World) (h : MapAt w m s) : Calls Tryz.prog 17 #[.agg (mapCells m s).toArray] w fun e w' => ErrPost (MayM m) w e w' := by
  have HE : Hid (∀ w : World, Calls Tryz.prog 39 #[.int .i64 m.ep, .int .i64 0, .int .i64 2147483647] w fun e w' => e = .returned (.bool (inB m.ep 0 2147483647)) ∧ w' = w) := mwithin_any m.ep 0 2147483647
  have HC : Hid (∀ w : World, Calls Tryz.prog 30 #[.int .i64 m.size, .int .i64 m.mn, .int .i64 m.gr] w fun e w' => e = .returned (.bool (countB m.size m.mn m.gr)) ∧ w' = w) := mayCount_any _ _ _
  have HN : Hid (∀ W, Below w.heap.size w W → Calls Tryz.prog 40 #[.slice s.aN s.lN s.cN] W fun e w' => ErrPost (MayN m.nds) W e w') := fun W hb => check_any s.aN s.lN s.cN m.nds W (h.nds.below hb)
  have HS : Hid (CountOk m.size m.mn m.gr → MayN m.nds → ∀ W, Below w.heap.size w W → Calls Tryz.prog 41 #[.agg #[.int .i64 m.ep, .int .i64 m.size, .int .i64 m.mn, .int .i64 m.gr, .slice s.aN s.lN s.cN, .slice s.aT s.lT s.cT, .slice s.aR s.lR s.cR]] W fun e w' => BoolPost (TempsTo m m.tms.length) W e w') := fun hc hM W hb => mayStand_any hc.2.2 hM W (h.below hb)
  have HT : Hid (CountOk m.size m.mn m.gr → (0 ≤ m.ep ∧ m.ep ≤ 2147483647) → ∀ W, Below w.heap.size w W → Calls Tryz.prog 42 #[.agg #[.int .i64 m.ep, .int .i64 m.size, .int .i64 m.mn, .int .i64 m.gr, .slice s.aN s.lN s.cN, .slice s.aT s.lT s.cT, .slice s.aR s.lR s.cR]] W fun e w' => BoolPost (TrailsOk m) W e w') := fun hc he W hb => mayTrail_any hc he W (h.below hb)
  rw [map_split]
  have hb1 := below_alloc w (.cells #[.int .i64 m.ep, .int .i64 m.size, .int .i64 m.mn, .int .i64 m.gr, .slice s.aN s.lN s.cN, .slice s.aT s.lT s.cT, .slice s.aR s.lR s.cR] 26)
  have HBX : Hid (Box7 (w.alloc (.cells #[.int .i64 m.ep, .int .i64 m.size, .int .i64 m.mn, .int .i64 m.gr, .slice s.aN s.lN s.cN, .slice s.aT s.lT s.cT, .slice s.aR s.lR s.cR] 26)) w.heap.size (.int .i64 m.ep) (.int .i64 m.size) (.int .i64 m.mn) (.int .i64 m.gr) (.slice s.aN s.lN s.cN) (.slice s.aT s.lT s.cT) (.slice s.aR s.lR s.cR)) := Box7.new w _ _ _ _ _ _ _ _
  clear h
  by_cases h0 : 0 ≤ m.ep ∧ m.ep ≤ 2147483647
  · have HE1 : Hid (∀ w : World, Calls Tryz.prog 39 #[.int .i64 m.ep, .int .i64 0, .int .i64 2147483647] w fun e w' => e = .returned (.bool true) ∧ w' = w) := mwithin_yes h0.1 h0.2
    by_cases h1 : CountOk m.size m.mn m.gr
    · have HC1 : Hid (∀ w : World, Calls Tryz.prog 30 #[.int .i64 m.size, .int .i64 m.mn, .int .i64 m.gr] w fun e w' => e = .returned (.bool true) ∧ w' = w) := fun w => by have := HC.out w; rw [(countB_iff _ _ _).2 h1] at this; exact this
      by_cases h2 : MayN m.nds
      · have HN1 : Hid (∀ W, Below w.heap.size w W → Calls Tryz.prog 40 #[.slice s.aN s.lN s.cN] W fun e w' => e = .returned (.int .i64 0) ∧ Below W.heap.size W w') := fun W hb => (HN.out W hb).mono fun e w' ⟨hb, hh⟩ => by
            rcases hh with ⟨he, hm⟩ | ⟨he, hm⟩
            · exact ⟨he, hb⟩
            · exact absurd h2 hm
        by_cases h3 : TempsTo m m.tms.length
        · have HS1 := show Hid _ from fun W (hb : Below w.heap.size w W) => bool_is (HS.out h1 h2 W hb) h3
          by_cases h4 : TrailsOk m
          · have HT1 := show Hid _ from fun W (hb : Below w.heap.size w W) => bool_is (HT.out h1 h0 W hb) h4
            have HFIN : Hid (MayM m) := ⟨h0, h1, h2, h3, h4⟩
            clear h0 h1 h2 h3 h4 HE HC HN HS HT
            go_enter Tryz.func17, Tryz.ntmps17
            go_wp2_with (first
              | (go_at_call 39; refine (HE1.out _).mono ?_; rintro e w' ⟨rfl, hw'⟩; obtain rfl := hw'.symm)
              | (go_at_call 30; refine (HC1.out _).mono ?_; rintro e w' ⟨rfl, hw'⟩; obtain rfl := hw'.symm)
              | (go_at_call 40; refine (HN1.out _ hb1).mono ?_; rintro e w2 ⟨rfl, hb2⟩; obtain ⟨⟨c0, c1, c2, c3, c4, c5, c6⟩, -⟩ := HBX.out.below hb2)
              | (go_at_call 41; refine (HS1.out _ (below2 hb1 hb2)).mono ?_; rintro e w3 ⟨rfl, hb3⟩; obtain ⟨⟨d0, d1, d2, d3, d4, d5, d6⟩, -⟩ := (HBX.out.below hb2).below hb3)
              | (go_at_call 42; refine (HT1.out _ (below2 hb1 (below2 hb2 hb3))).mono ?_; rintro e w4 ⟨rfl, hb4⟩))
            go_ret
            exact ⟨below2 hb1 (below2 hb2 (below2 hb3 hb4)), .inl ⟨rfl, HFIN.out⟩⟩
          · have HT1 := show Hid _ from fun W (hb : Below w.heap.size w W) => bool_isnt (HT.out h1 h0 W hb) h4
            have HFIN : Hid (¬ MayM m) := fun h => h4 h.trs
            clear h0 h1 h2 h3 h4 HE HC HN HS HT
            go_enter Tryz.func17, Tryz.ntmps17
            go_wp2_with (first
              | (go_at_call 39; refine (HE1.out _).mono ?_; rintro e w' ⟨rfl, hw'⟩; obtain rfl := hw'.symm)
              | (go_at_call 30; refine (HC1.out _).mono ?_; rintro e w' ⟨rfl, hw'⟩; obtain rfl := hw'.symm)
              | (go_at_call 40; refine (HN1.out _ hb1).mono ?_; rintro e w2 ⟨rfl, hb2⟩; obtain ⟨⟨c0, c1, c2, c3, c4, c5, c6⟩, -⟩ := HBX.out.below hb2)
              | (go_at_call 41; refine (HS1.out _ (below2 hb1 hb2)).mono ?_; rintro e w3 ⟨rfl, hb3⟩; obtain ⟨⟨d0, d1, d2, d3, d4, d5, d6⟩, -⟩ := (HBX.out.below hb2).below hb3)
              | (go_at_call 42; refine (HT1.out _ (below2 hb1 (below2 hb2 hb3))).mono ?_; rintro e w4 ⟨rfl, hb4⟩))
            go_ret
            exact ⟨below2 hb1 (below2 hb2 (below2 hb3 hb4)), .inr ⟨rfl, HFIN.out⟩⟩
        · have HS1 := show Hid _ from fun W (hb : Below w.heap.size w W) => bool_isnt (HS.out h1 h2 W hb) h3
          have HFIN : Hid (¬ MayM m) := fun h => h3 h.tms
          clear h0 h1 h2 h3 HE HC HN HS HT
          go_enter Tryz.func17, Tryz.ntmps17
          go_wp2_with (first
            | (go_at_call 39; refine (HE1.out _).mono ?_; rintro e w' ⟨rfl, hw'⟩; obtain rfl := hw'.symm)
            | (go_at_call 30; refine (HC1.out _).mono ?_; rintro e w' ⟨rfl, hw'⟩; obtain rfl := hw'.symm)
            | (go_at_call 40; refine (HN1.out _ hb1).mono ?_; rintro e w2 ⟨rfl, hb2⟩; obtain ⟨⟨c0, c1, c2, c3, c4, c5, c6⟩, -⟩ := HBX.out.below hb2)
            | (go_at_call 41; refine (HS1.out _ (below2 hb1 hb2)).mono ?_; rintro e w3 ⟨rfl, hb3⟩; obtain ⟨⟨d0, d1, d2, d3, d4, d5, d6⟩, -⟩ := (HBX.out.below hb2).below hb3))
          go_ret
          exact ⟨below2 hb1 (below2 hb2 hb3), .inr ⟨rfl, HFIN.out⟩⟩
      · have HN1 : Hid (∀ W, Below w.heap.size w W → Calls Tryz.prog 40 #[.slice s.aN s.lN s.cN] W fun e w' => e = .returned (.int .i64 1) ∧ Below W.heap.size W w') := fun W hb => (HN.out W hb).mono fun e w' ⟨hb, hh⟩ => by
            rcases hh with ⟨he, hm⟩ | ⟨he, hm⟩
            · exact absurd hm h2
            · exact ⟨he, hb⟩
        have HFIN : Hid (¬ MayM m) := fun h => h2 h.nds
        clear h0 h1 h2 HE HC HN HS HT
        go_enter Tryz.func17, Tryz.ntmps17
        go_wp2_with (first
          | (go_at_call 39; refine (HE1.out _).mono ?_; rintro e w' ⟨rfl, hw'⟩; obtain rfl := hw'.symm)
          | (go_at_call 30; refine (HC1.out _).mono ?_; rintro e w' ⟨rfl, hw'⟩; obtain rfl := hw'.symm)
          | (go_at_call 40; refine (HN1.out _ hb1).mono ?_; rintro e w2 ⟨rfl, hb2⟩; obtain ⟨⟨c0, c1, c2, c3, c4, c5, c6⟩, -⟩ := HBX.out.below hb2))
        go_ret
        exact ⟨below2 hb1 hb2, .inr ⟨rfl, HFIN.out⟩⟩
    · have HC1 : Hid (∀ w : World, Calls Tryz.prog 30 #[.int .i64 m.size, .int .i64 m.mn, .int .i64 m.gr] w fun e w' => e = .returned (.bool false) ∧ w' = w) := fun w => by have := HC.out w; rw [countB_no h1] at this; exact this
      have HFIN : Hid (¬ MayM m) := fun h => h1 h.cnt
      clear h0 h1 HE HC HN HS HT
      go_enter Tryz.func17, Tryz.ntmps17
      go_wp2_with (first
        | (go_at_call 39; refine (HE1.out _).mono ?_; rintro e w' ⟨rfl, hw'⟩; obtain rfl := hw'.symm)
        | (go_at_call 30; refine (HC1.out _).mono ?_; rintro e w' ⟨rfl, hw'⟩; obtain rfl := hw'.symm))
      go_ret
      exact ⟨hb1, .inr ⟨rfl, HFIN.out⟩⟩
  · have HE1 : Hid (∀ w : World, Calls Tryz.prog 39 #[.int .i64 m.ep, .int .i64 0, .int .i64 2147483647] w fun e w' => e = .returned (.bool false) ∧ w' = w) := mwithin_no h0
    have HFIN : Hid (¬ MayM m) := fun h => h0 h.ep
    clear h0 HE HC HN HS HT
    go_enter Tryz.func17, Tryz.ntmps17
    go_wp2_with (first
      | (go_at_call 39; refine (HE1.out _).mono ?_; rintro e w' ⟨rfl, hw'⟩; obtain rfl := hw'.symm))
    go_ret
    exact ⟨hb1, .inr ⟨rfl, HFIN.out⟩⟩
end Go.Proofs.YtcncbjknfcjnmaaGreat.Tp
namespace Go.Proofs.YtcncbjknfcjnmaaGreat.Tp
open Go.ChangeShapes Go.WideShapes Go.ChangeAt Go.RowKit
theorem grown_of_below {w W : World} (h : Below w.heap.size w W) {q : Nat} (hd : W.drawn = w.drawn + q) : Grown w W := by
  refine ⟨q, W.heap.extract w.heap.size W.heap.size, ?_⟩
  have hh : W.heap = w.heap ++ W.heap.extract w.heap.size W.heap.size := by
    apply Array.ext_getElem?
    intro i
    by_cases hi : i < w.heap.size
    · rw [Array.getElem?_append_left hi]
      exact h.block i hi
    · rw [Array.getElem?_append_right (by omega), Array.getElem?_extract]
      have := h.size
      by_cases hw : i < W.heap.size
      · rw [if_pos (by omega)]
        congr 1
        omega
      · rw [if_neg (by omega), Array.getElem?_eq_none (by omega)]
  cases W with
  | mk heap tape drawn os output =>
    cases w with
    | mk heap' tape' drawn' os' output' =>
      obtain ⟨h1, h2, h3, -, -⟩ := h
      simp only at h1 h2 h3 hd hh
      subst h1 h2 h3 hd
      unfold Go.Sort.grow World.drewN
      simp only [World.mk.injEq, and_true]
      exact hh
theorem grown_drawn {w W : World} (h : Grown w W) : ∃ q, W.drawn = w.drawn + q := by
  obtain ⟨q, os, rfl⟩ := h
  exact ⟨q, rfl⟩
theorem drawn_set (w : World) (a : Addr) (v : Value) : (w.setCell a v).drawn = w.drawn := rfl
theorem grown_set6 {w W : World} (h : Grown w W) {b : Nat} (hb : w.heap.size ≤ b) (v0 v1 v2 v3 v4 v5 : Value) : Grown w (set6 W b v0 v1 v2 v3 v4 v5) := by
  obtain ⟨q, hq⟩ := grown_drawn h
  refine grown_of_below (set6_below (grown_below h) hb v0 v1 v2 v3 v4 v5) (q := q) ?_
  unfold set6
  rw [drawn_set, drawn_set, drawn_set, drawn_set, drawn_set, drawn_set]
  exact hq
set_option maxHeartbeats 2000000 in
set_option maxRecDepth 60000 in
theorem refFind_g (a : Option Addr) (len cap : Nat) (ls : List Nd) (id : Int) (w : World) (h : NdsAt w a len cap ls) :
    Calls Tryz.prog 57 #[.slice a len cap, .int .i64 id] w fun e w' => e = .returned (.tuple #[.agg (ndCells ((findN ls id).getD nd0)).toArray, .bool (findN ls id).isSome]) ∧ Grown w w' := by
  have hl : ls.length = len := h.1
  have hm : len ≤ maxLen := Nat.le_trans h.2.1 h.2.2.1
  unfold maxLen at hm
  have hbw1 : Below w.heap.size w (w.alloc (.cells #[.int .i64 0, .int .i64 0, .int .i64 0, .int .i64 0, .bool false, .bool false] 72)) := below_alloc _ _
  have hgw1 := grown_alloc w (.cells #[.int .i64 0, .int .i64 0, .int .i64 0, .int .i64 0, .bool false, .bool false] 72)
  have hs1 : w.heap.size < (w.alloc (.cells #[.int .i64 0, .int .i64 0, .int .i64 0, .int .i64 0, .bool false, .bool false] 72)).heap.size := by simp
  have HS1 : Hid (Six (w.alloc (.cells #[.int .i64 0, .int .i64 0, .int .i64 0, .int .i64 0, .bool false, .bool false] 72)) w.heap.size (.int .i64 0) (.int .i64 0) (.int .i64 0) (.int .i64 0) (.bool false) (.bool false)) := by unfold Hid Six; simp
  have q0 : (w.alloc (.cells #[.int .i64 0, .int .i64 0, .int .i64 0, .int .i64 0, .bool false, .bool false] 72)).frozen? ⟨w.heap.size, 0, none⟩ = false := by simp
  have q1 : (w.alloc (.cells #[.int .i64 0, .int .i64 0, .int .i64 0, .int .i64 0, .bool false, .bool false] 72)).frozen? ⟨w.heap.size, 1, none⟩ = false := by simp
  have q2 : (w.alloc (.cells #[.int .i64 0, .int .i64 0, .int .i64 0, .int .i64 0, .bool false, .bool false] 72)).frozen? ⟨w.heap.size, 2, none⟩ = false := by simp
  have q3 : (w.alloc (.cells #[.int .i64 0, .int .i64 0, .int .i64 0, .int .i64 0, .bool false, .bool false] 72)).frozen? ⟨w.heap.size, 3, none⟩ = false := by simp
  have q4 : (w.alloc (.cells #[.int .i64 0, .int .i64 0, .int .i64 0, .int .i64 0, .bool false, .bool false] 72)).frozen? ⟨w.heap.size, 4, none⟩ = false := by simp
  have q5 : (w.alloc (.cells #[.int .i64 0, .int .i64 0, .int .i64 0, .int .i64 0, .bool false, .bool false] 72)).frozen? ⟨w.heap.size, 5, none⟩ = false := by simp
  have HL : Hid (NdsAt (w.alloc (.cells #[.int .i64 0, .int .i64 0, .int .i64 0, .int .i64 0, .bool false, .bool false] 72)) a len cap ls) := h.below hbw1
  clear h
  go_enter Tryz.func57, Tryz.ntmps57
  go_wp2_with fail
  generalize w.alloc (.cells #[.int .i64 0, .int .i64 0, .int .i64 0, .int .i64 0, .bool false, .bool false] 72) = w1 at *
  have HX : Hid (∀ wr, Below w1.heap.size w1 wr → Six wr w.heap.size (.int .i64 0) (.int .i64 0) (.int .i64 0) (.int .i64 0) (.bool false) (.bool false)) := fun wr hb => HS1.out.below hb
  have HFR : Hid (∀ wr, Below w1.heap.size w1 wr → wr.frozen? ⟨w.heap.size, 0, none⟩ = false ∧ wr.frozen? ⟨w.heap.size, 1, none⟩ = false ∧ wr.frozen? ⟨w.heap.size, 2, none⟩ = false ∧ wr.frozen? ⟨w.heap.size, 3, none⟩ = false ∧ wr.frozen? ⟨w.heap.size, 4, none⟩ = false ∧ wr.frozen? ⟨w.heap.size, 5, none⟩ = false) := fun wr hb => ⟨(hb.frozen (p := ⟨w.heap.size, 0, none⟩) hs1).trans q0, (hb.frozen (p := ⟨w.heap.size, 1, none⟩) hs1).trans q1, (hb.frozen (p := ⟨w.heap.size, 2, none⟩) hs1).trans q2, (hb.frozen (p := ⟨w.heap.size, 3, none⟩) hs1).trans q3, (hb.frozen (p := ⟨w.heap.size, 4, none⟩) hs1).trans q4, (hb.frozen (p := ⟨w.heap.size, 5, none⟩) hs1).trans q5⟩
  clear q0 q1 q2 q3 q4 q5 HS1
  go_loopw [6] (fun i wr => ∃ k : Nat, k ≤ len ∧ i = .int .i64 k ∧ Hid (∀ j, j < k → (ls.getD j nd0).id ≠ id) ∧ Grown w1 wr) (fun i _ => len - (intOf i).toNat)
  case atStart => exact ⟨0, Nat.zero_le _, rfl, (fun j hj => absurd hj (Nat.not_lt_zero _)), grown_refl _⟩
  case round =>
    obtain ⟨k, hk, rfl, hT, hgr⟩ := hrel
    have hbel := grown_below hgr
    have HSX : Hid (Six wr w.heap.size (.int .i64 0) (.int .i64 0) (.int .i64 0) (.int .i64 0) (.bool false) (.bool false)) := HX.out wr hbel
    obtain ⟨s0, s1, s2, s3, s4, s5⟩ := HX.out wr hbel
    obtain ⟨f0, f1, f2, f3, f4, f5⟩ := HFR.out wr hbel
    have hbw : Below w.heap.size w wr := below2 hbw1 hbel
    have hsz : w.heap.size < wr.heap.size := Nat.lt_of_lt_of_le hs1 hbel.size
    by_cases hlt : k < len
    · obtain ⟨b, off, rfl, hbs, hcell⟩ := (HL.out.below hbel).some (by omega)
      obtain ⟨e0, e1, e2, e3, e4, e5⟩ := hcell k hlt
      have hk1 : (k : Int) < (len : Int) := by omega
      have hk0 : (0 : Int) ≤ (k : Int) := by omega
      clear hcell
      have HNO : Hid ((ls.getD k nd0).id ≠ id → ∀ j, j < k + 1 → (ls.getD j nd0).id ≠ id) := fun h j hj => by
        rcases Nat.lt_succ_iff_lt_or_eq.1 hj with h' | rfl
        · exact hT.out j h'
        · exact h
      have HYES : Hid ((ls.getD k nd0).id = id → findN ls id = some (ls.getD k nd0)) := fun h => find_some (by omega) h hT.out
      generalize ls.getD k nd0 = x at *
      obtain ⟨c1, c2, c3, c4, c5, c6⟩ := x
      simp only at e0 e1 e2 e3 e4 e5
      clear hT
      have HGA : Hid (Grown w1 wr) := hgr
      have HGF : Hid (Grown w (set6 wr w.heap.size (.int .i64 c1) (.int .i64 c2) (.int .i64 c3) (.int .i64 c4) (.bool c5) (.bool c6))) := grown_set6 (grown2 hgw1 HGA.out) (Nat.le_refl _) _ _ _ _ _ _
      by_cases hid : c1 = id
      · have HP : Hid (findN ls id = some ⟨c1, c2, c3, c4, c5, c6⟩) := HYES.out hid
        obtain rfl := hid.symm
        clear HNO HYES hid
        go_wp2_with fail
        refine bodyPost_ret (ret_node rfl _ _ w.heap.size _ _ _ _ _ _ rfl (HSX.out.set _ _ _ _ _ _)) rfl ?_
        exact ⟨by rw [HP.out]; rfl, HGF.out⟩
      · have HY : Hid (∀ j, j < k + 1 → (ls.getD j nd0).id ≠ id) := HNO.out hid
        have hd : (c1 == id) = false := by simpa using hid
        clear HNO HYES
        go_wp2_with fail
        exact ⟨⟨k + 1, by omega, by go_num, HY, HGA.out⟩, by simp [intOf]; omega⟩
    · obtain rfl : k = len := by omega
      have HGF : Hid (Grown w (set6 wr w.heap.size (.int .i64 0) (.int .i64 0) (.int .i64 0) (.int .i64 0) (.bool false) (.bool false))) := grown_set6 (grown2 hgw1 hgr) (Nat.le_refl _) _ _ _ _ _ _
      have HP : Hid (findN ls id = none) := find_none fun j hj => hT.out j (by omega)
      clear hT
      go_wp2_with fail
      refine bodyPost_ret (ret_node rfl _ _ w.heap.size _ _ _ _ _ _ rfl (HSX.out.set _ _ _ _ _ _)) rfl ?_
      exact ⟨by rw [HP.out]; rfl, HGF.out⟩
end Go.Proofs.YtcncbjknfcjnmaaGreat.Tp
namespace Go.Proofs.YtcncbjknfcjnmaaGreat.Tp
open Go.ChangeShapes Go.WideShapes Go.ChangeAt Go.RowKit
set_option maxHeartbeats 2000000 in
set_option maxRecDepth 60000 in
theorem refApart_g (a : Option Addr) (len cap : Nat) (ls : List Nd) (b : Option Addr) (n c : Nat) (ids : List Int) (q : Bool) (hq : q = true ↔ ApartP ls ids) (w : World) (hL : NdsAt w a len cap ls) (hI : RowI w b n c ids) :
    Calls Tryz.prog 34 #[.slice a len cap, .slice b n c] w fun e w' => e = .returned (.bool q) ∧ Grown w w' := by
  have hn : ids.length = n := hI.1
  have hmx : n ≤ maxLen := Nat.le_trans hI.2.1 hI.2.2.1
  unfold maxLen at hmx
  have HI : Hid (RowI w b n c ids) := hI
  have HNL : Hid (ids.length = n) := hn
  have HFD : Hid (∀ W id, Grown w W → Calls Tryz.prog 57 #[.slice a len cap, .int .i64 id] W fun e w' => e = .returned (.tuple #[.agg (ndCells ((findN ls id).getD nd0)).toArray, .bool (findN ls id).isSome]) ∧ Grown W w') := fun W id hg => refFind_g a len cap ls id W (hL.below (grown_below hg))
  have HQN : Hid (¬ ApartP ls ids → q = false) := fun h => by
    cases q with
    | false => rfl
    | true => exact absurd (hq.1 rfl) h
  have HQY : Hid (ApartTo ls ids n → q = true) := fun h => hq.2 (by unfold ApartP; rw [hn]; exact h)
  clear hL hI hn hq
  go_enter Tryz.func34, Tryz.ntmps34
  go_wp2_with fail
  go_loopw [5] (fun i wr => ∃ k : Nat, k ≤ n ∧ i = .int .i64 k ∧ Hid (ApartTo ls ids k) ∧ Grown w wr) (fun i _ => n - (intOf i).toNat)
  case atStart => exact ⟨0, Nat.zero_le _, rfl, ⟨fun i hi => absurd hi (Nat.not_lt_zero _), fun i j _ hi => absurd hi (Nat.not_lt_zero _)⟩, grown_refl _⟩
  case round =>
    obtain ⟨k, hk, rfl, hA, hgr⟩ := hrel
    by_cases hlt : k < n
    · have hk1 : (k : Int) < (n : Int) := by omega
      have hk0 : (0 : Int) ≤ (k : Int) := by omega
      obtain ⟨p, po, rfl, hp, hcp⟩ := (HI.out.below (grown_below hgr)).some (by omega)
      have x0 := hcp k hlt
      have HF1 := HFD.out wr (ids.getD k 0) hgr
      have HNN : Hid (findN ls (ids.getD k 0) = none → ¬ ApartP ls ids) := fun h => apart_none (by have := HNL.out; omega) h
      have HTW : Hid (∀ j, j < k → zoneN ls (ids.getD k 0) = zoneN ls (ids.getD j 0) → ¬ ApartP ls ids) := fun j hj h => apart_twice (by have := HNL.out; omega) hj h
      have HNX : Hid ((findN ls (ids.getD k 0)).isSome = true → (∀ j, j < k → zoneN ls (ids.getD k 0) ≠ zoneN ls (ids.getD j 0)) → ApartTo ls ids (k + 1)) := fun h1 h2 => apart_next hA.out h1 h2
      have HZK : Hid (∀ x, findN ls (ids.getD k 0) = some x → zoneN ls (ids.getD k 0) = x.zone) := fun x h => by unfold zoneN; rw [h]; rfl
      clear hcp
      generalize zoneN ls (ids.getD k 0) = zk at *
      generalize ids.getD k 0 = id at *
      cases hf : findN ls id with
      | none =>
        rw [hf] at HF1
        have HF2 : Hid (Calls Tryz.prog 57 #[.slice a len cap, .int .i64 id] wr fun e w' => e = .returned (.tuple #[.agg #[.int .i64 0, .int .i64 0, .int .i64 0, .int .i64 0, .bool false, .bool false], .bool false]) ∧ Grown wr w') := HF1
        obtain rfl := HQN.out (HNN.out hf)
        clear HF1 HNN HTW HNX HZK hf HQN HQY
        go_wp2_with (go_at_call 57; refine HF2.out.mono ?_; rintro e w2 ⟨rfl, hg2⟩)
        go_ret
        exact ⟨rfl, grown2 hgr (grown2 hg2 (grown_alloc _ _))⟩
      | some x =>
        rw [hf] at HF1
        have hzk := HZK.out x hf
        have HNX2 : Hid ((∀ j, j < k → zk ≠ zoneN ls (ids.getD j 0)) → ApartTo ls ids (k + 1)) := fun h => HNX.out (by rw [hf]; rfl) h
        obtain ⟨c1, c2, c3, c4, c5, c6⟩ := x
        simp only at hzk
        subst hzk
        have HF2 : Hid (Calls Tryz.prog 57 #[.slice a len cap, .int .i64 id] wr fun e w' => e = .returned (.tuple #[.agg #[.int .i64 c1, .int .i64 zk, .int .i64 c3, .int .i64 c4, .bool c5, .bool c6], .bool true]) ∧ Grown wr w') := HF1
        clear HF1 HNN HNX HZK hf
        go_wp2_with (go_at_call 57; refine HF2.out.mono ?_; rintro e w2 ⟨rfl, hg2⟩)
        have hz1 : (w2.alloc (.cells #[.int .i64 c1, .int .i64 zk, .int .i64 c3, .int .i64 c4, .bool c5, .bool c6] 72)).cell? ⟨w2.heap.size, 1, none⟩ = some (.int .i64 zk) := by simp
        have hlz : w2.heap.size < (w2.alloc (.cells #[.int .i64 c1, .int .i64 zk, .int .i64 c3, .int .i64 c4, .bool c5, .bool c6] 72)).heap.size := by simp
        have hg3 : Grown w (w2.alloc (.cells #[.int .i64 c1, .int .i64 zk, .int .i64 c3, .int .i64 c4, .bool c5, .bool c6] 72)) := grown2 hgr (grown2 hg2 (grown_alloc _ _))
        generalize hw3 : w2.alloc (.cells #[.int .i64 c1, .int .i64 zk, .int .i64 c3, .int .i64 c4, .bool c5, .bool c6] 72) = w3 at *
        clear hw3 hg2
        go_loopw [8] (fun i wq => ∃ j : Nat, j ≤ k ∧ i = .int .i64 j ∧ Hid (∀ t, t < j → zk ≠ zoneN ls (ids.getD t 0)) ∧ Grown w3 wq) (fun i _ => k - (intOf i).toNat)
        case atStart => exact ⟨0, Nat.zero_le _, rfl, (fun t ht => absurd ht (Nat.not_lt_zero _)), grown_refl _⟩
        case round =>
          obtain ⟨j, hj, rfl, hU, hgq⟩ := hrel
          have z1 := ((grown_below hgq).cell (p := ⟨w2.heap.size, 1, none⟩) hlz).trans hz1
          have hlz2 : w2.heap.size < wr.heap.size := Nat.lt_of_lt_of_le hlz (grown_below hgq).size
          by_cases hjk : j < k
          · have hj1 : (j : Int) < (k : Int) := by omega
            have hjn : (j : Int) < (n : Int) := by omega
            have hj0 : (0 : Int) ≤ (j : Int) := by omega
            obtain ⟨p', po', hpe, hp', hcp'⟩ := (HI.out.below (grown_below (grown2 hg3 hgq))).some (by omega)
            injection hpe with hpe
            injection hpe with hpe1 hpe2
            subst hpe1 hpe2
            have x1 := hcp' j (by omega)
            have HF3 := HFD.out wr (ids.getD j 0) (grown2 hg3 hgq)
            have hsome := hA.out.1 j hjk
            have HZJ : Hid (∀ x, findN ls (ids.getD j 0) = some x → zoneN ls (ids.getD j 0) = x.zone) := fun x h => by unfold zoneN; rw [h]; rfl
            have HTJ := HTW.out j hjk
            have HUX : Hid (zk ≠ zoneN ls (ids.getD j 0) → ∀ t, t < j + 1 → zk ≠ zoneN ls (ids.getD t 0)) := fun h t ht => by
              by_cases e : t = j
              · rw [e]; exact h
              · exact hU.out t (by omega)
            clear hcp' hU
            generalize zoneN ls (ids.getD j 0) = zj at *
            generalize ids.getD j 0 = id' at *
            obtain ⟨y, hy⟩ := Option.isSome_iff_exists.1 hsome
            rw [hy] at HF3
            have hzj := HZJ.out y hy
            obtain ⟨d1, d2, d3, d4, d5, d6⟩ := y
            simp only at hzj
            subst hzj
            have HF4 : Hid (Calls Tryz.prog 57 #[.slice a len cap, .int .i64 id'] wr fun e w' => e = .returned (.tuple #[.agg #[.int .i64 d1, .int .i64 zj, .int .i64 d3, .int .i64 d4, .bool d5, .bool d6], .bool true]) ∧ Grown wr w') := HF3
            clear HF3 hsome hy HZJ
            by_cases hzz : zk = zj
            · obtain rfl := HQN.out (HTJ hzz)
              subst hzz
              clear HTJ HUX HTW HNX2 HQN HQY
              go_wp2_with (go_at_call 57; refine HF4.out.mono ?_; rintro e w5 ⟨rfl, hg5⟩; have z2 := ((grown_below hg5).cell (p := ⟨w2.heap.size, 1, none⟩) hlz2).trans z1; have hlz3 : w2.heap.size < w5.heap.size := Nat.lt_of_lt_of_le hlz2 (grown_below hg5).size)
              go_ret
              exact ⟨rfl, grown2 hg3 (grown2 hgq (grown2 hg5 (grown_alloc _ _)))⟩
            · have HU2 : Hid (∀ t, t < j + 1 → zk ≠ zoneN ls (ids.getD t 0)) := HUX.out hzz
              have hzd : (zk == zj) = false := by simpa using hzz
              clear HTJ HUX
              go_wp2_with (go_at_call 57; refine HF4.out.mono ?_; rintro e w5 ⟨rfl, hg5⟩; have z2 := ((grown_below hg5).cell (p := ⟨w2.heap.size, 1, none⟩) hlz2).trans z1; have hlz3 : w2.heap.size < w5.heap.size := Nat.lt_of_lt_of_le hlz2 (grown_below hg5).size)
              exact ⟨⟨j + 1, by omega, by go_num, HU2, grown2 hgq (grown2 hg5 (grown_alloc _ _))⟩, by simp [intOf]; omega⟩
          · obtain rfl : j = k := by omega
            have HA2 : Hid (ApartTo ls ids (j + 1)) := HNX2.out hU.out
            clear hU
            go_wp2_with fail
            exact ⟨⟨j + 1, by omega, by go_num, HA2, grown2 hg3 hgq⟩, by simp [intOf]; omega⟩
    · obtain rfl : k = n := by omega
      obtain rfl := HQY.out hA.out
      clear hA
      go_wp2_with fail
      go_ret
      exact ⟨rfl, hgr⟩
end Go.Proofs.YtcncbjknfcjnmaaGreat.Tp
