/-
  The theorem of zones, plainly; the contract of the answer's Apart.
-/
import Derived.Test.YtmifdjkaclgibaaGreatPe
import Derived.Test.YtmifdjkaclgibaaGreatTpF
namespace Go.Proofs.YtmifdjkaclgibaaGreat.Tp
open Go.ChangeShapes Go.WideShapes Go.ChangeAt Go.RowKit
theorem find_of' {ls : List Nd} (hM : MayN ls) {n : Nd} (h : n ∈ ls) : findN ls n.id = some n := by
  unfold findN
  cases e : ls.find? (fun x => x.id == n.id) with
  | none =>
    have := List.find?_eq_none.1 e n h
    simp at this
  | some m =>
    have h1 := List.find?_some e
    have h2 := List.mem_of_find?_eq_some e
    rw [id_inj hM h2 h (by simpa using h1)]
/-- the zones that are told, one by one, no two alike -/
def ZonesIs (ls : List Nd) (o Z : List Int) : Prop := Z.length = o.length ∧ (∀ i j, i < j → j < Z.length → Z.getD j 0 ≠ Z.getD i 0) ∧ ∀ i, i < o.length → ∃ x, findN ls (o.getD i 0) = some x ∧ x.zone = Z.getD i 0 ∧ x.inn = true ∧ 0 < x.weight
theorem zones_plain {ls : List Nd} (hM : MayN ls) (g : Int) (n : Nat) : (∃ Z, ZonesIs ls (ofP ls g n) Z) ∧ (ofP ls g n).length = min n (Dr.heavy (zonesOf ls)).length := by
  rw [of_eq hM]
  refine ⟨⟨zsOf ls g n, by simp, fun i j hij hj => ?_, fun i hi => ?_⟩, ?_⟩
  · have := List.pairwise_iff_getElem.1 (zs_nodup hM g n) i j (by omega) hj hij
    rw [show (zsOf ls g n).getD j 0 = (zsOf ls g n)[j] by simp [hj], show (zsOf ls g n).getD i 0 = (zsOf ls g n)[i] by simp [show i < (zsOf ls g n).length by omega]]
    exact fun e => this e.symm
  · rw [List.length_map] at hi
    have hmem : (zsOf ls g n).getD i 0 ∈ zsOf ls g n := by
      rw [show (zsOf ls g n).getD i 0 = (zsOf ls g n)[i] by simp [hi]]
      exact List.getElem_mem hi
    obtain ⟨x, x1, x2, x3, x4, x5⟩ := pk_one hM g (zs_mem hM hmem)
    have e : ((zsOf ls g n).map (pk ls g)).getD i 0 = pk ls g ((zsOf ls g n).getD i 0) := by simp [hi]
    rw [e, x5]
    exact ⟨x, find_of' hM x1, x2, x3, x4⟩
  · have hMC : Dr.MayC (zonesOf ls) := sumF_may hM
    have hp : (ordF (keyOf g 1 0 0) (zonesOf ls)).Perm ((Dr.heavy (zonesOf ls)).map (·.1)) := ord_perm _ hMC
    have := hp.length_eq
    rw [List.length_map] at this
    unfold zsOf
    rw [List.length_map, List.length_take, this]
theorem ofIs_det {ls : List Nd} {g size : Int} {o o' : List Int} (h : OfIs ls g size o) (h' : OfIs ls g size o') : o = o' := by
  rcases h with ⟨h1, e⟩ | ⟨h1, e⟩
  · rcases h' with ⟨_, e'⟩ | ⟨h2, _⟩
    · rw [e, e']
    · exact absurd h1 h2
  · rcases h' with ⟨h2, _⟩ | ⟨_, e'⟩
    · exact absurd h2 h1
    · rw [e, e']
theorem ofIs_len {ls : List Nd} {g size : Int} {o : List Int} (h : OfIs ls g size o) : o.length ≤ 3 := by
  rcases h with ⟨h1, e⟩ | ⟨_, e⟩
  · rw [e]
    have := of_len h1.1.1 g size.toNat
    have := h1.2
    omega
  · rw [e]; exact Nat.zero_le _
theorem ofIs_none {ls : List Nd} {g size : Int} {o : List Int} (h : OfIs ls g size o) (hn : ¬ (GoodR ls g ∧ 1 ≤ size ∧ size ≤ 3)) : o = [] := by
  rcases h with ⟨h1, _⟩ | ⟨_, e⟩
  · exact absurd h1 hn
  · exact e
theorem ofIs_some {ls : List Nd} {g : Int} {n : Nat} {o : List Int} (h : OfIs ls g (n : Int) o) (hn : GoodR ls g ∧ 1 ≤ (n : Int) ∧ (n : Int) ≤ 3) : o = ofP ls g n := by
  rcases h with ⟨_, e⟩ | ⟨h1, _⟩
  · exact e
  · exact absurd hn h1
/-- the one node that the law asks first -/
def one1 : List Nd := [⟨1, 1, 1, 1, false, true⟩]
theorem one1_may : MayN one1 := by
  refine ⟨by decide, fun i hi => ?_⟩
  have : i = 0 := by simp [one1] at hi; omega
  subst this
  refine ⟨?_, fun h => absurd h (by decide)⟩
  unfold InN
  decide
theorem one1_zones : zonesOf one1 = [(1, 1)] := by decide +kernel
theorem one1_len {g size : Int} {o : List Int} (h : OfIs one1 g size o) : ((0 ≤ g ∧ g ≤ 7) ∧ 1 ≤ size ∧ size ≤ 3 → o.length = 1) ∧ (¬ ((0 ≤ g ∧ g ≤ 7) ∧ 1 ≤ size ∧ size ≤ 3) → o.length = 0) := by
  refine ⟨fun hr => ?_, fun hr => ?_⟩
  · rcases h with ⟨_, e⟩ | ⟨h1, _⟩
    · rw [e, (zones_plain one1_may g size.toNat).2, one1_zones, show (Dr.heavy [((1 : Int), (1 : Int))]).length = 1 by decide]
      omega
    · exact absurd ⟨⟨one1_may, hr.1⟩, hr.2⟩ h1
  · rw [ofIs_none h (fun h1 => hr ⟨h1.1.2, h1.2⟩)]
    rfl
theorem one1_at (w : World) : NdsAt (w.alloc (.cells #[.int .i64 1, .int .i64 1, .int .i64 1, .int .i64 1, .bool false, .bool true] 28)) (some ⟨w.heap.size, 0, none⟩) 1 1 one1 := by
  refine ⟨rfl, Nat.le_refl _, by unfold maxLen; omega, .inr ⟨w.heap.size, 0, rfl, fun i hi => ?_⟩⟩
  have h : i = 0 := by omega
  subst h
  exact ⟨by simp [one1], by simp [one1], by simp [one1], by simp [one1], by simp [one1], by simp [one1]⟩
/-- how many of the first i weigh something -/
def cntZ (Z : List Ch) (i : Nat) : Nat := (Dr.heavy (Z.take i)).length
theorem cnt_yes {Z : List Ch} {i : Nat} (h : i < Z.length) (hw : 0 < (Z.getD i ch0).2) : cntZ Z (i + 1) = cntZ Z i + 1 := by
  unfold cntZ
  have e := Dr.heavy_take (ls := Z) (k := i) h
  have hw' : 0 < (Z.getD i Dr.ch0).2 := hw
  rw [e, if_pos hw', List.length_append]
  rfl
theorem cnt_no {Z : List Ch} {i : Nat} (h : i < Z.length) (hw : ¬ 0 < (Z.getD i ch0).2) : cntZ Z (i + 1) = cntZ Z i := by
  unfold cntZ
  have e := Dr.heavy_take (ls := Z) (k := i) h
  have hw' : ¬ 0 < (Z.getD i Dr.ch0).2 := hw
  rw [e, if_neg hw', List.append_nil]
theorem cnt_le (Z : List Ch) (i : Nat) : cntZ Z i ≤ (Dr.heavy Z).length := by
  unfold cntZ Dr.heavy
  exact ((List.take_sublist i Z).filter _).length_le
theorem cnt_all (Z : List Ch) : cntZ Z Z.length = (Dr.heavy Z).length := by
  unfold cntZ
  rw [List.take_length]
set_option maxHeartbeats 4000000 in
set_option maxRecDepth 60000 in
theorem refApart_yes (a : Option Addr) (len cap : Nat) (ls : List Nd) (ao : Option Addr) (co : Nat) (o Z : List Int) (w : World) (h : NdsAt w a len cap ls) (hI : IntsAt w ao o) (h3 : o.length ≤ 3) (hZ : ZonesIs ls o Z) : Calls Tryz.prog 11 #[.slice a len cap, .slice ao o.length co] w fun e w' => TruePost w e w' := by
  have HL : Hid (NdsAt w a len cap ls) := h
  have HI : Hid (IntsAt w ao o) := hI
  have HZ : Hid (ZonesIs ls o Z) := hZ
  have hoI : (o.length : Int) ≤ 3 := by omega
  clear h hI hZ h3
  generalize hn : o.length = n at *
  have HN : Hid (o.length = n) := hn
  clear hn
  go_enter Tryz.func11, Tryz.ntmps11
  go_wp2_with fail
  go_loopw [5] (fun i wr => ∃ k : Nat, k ≤ n ∧ i = .int .i64 k ∧ Below w.heap.size w wr) (fun i _ => n - (intOf i).toNat)
  case atStart => exact ⟨0, Nat.zero_le _, rfl, Below.refl _ _⟩
  case round =>
    obtain ⟨k, hk, rfl, hbel⟩ := hrel
    by_cases hlt : k < n
    · have hk1 : (k : Int) < (n : Int) := by omega
      have hk0 : (0 : Int) ≤ (k : Int) := by omega
      rcases HI.out.below hbel with h0 | ⟨p, rfl, hp, hci⟩
      · have := HN.out; rw [h0] at this; simp at this; omega
      have c0 := hci k (by have := HN.out; omega)
      obtain ⟨x, hf, hxz, -, -⟩ := HZ.out.2.2 k (by have := HN.out; omega)
      have HFD : Hid (Calls Tryz.prog 10 #[.slice a len cap, .int .i64 (o.getD k 0)] wr fun e w' => e = .returned (.tuple #[.agg (ndCells x).toArray, .bool true]) ∧ Below wr.heap.size wr w') := (refFind_any _ len cap ls _ wr (HL.out.below hbel)).mono fun _ _ ⟨hb, he⟩ => ⟨by rw [he, hf]; rfl, hb⟩
      have HXZ : Hid (x.zone = Z.getD k 0) := hxz
      clear hf hxz hci
      obtain ⟨n1, n2, n3, n4, n5, n6⟩ := x
      have HFD' : Hid (Calls Tryz.prog 10 #[.slice a len cap, .int .i64 (o.getD k 0)] wr fun e w' => e = .returned (.tuple #[.agg #[.int .i64 n1, .int .i64 n2, .int .i64 n3, .int .i64 n4, .bool n5, .bool n6], .bool true]) ∧ Below wr.heap.size wr w') := HFD.out
      clear HFD
      generalize o.getD k 0 = ik at *
      go_wp2_with fail
      refine HFD'.out.mono ?_
      rintro e w11 ⟨rfl, hb11⟩
      have hbB : Below wr.heap.size wr (w11.alloc (.cells #[.int .i64 n1, .int .i64 n2, .int .i64 n3, .int .i64 n4, .bool n5, .bool n6] 28)) := below2 hb11 (below_alloc _ _)
      have HCZ : Hid ((w11.alloc (.cells #[.int .i64 n1, .int .i64 n2, .int .i64 n3, .int .i64 n4, .bool n5, .bool n6] 28)).cell? ⟨w11.heap.size, 1, none⟩ = some (.int .i64 n2)) := by unfold Hid; simp
      have hsB : w11.heap.size < (w11.alloc (.cells #[.int .i64 n1, .int .i64 n2, .int .i64 n3, .int .i64 n4, .bool n5, .bool n6] 28)).heap.size := by simp
      have hbwB : Below w.heap.size w (w11.alloc (.cells #[.int .i64 n1, .int .i64 n2, .int .i64 n3, .int .i64 n4, .bool n5, .bool n6] 28)) := below2 hbel hbB
      clear HFD' hb11 hbB c0
      go_wp2_with fail
      generalize w11.alloc (.cells #[.int .i64 n1, .int .i64 n2, .int .i64 n3, .int .i64 n4, .bool n5, .bool n6] 28) = wB at *
      generalize w11.heap.size = X at *
      go_loopw [8] (fun i wq => ∃ t : Nat, t ≤ k ∧ i = .int .i64 t ∧ Below wB.heap.size wB wq) (fun i _ => k - (intOf i).toNat)
      case atStart => exact ⟨0, Nat.zero_le _, rfl, Below.refl _ _⟩
      case round =>
        obtain ⟨t, ht, rfl, hbq⟩ := hrel
        have hbwq : Below w.heap.size w wr := below2 hbwB hbq
        by_cases hlt2 : t < k
        · have ht1 : (t : Int) < (k : Int) := by omega
          have ht2 : (t : Int) < (n : Int) := by omega
          have ht0 : (0 : Int) ≤ (t : Int) := by omega
          rcases HI.out.below hbwq with h0 | ⟨p', hpe, hp', hci⟩
          · have := HN.out; rw [h0] at this; simp at this; omega
          injection hpe with hpe
          injection hpe with hpe
          subst hpe
          have c0 := hci t (by have := HN.out; omega)
          obtain ⟨y, hf, hyz, -, -⟩ := HZ.out.2.2 t (by have := HN.out; omega)
          have hne := HZ.out.2.1 t k hlt2 (by rw [HZ.out.1, HN.out]; exact hlt)
          rw [← HXZ.out, ← hyz] at hne
          have HFD : Hid (Calls Tryz.prog 10 #[.slice a len cap, .int .i64 (o.getD t 0)] wr fun e w' => e = .returned (.tuple #[.agg (ndCells y).toArray, .bool true]) ∧ Below wr.heap.size wr w') := (refFind_any _ len cap ls _ wr (HL.out.below hbwq)).mono fun _ _ ⟨hb, he⟩ => ⟨by rw [he, hf]; rfl, hb⟩
          clear hf hyz hci
          obtain ⟨m1, m2, m3, m4, m5, m6⟩ := y
          have HFD' : Hid (Calls Tryz.prog 10 #[.slice a len cap, .int .i64 (o.getD t 0)] wr fun e w' => e = .returned (.tuple #[.agg #[.int .i64 m1, .int .i64 m2, .int .i64 m3, .int .i64 m4, .bool m5, .bool m6], .bool true]) ∧ Below wr.heap.size wr w') := HFD.out
          simp only at hne
          have dn : (n2 == m2) = false := by simpa using hne
          clear HFD hne
          generalize o.getD t 0 = it at *
          go_wp2_with fail
          refine HFD'.out.mono ?_
          rintro e w12 ⟨rfl, hb12⟩
          have hbx := below2 hbq hb12
          have cz := (hbx.cell (p := ⟨X, 1, none⟩) hsB).trans HCZ.out
          have hX12 : X < w12.heap.size := Nat.lt_of_lt_of_le hsB hbx.size
          have hbx2 : Below wB.heap.size wB (w12.alloc (.cells #[.int .i64 m1, .int .i64 m2, .int .i64 m3, .int .i64 m4, .bool m5, .bool m6] 28)) := below2 hbx (below_alloc _ _)
          clear HFD' c0
          go_wp2_with fail
          exact ⟨⟨t + 1, by omega, by go_num, hbx2⟩, by simp [intOf]; omega⟩
        · obtain rfl : t = k := by omega
          go_wp2_with fail
          exact ⟨⟨t + 1, by omega, by go_num, hbwq⟩, by simp [intOf]; omega⟩
    · obtain rfl : k = n := by omega
      go_wp2_with fail
      go_ret
      exact ⟨rfl, hbel⟩
end Go.Proofs.YtmifdjkaclgibaaGreat.Tp
