/-
  Few moves, plainly: if one node goes out, what is told ahead of its zone is told still.
-/
import Derived.Test.YtmifdjkaclgibaaPq
import Derived.Test.YtmifdjkaclgibaaTpF
namespace Go.Proofs.Ytmifdjkaclgibaa
open Tp
/-- one choice weighs less, the others as they did -/
def Moved (z w' : Int) (l l' : List Ch) : Prop := l' = l.map (fun c => if c.1 = z then (z, w') else c) ∧ ∀ c ∈ l, c.1 = z → w' ≤ c.2
theorem moved_ids {z w' : Int} {l l' : List Ch} (h : Moved z w' l l') : l'.map (·.1) = l.map (·.1) := by
  rw [h.1, List.map_map]
  apply List.map_congr_left
  intro c _
  show (if c.1 = z then (z, w') else c).1 = c.1
  split
  · rename_i e; exact e.symm
  · rfl
theorem moved_rise {z w' : Int} {l l' : List Ch} (h : Moved z w' l l') (hr : Dr.Rise l) : Dr.Rise l' := by
  have h1 : (l'.map (·.1)).Pairwise (· < ·) := by
    rw [moved_ids h, List.pairwise_map]
    exact hr
  rw [List.pairwise_map] at h1
  exact h1
theorem moved_nn {z w' : Int} {l l' : List Ch} (h : Moved z w' l l') (h0 : 0 ≤ w') (hw : ∀ c ∈ l, 0 ≤ c.2) : ∀ c ∈ l', 0 ≤ c.2 := fun c hc => by
  rw [h.1] at hc
  obtain ⟨d, hd, rfl⟩ := List.mem_map.1 hc
  show 0 ≤ (if d.1 = z then (z, w') else d).2
  split
  · exact h0
  · exact hw d hd
theorem moved_filter {z w' : Int} {l l' : List Ch} (h : Moved z w' l l') (a : Int) : Moved z w' (l.filter fun c => decide (c.1 ≠ a)) (l'.filter fun c => decide (c.1 ≠ a)) := by
  refine ⟨?_, fun c hc => h.2 c (List.mem_filter.1 hc).1⟩
  rw [h.1, List.filter_map]
  congr 1
  apply List.filter_congr
  intro c _
  show decide ((if c.1 = z then (z, w') else c).1 ≠ a) = _
  split
  · rename_i e; rw [e]
  · rfl
theorem moved_best {cost : Int → Int} (hc : ∀ i, 0 ≤ cost i) {z w' : Int} {l l' : List Ch} (h : Moved z w' l l') (hr : Dr.Rise l) (hw : ∀ c ∈ l, 0 ≤ c.2) (h0 : 0 ≤ w') {a : Ch} (ha : Dr.bestC cost l = some a) (hz : a.1 ≠ z) : Dr.bestC cost l' = some a := by
  have hb := Dr.bestC_is cost hr hw
  rw [ha] at hb
  obtain ⟨h1, h2⟩ := (Dr.isBest_heavy cost).1 hb
  refine Dr.bestC_eq cost (moved_rise h hr) (moved_nn h h0 hw) ((Dr.isBest_heavy cost).2 ⟨?_, fun c hc' => ?_⟩)
  · rw [Dr.heavy_mem] at h1 ⊢
    refine ⟨?_, h1.2⟩
    rw [h.1, List.mem_map]
    exact ⟨a, h1.1, if_neg hz⟩
  · obtain ⟨h3, h4⟩ := Dr.heavy_mem.1 hc'
    rw [h.1] at h3
    obtain ⟨d, hd, e⟩ := List.mem_map.1 h3
    by_cases hdz : d.1 = z
    · have e' : (z, w') = c := by simpa [hdz] using e
      subst e'
      have hle := h.2 d hd hdz
      have h5 : d ∈ Dr.heavy l := Dr.heavy_mem.2 ⟨hd, by have : 0 < w' := h4; omega⟩
      rcases h2 d h5 with h6 | h6
      · exact absurd (h6 ▸ hdz) hz
      · right
        have hm : cost a.1 * w' ≤ cost a.1 * d.2 := Int.mul_le_mul_of_nonneg_left hle (hc _)
        unfold Dr.ltC at h6 ⊢
        rw [hdz] at h6
        show cost a.1 * w' < cost z * a.2 ∨ (cost a.1 * w' = cost z * a.2 ∧ a.1 < z)
        rcases h6 with h6 | ⟨h6, h7⟩
        · left; omega
        · rcases Int.lt_or_eq_of_le hm with h8 | h8
          · left; omega
          · right; exact ⟨by omega, h7⟩
    · have e' : d = c := by simpa [hdz] using e
      subst e'
      exact h2 d (Dr.heavy_mem.2 ⟨hd, h4⟩)
theorem sel_moved {cost : Int → Int} (hc : ∀ i, 0 ≤ cost i) {z w' : Int} (h0 : 0 ≤ w') : ∀ (n : Nat) (l l' : List Ch), Moved z w' l l' → Dr.Rise l → (∀ c ∈ l, 0 ≤ c.2) → ∃ t, Dr.selC cost n l' = (Dr.selC cost n l).takeWhile (fun i => decide (i ≠ z)) ++ t := by
  intro n
  induction n with
  | zero => intro l l' _ _ _; exact ⟨[], rfl⟩
  | succ n ih =>
    intro l l' h hr hw
    cases e : Dr.bestC cost l with
    | none =>
      rw [Dr.selC_none cost e]
      exact ⟨_, rfl⟩
    | some a =>
      rw [Dr.selC_some cost e]
      by_cases hz : a.1 = z
      · rw [List.takeWhile_cons_of_neg (by simp [hz])]
        exact ⟨_, rfl⟩
      · rw [List.takeWhile_cons_of_pos (by simp [hz]), Dr.selC_some cost (moved_best hc h hr hw h0 e hz)]
        obtain ⟨t, ht⟩ := ih _ _ (moved_filter h a.1) (Dr.rise_filter hr _) (fun c hc' => hw c (List.mem_filter.1 hc').1)
        exact ⟨t, by rw [ht]; rfl⟩
/-- a node that goes out -/
def outN (x : Nd) : Nd := { x with inn := false }
theorem upTo_same {g : Nd → Int} {A B : List Nd} {x y : Nd} (hx : g x < 1) (hy : g y < 1) : ∀ k, upTo g (A ++ y :: B) k = upTo g (A ++ x :: B) k := by
  intro k
  induction k with
  | zero => rfl
  | succ k ih =>
    have h1 : ∀ u : Nd, g u < 1 → decide (g u = ((k + 1 : Nat) : Int)) = false := fun u hu => decide_eq_false (by omega)
    have e1 : (A ++ y :: B).any (fun x => decide (g x = ((k + 1 : Nat) : Int))) = (A ++ x :: B).any (fun x => decide (g x = ((k + 1 : Nat) : Int))) := by
      rw [List.any_append, List.any_append, List.any_cons, List.any_cons, h1 x hx, h1 y hy]
    have e2 : sumAt g (A ++ y :: B) ((k + 1 : Nat) : Int) = sumAt g (A ++ x :: B) ((k + 1 : Nat) : Int) := by
      unfold sumAt
      rw [List.filter_append, List.filter_append, List.filter_cons_of_neg (by rw [h1 y hy]; simp), List.filter_cons_of_neg (by rw [h1 x hx]; simp)]
    unfold upTo
    rw [e1, e2, ih]
theorem wsum_append (l r : List Nd) : wsum (l ++ r) = wsum l + wsum r := by
  induction l with
  | nil => simp [wsum]
  | cons x l ih => rw [List.cons_append]; simp only [wsum, ih]; omega
theorem zones_moved {A B : List Nd} {x : Nd} (hM : MayN (A ++ x :: B)) (hM' : MayN (A ++ outN x :: B)) : ∃ w', 0 ≤ w' ∧ Moved x.zone w' (zonesOf (A ++ x :: B)) (zonesOf (A ++ outN x :: B)) := by
  refine ⟨sumAt zoneG (A ++ outN x :: B) x.zone, (sumAt_bd hM' _).1, ?_, fun c hc e => ?_⟩
  · have : ∀ k, upTo zoneG (A ++ outN x :: B) k = (upTo zoneG (A ++ x :: B) k).map (fun c => if c.1 = x.zone then (x.zone, sumAt zoneG (A ++ outN x :: B) x.zone) else c) := by
      intro k
      induction k with
      | zero => rfl
      | succ k ih =>
        have e1 : (A ++ outN x :: B).any (fun x => decide (zoneG x = ((k + 1 : Nat) : Int))) = (A ++ x :: B).any (fun x => decide (zoneG x = ((k + 1 : Nat) : Int))) := by
          rw [List.any_append, List.any_append, List.any_cons, List.any_cons]
          rfl
        unfold upTo
        rw [e1, ih]
        split
        · rw [List.map_append]
          congr 1
          rw [List.map_cons, List.map_nil]
          congr 1
          by_cases hz : ((k + 1 : Nat) : Int) = x.zone
          · show (_, _) = if ((k + 1 : Nat) : Int) = x.zone then _ else _
            rw [if_pos hz, hz]
          · show (_, _) = if ((k + 1 : Nat) : Int) = x.zone then _ else _
            rw [if_neg hz]
            have h1 : decide (zoneG x = ((k + 1 : Nat) : Int)) = false := decide_eq_false fun e => hz e.symm
            have h2 : decide (zoneG (outN x) = ((k + 1 : Nat) : Int)) = false := decide_eq_false fun e => hz e.symm
            congr 1
            unfold sumAt
            rw [List.filter_append, List.filter_append, List.filter_cons_of_neg (by rw [h2]; simp), List.filter_cons_of_neg (by rw [h1]; simp)]
        · rfl
    exact this 999
  · obtain ⟨_, _, h2⟩ := (mem_upTo _ _ c 999).1 hc
    rw [h2, e]
    have hx := wtN_bd (may_in hM x (by simp))
    have ho : wtN (outN x) = 0 := by simp [wtN, outN]
    unfold sumAt
    rw [List.filter_append, List.filter_append, List.filter_cons_of_pos (by simp [zoneG, outN]), List.filter_cons_of_pos (by simp [zoneG]), wsum_append, wsum_append]
    simp only [wsum]
    omega
theorem racks_same {A B : List Nd} {x : Nd} {z : Int} (h : z ≠ x.zone) : racksOf (A ++ outN x :: B) z = racksOf (A ++ x :: B) z := by
  have h1 : ¬ x.zone = z := fun e => h e.symm
  refine upTo_same ?_ ?_ 999
  · unfold rackG; rw [if_neg h1]; decide
  · unfold rackG; rw [if_neg (show ¬ (outN x).zone = z from h1)]; decide
theorem leaves_same {A B : List Nd} {x : Nd} {z r : Int} (h : z ≠ x.zone) (h0 : z ≠ 0) : leavesOf (A ++ outN x :: B) z r = leavesOf (A ++ x :: B) z r := by
  have h1 : selN z r x = false := by simp [selN, coversB, h, h0]
  refine upTo_same ?_ ?_ 999
  · unfold leafG; rw [h1]; simp
  · unfold leafG; rw [show selN z r (outN x) = false from h1]; simp
theorem out_get (B : List Nd) (x : Nd) : ∀ (A : List Nd) (i : Nat), (InN ((A ++ x :: B).getD i nd0) → InN ((A ++ outN x :: B).getD i nd0)) ∧ ((A ++ outN x :: B).getD i nd0).id = ((A ++ x :: B).getD i nd0).id := by
  intro A
  induction A with
  | nil =>
    intro i
    cases i with
    | zero => exact ⟨fun h => h, rfl⟩
    | succ i => exact ⟨fun h => h, rfl⟩
  | cons a A ih =>
    intro i
    cases i with
    | zero => exact ⟨fun h => h, rfl⟩
    | succ i => exact ih i
theorem may_out {A B : List Nd} {x : Nd} (hM : MayN (A ++ x :: B)) : MayN (A ++ outN x :: B) := by
  have hl : (A ++ outN x :: B).length = (A ++ x :: B).length := by simp
  refine ⟨by rw [hl]; exact hM.1, fun i hi => ?_⟩
  have h1 := hM.2 i (by rw [hl] at hi; exact hi)
  refine ⟨(out_get B x A i).1 h1.1, fun h0 => ?_⟩
  rw [(out_get B x A i).2, (out_get B x A (i - 1)).2]
  exact h1.2 h0
theorem pk_same {A B : List Nd} {x : Nd} (hM : MayN (A ++ x :: B)) (g : Int) {z : Int} (hz : ∃ c ∈ zonesOf (A ++ x :: B), 0 < c.2 ∧ c.1 = z) (hne : z ≠ x.zone) : pk (A ++ outN x :: B) g z = pk (A ++ x :: B) g z := by
  have h0 : z ≠ 0 := by
    obtain ⟨c, hc, _, rfl⟩ := hz
    have := ((mem_upTo _ _ c 999).1 hc).1.1
    omega
  have e2 : chosen1 (A ++ outN x :: B) g 2 1 (z, 0, 0) = chosen1 (A ++ x :: B) g 2 1 (z, 0, 0) := by
    show ((ordF (keyOf g 2 z 0) (racksOf (A ++ outN x :: B) z)).take 1).map (childOf (z, 0, 0) 2) = ((ordF (keyOf g 2 z 0) (racksOf (A ++ x :: B) z)).take 1).map (childOf (z, 0, 0) 2)
    rw [racks_same hne]
  obtain ⟨r, n, _, _, _, _, h5, h6⟩ := pick_one hM g hz
  have e3 : chosen1 (A ++ outN x :: B) g 3 1 (z, r, 0) = chosen1 (A ++ x :: B) g 3 1 (z, r, 0) := by
    show ((ordF (keyOf g 3 z r) (leavesOf (A ++ outN x :: B) z r)).take 1).map (childOf (z, r, 0) 3) = ((ordF (keyOf g 3 z r) (leavesOf (A ++ x :: B) z r)).take 1).map (childOf (z, r, 0) 3)
    rw [leaves_same hne h0]
  unfold pk chooseP
  rw [e2, h5, List.flatMap_cons, List.flatMap_cons, List.flatMap_nil, List.flatMap_nil, e3]
theorem take_while_at {l t : List Int} {z : Int} : ∀ {i : Nat}, i < l.length → (∀ j, j ≤ i → l.getD j 0 ≠ z) → i < (l.takeWhile (fun i => decide (i ≠ z)) ++ t).length ∧ (l.takeWhile (fun i => decide (i ≠ z)) ++ t).getD i 0 = l.getD i 0 := by
  induction l with
  | nil => intro i h _; simp at h
  | cons a l ih =>
    intro i h hz
    have ha : a ≠ z := hz 0 (Nat.zero_le _)
    rw [List.takeWhile_cons_of_pos (by simp [ha])]
    cases i with
    | zero => exact ⟨by simp, rfl⟩
    | succ i =>
      obtain ⟨h1, h2⟩ := ih (i := i) (by simpa using h) (fun j hj => hz (j + 1) (by omega))
      exact ⟨by simp at h1 ⊢; omega, by simpa using h2⟩
theorem find_of {ls : List Nd} (hM : MayN ls) {n : Nd} (h : n ∈ ls) : findN ls n.id = some n := by
  unfold findN
  cases e : ls.find? (fun x => x.id == n.id) with
  | none =>
    have := List.find?_eq_none.1 e n h
    simp at this
  | some m =>
    have h1 := List.find?_some e
    have h2 := List.mem_of_find?_eq_some e
    rw [id_inj hM h2 h (by simpa using h1)]
/-- what is told ahead of a node's zone is told still -/
theorem moves_plain {A B : List Nd} {x : Nd} (hM : MayN (A ++ x :: B)) (g : Int) (size : Nat) : ∃ Z : List Int, Z.length = (ofP (A ++ x :: B) g size).length ∧ ∀ i, i < Z.length → ∃ n, findN (A ++ x :: B) ((ofP (A ++ x :: B) g size).getD i 0) = some n ∧ n.zone = Z.getD i 0 ∧ (n.id = x.id → n.zone = x.zone) ∧
    ((∀ j, j ≤ i → Z.getD j 0 ≠ x.zone) → i < (ofP (A ++ outN x :: B) g size).length ∧ (ofP (A ++ outN x :: B) g size).getD i 0 = (ofP (A ++ x :: B) g size).getD i 0) := by
  have hM' := may_out hM
  rw [of_eq hM, of_eq hM']
  refine ⟨zsOf (A ++ x :: B) g size, by simp, fun i hi => ?_⟩
  have hmem : (zsOf (A ++ x :: B) g size).getD i 0 ∈ zsOf (A ++ x :: B) g size := by
    rw [show (zsOf (A ++ x :: B) g size).getD i 0 = (zsOf (A ++ x :: B) g size)[i] by simp [hi]]
    exact List.getElem_mem hi
  have hmap : ∀ (f : Int → Int) (l : List Int) (i : Nat), i < l.length → (l.map f).getD i 0 = f (l.getD i 0) := fun f l i h => by simp [h]
  obtain ⟨n, n1, n2, _, _, n3⟩ := pk_one hM g (zs_mem hM hmem)
  rw [hmap _ _ _ hi, n3]
  refine ⟨n, find_of hM n1, n2, fun e => by rw [id_inj hM n1 (by simp : x ∈ A ++ x :: B) e], fun hz => ?_⟩
  obtain ⟨w', h0, hmv⟩ := zones_moved hM hM'
  have hC : Dr.MayC (zonesOf (A ++ x :: B)) := sumF_may hM
  have hln : (zonesOf (A ++ outN x :: B)).length = (zonesOf (A ++ x :: B)).length := by rw [hmv.1, List.length_map]
  obtain ⟨t, ht⟩ := sel_moved (cost := Dr.costOf (keyOf g 1 0 0)) (fun i => (Dr.costOf_bound _ _).1) h0 (zonesOf (A ++ x :: B)).length _ _ hmv (Dr.may_rise hC) (Dr.may_w hC)
  have ht' : ordF (keyOf g 1 0 0) (zonesOf (A ++ outN x :: B)) = (ordF (keyOf g 1 0 0) (zonesOf (A ++ x :: B))).takeWhile (fun i => decide (i ≠ x.zone)) ++ t := by
    unfold ordF
    rw [hln]
    exact ht
  have hsz : i < size := by unfold zsOf at hi; rw [List.length_take] at hi; omega
  have hol : i < (ordF (keyOf g 1 0 0) (zonesOf (A ++ x :: B))).length := by unfold zsOf at hi; rw [List.length_take] at hi; omega
  have hget : ∀ (l : List Int) (j : Nat), j < size → (l.take size).getD j 0 = l.getD j 0 := fun l j hj => by simp [hj]
  obtain ⟨h1, h2⟩ := take_while_at (t := t) hol (fun j hj => by have := hz j hj; unfold zsOf at this; rw [hget _ _ (by omega)] at this; exact this)
  rw [← ht'] at h1 h2
  have hi' : i < (zsOf (A ++ outN x :: B) g size).length := by unfold zsOf; rw [List.length_take]; omega
  have hzz : (zsOf (A ++ outN x :: B) g size).getD i 0 = (zsOf (A ++ x :: B) g size).getD i 0 := by
    unfold zsOf
    rw [hget _ _ hsz, hget _ _ hsz, h2]
  refine ⟨by simpa using hi', ?_⟩
  rw [hmap _ _ _ hi', hzz, pk_same hM g (zs_mem hM hmem) (hz i (Nat.le_refl _)), n3]
end Go.Proofs.Ytmifdjkaclgibaa
