/-
  The contract of the sort over loads: the same loads, by rising numbers.
-/
import Derived.Test.YtcncbjknfcjnmaaGreatTpE
import Derived.Test.YtcncbjknfcjnmaaGreatTpLay
import Derived.Lib.Builder
namespace Go.Proofs.YtcncbjknfcjnmaaGreat.Tp
open Go.ChangeShapes Go.WideShapes Go.ChangeAt Go.RowKit
open Go.Sort (SWO PermIn SortedIn)
def ltL (a b : Ld) : Prop := a.1 < b.1 ∨ (a.1 = b.1 ∧ a.2.1 < b.2.1)
theorem cfL_lt (a b : Ld) : cfL a b < 0 ↔ ltL a b := by
  unfold cfL ltL orI cmpI
  generalize a.1 = p
  generalize b.1 = q
  generalize a.2.1 = r
  generalize b.2.1 = s
  by_cases h1 : p < q
  · simp [h1]
  · by_cases h2 : q < p
    · simp [h1, h2]; omega
    · have : p = q := by omega
      subst this
      by_cases h3 : r < s
      · simp [h3]
      · by_cases h4 : s < r
        · simp [h3, h4]
        · simp [h3, h4]
theorem ltOf_cf (x y : Ld) : ltOf cfL x y = true ↔ ltL x y := by
  unfold ltOf
  rw [decide_eq_true_eq]
  exact cfL_lt x y
theorem ltOf_no (x y : Ld) : ltOf cfL x y = false ↔ ¬ ltL x y := by
  rw [← ltOf_cf]
  simp
theorem swo : SWO (ltOf cfL) := {
  irrefl := fun x => by rw [ltOf_no]; unfold ltL; omega
  trans := fun x y z h1 h2 => by
    rw [ltOf_cf] at *
    unfold ltL at *
    omega
  ntrans := fun x y z h1 h2 => by
    rw [ltOf_no] at *
    unfold ltL at *
    omega }
def cellsLd (L : List Ld) : List Value := L.flatMap ldCells
theorem cellsLd_snoc (L : List Ld) (c : Ld) : cellsLd (L ++ [c]) = cellsLd L ++ ldCells c := by
  unfold cellsLd; simp
theorem cellsLd_length (L : List Ld) : (cellsLd L).length = L.length * 3 := by
  induction L with
  | nil => rfl
  | cons c L ih => unfold cellsLd at *; rw [List.flatMap_cons, List.length_append, ih]; simp [ldCells]; omega
theorem cellsLd_get (L : List Ld) : ∀ i, i < L.length → (cellsLd L)[i * 3]? = some (.int .i64 (L.getD i ld0).1) ∧ (cellsLd L)[i * 3 + 1]? = some (.int .i64 (L.getD i ld0).2.1) ∧ (cellsLd L)[i * 3 + 2]? = some (.int .i64 (L.getD i ld0).2.2) := by
  induction L with
  | nil => intro i h; simp at h
  | cons c L ih =>
    intro i h
    cases i with
    | zero => exact ⟨rfl, rfl, rfl⟩
    | succ i =>
      have h1 := ih i (by simpa using h)
      have e : ∀ j, (cellsLd (c :: L))[(i + 1) * 3 + j]? = (cellsLd L)[i * 3 + j]? := fun j => by
        unfold cellsLd
        rw [List.flatMap_cons, show (i + 1) * 3 + j = (ldCells c).length + (i * 3 + j) from by simp [ldCells]; omega, List.getElem?_append_right (by omega), Nat.add_sub_cancel_left]
      exact ⟨(e 0).trans h1.1, (e 1).trans h1.2.1, (e 2).trans h1.2.2⟩
/-- loads, as they lie -/
def LdsAt (w : World) (g : Nat) (L : List Ld) : Prop := ∀ i, i < L.length → w.cell? ⟨g, i * 3, none⟩ = some (.int .i64 (L.getD i ld0).1) ∧ w.cell? ⟨g, i * 3 + 1, none⟩ = some (.int .i64 (L.getD i ld0).2.1) ∧ w.cell? ⟨g, i * 3 + 2, none⟩ = some (.int .i64 (L.getD i ld0).2.2)
theorem LdsAt.below {w w' : World} {g : Nat} {L : List Ld} (h : LdsAt w g L) (hg : g < w.heap.size) (hb : Below w.heap.size w w') : LdsAt w' g L := fun i hi => by
  obtain ⟨h0, h1, h2⟩ := h i hi
  exact ⟨(hb.cell (p := ⟨g, i * 3, none⟩) hg).trans h0, (hb.cell (p := ⟨g, i * 3 + 1, none⟩) hg).trans h1, (hb.cell (p := ⟨g, i * 3 + 2, none⟩) hg).trans h2⟩
theorem lds_own {w : World} {B g n cap : Nat} {L : List Ld} (h : w.ownsRow B 212 3 (.slice (some ⟨g, 0, none⟩) n cap) n (cellsLd L)) (hn : n = L.length) : LdsAt w g L := fun i hi => by
  obtain ⟨h0, h1, h2⟩ := cellsLd_get L i hi
  exact ⟨(h.cellAt (i * 3) (by omega)).trans h0, (h.cellAt (i * 3 + 1) (by omega)).trans h1, (h.cellAt (i * 3 + 2) (by omega)).trans h2⟩
theorem flat_eq (d : Array Ld) : (Go.Sort.flatK ldCells 3 d).toList = cellsLd d.toList := by
  apply List.ext_getElem?
  intro t
  by_cases ht : t < d.size * 3
  · have h1 := Go.Sort.get_flatK ldCells 3 d t ht
    have h2 : (Go.Sort.flatK ldCells 3 d).toList[t]? = some (Go.Sort.flatK ldCells 3 d)[t]! := by
      rw [Array.getElem?_toList, getElem!_pos _ t (by simpa using ht), Array.getElem?_eq_getElem (by simpa using ht)]
    rw [h2, h1]
    have hi : t / 3 < d.size := by omega
    have hg := cellsLd_get d.toList (t / 3) (by simpa using hi)
    have eg : d.toList.getD (t / 3) ld0 = d[t / 3] := by simp [hi]
    rw [eg] at hg
    rw [getElem!_pos d (t / 3) hi]
    have hm : t % 3 = 0 ∨ t % 3 = 1 ∨ t % 3 = 2 := by omega
    rcases hm with hm | hm | hm
    · have e : t = t / 3 * 3 := by omega
      rw [hm]
      rw [← e] at hg
      rw [hg.1]
      rfl
    · have e : t = t / 3 * 3 + 1 := by omega
      rw [hm]
      rw [← e] at hg
      rw [hg.2.1]
      rfl
    · have e : t = t / 3 * 3 + 2 := by omega
      rw [hm]
      rw [← e] at hg
      rw [hg.2.2]
      rfl
  · rw [List.getElem?_eq_none (by simpa using ht), List.getElem?_eq_none (by rw [cellsLd_length]; simpa using ht)]
/-- none stands behind a greater one -/
def SortedL (L : List Ld) : Prop := ∀ i j, i < j → j < L.length → ¬ ltL (L.getD j ld0) (L.getD i ld0)
def SortPost (B : Nat) (lv : Value) (L : List Ld) (w w' : World) : Prop := (∃ L' : List Ld, L'.Perm L ∧ SortedL L' ∧ w'.ownsRow B 212 3 lv L.length (cellsLd L')) ∧ w.grownBy w' lv.ownBlock
theorem sorted_of {d d' : Array Ld} (hp : PermIn 0 d.size d d') (hs : SortedIn (ltOf cfL) 0 d.size d') : d'.toList.Perm d.toList ∧ SortedL d'.toList := by
  obtain ⟨h1, _, h3⟩ := hp
  refine ⟨?_, fun i j hij hj => ?_⟩
  · have e1 : d'.extract 0 d.size = d' := by rw [← h1]; simp
    have e2 : d.extract 0 d.size = d := by simp
    rw [e1, e2] at h3
    exact h3
  · have hj' : j < d'.size := by simpa using hj
    have h := hs i j (Nat.zero_le _) hij (by omega)
    rw [ltOf_no, getElem!_pos d' j hj', getElem!_pos d' i (by omega)] at h
    have e1 : d'.toList.getD j ld0 = d'[j] := by simp [hj']
    have e2 : d'.toList.getD i ld0 = d'[i]'(by omega) := by simp [show i < d'.size by omega]
    rw [e1, e2]
    exact h
theorem bits_len (n : Nat) (W : World) (h : n ≤ 12) : Calls Tryz.prog 118 #[.int .u64 n] W fun e w' => (∃ l : Int, e = .returned (.int .i64 l)) ∧ w' = W :=
  (Any.bits_Len Lay.bits n W (by omega) (by omega)).mono fun _ _ ⟨he, hw⟩ => ⟨⟨_, he⟩, hw⟩
theorem sort_some (g cap : Nat) (ls : List Ld) (w : World) {B : Nat} (h : w.ownsRow B 212 3 (.slice (some ⟨g, 0, none⟩) ls.length cap) ls.length (cellsLd ls)) (h12 : ls.length ≤ 12) :
    Calls Tryz.prog 197 #[.slice (some ⟨g, 0, none⟩) ls.length cap, .func (.func 198) #[] #[]] w fun e w' => e = .returned (.tuple #[]) ∧ SortPost B (.slice (some ⟨g, 0, none⟩) ls.length cap) ls w w' := by
  have eg : ∀ args w, (callFunc 198 args).run Tryz.prog w = .ok (.enter 198 args) w := enters_of Tryz.func198 (by kernel_rfl) rfl
  have hown := h
  obtain ⟨hl, ⟨hv, _⟩ | ⟨g', cap', cur, hv, hB, hh, hc, hcm, hcs, ht⟩⟩ := h
  · cases hv
  injection hv with ha _ hcap
  injection ha with ha
  injection ha with hgg _ _
  subst hgg
  subst hcap
  have hgl : g < w.heap.size := (Array.getElem?_eq_some_iff.1 hh).1
  have hH : Go.Sort.HoldsK ldCells 3 w g 0 ls.toArray := by
    intro j hj
    rw [Go.Sort.size_flatK] at hj
    have hj' : j < ls.length * 3 := by simpa using hj
    have e := flat_eq ls.toArray
    have hx : (cellsLd ls)[j]? = some (Go.Sort.flatK ldCells 3 ls.toArray)[j]! := by
      have e2 : ls = ls.toArray.toList := by simp
      rw [e2, ← e, Array.getElem?_toList, Array.getElem?_eq_getElem (by simpa using hj'), getElem!_pos _ j (by simpa using hj')]
    refine ⟨?_, ?_⟩
    · rw [Nat.zero_add, hown.cellAt j (by omega), hx]
      rfl
    · rw [Nat.zero_add]
      exact Lib.frozen_of_heap hh j
  have hcon := AnyQ.slices_SortFunc_small_sorted Lay.sort 3 Tryz.isAgg212 Tryz.sizeOf212 ldCells (fun _ => rfl) (fun x v hv => by simp [ldCells] at hv; rcases hv with rfl | rfl | rfl <;> rfl) cfL 198 #[] swo g 0 cap ls.toArray w eg (fun _ _ _ _ x y => compare_any x y _) hH hgl (by simpa using h12) bits_len
  have hsz : ls.toArray.size = ls.length := by simp
  rw [hsz] at hcon
  refine Calls.mono hcon ?_
  rintro e w' ⟨he, d', n, os, hp, hs, rfl⟩
  have hp' : PermIn 0 ls.toArray.size ls.toArray d' := by rw [hsz]; exact hp
  have hs' : SortedIn (ltOf cfL) 0 ls.toArray.size d' := by rw [hsz]; exact hs
  obtain ⟨hperm, hsort⟩ := sorted_of hp' hs'
  have hds : d'.size = ls.length := by have := hp.1; simpa using this
  have hheap : ∀ k, k < w.heap.size → (Go.Proofs.sortWorldK ldCells 3 w g 0 n d' os).heap[k]? = if k = g then some (.cells (Go.Sort.putCells id 0 (Go.Sort.flatK ldCells 3 d') cur) 212 (0, 0)) else w.heap[k]? := by
    intro k hk
    show ((w.heap.modify g (Go.Sort.onCells (Go.Sort.putCells id 0 (Go.Sort.flatK ldCells 3 d')))) ++ os)[k]? = _
    rw [Array.getElem?_append_left (by simpa using hk), Array.getElem?_modify]
    by_cases hkg : k = g
    · subst hkg
      rw [if_pos rfl, if_pos rfl, hh]
      rfl
    · rw [if_neg (fun e => hkg e.symm), if_neg hkg]
  refine ⟨he, ⟨d'.toList, by simpa using hperm, hsort, ?_, .inr ⟨g, cap, Go.Sort.putCells id 0 (Go.Sort.flatK ldCells 3 d') cur, rfl, hB, ?_, hc, hcm, ?_, ?_⟩⟩, ?_⟩
  · rw [cellsLd_length]; simp [hds]
  · rw [hheap g hgl, if_pos rfl]
  · simp [Go.Sort.putCells, hcs]
  · rw [← flat_eq d']
    apply List.ext_getElem?
    intro t
    have hfs : (Go.Sort.flatK ldCells 3 d').size = ls.length * 3 := by simp [hds]
    by_cases htl : t < ls.length * 3
    · rw [List.getElem?_take_of_lt htl, Array.getElem?_toList, Array.getElem?_toList]
      unfold Go.Sort.putCells
      have hcl : ls.length * 3 ≤ cur.size := by rw [hcs]; exact Nat.mul_le_mul_right _ hc
      rw [Array.getElem?_mapIdx, Array.getElem?_eq_getElem (by omega), Array.getElem?_eq_getElem (by omega)]
      simp only [Option.map_some]
      rw [if_pos ⟨Nat.zero_le _, by omega⟩, Nat.sub_zero, getElem!_pos _ t (by omega)]
      rfl
    · rw [List.getElem?_eq_none (by simp; omega), List.getElem?_eq_none (by simp; omega)]
  · refine ⟨rfl, rfl, rfl, ?_, fun k hk hne => ?_⟩
    · show w.heap.size ≤ ((w.heap.modify g _) ++ os).size
      simp
    · rw [hheap k hk, if_neg (fun e => hne (by rw [e]; rfl))]
set_option maxHeartbeats 2000000 in
theorem insert_none (p : Option Addr) (cap : Nat) (fv : Value) (w : World) : Calls Tryz.prog 208 #[.slice p 0 cap, .int .i64 0, .int .i64 0, fv] w fun e w' => e = .returned (.tuple #[]) ∧ w' = w := by
  go_enter Tryz.func208, Tryz.ntmps208
  go_wp2
  refine wp_loop_rounds 1 ?_
  rw [rounds_succ]
  go_wp2
  go_end0
  exact ⟨rfl, rfl⟩
set_option maxHeartbeats 2000000 in
theorem pdq_none (p : Option Addr) (cap : Nat) (lim : Int) (fv : Value) (w : World) : Calls Tryz.prog 205 #[.slice p 0 cap, .int .i64 0, .int .i64 0, .int .i64 lim, fv] w fun e w' => e = .returned (.tuple #[]) ∧ w' = w := by
  go_enter Tryz.func205, Tryz.ntmps205
  go_wp2
  refine wp_loop_rounds 1 ?_
  rw [rounds_succ]
  go_wp2_with (go_at_call 208; refine (insert_none _ _ _ _).mono ?_; rintro e w' ⟨rfl, rfl⟩)
  (try simp only [Exit.inBlock, Exit.then]); refine bodyPost_ret (results_none rfl _ _ _) rfl ?_
  exact ⟨rfl, rfl⟩
set_option maxHeartbeats 2000000 in
theorem sort_none (p : Option Addr) (cap : Nat) (fv : Value) (w : World) : Calls Tryz.prog 197 #[.slice p 0 cap, fv] w fun e w' => e = .returned (.tuple #[]) ∧ w' = w := by
  have hl : ∀ W, Calls Tryz.prog 118 #[.int .u64 0] W fun e w' => (∃ l : Int, e = .returned (.int .i64 l)) ∧ w' = W := fun W => bits_len 0 W (by omega)
  go_enter Tryz.func197, Tryz.ntmps197
  go_wp2_with (first | (go_at_call 118; refine (hl _).mono ?_; rintro e w' ⟨⟨l, rfl⟩, rfl⟩) | (go_at_call 205; refine (pdq_none _ _ _ _ _).mono ?_; rintro e w' ⟨rfl, rfl⟩))
  go_end0
  exact ⟨rfl, rfl⟩
theorem sort_any {B : Nat} (lv : Value) (L : List Ld) (w : World) (h : w.ownsRow B 212 3 lv L.length (cellsLd L)) (h12 : L.length ≤ 12) :
    Calls Tryz.prog 197 #[lv, .func (.func 198) #[] #[]] w fun e w' => e = .returned (.tuple #[]) ∧ SortPost B lv L w w' := by
  cases L with
  | nil =>
    obtain ⟨a, cap, rfl, -⟩ := own_slice h
    refine (sort_none a cap _ w).mono ?_
    rintro e w' ⟨rfl, rfl⟩
    exact ⟨rfl, ⟨[], List.Perm.refl _, fun i j _ hj => absurd hj (by simp), h⟩, below_grownBy (Below.refl _ _) _⟩
  | cons c s =>
    obtain ⟨g, cap, rfl, -⟩ := own_some h (by simp)
    exact sort_some g cap (c :: s) w h h12
end Go.Proofs.YtcncbjknfcjnmaaGreat.Tp
