/-
  The contract of sortLabels: the labels, by rising names.
-/
import Derived.Test.YtnjbpiekbekpeaaF
import Derived.Shelf.SlSortCmp.SmallK
namespace Go.Proofs.Ytnjbpiekbekpeaa
open Go.ChangeShapes Go.WideShapes Go.ChangeAt Go.RowKit
open Go.Sort (SWO PermIn SortedIn)
def encL (x : Lab) : List Value := [.string x.1, .string x.2]
/-- what cmp.Compare says of two names -/
def cfB (x y : ByteArray) : Int := if ltB x y then -1 else if ltB y x then 1 else 0
theorem isNaN_any (s : ByteArray) (w : World) : Calls Try.prog 54 #[.string s] w fun e w' => e = .returned (.bool false) ∧ w' = w := by
  go_enter Try.func54, Try.ntmps54
  go_wp2
  go_ret
  exact ⟨rfl, rfl⟩
theorem gtB (x y : ByteArray) : (!(Op.bytesLess x.toList y.toList || x.toList == y.toList)) = ltB y x := by rw [ltB_leq]; simp
set_option maxHeartbeats 1000000 in
theorem compare_any (x y : ByteArray) (w : World) : Calls Try.prog 47 #[.string x, .string y] w fun e w' => e = .returned (.int .i64 (cfB x y)) ∧ w' = w := by
  have hgt := gtB x y
  cases h1 : ltB x y with
  | true =>
    have h1' : Op.bytesLess x.toList y.toList = true := h1
    have hc : cfB x y = -1 := by simp [cfB, h1]
    rw [hc]
    clear hgt
    go_enter Try.func47, Try.ntmps47
    go_wp2_with (go_at_call 54; refine (isNaN_any _ _).mono ?_; rintro e w' ⟨rfl, rfl⟩)
    go_ret
    exact ⟨rfl, rfl⟩
  | false =>
    have h1' : Op.bytesLess x.toList y.toList = false := h1
    cases h2 : ltB y x with
    | true =>
      rw [h2] at hgt
      have hc : cfB x y = 1 := by simp [cfB, h1, h2]
      rw [hc]
      have hne : (x.toList == y.toList) = false := by rw [h1'] at hgt; simpa using hgt
      clear hgt
      go_enter Try.func47, Try.ntmps47
      go_wp2_with (go_at_call 54; refine (isNaN_any _ _).mono ?_; rintro e w' ⟨rfl, rfl⟩)
      go_ret
      exact ⟨rfl, rfl⟩
    | false =>
      obtain rfl := ltB_total h1 h2
      have hc : cfB x x = 0 := by simp [cfB, h1]
      rw [hc]
      clear hgt
      go_enter Try.func47, Try.ntmps47
      go_wp2_with (go_at_call 54; refine (isNaN_any _ _).mono ?_; rintro e w' ⟨rfl, rfl⟩)
      go_ret
      exact ⟨rfl, rfl⟩
set_option maxHeartbeats 1000000 in
theorem closure_any (x y : Lab) (W : World) : Calls Try.prog 46 #[.agg #[.string x.1, .string x.2], .agg #[.string y.1, .string y.2]] W fun e w' => e = .returned (.int .i64 (cfB x.1 y.1)) ∧ ∃ q os', w' = Go.Sort.grow (W.drewN q) os' := by
  have hcon := fun W' => compare_any x.1 y.1 W'
  generalize cfB x.1 y.1 = r at hcon ⊢
  go_enter Try.func46, Try.ntmps46
  go_wp2_with (go_at_call 47; refine (hcon _).mono ?_; rintro e w' ⟨rfl, rfl⟩)
  go_ret
  exact ⟨rfl, 0, _, by rw [Go.Sort.alloc_eq_grow, Go.Sort.alloc_eq_grow, Go.Sort.grow_grow]; rfl⟩
theorem ltOf_cf (x y : Lab) : ltOf (fun x y : Lab => cfB x.1 y.1) x y = ltB x.1 y.1 := by
  unfold ltOf cfB
  cases h1 : ltB x.1 y.1 with
  | true => simp [h1]
  | false => cases h2 : ltB y.1 x.1 <;> simp [h1, h2]
theorem swo : SWO (ltOf fun x y : Lab => cfB x.1 y.1) := {
  irrefl := fun x => by rw [ltOf_cf]; exact ltB_irrefl _
  trans := fun x y z h1 h2 => by rw [ltOf_cf] at *; exact ltB_trans h1 h2
  ntrans := fun x y z h1 h2 => by
    rw [ltOf_cf] at *
    cases h3 : ltB x.1 z.1 with
    | false => rfl
    | true =>
      cases h4 : ltB y.1 x.1 with
      | true =>
        have := ltB_trans h4 h3
        rw [this] at h2
        cases h2
      | false =>
        have := ltB_total h1 h4
        rw [this] at h3
        rw [h3] at h2
        cases h2 }
theorem cellsLb_get (ls : List Lab) : ∀ i (h : i < ls.length), (cellsLb ls)[i * 2]? = some (.string ls[i].1) ∧ (cellsLb ls)[i * 2 + 1]? = some (.string ls[i].2) := by
  induction ls with
  | nil => intro i h; simp at h
  | cons p ps ih =>
    intro i h
    cases i with
    | zero => exact ⟨rfl, rfl⟩
    | succ i =>
      have h1 := ih i (by simpa using h)
      have e1 : (i + 1) * 2 = i * 2 + 1 + 1 := by omega
      rw [e1]
      exact h1
theorem flat_eq (d : Array Lab) : (Go.Sort.flatK encL 2 d).toList = cellsLb d.toList := by
  apply List.ext_getElem?
  intro t
  by_cases ht : t < d.size * 2
  · have h1 := Go.Sort.get_flatK encL 2 d t ht
    have h2 : (Go.Sort.flatK encL 2 d).toList[t]? = some (Go.Sort.flatK encL 2 d)[t]! := by
      rw [Array.getElem?_toList, getElem!_pos _ t (by simpa using ht), Array.getElem?_eq_getElem (by simpa using ht)]
    rw [h2, h1]
    have hi : t / 2 < d.size := by omega
    have hg := cellsLb_get d.toList (t / 2) (by simpa using hi)
    rw [getElem!_pos d (t / 2) hi]
    rcases Nat.mod_two_eq_zero_or_one t with hm | hm
    · have e : t = t / 2 * 2 := by omega
      rw [hm]
      rw [← e] at hg
      rw [hg.1]
      rfl
    · have e : t = t / 2 * 2 + 1 := by omega
      rw [hm]
      rw [← e] at hg
      rw [hg.2]
      rfl
  · rw [List.getElem?_eq_none (by simpa using ht), List.getElem?_eq_none (by rw [cellsLb_length]; simpa using ht)]
/-- by rising names -/
def SortedL (ls : List Lab) : Prop := ∀ i j, i < j → j < ls.length → ltB (ls.getD j lab0).1 (ls.getD i lab0).1 = false
def SortPost (B : Nat) (lv : Value) (ls : List Lab) (w w' : World) : Prop := (∃ ls' : List Lab, ls'.Perm ls ∧ SortedL ls' ∧ w'.ownsRow B 46 2 lv ls.length (cellsLb ls')) ∧ w.grownBy w' lv.ownBlock
theorem sorted_of {d d' : Array Lab} (hp : PermIn 0 d.size d d') (hs : SortedIn (ltOf fun x y : Lab => cfB x.1 y.1) 0 d.size d') : d'.toList.Perm d.toList ∧ SortedL d'.toList := by
  obtain ⟨h1, _, h3⟩ := hp
  refine ⟨?_, fun i j hij hj => ?_⟩
  · have e1 : d'.extract 0 d.size = d' := by rw [← h1]; simp
    have e2 : d.extract 0 d.size = d := by simp
    rw [e1, e2] at h3
    exact h3
  · have hj' : j < d'.size := by simpa using hj
    have h := hs i j (Nat.zero_le _) hij (by omega)
    rw [ltOf_cf, getElem!_pos d' j hj', getElem!_pos d' i (by omega)] at h
    have e1 : d'.toList.getD j lab0 = d'[j] := by simp [hj']
    have e2 : d'.toList.getD i lab0 = d'[i]'(by omega) := by simp [show i < d'.size by omega]
    rw [e1, e2]
    exact h
theorem bits_len (n : Nat) (W : World) (h : n ≤ 12) : Calls Try.prog 53 #[.int .u64 n] W fun e w' => (∃ l : Int, e = .returned (.int .i64 l)) ∧ w' = W :=
  (Any.bits_Len Try.lays125 n W (by omega) (by omega)).mono fun _ _ ⟨he, hw⟩ => ⟨⟨_, he⟩, hw⟩
theorem sort_some (g cap : Nat) (ls : List Lab) (w : World) {B : Nat} (h : w.ownsRow B 46 2 (.slice (some ⟨g, 0, none⟩) ls.length cap) ls.length (cellsLb ls)) (h12 : ls.length ≤ 12) :
    Calls Try.prog 45 #[.slice (some ⟨g, 0, none⟩) ls.length cap, .func (.func 46) #[] #[]] w fun e w' => e = .returned (.tuple #[]) ∧ SortPost B (.slice (some ⟨g, 0, none⟩) ls.length cap) ls w w' := by
  have eg : ∀ args w, (callFunc 46 args).run Try.prog w = .ok (.enter 46 args) w := enters_of Try.func46 (by kernel_rfl) rfl
  have hown := h
  obtain ⟨hl, ⟨hv, _⟩ | ⟨g', cap', cur, hv, hB, hh, hc, hcm, hcs, ht⟩⟩ := h
  · cases hv
  injection hv with ha _ hcap
  injection ha with ha
  injection ha with hgg _ _
  subst hgg
  subst hcap
  have hgl : g < w.heap.size := (Array.getElem?_eq_some_iff.1 hh).1
  have hH : Go.Sort.HoldsK encL 2 w g 0 ls.toArray := by
    intro j hj
    rw [Go.Sort.size_flatK] at hj
    have hj' : j < ls.length * 2 := by simpa using hj
    have e := flat_eq ls.toArray
    have hx : (cellsLb ls)[j]? = some (Go.Sort.flatK encL 2 ls.toArray)[j]! := by
      have e2 : ls = ls.toArray.toList := by simp
      rw [e2, ← e, Array.getElem?_toList, Array.getElem?_eq_getElem (by simpa using hj'), getElem!_pos _ j (by simpa using hj')]
    refine ⟨?_, ?_⟩
    · rw [Nat.zero_add, hown.cellAt j (by omega), hx]
      rfl
    · rw [Nat.zero_add]
      exact Lib.frozen_of_heap hh j
  have hcon := AnyQ.slices_SortFunc_small_sorted Try.laysSort 2 Try.isAgg46 Try.sizeOf46 encL (fun _ => rfl) (fun x v hv => by simp [encL] at hv; rcases hv with rfl | rfl <;> rfl) (fun x y => cfB x.1 y.1) 46 #[] swo g 0 cap ls.toArray w eg (fun _ _ _ _ x y => closure_any x y _) hH hgl (by simpa using h12) bits_len
  have hsz : ls.toArray.size = ls.length := by simp
  rw [hsz] at hcon
  refine Calls.mono hcon ?_
  rintro e w' ⟨he, d', n, os, hp, hs, rfl⟩
  have hp' : PermIn 0 ls.toArray.size ls.toArray d' := by rw [hsz]; exact hp
  have hs' : SortedIn (ltOf fun x y : Lab => cfB x.1 y.1) 0 ls.toArray.size d' := by rw [hsz]; exact hs
  obtain ⟨hperm, hsort⟩ := sorted_of hp' hs'
  have hds : d'.size = ls.length := by have := hp.1; simpa using this
  have hheap : ∀ k, k < w.heap.size → (Go.Proofs.sortWorldK encL 2 w g 0 n d' os).heap[k]? = if k = g then some (.cells (Go.Sort.putCells id 0 (Go.Sort.flatK encL 2 d') cur) 46 (0, 0)) else w.heap[k]? := by
    intro k hk
    show ((w.heap.modify g (Go.Sort.onCells (Go.Sort.putCells id 0 (Go.Sort.flatK encL 2 d')))) ++ os)[k]? = _
    rw [Array.getElem?_append_left (by simpa using hk), Array.getElem?_modify]
    by_cases hkg : k = g
    · subst hkg
      rw [if_pos rfl, if_pos rfl, hh]
      rfl
    · rw [if_neg (fun e => hkg e.symm), if_neg hkg]
  refine ⟨he, ⟨d'.toList, by simpa using hperm, hsort, ?_, .inr ⟨g, cap, Go.Sort.putCells id 0 (Go.Sort.flatK encL 2 d') cur, rfl, hB, ?_, hc, hcm, ?_, ?_⟩⟩, ?_⟩
  · rw [cellsLb_length]; simp [hds]
  · rw [hheap g hgl, if_pos rfl]
  · simp [Go.Sort.putCells, hcs]
  · rw [← flat_eq d']
    apply List.ext_getElem?
    intro t
    have hfs : (Go.Sort.flatK encL 2 d').size = ls.length * 2 := by simp [hds]
    by_cases htl : t < ls.length * 2
    · rw [List.getElem?_take_of_lt htl, Array.getElem?_toList, Array.getElem?_toList]
      unfold Go.Sort.putCells
      rw [Array.getElem?_mapIdx, Array.getElem?_eq_getElem (by omega), Array.getElem?_eq_getElem (by omega)]
      simp only [Option.map_some]
      rw [if_pos ⟨Nat.zero_le _, by omega⟩, Nat.sub_zero, getElem!_pos _ t (by omega)]
      rfl
    · rw [List.getElem?_eq_none (by simp; omega), List.getElem?_eq_none (by simp; omega)]
  · refine ⟨rfl, rfl, rfl, ?_, fun k hk hne => ?_⟩
    · show w.heap.size ≤ ((w.heap.modify g _) ++ os).size
      simp
    · rw [hheap k hk, if_neg (fun e => hne (by rw [e]; rfl))]
set_option maxHeartbeats 2000000 in
theorem insert_none (p : Option Addr) (cap : Nat) (fv : Value) (w : World) : Calls Try.prog 55 #[.slice p 0 cap, .int .i64 0, .int .i64 0, fv] w fun e w' => e = .returned (.tuple #[]) ∧ w' = w := by
  go_enter Try.func55, Try.ntmps55
  go_wp2
  refine wp_loop_rounds 1 ?_
  rw [rounds_succ]
  go_wp2
  go_end0
  exact ⟨rfl, rfl⟩
set_option maxHeartbeats 2000000 in
theorem pdq_none (p : Option Addr) (cap : Nat) (lim : Int) (fv : Value) (w : World) : Calls Try.prog 52 #[.slice p 0 cap, .int .i64 0, .int .i64 0, .int .i64 lim, fv] w fun e w' => e = .returned (.tuple #[]) ∧ w' = w := by
  go_enter Try.func52, Try.ntmps52
  go_wp2
  refine wp_loop_rounds 1 ?_
  rw [rounds_succ]
  go_wp2_with (go_at_call 55; refine (insert_none _ _ _ _).mono ?_; rintro e w' ⟨rfl, rfl⟩)
  (try simp only [Exit.inBlock, Exit.then]); refine bodyPost_ret (results_none rfl _ _ _) rfl ?_
  exact ⟨rfl, rfl⟩
set_option maxHeartbeats 2000000 in
theorem sort_none (p : Option Addr) (cap : Nat) (fv : Value) (w : World) : Calls Try.prog 45 #[.slice p 0 cap, fv] w fun e w' => e = .returned (.tuple #[]) ∧ w' = w := by
  have hl : ∀ W, Calls Try.prog 53 #[.int .u64 0] W fun e w' => (∃ l : Int, e = .returned (.int .i64 l)) ∧ w' = W := fun W => bits_len 0 W (by omega)
  go_enter Try.func45, Try.ntmps45
  go_wp2_with (first | (go_at_call 53; refine (hl _).mono ?_; rintro e w' ⟨⟨l, rfl⟩, rfl⟩) | (go_at_call 52; refine (pdq_none _ _ _ _ _).mono ?_; rintro e w' ⟨rfl, rfl⟩))
  go_end0
  exact ⟨rfl, rfl⟩
set_option maxHeartbeats 2000000 in
theorem sortLabels_any {B : Nat} (lv : Value) (ls : List Lab) (w : World) (h : w.ownsRow B 46 2 lv ls.length (cellsLb ls)) (h12 : ls.length ≤ 12) :
    Calls Try.prog 35 #[lv] w fun e w' => e = .returned (.tuple #[]) ∧ SortPost B lv ls w w' := by
  have hown := h
  rcases h.2 with ⟨rfl, h0⟩ | ⟨g, cap, cur, rfl, _⟩
  · have HP : Hid (SortPost B (.slice none 0 0) ls w w) := ⟨⟨ls, List.Perm.refl _, fun i j _ hj => by omega, hown⟩, rfl, rfl, rfl, Nat.le_refl _, fun _ _ _ => rfl⟩
    clear h hown
    go_enter Try.func35, Try.ntmps35
    go_wp2_with (go_at_call 45; refine (sort_none _ _ _ _).mono ?_; rintro e w' ⟨rfl, rfl⟩)
    go_end0
    exact ⟨rfl, HP.out⟩
  · have hcon := sort_some g cap ls w hown h12
    clear h hown
    go_enter Try.func35, Try.ntmps35
    go_wp2_with (go_at_call 45; refine hcon.mono ?_; rintro e w' ⟨rfl, hP⟩)
    go_end0
    exact ⟨rfl, hP⟩
end Go.Proofs.Ytnjbpiekbekpeaa
