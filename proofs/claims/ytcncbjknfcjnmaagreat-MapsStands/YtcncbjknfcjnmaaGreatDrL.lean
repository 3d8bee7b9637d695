/-
  The contract of the sort over lots: the same lots, the better ones first.
-/
import Derived.Test.YtcncbjknfcjnmaaGreatDrK
import Derived.Test.YtcncbjknfcjnmaaGreatDrLay
import Derived.Lib.Builder
namespace Go.Proofs.YtcncbjknfcjnmaaGreat.Dr
open Go.ChangeShapes Go.WideShapes Go.ChangeAt Go.RowKit
open Go.Sort (SWO PermIn SortedIn)
/-- a choice that has weight -/
abbrev Wc := { c : Ch // 1 ≤ c.2 ∧ c.2 ≤ 65536 }
def encW (key : Nat) (x : Wc) : List Value := lotCells key x.1
def cfW (key : Nat) (x y : Wc) : Int := cfC key x.1 y.1
theorem ltOf_cf (key : Nat) (x y : Wc) : ltOf (cfW key) x y = true ↔ ltC (costOf key) x.1 y.1 := by
  unfold ltOf cfW
  rw [decide_eq_true_eq]
  exact cfC_lt key x.2 y.2
theorem ltOf_no (key : Nat) (x y : Wc) : ltOf (cfW key) x y = false ↔ ¬ ltC (costOf key) x.1 y.1 := by
  rw [← ltOf_cf]
  simp
def leC (cost : Int → Int) (a b : Ch) : Prop := cost a.1 * b.2 < cost b.1 * a.2 ∨ (cost a.1 * b.2 = cost b.1 * a.2 ∧ a.1 ≤ b.1)
theorem not_ltC (cost : Int → Int) (a b : Ch) : ¬ ltC cost a b ↔ leC cost b a := by
  unfold ltC leC
  generalize cost a.1 * b.2 = x
  generalize cost b.1 * a.2 = y
  omega
theorem leC_trans (cost : Int → Int) {a b c : Ch} (ha : 0 < a.2) (hb : 0 < b.2) (hc : 0 < c.2) (h1 : leC cost a b) (h2 : leC cost b c) : leC cost a c := by
  unfold leC at *
  have e1 : cost a.1 * b.2 * c.2 = cost a.1 * c.2 * b.2 := Int.mul_right_comm _ _ _
  have e2 : cost b.1 * a.2 * c.2 = cost b.1 * c.2 * a.2 := Int.mul_right_comm _ _ _
  have e3 : cost c.1 * b.2 * a.2 = cost c.1 * a.2 * b.2 := Int.mul_right_comm _ _ _
  have key : cost a.1 * c.2 * b.2 ≤ cost c.1 * a.2 * b.2 := by
    have p1 : cost a.1 * b.2 * c.2 ≤ cost b.1 * a.2 * c.2 := Int.mul_le_mul_of_nonneg_right (by omega) (by omega)
    have p2 : cost b.1 * c.2 * a.2 ≤ cost c.1 * b.2 * a.2 := Int.mul_le_mul_of_nonneg_right (by omega) (by omega)
    omega
  have le : cost a.1 * c.2 ≤ cost c.1 * a.2 := Int.le_of_mul_le_mul_right key hb
  rcases Int.lt_or_eq_of_le le with h | h
  · exact .inl h
  · refine .inr ⟨h, ?_⟩
    rw [h] at e1
    rcases h1 with h1 | ⟨q, h1⟩
    · have p1 : cost a.1 * b.2 * c.2 < cost b.1 * a.2 * c.2 := Int.mul_lt_mul_of_pos_right h1 hc
      have p2 : cost b.1 * c.2 * a.2 ≤ cost c.1 * b.2 * a.2 := Int.mul_le_mul_of_nonneg_right (by omega) (by omega)
      omega
    · rcases h2 with h2 | ⟨_, h2⟩
      · have p1 : cost a.1 * b.2 * c.2 = cost b.1 * a.2 * c.2 := by rw [q]
        have p2 : cost b.1 * c.2 * a.2 < cost c.1 * b.2 * a.2 := Int.mul_lt_mul_of_pos_right h2 ha
        omega
      · omega
theorem swo (key : Nat) : SWO (ltOf (cfW key)) := {
  irrefl := fun x => by rw [ltOf_no]; exact ltC_irrefl _ _
  trans := fun x y z h1 h2 => by
    rw [ltOf_cf] at *
    exact ltC_trans _ (by have := x.2; omega) (by have := y.2; omega) (by have := z.2; omega) h1 h2
  ntrans := fun x y z h1 h2 => by
    rw [ltOf_no, not_ltC] at *
    exact leC_trans _ (by have := z.2; omega) (by have := y.2; omega) (by have := x.2; omega) h2 h1 }
variable [Inhabited Wc]
theorem flat_eq (key : Nat) (d : Array Wc) : (Go.Sort.flatK (encW key) 3 d).toList = cellsLot key (d.toList.map (·.1)) := by
  apply List.ext_getElem?
  intro t
  by_cases ht : t < d.size * 3
  · have h1 := Go.Sort.get_flatK (encW key) 3 d t ht
    have h2 : (Go.Sort.flatK (encW key) 3 d).toList[t]? = some (Go.Sort.flatK (encW key) 3 d)[t]! := by
      rw [Array.getElem?_toList, getElem!_pos _ t (by simpa using ht), Array.getElem?_eq_getElem (by simpa using ht)]
    rw [h2, h1]
    have hi : t / 3 < d.size := by omega
    have hg := cellsLot_get key (d.toList.map (·.1)) (t / 3) (by simpa using hi)
    have eg : (d.toList.map (·.1)).getD (t / 3) ch0 = d[t / 3].1 := by simp [hi]
    rw [eg] at hg
    rw [getElem!_pos d (t / 3) hi]
    have hm : t % 3 = 0 ∨ t % 3 = 1 ∨ t % 3 = 2 := by omega
    rcases hm with hm | hm | hm
    · have e : t = t / 3 * 3 := by omega
      rw [hm]
      rw [← e] at hg
      rw [hg.1]
      rfl
    · have e : t = t / 3 * 3 + 1 := by omega
      rw [hm]
      rw [← e] at hg
      rw [hg.2.1]
      rfl
    · have e : t = t / 3 * 3 + 2 := by omega
      rw [hm]
      rw [← e] at hg
      rw [hg.2.2]
      rfl
  · rw [List.getElem?_eq_none (by simpa using ht), List.getElem?_eq_none (by rw [cellsLot_length]; simpa using ht)]
/-- none stands behind one that is not better -/
def SortedC (key : Nat) (L : List Ch) : Prop := ∀ i j, i < j → j < L.length → ¬ ltC (costOf key) (L.getD j ch0) (L.getD i ch0)
def SortPost (B g cap key : Nat) (L : List Ch) (w w' : World) : Prop := (∃ L', L'.Perm L ∧ SortedC key L' ∧ w'.ownsRow B 185 3 (.slice (some ⟨g, 0, none⟩) L.length cap) L.length (cellsLot key L')) ∧ w.grownBy w' (some g)
theorem sorted_of {key : Nat} {d d' : Array Wc} (hp : PermIn 0 d.size d d') (hs : SortedIn (ltOf (cfW key)) 0 d.size d') : (d'.toList.map (·.1)).Perm (d.toList.map (·.1)) ∧ SortedC key (d'.toList.map (·.1)) := by
  obtain ⟨h1, _, h3⟩ := hp
  refine ⟨?_, fun i j hij hj => ?_⟩
  · have e1 : d'.extract 0 d.size = d' := by rw [← h1]; simp
    have e2 : d.extract 0 d.size = d := by simp
    rw [e1, e2] at h3
    exact h3.map _
  · have hj' : j < d'.size := by simpa using hj
    have h := hs i j (Nat.zero_le _) hij (by omega)
    rw [ltOf_no, getElem!_pos d' j hj', getElem!_pos d' i (by omega)] at h
    have e1 : (d'.toList.map (·.1)).getD j ch0 = d'[j].1 := by simp [hj']
    have e2 : (d'.toList.map (·.1)).getD i ch0 = (d'[i]'(by omega)).1 := by simp [show i < d'.size by omega]
    rw [e1, e2]
    exact h
theorem sort_lots (key g cap : Nat) (ds : List Wc) (w : World) {B : Nat} (h : w.ownsRow B 185 3 (.slice (some ⟨g, 0, none⟩) ds.length cap) ds.length (cellsLot key (ds.map (·.1)))) (h64 : ds.length ≤ 64) :
    Calls Tryz.prog 163 #[.slice (some ⟨g, 0, none⟩) ds.length cap, .func (.func 164) #[] #[]] w fun e w' => e = .returned (.tuple #[]) ∧ SortPost B g cap key (ds.map (·.1)) w w' := by
  have eg : ∀ args w, (callFunc 164 args).run Tryz.prog w = .ok (.enter 164 args) w := enters_of Tryz.func164 (by kernel_rfl) rfl
  have hown := h
  obtain ⟨hl, ⟨hv, _⟩ | ⟨g', cap', cur, hv, hB, hh, hc, hcm, hcs, ht⟩⟩ := h
  · cases hv
  injection hv with ha _ hcap
  injection ha with ha
  injection ha with hgg _ _
  subst hgg
  subst hcap
  have hgl : g < w.heap.size := (Array.getElem?_eq_some_iff.1 hh).1
  have hH : Go.Sort.HoldsK (encW key) 3 w g 0 ds.toArray := by
    intro j hj
    rw [Go.Sort.size_flatK] at hj
    have hj' : j < ds.length * 3 := by simpa using hj
    have e := flat_eq key ds.toArray
    have hx : (cellsLot key (ds.map (·.1)))[j]? = some (Go.Sort.flatK (encW key) 3 ds.toArray)[j]! := by
      have e2 : ds.map (·.1) = ds.toArray.toList.map (·.1) := by simp
      rw [e2, ← e, Array.getElem?_toList, Array.getElem?_eq_getElem (by simpa using hj'), getElem!_pos _ j (by simpa using hj')]
    refine ⟨?_, ?_⟩
    · rw [Nat.zero_add, hown.cellAt j (by omega), hx]
      rfl
    · rw [Nat.zero_add]
      exact Lib.frozen_of_heap hh j
  have hcon := AnyQ.slices_SortFunc Lay.sort 3 Tryz.isAgg185 Tryz.sizeOf185 (encW key) (fun _ => rfl) (fun x v hv => by simp [encW, lotCells] at hv; rcases hv with rfl | rfl | rfl <;> rfl) (cfW key) (swo key) 164 #[] g 0 cap ds.toArray w eg (fun _ _ _ _ x y => compare_any key x.1 y.1 _) hH hgl (by simp; omega)
  have hsz : ds.toArray.size = ds.length := by simp
  rw [hsz] at hcon
  refine Calls.mono hcon ?_
  rintro e w' ⟨he, d', n, os, hp, hs, rfl⟩
  have hp' : PermIn 0 ds.toArray.size ds.toArray d' := by rw [hsz]; exact hp
  have hs' : SortedIn (ltOf (cfW key)) 0 ds.toArray.size d' := by rw [hsz]; exact hs
  obtain ⟨hperm, hsort⟩ := sorted_of hp' hs'
  have hds : d'.size = ds.length := by have := hp.1; simpa using this
  have hheap : ∀ k, k < w.heap.size → (Go.Proofs.sortWorldK (encW key) 3 w g 0 n d' os).heap[k]? = if k = g then some (.cells (Go.Sort.putCells id 0 (Go.Sort.flatK (encW key) 3 d') cur) 185 (0, 0)) else w.heap[k]? := by
    intro k hk
    show ((w.heap.modify g (Go.Sort.onCells (Go.Sort.putCells id 0 (Go.Sort.flatK (encW key) 3 d')))) ++ os)[k]? = _
    rw [Array.getElem?_append_left (by simpa using hk), Array.getElem?_modify]
    by_cases hkg : k = g
    · subst hkg
      rw [if_pos rfl, if_pos rfl, hh]
      rfl
    · rw [if_neg (fun e => hkg e.symm), if_neg hkg]
  refine ⟨he, ⟨d'.toList.map (·.1), by simpa using hperm, hsort, ?_, .inr ⟨g, cap, Go.Sort.putCells id 0 (Go.Sort.flatK (encW key) 3 d') cur, rfl, hB, ?_, by simpa using hc, hcm, ?_, ?_⟩⟩, ?_⟩
  · rw [cellsLot_length]; simp [hds]
  · rw [hheap g hgl, if_pos rfl]
  · simp [Go.Sort.putCells, hcs]
  · rw [← flat_eq key d']
    apply List.ext_getElem?
    intro t
    have hfs : (Go.Sort.flatK (encW key) 3 d').size = ds.length * 3 := by simp [hds]
    have hml : (ds.map (·.1)).length = ds.length := by simp
    rw [hml]
    by_cases htl : t < ds.length * 3
    · rw [List.getElem?_take_of_lt htl, Array.getElem?_toList, Array.getElem?_toList]
      unfold Go.Sort.putCells
      have hcl : ds.length * 3 ≤ cur.size := by rw [hcs]; exact Nat.mul_le_mul_right _ hc
      rw [Array.getElem?_mapIdx, Array.getElem?_eq_getElem (by omega), Array.getElem?_eq_getElem (by omega)]
      simp only [Option.map_some]
      rw [if_pos ⟨Nat.zero_le _, by omega⟩, Nat.sub_zero, getElem!_pos _ t (by omega)]
      rfl
    · rw [List.getElem?_eq_none (by simp; omega), List.getElem?_eq_none (by simp; omega)]
  · refine ⟨rfl, rfl, rfl, ?_, fun k hk hne => ?_⟩
    · show w.heap.size ≤ ((w.heap.modify g _) ++ os).size
      simp
    · rw [hheap k hk, if_neg (fun e => hne (by rw [e]))]
end Go.Proofs.YtcncbjknfcjnmaaGreat.Dr
