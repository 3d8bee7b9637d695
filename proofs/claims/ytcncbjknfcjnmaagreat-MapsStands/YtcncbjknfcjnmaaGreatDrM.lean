/-
  The contract of Order: all that have weight, the best one first.
-/
import Derived.Test.YtcncbjknfcjnmaaGreatDrL
namespace Go.Proofs.YtcncbjknfcjnmaaGreat.Dr
open Go.ChangeShapes Go.WideShapes Go.ChangeAt Go.RowKit
theorem bits_zero (W : World) : Calls Tryz.prog 118 #[.int .u64 0] W fun e w' => (∃ l : Int, e = .returned (.int .i64 l)) ∧ w' = W :=
  (Any.bits_Len (SlLaysF0.n15.bits (P := Tryz.prog) (ρ := Lay.sort_ren) { Lay.sort with }) 0 W (by omega) (by omega)).mono fun _ _ ⟨he, hw⟩ => ⟨⟨_, he⟩, hw⟩
set_option maxHeartbeats 2000000 in
theorem insert_none (p : Option Addr) (cap : Nat) (fv : Value) (w : World) : Calls Tryz.prog 185 #[.slice p 0 cap, .int .i64 0, .int .i64 0, fv] w fun e w' => e = .returned (.tuple #[]) ∧ w' = w := by
  go_enter Tryz.func185, Tryz.ntmps185
  go_wp2
  refine wp_loop_rounds 1 ?_
  rw [rounds_succ]
  go_wp2
  go_end0
  exact ⟨rfl, rfl⟩
set_option maxHeartbeats 2000000 in
theorem pdq_none (p : Option Addr) (cap : Nat) (lim : Int) (fv : Value) (w : World) : Calls Tryz.prog 175 #[.slice p 0 cap, .int .i64 0, .int .i64 0, .int .i64 lim, fv] w fun e w' => e = .returned (.tuple #[]) ∧ w' = w := by
  go_enter Tryz.func175, Tryz.ntmps175
  go_wp2
  refine wp_loop_rounds 1 ?_
  rw [rounds_succ]
  go_wp2_with (go_at_call 185; refine (insert_none _ _ _ _).mono ?_; rintro e w' ⟨rfl, rfl⟩)
  (try simp only [Exit.inBlock, Exit.then]); refine bodyPost_ret (results_none rfl _ _ _) rfl ?_
  exact ⟨rfl, rfl⟩
set_option maxHeartbeats 2000000 in
theorem sort_none (p : Option Addr) (cap : Nat) (fv : Value) (w : World) : Calls Tryz.prog 163 #[.slice p 0 cap, fv] w fun e w' => e = .returned (.tuple #[]) ∧ w' = w := by
  have hl : ∀ W, Calls Tryz.prog 118 #[.int .u64 0] W fun e w' => (∃ l : Int, e = .returned (.int .i64 l)) ∧ w' = W := bits_zero
  go_enter Tryz.func163, Tryz.ntmps163
  go_wp2_with (first | (go_at_call 118; refine (hl _).mono ?_; rintro e w' ⟨⟨l, rfl⟩, rfl⟩) | (go_at_call 175; refine (pdq_none _ _ _ _ _).mono ?_; rintro e w' ⟨rfl, rfl⟩))
  go_end0
  exact ⟨rfl, rfl⟩
/-- lots of this and their order, whether there are any or not -/
def SortedPost (B key : Nat) (lv : Value) (L : List Ch) (w w' : World) : Prop := (∃ L' : List Ch, L'.Perm L ∧ SortedC key L' ∧ w'.ownsRow B 185 3 lv L.length (cellsLot key L')) ∧ w.grownBy w' lv.ownBlock
theorem sort_any {B key : Nat} (lv : Value) (L : List Ch) (w : World) (h : w.ownsRow B 185 3 lv L.length (cellsLot key L)) (hW : ∀ c ∈ L, 1 ≤ c.2 ∧ c.2 ≤ 65536) (h64 : L.length ≤ 64) :
    Calls Tryz.prog 163 #[lv, .func (.func 164) #[] #[]] w fun e w' => e = .returned (.tuple #[]) ∧ SortedPost B key lv L w w' := by
  cases L with
  | nil =>
    obtain ⟨a, cap, rfl, -⟩ := own_slice h
    refine (sort_none a cap _ w).mono ?_
    rintro e w' ⟨rfl, rfl⟩
    exact ⟨rfl, ⟨[], List.Perm.refl _, fun i j _ hj => absurd hj (by simp), h⟩, below_grownBy (Below.refl _ _) _⟩
  | cons c s =>
    obtain ⟨g, cap, rfl, -⟩ := own_some h (by simp)
    have : Inhabited Wc := ⟨⟨c, hW c (by simp)⟩⟩
    have e1 : ((c :: s).pmap (fun c h => (⟨c, h⟩ : Wc)) hW).map (·.1) = c :: s := by
      rw [List.map_pmap]
      simp
    have e2 : ((c :: s).pmap (fun c h => (⟨c, h⟩ : Wc)) hW).length = (c :: s).length := by simp
    generalize (c :: s).pmap (fun c h => (⟨c, h⟩ : Wc)) hW = ds at *
    have hcon := sort_lots key g cap ds w (B := B) (by rw [e1, e2]; exact h) (by omega)
    rw [e1, e2] at hcon
    refine Calls.mono hcon ?_
    rintro e w' ⟨rfl, hP, hg⟩
    exact ⟨rfl, hP, hg⟩
/-- ints as they lie -/
def intCells (l : List Int) : List Value := l.map (Value.int .i64)
def IntsAt (w : World) (a : Option Addr) (l : List Int) : Prop := l = [] ∨ ∃ b, a = some ⟨b, 0, none⟩ ∧ b < w.heap.size ∧ ∀ i, i < l.length → w.cell? ⟨b, i, none⟩ = some (.int .i64 (l.getD i 0))
theorem ints_own {w : World} {B n cap : Nat} {a : Option Addr} {l : List Int} (h : w.ownsRow B 3 1 (.slice a n cap) n (intCells l)) (hn : n = l.length) : IntsAt w a l := by
  have hlt := h.lt
  rcases h.2 with ⟨_, h0⟩ | ⟨g, cap', cur, hv, hB, hh, _⟩
  · left
    exact List.length_eq_zero_iff.1 (by omega)
  · injection hv with ha hn' hc
    subst ha
    right
    refine ⟨g, rfl, (hlt g rfl).2, fun i hi => ?_⟩
    rw [h.cellAt i (by omega)]
    simp [intCells, hi]
theorem IntsAt.below {w w' : World} {a : Option Addr} {l : List Int} (h : IntsAt w a l) (hb : Below w.heap.size w w') : IntsAt w' a l := by
  rcases h with h | ⟨b, e, hl, hc⟩
  · exact .inl h
  · exact .inr ⟨b, e, Nat.lt_of_lt_of_le hl hb.size, fun i hi => (hb.cell (p := ⟨b, i, none⟩) hl).trans (hc i hi)⟩
/-- the order of choices, whether they may be or not -/
def OrdC (key : Nat) (ls : List Ch) (ids : List Int) : Prop :=
  (MayC ls ∧ ∃ s : List Ch, s.Perm (heavy ls) ∧ s.Pairwise (ltC (costOf key)) ∧ ids = s.map (·.1)) ∨ (¬ MayC ls ∧ ids = [])
def OrderPost (key : Nat) (ls : List Ch) (w : World) (e : Ending) (w' : World) : Prop :=
  Below w.heap.size w w' ∧ ∃ p cap ids, e = .returned (.slice (some ⟨p, 0, none⟩) ids.length cap) ∧ w.heap.size ≤ p ∧ IntsAt w' (some ⟨p, 0, none⟩) ids ∧ ids.length ≤ 64 ∧ ids.length ≤ cap ∧ cap ≤ 64 ∧ OrdC key ls ids
theorem sorted_pair {key : Nat} {L s : List Ch} (hp : s.Perm L) (hr : Rise L) (hs : SortedC key s) : s.Pairwise (ltC (costOf key)) := by
  have hd : s.Pairwise (fun a b => a.1 ≠ b.1) := by
    have h1 : L.Pairwise (fun a b => a.1 ≠ b.1) := by
      unfold Rise at hr
      rw [List.pairwise_iff_getElem] at hr ⊢
      intro i j hi hj hij
      have := hr i j hi hj hij
      omega
    exact h1.perm hp.symm (fun h e => h e.symm)
  rw [List.pairwise_iff_getElem] at hd ⊢
  intro i j hi hj hij
  have h1 := hs i j hij hj
  rw [getD_get hi, getD_get hj] at h1
  exact (ltC_total _ (hd i j hi hj hij)).resolve_right h1
theorem set_next (ids : List Int) (n k : Nat) (hn : ids.length = n) (hk : k < n) : (intCells (ids.take k) ++ List.replicate (n - k) (Value.int .i64 0)).set k (Value.int .i64 (ids.getD k 0)) = intCells (ids.take (k + 1)) ++ List.replicate (n - (k + 1)) (Value.int .i64 0) := by
  have hl : (intCells (ids.take k)).length = k := by simp [intCells]; omega
  obtain ⟨m, hm⟩ : ∃ m, n - k = m + 1 := ⟨n - k - 1, by omega⟩
  have hg : ids.getD k 0 = ids[k]'(by omega) := by simp [show k < ids.length by omega]
  rw [List.set_append_right _ _ (by omega), hl, Nat.sub_self, hm, List.replicate_succ, List.set_cons_zero, show n - (k + 1) = m by omega, List.take_succ_eq_append_getElem (by omega), hg]
  unfold intCells
  rw [List.map_append, List.append_assoc]
  rfl
end Go.Proofs.YtcncbjknfcjnmaaGreat.Dr
