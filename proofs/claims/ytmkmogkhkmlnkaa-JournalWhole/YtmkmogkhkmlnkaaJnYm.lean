/-
  The lists of data that may be found.
-/
import Derived.Test.YtmkmogkhkmlnkaaJnYl
namespace Go.Proofs.Ytmkmogkhkmlnkaa.Dm
open Go.ChangeShapes Go.WideShapes Go.ChangeAt Go.RowKit
theorem infoL : (Try.prog.info? 33).map (fun i => (i.zero, i.size, i.bytes)) = some (some (.slice none 0 0), 1, 24) := by kernel_rfl
/-- blocks of lists of data, of numbers and of texts stand -/
def Kr (w w' : World) : Prop := ∀ (b : Nat) (c : Array Value) (T : TypeId) (fz : Nat × Nat), w.heap[b]? = some (.cells c T fz) → (T = 38 ∨ T = 3 ∨ T = 9) → w'.heap[b]? = some (.cells c T fz)
theorem Kj.kr {w w' : World} (h : Kj w w') : Kr w w' := fun b c T fz hc hT => h b c T fz hc (by rcases hT with rfl | rfl | rfl <;> decide) (by rcases hT with rfl | rfl | rfl <;> decide) (by rcases hT with rfl | rfl | rfl <;> decide) (by rcases hT with rfl | rfl | rfl <;> decide)
theorem RecAt.kr {N : Nat} {w w' : World} {v : Value} {ds : List Fr.Dat} (h : RecAt N w v ds) (hk : Kr w w') : RecAt N w' v ds := by
  obtain ⟨ps, h1, h2, h3, h4⟩ := h
  refine ⟨ps, own_of h1 fun g hg => ?_, h2, fun i hi => ?_, fun p hp => (h4 p hp).keep fun b c T hc hT => ⟨c, hk _ _ _ _ hc (.inr hT)⟩⟩
  · obtain ⟨cur, hc⟩ := own_T h1 hg
    exact (hk _ _ _ _ hc (.inl rfl)).trans hc.symm
  · obtain ⟨a1, n1, c1, a2, n2, c2, e, r1, r2, r3, r4⟩ := h3 i hi
    obtain ⟨b1, m1, d1, b2, m2, d2, e', f1, f2⟩ := h4 _ (List.getElem_mem hi)
    rw [e] at e'
    simp at e'
    obtain ⟨⟨rfl, rfl, rfl⟩, rfl, rfl, rfl⟩ := e'
    rw [e]
    refine ⟨_, _, _, _, _, _, rfl, Fr.row_stab r1 fun x hx _ => ?_, Fr.row_stab r2 fun x hx _ => ?_, r3, r4⟩
    · obtain ⟨c, hc⟩ := f1 x hx
      exact (hk _ _ _ _ hc (.inr (.inl rfl))).trans hc.symm
    · obtain ⟨c, hc⟩ := f2 x hx
      exact (hk _ _ _ _ hc (.inr (.inr rfl))).trans hc.symm
/-- lists of data, one behind the other -/
def MayAt (N : Nat) (w : World) (v : Value) (M : List (List Fr.Dat)) : Prop := ∃ vs : List Value, w.ownsRow N 33 1 v M.length vs ∧ vs.length = M.length ∧ ∀ (i : Nat) (x : Value), vs[i]? = some x → ∃ m, M[i]? = some m ∧ RecAt N w x m
theorem MayAt.kj {N : Nat} {w w' : World} {v : Value} {M : List (List Fr.Dat)} (h : MayAt N w v M) (hk : Kj w w') : MayAt N w' v M := by
  obtain ⟨vs, h1, h2, h3⟩ := h
  refine ⟨vs, own_of h1 fun g hg => ?_, h2, fun i x hx => ?_⟩
  · obtain ⟨cur, hc⟩ := own_T h1 hg
    exact (hk _ _ _ _ hc (by decide) (by decide) (by decide) (by decide)).trans hc.symm
  · obtain ⟨m, hm, hr⟩ := h3 i x hx
    exact ⟨m, hm, hr.kj hk⟩
theorem MayAt.below {N : Nat} {w w' : World} {v : Value} {M : List (List Fr.Dat)} (h : MayAt N w v M) (hb : Below w.heap.size w w') : MayAt N w' v M := h.kj (Kj.below hb)
theorem kr_grown {w w' : World} {o : Option Nat} (hg : w.grownBy w' o) (ho : ∀ g, o = some g → ∃ c, w.heap[g]? = some (.cells c 33 (0, 0))) : Kr w w' := fun b c T fz hc hT => (hg.block b (Array.getElem?_eq_some_iff.1 hc).1 fun e => by
  obtain ⟨c', hc'⟩ := ho b e.symm
  have := heap_T hc hc'
  rcases hT with rfl | rfl | rfl
  · exact absurd this (by decide)
  · exact absurd this (by decide)
  · exact absurd this (by decide)).trans hc
/-- one more -/
theorem MayAt.snoc {N : Nat} {w w' : World} {v v' x : Value} {M : List (List Fr.Dat)} {m : List Fr.Dat} {vs : List Value} (h2 : vs.length = M.length) (h3 : ∀ (i : Nat) (x : Value), vs[i]? = some x → ∃ m, M[i]? = some m ∧ RecAt N w x m) (ho : w'.ownsRow N 33 1 v' (M.length + 1) (vs ++ [x])) (hk : Kr w w') (hx : RecAt N w x m) (_ : v = v) : MayAt N w' v' (M ++ [m]) := by
  refine ⟨vs ++ [x], by rw [List.length_append]; exact ho, by simp [h2], fun i y hy => ?_⟩
  by_cases hi : i < vs.length
  · rw [List.getElem?_append_left hi] at hy
    obtain ⟨m', hm', hr⟩ := h3 i y hy
    exact ⟨m', by rw [List.getElem?_append_left (by omega)]; exact hm', hr.kr hk⟩
  · rw [List.getElem?_append_right (by omega)] at hy
    have h0 : i - vs.length = 0 := by
      have := (List.getElem?_eq_some_iff.1 hy).1
      simp at this
      omega
    rw [h0] at hy
    have : x = y := by simpa using hy
    subst this
    refine ⟨m, ?_, hx.kr hk⟩
    rw [List.getElem?_append_right (by omega), ← h2, h0]
    simp
theorem may_one {N : Nat} {w : World} {x : Value} {m : List Fr.Dat} (hN : N ≤ w.heap.size) (hx : RecAt N w x m) : MayAt N (w.alloc (.cells #[x] 33)) (.slice (some ⟨w.heap.size, 0, none⟩) 1 1) [m] := by
  refine ⟨[x], World.ownsRow_lit w #[x] 1 hN (by decide) rfl, rfl, fun i y hy => ?_⟩
  have h0 : i = 0 := by
    have := (List.getElem?_eq_some_iff.1 hy).1
    simpa using this
  subst h0
  have : x = y := by simpa using hy
  subst this
  exact ⟨m, rfl, hx.below (below_alloc _ _)⟩
theorem rec_nil {N : Nat} {w : World} (hN : N ≤ w.heap.size) : RecAt N (w.alloc (.cells #[] 38)) (.slice (some ⟨w.heap.size, 0, none⟩) 0 0) [] := ⟨[], World.ownsRow_lit w #[] 0 hN (Nat.zero_le _) rfl, rfl, fun i hi => absurd hi (Nat.not_lt_zero _), fun p hp => by cases hp⟩
/-- the journal's blocks stand -/
def Kw (w w' : World) : Prop := ∀ (b : Nat) (c : Array Value) (T : TypeId), w.heap[b]? = some (.cells c T (0, 0)) → (T = 58 ∨ T = 90 ∨ T = 5 ∨ T = 53) → w'.heap[b]? = some (.cells c T (0, 0))
theorem kw_grown {w w' : World} {o : Option Nat} (hg : w.grownBy w' o) (ho : ∀ g, o = some g → ∃ c, w.heap[g]? = some (.cells c 33 (0, 0))) : Kw w w' := fun b c T hc hT => (hg.block b (Array.getElem?_eq_some_iff.1 hc).1 fun e => by
  obtain ⟨c', hc'⟩ := ho b e.symm
  have := heap_T hc hc'
  rcases hT with rfl | rfl | rfl | rfl <;> exact absurd this (by decide)).trans hc
theorem JS.kw {B j a s k n : Nat} {z : Bool} {A P : Nat} {R cur : List Fr.Dat} {q : Bool} {w w' : World} (h : JS B j a s k n z A P R cur q w) (hk : Kw w w') : JS B j a s k n z A P R cur q w' := by
  obtain ⟨D, J, pv, fv, b, g, h1, h2⟩ := h
  refine ⟨D, J, pv, fv, b, g, ⟨h1.d.keep fun x hx => ?_, h1.r.keep ((hk _ _ _ h1.r.box (by simp)).trans h1.r.box.symm) fun x hx => ?_, h1.ap⟩, h2⟩
  · rcases hx with rfl | rfl | rfl | hx
    · exact (hk _ _ _ h1.d.box (by simp)).trans h1.d.box.symm
    · exact (hk _ _ _ h1.d.hseen (by simp)).trans h1.d.hseen.symm
    · exact (hk _ _ _ h1.d.hkept (by simp)).trans h1.d.hkept.symm
    · obtain ⟨c, hc⟩ := own_T h1.d.own hx
      exact (hk _ _ _ hc (by simp)).trans hc.symm
  · obtain ⟨c, hc⟩ := own_T h1.r.own hx
    exact (hk _ _ _ hc (by simp)).trans hc.symm
/-- the state of the law: what may be found, and the journal -/
def LS (w : World) (j a s k n i : Nat) (q : Bool) (v : Value) (wr : World) : Prop := ∃ M R cur, MayAt w.heap.size wr v M ∧ R ∈ M ∧ M.length ≤ i + 1 ∧ JS w.heap.size j a s k n false (i + 1) (50 * i + 30) R cur q wr ∧ Below w.heap.size w wr
end Go.Proofs.Ytmkmogkhkmlnkaa.Dm
