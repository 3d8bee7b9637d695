/-
  Regions that draw, by hand; the answer's Put.
-/
import Derived.Test.YtpolehfkjpbofaaTaN
import Derived.BigRegion
import Derived.Deep.RegionHeld3
import Derived.StillTail
namespace Go.Proofs.Ytpolehfkjpbofaa.Ta
open Go.ChangeShapes Go.WideShapes Go.ChangeAt Go.RowKit
theorem mixed9 : Try.prog.follows .mixedOrders = true := by kernel_rfl
theorem held_one {P : Program} {ops : Array Oper} {Q : Exit → Act → World → Prop} {md : Region.Mode} {S : World → Prop} {i : Nat} {o : Oper} {fuel : Nat} {listed : Array Bool} {a : Act} {w : World} (hr : Region.ready md ops listed = [i]) (ho' : ops.toList[i]? = some o) (hg : Region.wanted o (yielded ops a.tmps) = true)
    (h : ∀ K : Act → World → Prop, Hid (∀ a' w', S w' → wpAnyH P md ops Q S fuel (listed.setIfInBounds i true) a' w' → K a' w') → o.wp P a w K Q) : wpAnyH P md ops Q S (fuel + 1) listed a w := by
  have ho : ops[i]? = some o := by simpa using ho'
  refine wpAnyH_all hr (by simp) (fun j hj => ?_)
  obtain rfl : j = i := by simpa using hj
  unfold wpOp
  simp only [ho]
  rw [if_pos hg]
  exact .inl (h _ ⟨fun _ _ h1 h2 => ⟨h1, h2⟩⟩)
theorem held_two {P : Program} {ops : Array Oper} {Q : Exit → Act → World → Prop} {md : Region.Mode} {S : World → Prop} {i j : Nat} {o o2 : Oper} {fuel : Nat} {listed : Array Bool} {a : Act} {w : World} (hr : Region.ready md ops listed = [i, j]) (hi : ops.toList[i]? = some o) (hj : ops.toList[j]? = some o2) (hg : Region.wanted o (yielded ops a.tmps) = true) (hg2 : Region.wanted o2 (yielded ops a.tmps) = true)
    (h : ∀ K : Act → World → Prop, Hid (∀ a' w', S w' → wpAnyH P md ops Q S fuel (listed.setIfInBounds i true) a' w' → K a' w') → o.wp P a w K Q)
    (h2 : ∀ K : Act → World → Prop, Hid (∀ a' w', S w' → wpAnyH P md ops Q S fuel (listed.setIfInBounds j true) a' w' → K a' w') → o2.wp P a w K Q) : wpAnyH P md ops Q S (fuel + 1) listed a w := by
  have ho : ops[i]? = some o := by simpa using hi
  have ho2 : ops[j]? = some o2 := by simpa using hj
  refine wpAnyH_all hr (by simp) (fun l hl => ?_)
  have hl2 : l = i ∨ l = j := by simpa using hl
  rcases hl2 with rfl | rfl
  · unfold wpOp
    simp only [ho]
    rw [if_pos hg]
    exact .inl (h _ ⟨fun _ _ h1 h2 => ⟨h1, h2⟩⟩)
  · unfold wpOp
    simp only [ho2]
    rw [if_pos hg2]
    exact .inl (h2 _ ⟨fun _ _ h1 h2 => ⟨h1, h2⟩⟩)
theorem held_take {P : Program} {ops : Array Oper} {Q : Exit → Act → World → Prop} {md : Region.Mode} {S : World → Prop} {i : Nat} {oi : Oper} {v : Value} {fuel : Nat} {listed : Array Bool} {a : Act} {w : World} (hi : ops.toList[i]? = some oi)
    (hB : (Region.noSelect ops && Region.free md ops listed i && (Region.ready md ops listed).contains i) = true)
    (hQ : ∀ c a w, Q (.panic c) (a.put oi.dst v) w → Q (.panic c) a w) (hy : YieldsIf P ops S oi v a) (hS : S w)
    (h : wpAnyH P md ops Q S fuel (listed.setIfInBounds i true) (a.put oi.dst v) w) : wpAnyH P md ops Q S (fuel + 1) listed a w := by
  simp only [Bool.and_eq_true] at hB
  exact wpAnyH_take (by simpa using hi) hB.1.1 hB.1.2 hB.2 hQ hy hS h
theorem held_start {P : Program} {ops : Array Oper} {Q : Exit → Act → World → Prop} {S : World → Prop} {id : Nat} {a : Act} {w : World} (hm : P.follows .mixedOrders = true) (h : wpAnyH P .any ops (NoPanic Q) S ops.size (Array.replicate ops.size false) a w.drew) : (Code.region id ops true).wp P Q a w :=
  wp_region_noPanic (wp_region_held hm h)
/-- a region of a body, by its number -/
def regionOf (n : Nat) : Code → Option Code
  | .region id ops d => if id = n then some (.region id ops d) else none
  | .loop c => regionOf n c
  | .seq a b => match regionOf n a with
    | some c => some c
    | none => regionOf n b
  | .block _ c => regionOf n c
  | .scope c => regionOf n c
  | .cond _ a b => match regionOf n a with
    | some c => some c
    | none => regionOf n b
  | _ => none
/-- many behind an own row: one operation -/
theorem wp_append_vs {w w0 : World} {o : Oper} {a : Act} {K : Act → World → Prop} {Q : Exit → Act → World → Prop} {t e by8 : Nat} {z : Value} (ht : Try.prog.underlying t = some (.slice e)) (hinfo : (Try.prog.info? e).map (fun i => (i.zero, i.size, i.bytes)) = some (some z, 1, by8)) (hz : z.cells.size = 1) (h24 : by8 ≤ 24) (s x : Operand)
    (ho : o.op = .call { callee := .builtin .append, args := #[s, x], argTypes := #[t, t] })
    (v : Value) (n : Nat) (L : List Value) (hs : a.eval s = v) (hown : w.ownsRow w0.heap.size e 1 v n L) (hb : Below w0.heap.size w0 w)
    (ad : Option Addr) (m c : Nat) (M : List Value) (hx : a.eval x = .slice ad m c) (hM : VsAt e w ad m c M) (h1 : ∀ u ∈ M, u.oneCell' = true) (hn : (n : Int) ≤ 1000) (hm : (m : Int) ≤ 1000)
    (h : ∀ v' w', w'.ownsRow w0.heap.size e 1 v' (n + m) (L ++ M) → Below w0.heap.size w0 w' → w.grownBy w' v.ownBlock → K (a.put o.dst v') w') : o.wp Try.prog a w K Q := by
  obtain ⟨i0, hi, hz0, hz1, hz2⟩ := info_parts hinfo
  by_cases h0 : m = 0
  · subst h0
    have hM0 : M = [] := List.length_eq_zero_iff.1 hM.1
    subst hM0
    have hl : ∀ (x : Addr), (loadCells x 0).run Try.prog w = .ok #[] w := fun x => by simpa using run_loadCells_list (P := Try.prog) w x [] (by simp)
    have hrun : (Builtin.append_ #[t, t] o.type #[v, .slice ad 0 c]).run Try.prog w = .ok v w := by
      rcases hown.2 with ⟨rfl, rfl⟩ | ⟨g, cap, cur, rfl, _, _, hnc, _⟩ <;> cases ad <;> simp [Builtin.append_, run_underlying ht, sizeOf, typeInfo, Builtin.lenOf, Builtin.firstCells, storeCells, *]
    unfold Oper.wp
    simp [execOp, ho, resolve, invoke, builtin, hs, hx, hrun]
    exact h v w (by rw [List.append_nil]; exact hown) hb ⟨rfl, rfl, rfl, Nat.le_refl _, fun _ _ _ => rfl⟩
  · rcases hM.2.2.2 with hh | ⟨b, off, rfl, _, hc⟩
    · omega
    · refine wp_append_own w s x t ho w0.heap.size e i0 z 1 by8 ht hi hz0 hz1 hz2 hz (by decide) v n L hs hown ⟨b, off, none⟩ m c M hx (by rw [hM.1]; omega) (fun j u hj => by rw [addr_add2]; exact hc j u hj) h1 (by unfold maxLen; omega) (Nat.le_trans (Nat.mul_le_mul_left _ h24) (by omega)) hb.size ?_
      intro v' w' hown' hg _
      exact h v' w' hown' (hb.grown hg hb.size (fun k hk => (hown.lt k hk).1)) hg
theorem Bx3.grown {w w' : World} {b T : Nat} {v0 v1 v2 : Value} {row : Option Nat} (h : Bx3 w b T v0 v1 v2) (hg : w.grownBy w' row) (hr : row ≠ some b) : Bx3 w' b T v0 v1 v2 := h.kept (hg.block b h.lt fun e => hr e.symm)
/-- an own row of ints lies in no box -/
theorem own_apart {w : World} {B n b T : Nat} {v v0 v1 v2 : Value} {xs : List Value} (ho : w.ownsRow B 3 1 v n xs) (hx : Bx3 w b T v0 v1 v2) (hT : T ≠ 3) : v.ownBlock ≠ some b := by
  obtain ⟨_, ⟨rfl, _⟩ | ⟨g, cap, cur, rfl, _, hh, _⟩⟩ := ho
  · simp [Value.ownBlock]
  · intro hg
    simp [Value.ownBlock] at hg
    subst hg
    unfold Bx3 at hx
    rw [hx] at hh
    simp at hh
    exact hT hh.2
theorem own_alloc {w : World} {B n s : Nat} {E : TypeId} {v : Value} {xs : List Value} (h : w.ownsRow B E s v n xs) (o : Obj) : (w.alloc o).ownsRow B E s v n xs := by
  obtain ⟨h1, ⟨rfl, h2⟩ | ⟨g, cap, cur, rfl, h2, hh, h3⟩⟩ := h
  · exact ⟨h1, .inl ⟨rfl, h2⟩⟩
  · exact ⟨h1, .inr ⟨g, cap, cur, rfl, h2, (heap_alloc_old w o (Array.getElem?_eq_some_iff.1 hh).1).trans hh, h3⟩⟩
theorem vs_lit (w : World) (x : Int) : VsAt 3 (w.alloc (.cells #[.int .i64 x] 3)) (some ⟨w.heap.size, 0, none⟩) 1 1 [.int .i64 x] := by
  refine ⟨rfl, Nat.le_refl _, by unfold maxLen; omega, .inr ⟨w.heap.size, 0, rfl, ⟨_, heap_alloc_new w _⟩, fun i v hv => ?_⟩⟩
  obtain rfl : i = 0 := by have := (List.getElem?_eq_some_iff.1 hv).1; simp at this; exact this
  unfold World.cell?
  rw [show (w.alloc (.cells #[.int .i64 x] 3)).heap[(⟨w.heap.size, 0 + 0, none⟩ : Addr).block]? = _ from heap_alloc_new w _]
  simpa using hv
theorem VsAt.grown {w w' : World} {T g m c : Nat} {xs : List Value} {row : Option Nat} (h : VsAt T w (some ⟨g, 0, none⟩) m c xs) (hm : m ≠ 0) (hg : w.grownBy w' row) (hr : row ≠ some g) : VsAt T w' (some ⟨g, 0, none⟩) m c xs := by
  refine ⟨h.1, h.2.1, h.2.2.1, ?_⟩
  rcases h.2.2.2 with h0 | ⟨b, off, e, ⟨cc, hb⟩, hc⟩
  · exact absurd h0 hm
  · simp at e
    obtain ⟨rfl, rfl⟩ := e
    have hk := hg.block g (Array.getElem?_eq_some_iff.1 hb).1 (fun e => hr e.symm)
    exact .inr ⟨g, 0, rfl, ⟨cc, hk.trans hb⟩, fun i v hv => by rw [cell_block hk]; exact hc i v hv⟩
theorem ints_one (l : List Int) : ∀ u ∈ intsV l, u.oneCell' = true := by
  intro u hu
  simp [intsV] at hu
  obtain ⟨x, _, rfl⟩ := hu
  rfl
end Go.Proofs.Ytpolehfkjpbofaa.Ta
