/-
  What must be proposed; an acceptor that accepts; regions 36 and 40 as one.
-/
import Derived.Test.YtejhmacbbdnlbaaAcZ1
import Derived.Test.YtejhmacbbdnlbaaAcX5
import Derived.Test.YtejhmacbbdnlbaaAcX6
namespace Go.Proofs.Ytejhmacbbdnlbaa.Ac
open Go.Maps
open Go.ChangeShapes Go.WideShapes Go.ChangeAt Go.RowKit
/-- a slice of values of one cell each, wherever it lies -/
def VsU (w : World) (ad : Option Addr) (m c : Nat) (xs : List Value) : Prop :=
  xs.length = m ∧ m ≤ c ∧ c ≤ maxLen ∧ (m = 0 ∨ ∃ b off, ad = some ⟨b, off, none⟩ ∧ ∀ (i : Nat) (v : Value), xs[i]? = some v → w.cell? ⟨b, off + i, none⟩ = some v)
theorem VsU.below {w w' : World} {ad : Option Addr} {m c : Nat} {xs : List Value} (h : VsU w ad m c xs) (hb : Below w.heap.size w w') : VsU w' ad m c xs := by
  refine ⟨h.1, h.2.1, h.2.2.1, ?_⟩
  rcases h.2.2.2 with h0 | ⟨b, off, e, hc⟩
  · exact .inl h0
  · exact .inr ⟨b, off, e, fun i v hv => (hb.cell (p := ⟨b, off + i, none⟩) (World.block_lt_of_cell? w ⟨b, off + i, none⟩ (hc i v hv))).trans (hc i v hv)⟩
theorem append_vu {w w0 : World} {ops : Array Oper} {rest : List Oper} {o : Oper} {a : Act} {Q : Exit → Act → World → Prop} {t e by8 : Nat} {z : Value} (ht : Try.prog.underlying t = some (.slice e)) (hinfo : (Try.prog.info? e).map (fun i => (i.zero, i.size, i.bytes)) = some (some z, 1, by8)) (hz : z.cells.size = 1) (h24 : by8 ≤ 24) (hgd : o.guard = none) (s x : Operand)
    (ho : o.op = .call { callee := .builtin .append, args := #[s, x], argTypes := #[t, t] })
    (v : Value) (n : Nat) (L : List Value) (hs : a.eval s = v) (hown : w.ownsRow w0.heap.size e 1 v n L) (hb : Below w0.heap.size w0 w)
    (ad : Option Addr) (m c : Nat) (M : List Value) (hx : a.eval x = .slice ad m c) (hM : VsU w ad m c M) (h1 : ∀ u ∈ M, u.oneCell' = true) (hn : (n : Int) ≤ 100000) (hm : (m : Int) ≤ 100000)
    (h : ∀ v' w', w'.ownsRow w0.heap.size e 1 v' (n + m) (L ++ M) → Below w0.heap.size w0 w' → w.grownBy w' v.ownBlock → wpList Try.prog ops Q rest (a.put o.dst v') w') : wpList Try.prog ops Q (o :: rest) a w := by
  obtain ⟨i0, hi, hz0, hz1, hz2⟩ := info_parts hinfo
  by_cases h0 : m = 0
  · subst h0
    have hM0 : M = [] := List.length_eq_zero_iff.1 hM.1
    subst hM0
    refine wpList_plain hgd fun K hK => ?_
    have hl : ∀ (x : Addr), (loadCells x 0).run Try.prog w = .ok #[] w := fun x => by simpa using run_loadCells_list (P := Try.prog) w x [] (by simp)
    have hrun : (Builtin.append_ #[t, t] o.type #[v, .slice ad 0 c]).run Try.prog w = .ok v w := by
      rcases hown.2 with ⟨rfl, rfl⟩ | ⟨g, cap, cur, rfl, _, _, hnc, _⟩ <;> cases ad <;> simp [Builtin.append_, run_underlying ht, sizeOf, typeInfo, Builtin.lenOf, Builtin.firstCells, storeCells, *]
    unfold Oper.wp
    simp [execOp, ho, resolve, invoke, builtin, hs, hx, hrun]
    exact hK _ _ (h v w (by rw [List.append_nil]; exact hown) hb ⟨rfl, rfl, rfl, Nat.le_refl _, fun _ _ _ => rfl⟩)
  · rcases hM.2.2.2 with hh | ⟨b, off, rfl, hc⟩
    · omega
    · refine wpList_append_own _ hgd s x t ho w0.heap.size e i0 z 1 by8 ht hi hz0 hz1 hz2 hz (by decide) v n L hs hown ⟨b, off, none⟩ m c M hx (by rw [hM.1]; omega) (fun j u hj => by rw [addr_add]; exact hc j u hj) h1 (by unfold maxLen; omega) (Nat.le_trans (Nat.mul_le_mul_left _ h24) (by omega)) hb.size ?_
      intro v' w' hown' hg _
      exact h v' w' hown' (hb.grown hg hb.size (fun k hk => (hown.lt k hk).1)) hg
theorem info22 : (Try.prog.info? 22).map (fun i => (i.zero, i.size, i.bytes)) = some (some (.slice none 0 0), 1, 24) := by kernel_rfl
theorem own_none22 (w : World) (B : Nat) (hB : B ≤ w.heap.size) : (w.alloc (.cells #[] 22)).ownsRow B 22 1 (.slice (some ⟨w.heap.size, 0, none⟩) 0 0) 0 [] := by
  have := World.ownsRow_lit (base := B) (size := 1) (e := 22) w #[] 0 hB (Nat.zero_le _) rfl
  simpa using this
theorem lit22 (w : World) (v : Value) : VsU (w.alloc (.cells #[v] 22)) (some ⟨w.heap.size, 0, none⟩) 1 1 [v] := by
  refine ⟨rfl, Nat.le_refl _, by decide, .inr ⟨w.heap.size, 0, rfl, fun i u hu => ?_⟩⟩
  rcases i with _ | i
  · have e : u = v := by simpa using hu.symm
    subst e
    have := heap_alloc_new w (.cells #[u] 22)
    unfold World.cell?
    rw [show (w.alloc (.cells #[u] 22)).heap[(⟨w.heap.size, 0 + 0, none⟩ : Addr).block]? = _ from this]
    rfl
  · simp at hu
/-- what those told that promised, the first m -/
def HvL (S : Sy) (p m : Nat) : List (List Acd) := ((List.range m).filter (fun q => S.yes p q)).map (S.told p)
theorem hv_yes {S : Sy} {p m : Nat} (h : S.yes p m = true) : HvL S p (m + 1) = HvL S p m ++ [S.told p m] := by
  unfold HvL
  rw [List.range_succ, List.filter_append, List.map_append]
  simp [h]
theorem hv_no {S : Sy} {p m : Nat} (h : S.yes p m = false) : HvL S p (m + 1) = HvL S p m := by
  unfold HvL
  rw [List.range_succ, List.filter_append, List.map_append]
  simp [h]
theorem hv_len (S : Sy) (p : Nat) : ∀ m, (HvL S p m).length = cnt m (S.yes p)
  | 0 => rfl
  | m + 1 => by
    unfold cnt
    cases h : S.yes p m with
    | true => rw [hv_yes h, List.length_append, hv_len S p m]; simp
    | false => rw [hv_no h, hv_len S p m]; simp
theorem hv_mem {S : Sy} {p m : Nat} {t : List Acd} : t ∈ HvL S p m ↔ ∃ q, q < m ∧ S.yes p q = true ∧ S.told p q = t := by
  unfold HvL
  simp [and_assoc]
/-- a list of lists of one's own -/
def OwnH (w : World) (N : Nat) (v : Value) (H : List (List Acd)) : Prop := ∃ xs : List Value, w.ownsRow N 22 1 v H.length xs ∧ ∀ i, i < H.length → ∃ a c, xs[i]? = some (.slice a (H.getD i []).length c) ∧ OwnA w N (.slice a (H.getD i []).length c) (H.getD i [])
theorem OwnH.below {w w' : World} {N : Nat} {v : Value} {H : List (List Acd)} (h : OwnH w N v H) (hb : Below w.heap.size w w') : OwnH w' N v H := by
  obtain ⟨xs, h1, h2⟩ := h
  refine ⟨xs, own_below h1 hb, fun i hi => ?_⟩
  obtain ⟨a, c, h3, h4⟩ := h2 i hi
  exact ⟨a, c, h3, h4.below hb⟩
theorem OwnH.kp {w w' : World} {N E g : Nat} {v : Value} {H : List (List Acd)} (h : OwnH w N v H) (hk : Kp w w' g E) (h3 : E ≠ 3) (h49 : E ≠ 49) (h22 : E ≠ 22) : OwnH w' N v H := by
  obtain ⟨xs, h1, h2⟩ := h
  refine ⟨xs, own_kp h1 hk h22, fun i hi => ?_⟩
  obtain ⟨a, c, e, h4⟩ := h2 i hi
  exact ⟨a, c, e, h4.kp hk h3 h49⟩
theorem OwnH.lis {w : World} {N : Nat} {v : Value} {H : List (List Acd)} (h : OwnH w N v H) : ∃ a c, v = .slice a H.length c ∧ LisAt w a H.length c H := by
  obtain ⟨xs, h1, h2⟩ := h
  have hl := h1.1
  rcases h1.2 with ⟨rfl, h0⟩ | ⟨g, cap, cur, rfl, _, hh, hn, hm, hs, ht⟩
  · exact ⟨none, 0, by rw [h0], rfl, by omega, Nat.zero_le _, .inl h0⟩
  · refine ⟨_, _, rfl, rfl, hn, hm, ?_⟩
    by_cases h0 : H.length = 0
    · exact .inl h0
    · refine .inr ⟨g, 0, rfl, fun i hi => ?_⟩
      obtain ⟨a, c, h3, h4⟩ := h2 i hi
      obtain ⟨a', c', e, h5⟩ := h4.at
      injection e with e1 e2 e3
      subst e1 e3
      refine ⟨a, _, c, ?_, h5⟩
      unfold World.cell?
      rw [show w.heap[(⟨g, 0 + i, none⟩ : Addr).block]? = _ from hh]
      have h6 : cur.toList[i]? = some (.slice a (H.getD i []).length c) := by
        rw [← ht, List.getElem?_take] at h3
        split at h3
        · exact h3
        · cases h3
      simpa using h6
/-- behind an append to it -/
theorem own_grown22 {w w' : World} {N N' T s n m : Nat} {v vh : Value} {xs ys : List Value} (h : w.ownsRow N T s v n xs) (ho : w.ownsRow N' 22 1 vh m ys) (hT : T ≠ 22) (hg : w.grownBy w' vh.ownBlock) : w'.ownsRow N T s v n xs := by
  rcases ho.2 with ⟨rfl, _⟩ | ⟨g, cap, cur, rfl, _, hh, _⟩
  · exact h.kept hg (by
      rcases h.2 with ⟨rfl, _⟩ | ⟨b, cap, cur, rfl, _⟩
      · exact .inl rfl
      · right
        intro e
        cases e)
  · exact own_kp h (E := 22) ⟨hg, fun cur' T' fz e => by rw [hh] at e; injection e with e; injection e with _ e; exact e.symm⟩ (fun e => hT e.symm)
theorem OwnA.grown22 {w w' : World} {N N' m : Nat} {v vh : Value} {ls : List Acd} {ys : List Value} (h : OwnA w N v ls) (ho : w.ownsRow N' 22 1 vh m ys) (hg : w.grownBy w' vh.ownBlock) : OwnA w' N v ls := by
  obtain ⟨L, e, h1, h2⟩ := h
  exact ⟨L, e, own_grown22 h1 ho (by decide) hg, fun c hc => own_grown22 (h2 c hc) ho (by decide) hg⟩
theorem SyAt.app {w0 w : World} {k i G B T Y M V C : Nat} {S : Sy} (h : SyAt w0 w k i ⟨G, B, T, Y, M, V, C⟩ S) {w' : World} {m : Nat} {vh : Value} {ys : List Value} (ho : w.ownsRow w0.heap.size 22 1 vh m ys) (hg : w.grownBy w' vh.ownBlock) : SyAt w0 w' k i ⟨G, B, T, Y, M, V, C⟩ S := by
  rcases ho.2 with ⟨rfl, _⟩ | ⟨g, cap, cur, rfl, hgN, hh, _⟩
  · exact h.below ⟨hg.os, hg.tape, hg.output, hg.size, fun j hj => hg.block j hj (by simp [Value.ownBlock])⟩
  · have hk : Kp w w' g 22 := ⟨hg, fun cur' T' fz e => by rw [hh] at e; injection e with e; injection e with _ e; exact e.symm⟩
    refine ⟨⟨hg.os.trans h.bel.os, hg.tape.trans h.bel.tape, hg.output.trans h.bel.output, Nat.le_trans h.bel.size hg.size, fun j hj => (hg.block j (Nat.lt_of_lt_of_le hj h.bel.size) (fun e => by have := Option.some.inj e; have : j = g := this; omega)).trans (h.bel.block j hj)⟩, h.ge, h.grp.kp hk (by decide) (by decide) (by decide), h.bal.kp hk (by decide), h.tol.kp hk (by decide) (by decide) (by decide), h.yes.kp hk (by decide), h.mine.kp hk (by decide) (by decide), h.cho.kp hk (by decide) (by decide), h.vot.kept hg ?_⟩
    obtain ⟨n, D, _, ⟨es, clock, hb, _⟩, _⟩ := h.vot
    intro e
    have e' : V = g := Option.some.inj e
    subst e'
    rw [show w.heap[V]? = _ from hb] at hh
    simp at hh
theorem OwnH.snoc {w w' : World} {N : Nat} {v v' : Value} {H : List (List Acd)} {xs : List Value} {a : Option Addr} {c : Nat} {t : List Acd} (h1 : w.ownsRow N 22 1 v H.length xs) (h2 : ∀ i, i < H.length → ∃ a c, xs[i]? = some (.slice a (H.getD i []).length c) ∧ OwnA w N (.slice a (H.getD i []).length c) (H.getD i []))
    (ht : OwnA w N (.slice a t.length c) t) (ho : w'.ownsRow N 22 1 v' (H.length + 1) (xs ++ [.slice a t.length c])) (hg : w.grownBy w' v.ownBlock) : OwnH w' N v' (H ++ [t]) := by
  have hl : xs.length = H.length := by have := h1.1; omega
  refine ⟨xs ++ [.slice a t.length c], by rw [List.length_append]; exact ho, fun i hi => ?_⟩
  rw [List.length_append] at hi
  by_cases e : i < H.length
  · obtain ⟨a', c', h3, h4⟩ := h2 i e
    rw [getD_app_lt e]
    exact ⟨a', c', by rw [List.getElem?_append_left (by omega)]; exact h3, h4.grown22 h1 hg⟩
  · have e2 : i = H.length := by simp at hi; omega
    subst e2
    rw [getD_app_at]
    exact ⟨a, c, by rw [List.getElem?_append_right (by omega), hl]; simp, ht.grown22 h1 hg⟩
theorem slot_lt {ls : List Acd} {s : Nat} (h : ls.length ≤ s) : slotA ls s = acd0 := by
  unfold slotA
  rw [List.getD_eq_getElem?_getD, List.getElem?_eq_none h]
  rfl
/-- what is picked must be proposed -/
theorem must_of {S : Sy} {k p s : Nat} {best : List Acd} (hb : Bst (HvL S p k) best) : Must k S p s (slotA (best.map fixA) s) := by
  by_cases hs : s < best.length
  · have e1 : slotA (best.map fixA) s = fixA (best.getD s acd0) := by
      unfold slotA
      simp [List.getD_eq_getElem?_getD, hs]
    obtain ⟨⟨t, ht, hts, hte⟩, hle⟩ := hb.2 s hs
    rw [e1]
    have each : ∀ q, q < k → S.yes p q = true → (slotA (S.told p q) s).b ≤ (best.getD s acd0).b ∨ (slotA (S.told p q) s).b = 0 := fun q hq hy => by
      by_cases h9 : s < (S.told p q).length
      · exact .inl (hle _ (hv_mem.2 ⟨q, hq, hy, rfl⟩) h9)
      · right
        rw [slot_lt (by omega)]
        rfl
    unfold fixA
    by_cases h0 : (best.getD s acd0).b = 0
    · rw [if_pos h0]
      refine ⟨fun h => absurd h (by decide), fun _ q hq hy => ?_⟩
      rcases each q hq hy with h | h <;> omega
    · rw [if_neg h0]
      refine ⟨fun h => ⟨?_, fun q hq hy => ?_⟩, fun h q hq hy => ?_⟩
      · obtain ⟨q, hq, hy, rfl⟩ := hv_mem.1 ht
        exact ⟨q, hq, hy, hte⟩
      · rcases each q hq hy with h | h <;> omega
      · rcases each q hq hy with h | h <;> omega
  · have e1 : slotA (best.map fixA) s = acd0 := slot_lt (by simp; omega)
    rw [e1]
    refine ⟨fun h => absurd h (by decide), fun _ q hq hy => ?_⟩
    have h9 := hb.1 _ (hv_mem.2 ⟨q, hq, hy, rfl⟩)
    rw [slot_lt (by omega)]
    decide
theorem upd_twice {α : Type} (f : Nat → α) (i : Nat) (x y : α) : upd (upd f i x) i y = upd f i y := by
  funext j
  by_cases e : j = i
  · subst e; rw [upd_same, upd_same]
  · rw [upd_else _ _ e, upd_else _ _ e, upd_else _ _ e]
theorem acc_is {P bal : Int} {L : List Acd} {s : Nat} {d : Dl} (hok : okA P L = true) (hb : inB bal 1 2147483647 = true) (hs : s < 3) (hd : okD d = true) : (¬ bal < P ∧ accE P L bal ((s : Int) + 1) d = 0 ∧ accP P L bal ((s : Int) + 1) d = bal ∧ accL P L bal ((s : Int) + 1) d = putS L (s + 1) ⟨bal, d⟩) ∨ (bal < P ∧ accE P L bal ((s : Int) + 1) d = 9 ∧ accP P L bal ((s : Int) + 1) d = P ∧ accL P L bal ((s : Int) + 1) d = L) := by
  have h1 : (inB bal 1 2147483647 && inB ((s : Int) + 1) 1 256 && okD d) = true := by
    rw [hb, hd]
    unfold inB
    rw [decide_eq_true (by omega), decide_eq_true (by omega)]
    rfl
  by_cases hlt : bal < P
  · have e : accE P L bal ((s : Int) + 1) d = 9 := by unfold accE; rw [if_pos hok, if_pos h1, if_pos hlt]
    refine .inr ⟨hlt, e, ?_, ?_⟩
    · unfold accP; rw [if_pos hok, e, if_neg (by decide)]
    · unfold accL; rw [if_pos hok, e, if_neg (by decide)]
  · have e : accE P L bal ((s : Int) + 1) d = 0 := by unfold accE; rw [if_pos hok, if_pos h1, if_neg hlt]
    refine .inl ⟨hlt, e, ?_, ?_⟩
    · unfold accP; rw [if_pos hok, e, if_pos rfl]
    · unfold accL; rw [if_pos hok, e, if_pos rfl, show ((s : Int) + 1).toNat = s + 1 by omega]
/-- a list's element: where its ballot lies -/
theorem OwnA.ballot {w : World} {N : Nat} {a : Option Addr} {c : Nat} {ls : List Acd} (h : OwnA w N (.slice a ls.length c) ls) {s : Nat} (hs : s < ls.length) : ∃ g, a = some ⟨g, 0, none⟩ ∧ g < w.heap.size ∧ ∃ cl : Cel, cl.x = slotA ls s ∧ CelAt w g (s * 8) cl ∧ w.ownsRow N 3 1 (.slice cl.a cl.l cl.c) cl.l (intCells cl.x.d.ns) ∧ ∃ cur, w.heap[g]? = some (.cells cur 49 (0, 0)) := by
  obtain ⟨L, e, h1, h2⟩ := h
  have hl : L.length = ls.length := by rw [← e, List.length_map]
  rcases h1.2 with ⟨e0, h0⟩ | ⟨g, cap, cur, e0, _, hh, _⟩
  · omega
  · injection e0 with e1 _ e3
    subst e1 e3
    refine ⟨g, rfl, (Array.getElem?_eq_some_iff.1 hh).1, L[s]'(by omega), ?_, ?_, h2 _ (List.getElem_mem _), cur, hh⟩
    · subst e
      unfold slotA
      simp [show s < L.length by omega]
    · rcases own_lies h1 with h0 | ⟨b, off, e, hc⟩
      · omega
      · simp at e
        obtain ⟨rfl, rfl⟩ := e
        have hx := lies_cel hc (i := s) (by omega)
        rw [Nat.zero_add] at hx
        exact hx
theorem SyAt.look {w0 w : World} {k i G B T Y M V C : Nat} {S : Sy} (h : SyAt w0 w k i ⟨G, B, T, Y, M, V, C⟩ S) {bal : Int} {s : Nat} (hb : (Lit.int .i64 bal).wf = true) (hs : s < 3) : (Instr.lookup 52 (.map (some V)) (.agg #[.int .i64 bal, .int .i64 (s : Int)]) false).run Try.prog w = .ok (.int .i64 ((S.votes bal s : Nat) : Int)) w := by
  obtain ⟨n, D, _, hM, hD⟩ := h.rV
  obtain ⟨c, hl, hat, _⟩ := hM.lookup_int law2 Try.underlying52 Try.underlying3 (show (zeroValue 3).run Try.prog w = .ok (.int .i64 0) w by go_simp) (keyOf2 hb (show (Lit.int .i64 (s : Int)).wf = true from WalkArith.wf_i64 ⟨by omega, by omega⟩))
  have h9 := hD bal s hb hs
  rw [hat] at h9
  simp only [DataW.lit.injEq, Lit.int.injEq, true_and] at h9
  rw [← h9]
  exact hl
def Bd (S : Sy) (i : Nat) : Prop := (∀ p, p < 3 → S.bal p ≤ 3 + 3 * (i : Int)) ∧ ∀ p q, Slim (S.told p q)
theorem slim_nil : Slim [] := ⟨by simp, by simp⟩
theorem bd_zero : Bd sy0 0 := ⟨fun p hp => by show (p : Int) + 1 ≤ _; omega, fun _ _ => slim_nil⟩
theorem Bd.more {S : Sy} {i : Nat} (h : Bd S i) : Bd S (i + 1) := ⟨fun p hp => by have := h.1 p hp; omega, h.2⟩
theorem Bd.told {S S' : Sy} {i p q : Nat} {L : List Acd} (h : Bd S i) (hL : Slim L) (e1 : S'.bal = S.bal) (e2 : S'.told = upd S.told p (upd (S.told p) q L)) : Bd S' (i + 1) := by
  refine ⟨fun r hr => by have := h.1 r hr; rw [e1]; omega, fun r t => ?_⟩
  rw [e2]
  by_cases e : r = p
  · subst e
    rw [upd_same]
    by_cases e3 : t = q
    · subst e3; rw [upd_same]; exact hL
    · rw [upd_else _ _ e3]; exact h.2 _ _
  · rw [upd_else _ _ e]; exact h.2 _ _
theorem Bd.anew {S S' : Sy} {i p : Nat} (h : Bd S i) (e1 : S'.bal = upd S.bal p (S.bal p + 3)) (e2 : S'.told = upd S.told p (fun _ => [])) : Bd S' (i + 1) := by
  refine ⟨fun r hr => ?_, fun r t => ?_⟩
  · have := h.1 r hr
    rw [e1]
    by_cases e : r = p
    · subst e; rw [upd_same]; omega
    · rw [upd_else _ _ e]; omega
  · rw [e2]
    by_cases e : r = p
    · subst e; rw [upd_same]; exact slim_nil
    · rw [upd_else _ _ e]; exact h.2 _ _
theorem Bd.same {S S' : Sy} {i : Nat} (h : Bd S i) (e1 : S'.bal = S.bal) (e2 : S'.told = S.told) : Bd S' (i + 1) := ⟨fun r hr => by have := h.1 r hr; rw [e1]; omega, fun r t => by rw [e2]; exact h.2 r t⟩
theorem SyAt.kpM {w0 w : World} {k i G B T Y M V C : Nat} {S : Sy} (h : SyAt w0 w k i ⟨G, B, T, Y, M, V, C⟩ S) (o : Nat) (vs : List Value) : Kp w (wrs w M o vs) M 51 := by
  obtain ⟨f, h1, _⟩ := h.mine
  exact h1.kpw o vs
theorem SyAt.kpG {w0 w : World} {k i G B T Y M V C : Nat} {S : Sy} (h : SyAt w0 w k i ⟨G, B, T, Y, M, V, C⟩ S) (o : Nat) (vs : List Value) : Kp w (wrs w G o vs) G 24 := by
  obtain ⟨f, h1, _⟩ := h.grp
  exact h1.kpw o vs
theorem own_ok {p : Nat} {bal : Int} (hp : p < 3) (h1 : 1 ≤ bal) (h9 : bal ≤ 453) : okD ⟨3, 100 * (p : Int) + bal, 0, 0, 0, 0, []⟩ = true := by
  have e : inC (100 * (p : Int) + bal) = true := by unfold inC inB; rw [decide_eq_true (by omega), decide_eq_true (by omega)]; rfl
  unfold okD
  simp only [e]
  rw [show bareD ⟨3, 100 * (p : Int) + bal, 0, 0, 0, 0, []⟩ = ⟨3, 100 * (p : Int) + bal, 0, 0, 0, 0, []⟩ from rfl, eqD_self]
  rfl
set_option maxHeartbeats 4000000 in
set_option maxRecDepth 60000 in
theorem agr_36 (t0 t1 t2 t3 t4 t5 t8 t9 t10 t11 t12 t13 t17 t18 t19 t20 t21 t22 t23 t25 t26 t27 t28 t29 t30 t31 t32 t33 t34 t35 t36 t37 t38 t39 t40 t41 t42 t43 t44 t45 t46 t47 t48 t49 t50 t51 t52 t53 t54 t55 t56 t57 t58 t59 t60 t61 t62 t63 t64 t65 t66 t67 t68 t69 t70 t71 t72 t73 t74 t75 t76 t77 t78 t79 t80 t81 t82 t83 t84 t85 t86 t87 t88 t89 t90 t91 t92 t93 t94 t95 t96 t97 t98 t99 t100 t101 t102 t103 t104 t105 t106 t107 t108 t109 t110 t111 t112 t113 t114 t115 t116 t117 t118 t119 t120 t121 t122 t123 t124 t125 t126 t127 t128 t129 t130 t131 t132 t133 t134 t135 t136 t137 t138 t139 t140 t141 t142 t143 t144 t145 t146 t147 t148 t149 t150 t151 t152 t153 t154 t155 t156 t157 t158 t159 t160 t161 t162 t163 t164 t165 t166 t167 t168 t169 t170 t171 t172 t173 t174 t175 t176 t177 t178 t179 t180 t181 t182 t183 t184 t185 t186 t187 t188 t189 t190 t191 t192 t193 t194 t195 t196 t197 t198 t199 t200 t201 t202 t203 t204 t205 t206 t207 t208 t209 t210 t211 t212 t213 t214 t215 t216 t217 t218 t219 t220 t221 t222 t223 t224 t225 t226 t227 t228 t229 t230 t231 t232 t233 t234 t235 t236 t237 t238 t239 t240 t241 t242 t243 t244 t245 t246 t247 t248 t249 t250 t251 t252 t253 t254 t255 t256 t257 t258 t259 t260 t261 t262 t263 t264 t265 t266 t267 t268 t269 t270 t271 t272 t273 t274 t275 t276 t277 t278 t279 t280 t281 t282 t283 t284 t285 t286 t287 t288 t289 t290 t291 t292 t293 : Value) (E : Int) (G k kc q s gl gc : Nat) (p B : Nat) (bal : Int) (ga : Option Addr) (v : Bool) (w1 : World) (Q : Exit → Act → World → Prop)
    (hqk : (q : Int) < (k : Int)) (H1 : Hid (w1.cell? ⟨G, q * 2 + 1, none⟩ = some (.slice ga gl gc))) (hp : (p : Int) < 3) (H3 : Hid (w1.cell? ⟨B, p, none⟩ = some (.int .i64 bal)))
    (hv : Hid ((¬ E = 0 ∧ v = false) ∨ (E = 0 ∧ gl ≤ s ∧ v = true) ∨ (E = 0 ∧ s < gl ∧ ∃ g b, ga = some ⟨g, 0, none⟩ ∧ w1.cell? ⟨g, s * 8, none⟩ = some (.int .i64 b) ∧ v = (b != bal))))
    (hQ : Hid (∀ (u216 u217 u218 u219 u220 u221 u222 u223 u224 u225 u226 u227 u228 u229 u230 u231 u232 u233 u234 u235 u236 u237 u238 u239 u240 u241 : Value) (wC : World), Below w1.heap.size w1 wC → Q .normal ⟨#[t0, t1, t2, t3, t4, t5, .slice (some ⟨G, 0, none⟩) k kc, .pointer (some ⟨B, 0, none⟩), t8, t9, t10, t11, t12, t13, .int .i64 (p : Int), .int .i64 (q : Int), .int .i64 (s : Int), t17, t18, t19, t20, t21, t22, t23, .int .i64 E, t25, t26, t27, t28, t29, t30, t31, t32, t33, t34, t35, t36, t37, t38, t39, t40, t41, t42, t43, t44, t45, t46, t47, t48, t49, t50, t51, t52, t53, t54, t55, t56, t57, t58, t59, t60, t61, t62, t63, t64, t65, t66, t67, t68, t69, t70, t71, t72, t73, t74, t75, t76, t77, t78, t79, t80, t81, t82, t83, t84, t85, t86, t87, t88, t89, t90, t91, t92, t93, t94, t95, t96, t97, t98, t99, t100, t101, t102, t103, t104, t105, t106, t107, t108, t109, t110, t111, t112, t113, t114, t115, t116, t117, t118, t119, t120, t121, t122, t123, t124, t125, t126, t127, t128, t129, t130, t131, t132, t133, t134, t135, t136, t137, t138, t139, t140, t141, t142, t143, t144, t145, t146, t147, t148, t149, t150, t151, t152, t153, t154, t155, t156, t157, t158, t159, t160, t161, t162, t163, t164, t165, t166, t167, t168, t169, t170, t171, t172, t173, t174, t175, t176, t177, t178, t179, t180, t181, t182, t183, t184, t185, t186, t187, t188, t189, t190, t191, t192, t193, t194, t195, t196, t197, t198, t199, t200, t201, t202, t203, t204, t205, t206, t207, t208, t209, t210, t211, t212, t213, t214, t215, u216, u217, u218, u219, u220, u221, u222, u223, u224, u225, u226, u227, u228, u229, u230, u231, u232, u233, u234, u235, u236, u237, u238, u239, u240, u241, .bool v, t243, t244, t245, t246, t247, t248, t249, t250, t251, t252, t253, t254, t255, t256, t257, t258, t259, t260, t261, t262, t263, t264, t265, t266, t267, t268, t269, t270, t271, t272, t273, t274, t275, t276, t277, t278, t279, t280, t281, t282, t283, t284, t285, t286, t287, t288, t289, t290, t291, t292, t293], []⟩ wC)) :
    Code.wp Try.prog ((Try.f4.body.bind (regionOf 36)).getD .skip) Q ⟨#[t0, t1, t2, t3, t4, t5, .slice (some ⟨G, 0, none⟩) k kc, .pointer (some ⟨B, 0, none⟩), t8, t9, t10, t11, t12, t13, .int .i64 (p : Int), .int .i64 (q : Int), .int .i64 (s : Int), t17, t18, t19, t20, t21, t22, t23, .int .i64 E, t25, t26, t27, t28, t29, t30, t31, t32, t33, t34, t35, t36, t37, t38, t39, t40, t41, t42, t43, t44, t45, t46, t47, t48, t49, t50, t51, t52, t53, t54, t55, t56, t57, t58, t59, t60, t61, t62, t63, t64, t65, t66, t67, t68, t69, t70, t71, t72, t73, t74, t75, t76, t77, t78, t79, t80, t81, t82, t83, t84, t85, t86, t87, t88, t89, t90, t91, t92, t93, t94, t95, t96, t97, t98, t99, t100, t101, t102, t103, t104, t105, t106, t107, t108, t109, t110, t111, t112, t113, t114, t115, t116, t117, t118, t119, t120, t121, t122, t123, t124, t125, t126, t127, t128, t129, t130, t131, t132, t133, t134, t135, t136, t137, t138, t139, t140, t141, t142, t143, t144, t145, t146, t147, t148, t149, t150, t151, t152, t153, t154, t155, t156, t157, t158, t159, t160, t161, t162, t163, t164, t165, t166, t167, t168, t169, t170, t171, t172, t173, t174, t175, t176, t177, t178, t179, t180, t181, t182, t183, t184, t185, t186, t187, t188, t189, t190, t191, t192, t193, t194, t195, t196, t197, t198, t199, t200, t201, t202, t203, t204, t205, t206, t207, t208, t209, t210, t211, t212, t213, t214, t215, t216, t217, t218, t219, t220, t221, t222, t223, t224, t225, t226, t227, t228, t229, t230, t231, t232, t233, t234, t235, t236, t237, t238, t239, t240, t241, t242, t243, t244, t245, t246, t247, t248, t249, t250, t251, t252, t253, t254, t255, t256, t257, t258, t259, t260, t261, t262, t263, t264, t265, t266, t267, t268, t269, t270, t271, t272, t273, t274, t275, t276, t277, t278, t279, t280, t281, t282, t283, t284, t285, t286, t287, t288, t289, t290, t291, t292, t293], []⟩ w1 := by
  rcases hv.out with ⟨h, rfl⟩ | ⟨h1, h2, rfl⟩ | ⟨h1, h2, g, b, rfl, hc, rfl⟩
  · exact agr_36n _ _ _ _ _ _ _ _ _ _ _ _ _ _ _ _ _ _ _ _ _ _ _ _ _ _ _ _ _ _ _ _ _ _ _ _ _ _ _ _ _ _ _ _ _ _ _ _ _ _ _ _ _ _ _ _ _ _ _ _ _ _ _ _ _ _ _ _ _ _ _ _ _ _ _ _ _ _ _ _ _ _ _ _ _ _ _ _ _ _ _ _ _ _ _ _ _ _ _ _ _ _ _ _ _ _ _ _ _ _ _ _ _ _ _ _ _ _ _ _ _ _ _ _ _ _ _ _ _ _ _ _ _ _ _ _ _ _ _ _ _ _ _ _ _ _ _ _ _ _ _ _ _ _ _ _ _ _ _ _ _ _ _ _ _ _ _ _ _ _ _ _ _ _ _ _ _ _ _ _ _ _ _ _ _ _ _ _ _ _ _ _ _ _ _ _ _ _ _ _ _ _ _ _ _ _ _ _ _ _ _ _ _ _ _ _ _ _ _ _ _ _ _ _ _ _ _ _ _ _ _ _ _ _ _ _ _ _ _ _ _ _ _ _ _ _ _ _ _ _ _ _ _ _ _ _ _ _ _ _ _ _ _ _ _ _ _ _ _ _ _ _ _ _ _ _ _ _ _ _ _ _ _ _ _ _ _ _ _ _ _ _ _ E w1 Q (by rw [beq_eq_false_iff_ne]; exact h) hQ
  · exact agr_36a _ _ _ _ _ _ _ _ _ _ _ _ _ _ _ _ _ _ _ _ _ _ _ _ _ _ _ _ _ _ _ _ _ _ _ _ _ _ _ _ _ _ _ _ _ _ _ _ _ _ _ _ _ _ _ _ _ _ _ _ _ _ _ _ _ _ _ _ _ _ _ _ _ _ _ _ _ _ _ _ _ _ _ _ _ _ _ _ _ _ _ _ _ _ _ _ _ _ _ _ _ _ _ _ _ _ _ _ _ _ _ _ _ _ _ _ _ _ _ _ _ _ _ _ _ _ _ _ _ _ _ _ _ _ _ _ _ _ _ _ _ _ _ _ _ _ _ _ _ _ _ _ _ _ _ _ _ _ _ _ _ _ _ _ _ _ _ _ _ _ _ _ _ _ _ _ _ _ _ _ _ _ _ _ _ _ _ _ _ _ _ _ _ _ _ _ _ _ _ _ _ _ _ _ _ _ _ _ _ _ _ _ _ _ _ _ _ _ _ _ _ _ _ _ _ _ _ _ _ _ _ _ _ _ _ _ _ _ _ _ _ _ _ _ _ _ _ _ _ _ _ _ _ _ _ _ _ _ _ _ _ _ _ _ _ _ _ _ _ _ _ _ _ _ _ _ _ _ _ _ _ _ _ _ _ _ _ _ _ _ E G k kc q s gl gc ga w1 Q (by rw [beq_iff_eq]; exact h1) hqk H1 h2 hQ
  · exact agr_36b _ _ _ _ _ _ _ _ _ _ _ _ _ _ _ _ _ _ _ _ _ _ _ _ _ _ _ _ _ _ _ _ _ _ _ _ _ _ _ _ _ _ _ _ _ _ _ _ _ _ _ _ _ _ _ _ _ _ _ _ _ _ _ _ _ _ _ _ _ _ _ _ _ _ _ _ _ _ _ _ _ _ _ _ _ _ _ _ _ _ _ _ _ _ _ _ _ _ _ _ _ _ _ _ _ _ _ _ _ _ _ _ _ _ _ _ _ _ _ _ _ _ _ _ _ _ _ _ _ _ _ _ _ _ _ _ _ _ _ _ _ _ _ _ _ _ _ _ _ _ _ _ _ _ _ _ _ _ _ _ _ _ _ _ _ _ _ _ _ _ _ _ _ _ _ _ _ _ _ _ _ _ _ _ _ _ _ _ _ _ _ _ _ _ _ _ _ _ _ _ _ _ _ _ _ _ _ _ _ _ _ _ _ _ _ _ _ _ _ _ _ _ _ _ _ _ _ _ _ _ _ _ _ _ _ _ _ _ _ _ _ _ _ _ _ _ _ _ _ _ _ _ _ _ _ _ _ _ _ _ _ _ _ _ _ _ _ _ _ _ _ _ _ _ _ _ _ _ _ _ _ _ _ _ _ _ _ _ E G k kc q s gl gc g p B b bal _ w1 Q (by rw [beq_iff_eq]; exact h1) hqk H1 h2 (by omega) hp rfl hc H3 hQ
set_option maxHeartbeats 4000000 in
set_option maxRecDepth 60000 in
theorem agr_40 (t0 t1 t2 t3 t4 t5 t6 t7 t8 t9 t11 t13 t15 t17 t18 t19 t20 t21 t22 t23 t24 t25 t26 t27 t28 t29 t30 t31 t32 t33 t34 t35 t36 t37 t38 t39 t40 t41 t42 t43 t44 t45 t46 t47 t48 t49 t50 t51 t52 t53 t54 t55 t56 t57 t58 t59 t60 t61 t62 t63 t64 t65 t66 t67 t68 t69 t70 t71 t72 t73 t74 t75 t76 t77 t78 t79 t80 t81 t82 t83 t84 t85 t86 t87 t88 t89 t90 t91 t92 t93 t94 t95 t96 t97 t98 t99 t100 t101 t102 t103 t104 t105 t106 t107 t108 t109 t110 t111 t112 t113 t114 t115 t116 t117 t118 t119 t120 t121 t122 t123 t124 t125 t126 t127 t128 t129 t130 t131 t132 t133 t134 t135 t136 t137 t138 t139 t140 t141 t142 t143 t144 t145 t146 t147 t148 t149 t150 t151 t152 t153 t154 t155 t156 t157 t158 t159 t160 t161 t162 t163 t164 t165 t166 t167 t168 t169 t170 t171 t172 t173 t174 t175 t176 t177 t178 t179 t180 t181 t182 t183 t184 t185 t186 t187 t188 t189 t190 t191 t192 t193 t194 t195 t196 t197 t198 t199 t200 t201 t202 t203 t204 t205 t206 t207 t208 t209 t210 t211 t212 t213 t214 t215 t216 t217 t218 t219 t220 t221 t222 t223 t224 t225 t226 t227 t228 t229 t230 t231 t232 t233 t234 t235 t236 t237 t238 t239 t240 t241 t242 t243 t244 t245 t246 t247 t248 t249 t250 t251 t252 t253 t254 t255 t256 t257 t258 t259 t260 t261 t262 t263 t264 t265 t266 t267 t268 t269 t270 t271 t272 t273 t274 t275 t276 t277 t278 t279 t280 t281 t282 t283 t284 t285 t286 t287 t288 t289 t290 t291 t292 t293 : Value) (C s : Nat) (c : Cel) (M p : Nat) (c0 : Cel) (w1 : World) (Q : Exit → Act → World → Prop)
    (hs : (s : Int) < 4) (hC : CelAt w1 C (s * 8) c) (hp : (p : Int) < 3) (hX : CelAt w1 M (p * 32 + s * 8) c0) (HR : Hid (RowI w1 c.a c.l c.c c.x.d.ns)) (HR0 : Hid (RowI w1 c0.a c0.l c0.c c0.x.d.ns)) (HE : Hid (0 < c.x.b → eqD c.x.d c0.x.d = true))
    (hQ : Hid (∀ (u267 u268 u269 u270 u271 u272 u273 u274 u275 u276 u277 u278 u279 u280 u281 u282 u283 u284 : Value) (wC : World), Below w1.heap.size w1 wC → Q .normal ⟨#[t0, t1, t2, t3, t4, t5, t6, t7, t8, t9, .pointer (some ⟨M, 0, none⟩), t11, .pointer (some ⟨C, 0, none⟩), t13, .int .i64 (p : Int), t15, .int .i64 (s : Int), t17, t18, t19, t20, t21, t22, t23, t24, t25, t26, t27, t28, t29, t30, t31, t32, t33, t34, t35, t36, t37, t38, t39, t40, t41, t42, t43, t44, t45, t46, t47, t48, t49, t50, t51, t52, t53, t54, t55, t56, t57, t58, t59, t60, t61, t62, t63, t64, t65, t66, t67, t68, t69, t70, t71, t72, t73, t74, t75, t76, t77, t78, t79, t80, t81, t82, t83, t84, t85, t86, t87, t88, t89, t90, t91, t92, t93, t94, t95, t96, t97, t98, t99, t100, t101, t102, t103, t104, t105, t106, t107, t108, t109, t110, t111, t112, t113, t114, t115, t116, t117, t118, t119, t120, t121, t122, t123, t124, t125, t126, t127, t128, t129, t130, t131, t132, t133, t134, t135, t136, t137, t138, t139, t140, t141, t142, t143, t144, t145, t146, t147, t148, t149, t150, t151, t152, t153, t154, t155, t156, t157, t158, t159, t160, t161, t162, t163, t164, t165, t166, t167, t168, t169, t170, t171, t172, t173, t174, t175, t176, t177, t178, t179, t180, t181, t182, t183, t184, t185, t186, t187, t188, t189, t190, t191, t192, t193, t194, t195, t196, t197, t198, t199, t200, t201, t202, t203, t204, t205, t206, t207, t208, t209, t210, t211, t212, t213, t214, t215, t216, t217, t218, t219, t220, t221, t222, t223, t224, t225, t226, t227, t228, t229, t230, t231, t232, t233, t234, t235, t236, t237, t238, t239, t240, t241, t242, t243, t244, t245, t246, t247, t248, t249, t250, t251, t252, t253, t254, t255, t256, t257, t258, t259, t260, t261, t262, t263, t264, t265, t266, u267, u268, u269, u270, u271, u272, u273, u274, u275, u276, u277, u278, u279, u280, u281, u282, u283, u284, .bool false, t286, t287, t288, t289, t290, t291, t292, t293], []⟩ wC)) :
    Code.wp Try.prog ((Try.f4.body.bind (regionOf 40)).getD .skip) Q ⟨#[t0, t1, t2, t3, t4, t5, t6, t7, t8, t9, .pointer (some ⟨M, 0, none⟩), t11, .pointer (some ⟨C, 0, none⟩), t13, .int .i64 (p : Int), t15, .int .i64 (s : Int), t17, t18, t19, t20, t21, t22, t23, t24, t25, t26, t27, t28, t29, t30, t31, t32, t33, t34, t35, t36, t37, t38, t39, t40, t41, t42, t43, t44, t45, t46, t47, t48, t49, t50, t51, t52, t53, t54, t55, t56, t57, t58, t59, t60, t61, t62, t63, t64, t65, t66, t67, t68, t69, t70, t71, t72, t73, t74, t75, t76, t77, t78, t79, t80, t81, t82, t83, t84, t85, t86, t87, t88, t89, t90, t91, t92, t93, t94, t95, t96, t97, t98, t99, t100, t101, t102, t103, t104, t105, t106, t107, t108, t109, t110, t111, t112, t113, t114, t115, t116, t117, t118, t119, t120, t121, t122, t123, t124, t125, t126, t127, t128, t129, t130, t131, t132, t133, t134, t135, t136, t137, t138, t139, t140, t141, t142, t143, t144, t145, t146, t147, t148, t149, t150, t151, t152, t153, t154, t155, t156, t157, t158, t159, t160, t161, t162, t163, t164, t165, t166, t167, t168, t169, t170, t171, t172, t173, t174, t175, t176, t177, t178, t179, t180, t181, t182, t183, t184, t185, t186, t187, t188, t189, t190, t191, t192, t193, t194, t195, t196, t197, t198, t199, t200, t201, t202, t203, t204, t205, t206, t207, t208, t209, t210, t211, t212, t213, t214, t215, t216, t217, t218, t219, t220, t221, t222, t223, t224, t225, t226, t227, t228, t229, t230, t231, t232, t233, t234, t235, t236, t237, t238, t239, t240, t241, t242, t243, t244, t245, t246, t247, t248, t249, t250, t251, t252, t253, t254, t255, t256, t257, t258, t259, t260, t261, t262, t263, t264, t265, t266, t267, t268, t269, t270, t271, t272, t273, t274, t275, t276, t277, t278, t279, t280, t281, t282, t283, t284, t285, t286, t287, t288, t289, t290, t291, t292, t293], []⟩ w1 := by
  by_cases h : 0 < c.x.b
  · exact agr_40y _ _ _ _ _ _ _ _ _ _ _ _ _ _ _ _ _ _ _ _ _ _ _ _ _ _ _ _ _ _ _ _ _ _ _ _ _ _ _ _ _ _ _ _ _ _ _ _ _ _ _ _ _ _ _ _ _ _ _ _ _ _ _ _ _ _ _ _ _ _ _ _ _ _ _ _ _ _ _ _ _ _ _ _ _ _ _ _ _ _ _ _ _ _ _ _ _ _ _ _ _ _ _ _ _ _ _ _ _ _ _ _ _ _ _ _ _ _ _ _ _ _ _ _ _ _ _ _ _ _ _ _ _ _ _ _ _ _ _ _ _ _ _ _ _ _ _ _ _ _ _ _ _ _ _ _ _ _ _ _ _ _ _ _ _ _ _ _ _ _ _ _ _ _ _ _ _ _ _ _ _ _ _ _ _ _ _ _ _ _ _ _ _ _ _ _ _ _ _ _ _ _ _ _ _ _ _ _ _ _ _ _ _ _ _ _ _ _ _ _ _ _ _ _ _ _ _ _ _ _ _ _ _ _ _ _ _ _ _ _ _ _ _ _ _ _ _ _ _ _ _ _ _ _ _ _ _ _ _ _ _ _ _ _ _ _ _ _ _ _ _ _ _ _ _ _ _ _ _ _ _ _ _ _ _ _ _ _ _ _ C s c M p c0 w1 Q hs (decide_eq_true h) hC hp hX HR HR0 (HE.out h) hQ
  · exact agr_40n _ _ _ _ _ _ _ _ _ _ _ _ _ _ _ _ _ _ _ _ _ _ _ _ _ _ _ _ _ _ _ _ _ _ _ _ _ _ _ _ _ _ _ _ _ _ _ _ _ _ _ _ _ _ _ _ _ _ _ _ _ _ _ _ _ _ _ _ _ _ _ _ _ _ _ _ _ _ _ _ _ _ _ _ _ _ _ _ _ _ _ _ _ _ _ _ _ _ _ _ _ _ _ _ _ _ _ _ _ _ _ _ _ _ _ _ _ _ _ _ _ _ _ _ _ _ _ _ _ _ _ _ _ _ _ _ _ _ _ _ _ _ _ _ _ _ _ _ _ _ _ _ _ _ _ _ _ _ _ _ _ _ _ _ _ _ _ _ _ _ _ _ _ _ _ _ _ _ _ _ _ _ _ _ _ _ _ _ _ _ _ _ _ _ _ _ _ _ _ _ _ _ _ _ _ _ _ _ _ _ _ _ _ _ _ _ _ _ _ _ _ _ _ _ _ _ _ _ _ _ _ _ _ _ _ _ _ _ _ _ _ _ _ _ _ _ _ _ _ _ _ _ _ _ _ _ _ _ _ _ _ _ _ _ _ _ _ _ _ _ _ _ _ _ _ _ _ _ _ _ _ _ _ _ _ _ _ _ _ _ _ _ C s c w1 Q hs (decide_eq_false h) hC hQ
end Go.Proofs.Ytejhmacbbdnlbaa.Ac
