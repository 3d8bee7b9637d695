/-
  Rows of bools; the answer List and Value.
-/
import Derived.Test.YtcdlkdbnlomghabDoorBiR
namespace Go.Proofs.YtcdlkdbnlomghabDoor.Bi
open Go.ChangeShapes Go.WideShapes Go.ChangeAt Go.RowKit
/-- a slice of values of one cell each, wherever it lies -/
def VsU (w : World) (ad : Option Addr) (m c : Nat) (xs : List Value) : Prop :=
  xs.length = m ∧ m ≤ c ∧ c ≤ maxLen ∧ (m = 0 ∨ ∃ b off, ad = some ⟨b, off, none⟩ ∧ ∀ (i : Nat) (v : Value), xs[i]? = some v → w.cell? ⟨b, off + i, none⟩ = some v)
theorem VsU.below {w w' : World} {ad : Option Addr} {m c : Nat} {xs : List Value} (h : VsU w ad m c xs) (hb : Below w.heap.size w w') : VsU w' ad m c xs := by
  refine ⟨h.1, h.2.1, h.2.2.1, ?_⟩
  rcases h.2.2.2 with h0 | ⟨b, off, e, hc⟩
  · exact .inl h0
  · exact .inr ⟨b, off, e, fun i v hv => (hb.cell (p := ⟨b, off + i, none⟩) (World.block_lt_of_cell? w ⟨b, off + i, none⟩ (hc i v hv))).trans (hc i v hv)⟩
theorem append_vu {w w0 : World} {ops : Array Oper} {rest : List Oper} {o : Oper} {a : Act} {Q : Exit → Act → World → Prop} {t e by8 : Nat} {z : Value} (ht : Tryd.prog.underlying t = some (.slice e)) (hinfo : (Tryd.prog.info? e).map (fun i => (i.zero, i.size, i.bytes)) = some (some z, 1, by8)) (hz : z.cells.size = 1) (h24 : by8 ≤ 24) (hgd : o.guard = none) (s x : Operand)
    (ho : o.op = .call { callee := .builtin .append, args := #[s, x], argTypes := #[t, t] })
    (v : Value) (n : Nat) (L : List Value) (hs : a.eval s = v) (hown : w.ownsRow w0.heap.size e 1 v n L) (hb : Below w0.heap.size w0 w)
    (ad : Option Addr) (m c : Nat) (M : List Value) (hx : a.eval x = .slice ad m c) (hM : VsU w ad m c M) (h1 : ∀ u ∈ M, u.oneCell' = true) (hn : (n : Int) ≤ 100000) (hm : (m : Int) ≤ 100000)
    (h : ∀ v' w', w'.ownsRow w0.heap.size e 1 v' (n + m) (L ++ M) → Below w0.heap.size w0 w' → w.grownBy w' v.ownBlock → wpList Tryd.prog ops Q rest (a.put o.dst v') w') : wpList Tryd.prog ops Q (o :: rest) a w := by
  obtain ⟨i0, hi, hz0, hz1, hz2⟩ := info_parts hinfo
  by_cases h0 : m = 0
  · subst h0
    have hM0 : M = [] := List.length_eq_zero_iff.1 hM.1
    subst hM0
    refine wpList_plain hgd fun K hK => ?_
    have hl : ∀ (x : Addr), (loadCells x 0).run Tryd.prog w = .ok #[] w := fun x => by simpa using run_loadCells_list (P := Tryd.prog) w x [] (by simp)
    have hrun : (Builtin.append_ #[t, t] o.type #[v, .slice ad 0 c]).run Tryd.prog w = .ok v w := by
      rcases hown.2 with ⟨rfl, rfl⟩ | ⟨g, cap, cur, rfl, _, _, hnc, _⟩ <;> cases ad <;> simp [Builtin.append_, run_underlying ht, sizeOf, typeInfo, Builtin.lenOf, Builtin.firstCells, storeCells, *]
    unfold Oper.wp
    simp [execOp, ho, resolve, invoke, builtin, hs, hx, hrun]
    exact hK _ _ (h v w (by rw [List.append_nil]; exact hown) hb ⟨rfl, rfl, rfl, Nat.le_refl _, fun _ _ _ => rfl⟩)
  · rcases hM.2.2.2 with hh | ⟨b, off, rfl, hc⟩
    · omega
    · refine wpList_append_own _ hgd s x t ho w0.heap.size e i0 z 1 by8 ht hi hz0 hz1 hz2 hz (by decide) v n L hs hown ⟨b, off, none⟩ m c M hx (by rw [hM.1]; omega) (fun j u hj => by rw [addr_add]; exact hc j u hj) h1 (by unfold maxLen; omega) (Nat.le_trans (Nat.mul_le_mul_left _ h24) (by omega)) hb.size ?_
      intro v' w' hown' hg _
      exact h v' w' hown' (hb.grown hg hb.size (fun k hk => (hown.lt k hk).1)) hg
theorem own_vu {w : World} {B n T : Nat} {v : Value} {L : List Value} (h : w.ownsRow B T 1 v n L) : ∃ a c, v = .slice a n c ∧ VsU w a n c L := by
  have hl : L.length = n := by have := h.1; omega
  obtain ⟨h1, ⟨e, h0⟩ | ⟨g, cap, cur, e, hB, hh, hn, hm, hs, ht⟩⟩ := h
  · subst h0
    exact ⟨none, 0, e, hl, Nat.le_refl _, Nat.zero_le _, .inl rfl⟩
  · subst e
    refine ⟨_, _, rfl, hl, hn, hm, ?_⟩
    by_cases h0 : n = 0
    · exact .inl h0
    · refine .inr ⟨g, 0, rfl, fun i v hv => ?_⟩
      unfold World.cell?
      rw [show w.heap[(⟨g, 0 + i, none⟩ : Addr).block]? = _ from hh]
      have : (cur.toList.take (n * 1))[i]? = some v := by rw [ht]; exact hv
      have hi : i < n := by rw [← hl]; exact (List.getElem?_eq_some_iff.1 hv).1
      rw [List.getElem?_take_of_lt (by omega)] at this
      simpa using this
theorem own_nothing (w : World) (B E size : Nat) : w.ownsRow B E size (.slice none 0 0) 0 [] := ⟨by simp, .inl ⟨rfl, rfl⟩⟩
theorem own_below {a b : World} {B E s : Nat} {v : Value} {n : Nat} {xs : List Value} (h : a.ownsRow B E s v n xs) (hb : Below a.heap.size a b) : b.ownsRow B E s v n xs := by
  refine ⟨h.1, ?_⟩
  rcases h.2 with h | ⟨g, cap, cur, hv, hg, hh, r⟩
  · exact .inl h
  · exact .inr ⟨g, cap, cur, hv, hg, (hb.block g (Array.getElem?_eq_some_iff.1 hh).1).trans hh, r⟩
def boV (l : List Bool) : List Value := l.map Value.bool
theorem boV_len (l : List Bool) : (boV l).length = l.length := by simp [boV]
theorem boV_one (l : List Bool) : ∀ v ∈ boV l, v.oneCell' = true := by
  intro v hv
  obtain ⟨b, -, rfl⟩ := List.mem_map.1 hv
  rfl
theorem boV_append (l m : List Bool) : boV (l ++ m) = boV l ++ boV m := by simp [boV]
/-- a row of bools, wherever it lies -/
def BoAt (w : World) (a : Option Addr) (len cap : Nat) (l : List Bool) : Prop := VsU w a len cap (boV l)
theorem BoAt.below {w w' : World} {a : Option Addr} {len cap : Nat} {l : List Bool} (h : BoAt w a len cap l) (hb : Below w.heap.size w w') : BoAt w' a len cap l := VsU.below h hb
theorem BoAt.len {w : World} {a : Option Addr} {len cap : Nat} {l : List Bool} (h : BoAt w a len cap l) : l.length = len := by have := h.1; rwa [boV_len] at this
theorem BoAt.nil (w : World) : BoAt w none 0 0 [] := ⟨rfl, Nat.le_refl _, Nat.zero_le _, .inl rfl⟩
theorem BoAt.at {w : World} {a : Option Addr} {len cap : Nat} {l : List Bool} (h : BoAt w a len cap l) {i : Nat} (hi : i < len) : ∃ b off, a = some ⟨b, off, none⟩ ∧ w.cell? ⟨b, off + i, none⟩ = some (.bool (l.getD i false)) := by
  have hl := h.len
  rcases h.2.2.2 with h0 | ⟨b, off, e, hc⟩
  · omega
  · refine ⟨b, off, e, hc i _ ?_⟩
    have : i < l.length := by omega
    simp [boV, this]
theorem infoBo : (Tryd.prog.info? 4).map (fun i => (i.zero, i.size, i.bytes)) = some (some (.bool false), 1, 1) := by kernel_rfl
/-- a new row of bools, told -/
def BoPost (l : List Bool) (w : World) (e : Ending) (w' : World) : Prop := Below w.heap.size w w' ∧ ∃ (a : Option Addr) (c : Nat), e = .returned (.slice a l.length c) ∧ BoAt w' a l.length c l
theorem BoPost.of_own {w w' : World} {l : List Bool} {n : Nat} {v : Value} (hb : Below w.heap.size w w') (h : w'.ownsRow w.heap.size 4 1 v n (boV l)) (hn : l.length = n) : BoPost l w (.returned v) w' := by
  obtain ⟨a, c, rfl, hv⟩ := own_vu h
  subst hn
  exact ⟨hb, a, c, rfl, hv⟩
theorem own_lit (w : World) (b : Bool) : VsU (w.alloc (.cells #[.bool b] 4)) (some ⟨w.heap.size, 0, none⟩) 1 1 (boV [b]) := by
  refine ⟨rfl, Nat.le_refl _, by decide, .inr ⟨w.heap.size, 0, rfl, fun i v hv => ?_⟩⟩
  rcases i with _ | i
  · have e : v = .bool b := by simpa [boV] using hv.symm
    subst e
    have := heap_alloc_new w (.cells #[Value.bool b] 4)
    unfold World.cell?
    rw [show (w.alloc (.cells #[Value.bool b] 4)).heap[(⟨w.heap.size, 0 + 0, none⟩ : Addr).block]? = _ from this]
    rfl
  · simp [boV] at hv
theorem own_none (w : World) (B : Nat) (hB : B ≤ w.heap.size) : (w.alloc (.cells #[] 4)).ownsRow B 4 1 (.slice (some ⟨w.heap.size, 0, none⟩) 0 0) 0 [] := by
  have := World.ownsRow_lit (base := B) (size := 1) (e := 4) w #[] 0 hB (Nat.zero_le _) rfl
  simpa using this
theorem B2.grown {w w' : World} {b T : Nat} {v0 v1 : Value} {row : Option Nat} (h : B2 w b T v0 v1) (hg : w.grownBy w' row) (hr : row ≠ some b) : B2 w' b T v0 v1 := h.kept (hg.block b h.lt fun e => hr e.symm)
theorem own_apart {w : World} {B n b E T : Nat} {v v0 v1 : Value} {xs : List Value} (ho : w.ownsRow B E 1 v n xs) (hx : B2 w b T v0 v1) (hT : T ≠ E) : v.ownBlock ≠ some b := by
  obtain ⟨_, ⟨rfl, _⟩ | ⟨g, cap, cur, rfl, _, hh, _⟩⟩ := ho
  · simp [Value.ownBlock]
  · intro e
    simp [Value.ownBlock] at e
    subst e
    unfold B2 at hx
    rw [hx] at hh
    simp at hh
    exact hT hh.2
theorem byte_bit (l : List Bool) (i : Nat) : byteOf l (i / 8) / 2 ^ (7 - i % 8) % 2 = bt l i := by
  rw [byte_split l (i / 8) (i % 8) (1 + (7 - i % 8)) (by omega), val_add, show 8 * (i / 8) + i % 8 = i by omega, Nat.pow_add, ← Nat.mul_assoc, Nat.pow_one]
  have hr := val_lt (bt_lt l) (i + 1) (7 - i % 8)
  have h1v : val (bt l) i 1 = bt l i := by simp [val]
  rw [h1v, ← Nat.add_assoc, ← Nat.add_mul, Nat.add_comm (_ * 2 ^ _), Nat.add_mul_div_right _ _ (Nat.two_pow_pos _), Nat.div_eq_of_lt hr, Nat.zero_add, Nat.add_comm, Nat.add_mul_mod_self_right]
  exact Nat.mod_eq_of_lt (bt_lt l i)
theorem bit_eq (l : List Bool) (i j q B : Nat) (hj : j = i / 8) (hq : q = 7 - i % 8) (hB : B = byteOf l j) : ((B : Int) / 2 ^ q % 2 == 1) = l.getD i false := by
  have h := byte_bit l i
  rw [← hj, ← hq, ← hB] at h
  have e : (B : Int) / 2 ^ q % 2 = ((bt l i : Nat) : Int) := by rw [← h, Int.natCast_emod, Int.natCast_ediv, Int.natCast_pow]; rfl
  rw [e]
  unfold bt
  cases l.getD i false <;> rfl
theorem take_snoc (l : List Bool) {i : Nat} (h : i < l.length) : l.take i ++ [l.getD i false] = l.take (i + 1) := by
  rw [List.take_add_one]
  simp [h]
end Go.Proofs.YtcdlkdbnlomghabDoor.Bi
