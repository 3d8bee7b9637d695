/-
  Rows of bools; the answer List and Value.
-/
import Derived.Test.YtcdlkdbnlomghaaDoorBiR
namespace Go.Proofs.YtcdlkdbnlomghaaDoor.Bi
open Go.ChangeShapes Go.WideShapes Go.ChangeAt Go.RowKit
/-- a slice of values of one cell each, wherever it lies -/
def VsU (w : World) (ad : Option Addr) (m c : Nat) (xs : List Value) : Prop :=
  xs.length = m ∧ m ≤ c ∧ c ≤ maxLen ∧ (m = 0 ∨ ∃ b off, ad = some ⟨b, off, none⟩ ∧ ∀ (i : Nat) (v : Value), xs[i]? = some v → w.cell? ⟨b, off + i, none⟩ = some v)
theorem VsU.below {w w' : World} {ad : Option Addr} {m c : Nat} {xs : List Value} (h : VsU w ad m c xs) (hb : Below w.heap.size w w') : VsU w' ad m c xs := by
  refine ⟨h.1, h.2.1, h.2.2.1, ?_⟩
  rcases h.2.2.2 with h0 | ⟨b, off, e, hc⟩
  · exact .inl h0
  · exact .inr ⟨b, off, e, fun i v hv => (hb.cell (p := ⟨b, off + i, none⟩) (World.block_lt_of_cell? w ⟨b, off + i, none⟩ (hc i v hv))).trans (hc i v hv)⟩
theorem append_vu {w w0 : World} {ops : Array Oper} {rest : List Oper} {o : Oper} {a : Act} {Q : Exit → Act → World → Prop} {t e by8 : Nat} {z : Value} (ht : Tryd.prog.underlying t = some (.slice e)) (hinfo : (Tryd.prog.info? e).map (fun i => (i.zero, i.size, i.bytes)) = some (some z, 1, by8)) (hz : z.cells.size = 1) (h24 : by8 ≤ 24) (hgd : o.guard = none) (s x : Operand)
    (ho : o.op = .call { callee := .builtin .append, args := #[s, x], argTypes := #[t, t] })
    (v : Value) (n : Nat) (L : List Value) (hs : a.eval s = v) (hown : w.ownsRow w0.heap.size e 1 v n L) (hb : Below w0.heap.size w0 w)
    (ad : Option Addr) (m c : Nat) (M : List Value) (hx : a.eval x = .slice ad m c) (hM : VsU w ad m c M) (h1 : ∀ u ∈ M, u.oneCell' = true) (hn : (n : Int) ≤ 100000) (hm : (m : Int) ≤ 100000)
    (h : ∀ v' w', w'.ownsRow w0.heap.size e 1 v' (n + m) (L ++ M) → Below w0.heap.size w0 w' → w.grownBy w' v.ownBlock → wpList Tryd.prog ops Q rest (a.put o.dst v') w') : wpList Tryd.prog ops Q (o :: rest) a w := by
  obtain ⟨i0, hi, hz0, hz1, hz2⟩ := info_parts hinfo
  by_cases h0 : m = 0
  · subst h0
    have hM0 : M = [] := List.length_eq_zero_iff.1 hM.1
    subst hM0
    refine wpList_plain hgd fun K hK => ?_
    have hl : ∀ (x : Addr), (loadCells x 0).run Tryd.prog w = .ok #[] w := fun x => by simpa using run_loadCells_list (P := Tryd.prog) w x [] (by simp)
    have hrun : (Builtin.append_ #[t, t] o.type #[v, .slice ad 0 c]).run Tryd.prog w = .ok v w := by
      rcases hown.2 with ⟨rfl, rfl⟩ | ⟨g, cap, cur, rfl, _, _, hnc, _⟩ <;> cases ad <;> simp [Builtin.append_, run_underlying ht, sizeOf, typeInfo, Builtin.lenOf, Builtin.firstCells, storeCells, *]
    unfold Oper.wp
    simp [execOp, ho, resolve, invoke, builtin, hs, hx, hrun]
    exact hK _ _ (h v w (by rw [List.append_nil]; exact hown) hb ⟨rfl, rfl, rfl, Nat.le_refl _, fun _ _ _ => rfl⟩)
  · rcases hM.2.2.2 with hh | ⟨b, off, rfl, hc⟩
    · omega
    · refine wpList_append_own _ hgd s x t ho w0.heap.size e i0 z 1 by8 ht hi hz0 hz1 hz2 hz (by decide) v n L hs hown ⟨b, off, none⟩ m c M hx (by rw [hM.1]; omega) (fun j u hj => by rw [addr_add]; exact hc j u hj) h1 (by unfold maxLen; omega) (Nat.le_trans (Nat.mul_le_mul_left _ h24) (by omega)) hb.size ?_
      intro v' w' hown' hg _
      exact h v' w' hown' (hb.grown hg hb.size (fun k hk => (hown.lt k hk).1)) hg
theorem own_vu {w : World} {B n T : Nat} {v : Value} {L : List Value} (h : w.ownsRow B T 1 v n L) : ∃ a c, v = .slice a n c ∧ VsU w a n c L := by
  have hl : L.length = n := by have := h.1; omega
  obtain ⟨h1, ⟨e, h0⟩ | ⟨g, cap, cur, e, hB, hh, hn, hm, hs, ht⟩⟩ := h
  · subst h0
    exact ⟨none, 0, e, hl, Nat.le_refl _, Nat.zero_le _, .inl rfl⟩
  · subst e
    refine ⟨_, _, rfl, hl, hn, hm, ?_⟩
    by_cases h0 : n = 0
    · exact .inl h0
    · refine .inr ⟨g, 0, rfl, fun i v hv => ?_⟩
      unfold World.cell?
      rw [show w.heap[(⟨g, 0 + i, none⟩ : Addr).block]? = _ from hh]
      have : (cur.toList.take (n * 1))[i]? = some v := by rw [ht]; exact hv
      have hi : i < n := by rw [← hl]; exact (List.getElem?_eq_some_iff.1 hv).1
      rw [List.getElem?_take_of_lt (by omega)] at this
      simpa using this
theorem own_nothing (w : World) (B E size : Nat) : w.ownsRow B E size (.slice none 0 0) 0 [] := ⟨by simp, .inl ⟨rfl, rfl⟩⟩
theorem own_below {a b : World} {B E s : Nat} {v : Value} {n : Nat} {xs : List Value} (h : a.ownsRow B E s v n xs) (hb : Below a.heap.size a b) : b.ownsRow B E s v n xs := by
  refine ⟨h.1, ?_⟩
  rcases h.2 with h | ⟨g, cap, cur, hv, hg, hh, r⟩
  · exact .inl h
  · exact .inr ⟨g, cap, cur, hv, hg, (hb.block g (Array.getElem?_eq_some_iff.1 hh).1).trans hh, r⟩
def boV (l : List Bool) : List Value := l.map Value.bool
theorem boV_len (l : List Bool) : (boV l).length = l.length := by simp [boV]
theorem boV_one (l : List Bool) : ∀ v ∈ boV l, v.oneCell' = true := by
  intro v hv
  obtain ⟨b, -, rfl⟩ := List.mem_map.1 hv
  rfl
theorem boV_append (l m : List Bool) : boV (l ++ m) = boV l ++ boV m := by simp [boV]
/-- a row of bools, wherever it lies -/
def BoAt (w : World) (a : Option Addr) (len cap : Nat) (l : List Bool) : Prop := VsU w a len cap (boV l)
theorem BoAt.below {w w' : World} {a : Option Addr} {len cap : Nat} {l : List Bool} (h : BoAt w a len cap l) (hb : Below w.heap.size w w') : BoAt w' a len cap l := VsU.below h hb
theorem BoAt.len {w : World} {a : Option Addr} {len cap : Nat} {l : List Bool} (h : BoAt w a len cap l) : l.length = len := by have := h.1; rwa [boV_len] at this
theorem BoAt.nil (w : World) : BoAt w none 0 0 [] := ⟨rfl, Nat.le_refl _, Nat.zero_le _, .inl rfl⟩
theorem BoAt.at {w : World} {a : Option Addr} {len cap : Nat} {l : List Bool} (h : BoAt w a len cap l) {i : Nat} (hi : i < len) : ∃ b off, a = some ⟨b, off, none⟩ ∧ w.cell? ⟨b, off + i, none⟩ = some (.bool (l.getD i false)) := by
  have hl := h.len
  rcases h.2.2.2 with h0 | ⟨b, off, e, hc⟩
  · omega
  · refine ⟨b, off, e, hc i _ ?_⟩
    have : i < l.length := by omega
    simp [boV, this]
theorem infoBo : (Tryd.prog.info? 4).map (fun i => (i.zero, i.size, i.bytes)) = some (some (.bool false), 1, 1) := by kernel_rfl
/-- a new row of bools, told -/
def BoPost (l : List Bool) (w : World) (e : Ending) (w' : World) : Prop := Below w.heap.size w w' ∧ ∃ (a : Option Addr) (c : Nat), e = .returned (.slice a l.length c) ∧ BoAt w' a l.length c l
theorem BoPost.of_own {w w' : World} {l : List Bool} {n : Nat} {v : Value} (hb : Below w.heap.size w w') (h : w'.ownsRow w.heap.size 4 1 v n (boV l)) (hn : l.length = n) : BoPost l w (.returned v) w' := by
  obtain ⟨a, c, rfl, hv⟩ := own_vu h
  subst hn
  exact ⟨hb, a, c, rfl, hv⟩
theorem own_lit (w : World) (b : Bool) : VsU (w.alloc (.cells #[.bool b] 4)) (some ⟨w.heap.size, 0, none⟩) 1 1 (boV [b]) := by
  refine ⟨rfl, Nat.le_refl _, by decide, .inr ⟨w.heap.size, 0, rfl, fun i v hv => ?_⟩⟩
  rcases i with _ | i
  · have e : v = .bool b := by simpa [boV] using hv.symm
    subst e
    have := heap_alloc_new w (.cells #[Value.bool b] 4)
    unfold World.cell?
    rw [show (w.alloc (.cells #[Value.bool b] 4)).heap[(⟨w.heap.size, 0 + 0, none⟩ : Addr).block]? = _ from this]
    rfl
  · simp [boV] at hv
theorem own_none (w : World) (B : Nat) (hB : B ≤ w.heap.size) : (w.alloc (.cells #[] 4)).ownsRow B 4 1 (.slice (some ⟨w.heap.size, 0, none⟩) 0 0) 0 [] := by
  have := World.ownsRow_lit (base := B) (size := 1) (e := 4) w #[] 0 hB (Nat.zero_le _) rfl
  simpa using this
theorem B2.grown {w w' : World} {b T : Nat} {v0 v1 : Value} {row : Option Nat} (h : B2 w b T v0 v1) (hg : w.grownBy w' row) (hr : row ≠ some b) : B2 w' b T v0 v1 := h.kept (hg.block b h.lt fun e => hr e.symm)
theorem own_apart {w : World} {B n b E T : Nat} {v v0 v1 : Value} {xs : List Value} (ho : w.ownsRow B E 1 v n xs) (hx : B2 w b T v0 v1) (hT : T ≠ E) : v.ownBlock ≠ some b := by
  obtain ⟨_, ⟨rfl, _⟩ | ⟨g, cap, cur, rfl, _, hh, _⟩⟩ := ho
  · simp [Value.ownBlock]
  · intro e
    simp [Value.ownBlock] at e
    subst e
    unfold B2 at hx
    rw [hx] at hh
    simp at hh
    exact hT hh.2
theorem byte_bit (l : List Bool) (i : Nat) : byteOf l (i / 8) / 2 ^ (7 - i % 8) % 2 = bt l i := by
  rw [byte_split l (i / 8) (i % 8) (1 + (7 - i % 8)) (by omega), val_add, show 8 * (i / 8) + i % 8 = i by omega, Nat.pow_add, ← Nat.mul_assoc, Nat.pow_one]
  have hr := val_lt (bt_lt l) (i + 1) (7 - i % 8)
  have h1v : val (bt l) i 1 = bt l i := by simp [val]
  rw [h1v, ← Nat.add_assoc, ← Nat.add_mul, Nat.add_comm (_ * 2 ^ _), Nat.add_mul_div_right _ _ (Nat.two_pow_pos _), Nat.div_eq_of_lt hr, Nat.zero_add, Nat.add_comm, Nat.add_mul_mod_self_right]
  exact Nat.mod_eq_of_lt (bt_lt l i)
theorem bit_eq (l : List Bool) (i j q B : Nat) (hj : j = i / 8) (hq : q = 7 - i % 8) (hB : B = byteOf l j) : ((B : Int) / 2 ^ q % 2 == 1) = l.getD i false := by
  have h := byte_bit l i
  rw [← hj, ← hq, ← hB] at h
  have e : (B : Int) / 2 ^ q % 2 = ((bt l i : Nat) : Int) := by rw [← h, Int.natCast_emod, Int.natCast_ediv, Int.natCast_pow]; rfl
  rw [e]
  unfold bt
  cases l.getD i false <;> rfl
theorem take_snoc (l : List Bool) {i : Nat} (h : i < l.length) : l.take i ++ [l.getD i false] = l.take (i + 1) := by
  rw [List.take_add_one]
  simp [h]
set_option maxHeartbeats 1000000 in
set_option maxRecDepth 60000 in
theorem list_any (a : Option Addr) (len cap k : Nat) (l : List Bool) (w : World) (h : ByAt w a len cap (pack l len)) (hk : l.length = k) (hl : len = need k) (hN : k ≤ 20000) :
    Calls Tryd.prog 39 #[.agg #[.slice a len cap, .int .i64 (k : Int)]] w fun e w' => BoPost l w e w' := by
  have HL : Hid (l.length = k ∧ len = need k ∧ k ≤ 20000) := ⟨hk, hl, hN⟩
  have hk9 : (k : Int) ≤ 20000 := by omega
  have HB := Hid.mk9 (below_alloc w (.cells #[.slice a len cap, .int .i64 (k : Int)] 26))
  have HX := Hid.mk9 (B2.new w 26 (.slice a len cap) (.int .i64 (k : Int)))
  have HR := Hid.mk9 h
  have hlen : (len : Int) ≤ 100000 := by rw [hl]; unfold need; omega
  clear h hk hl hN
  go_enter Tryd.func39, Tryd.ntmps39
  go_upto_region 1 with fail
  generalize w.alloc (.cells #[.slice a len cap, .int .i64 (k : Int)] 26) = w1 at *
  obtain ⟨X, hX⟩ : ∃ X, X = w.heap.size := ⟨_, rfl⟩
  rw [← hX] at HX ⊢
  clear hX
  go_upto_region 2 with fail
  have HO2 := Hid.mk9 (own_none w1 w.heap.size HB.out.size)
  have HB2 := Hid.mk9 (below2 HB.out (below_alloc w1 (.cells #[] 4)))
  have HX2 := Hid.mk9 (HX.out.below (below_alloc w1 (.cells #[] 4)))
  clear HB HX
  generalize w1.alloc (.cells #[] 4) = w2 at *
  generalize w1.heap.size = Y at *
  go_wp2_with fail
  go_loopw [3, 4] (fun v i wr => ∃ n : Nat, i = .int .i64 (n : Int) ∧ Hid (n ≤ k) ∧ Hid (wr.ownsRow w.heap.size 4 1 v n (boV (l.take n))) ∧ Hid (Below w.heap.size w wr ∧ B2 wr X 26 (.slice a len cap) (.int .i64 (k : Int)))) (fun v i _ => k - (intOf i).toNat)
  case atStart => exact ⟨0, rfl, Nat.zero_le _, HO2.out, HB2.out, HX2.out⟩
  case round =>
    obtain ⟨n, rfl, hn, ho, hs⟩ := hrel
    obtain ⟨p0, p1⟩ := hs.out.2.cells
    by_cases hlt : n < k
    · have hLL := HL.out
      obtain ⟨j, hj⟩ : ∃ j, j = n / 8 := ⟨_, rfl⟩
      obtain ⟨m, hm⟩ : ∃ m, m = n % 8 := ⟨_, rfl⟩
      obtain ⟨q, hq⟩ : ∃ q, q = 7 - n % 8 := ⟨_, rfl⟩
      have e1 : (n : Int) / 8 = (j : Int) := by omega
      have e2 : (n : Int) % 8 = (m : Int) := by omega
      have e3 : 7 - (m : Int) = (q : Int) := by omega
      have e4 : (n : Int) < (k : Int) := by omega
      have e5 : (j : Int) < (len : Int) := by have := hLL.2.1; unfold need at this; omega
      have e6 : (q : Int) ≤ 7 := by omega
      obtain ⟨b, off, rfl, -, hc⟩ := (HR.out.below hs.out.1).some (by omega)
      have h1 := hc j (by omega)
      rw [pack_get l (by omega)] at h1
      obtain ⟨B, hB⟩ : ∃ B, B = byteOf l j := ⟨_, rfl⟩
      rw [← hB] at h1
      obtain ⟨y, hy⟩ : ∃ y, y = B / 2 ^ q := ⟨_, rfl⟩
      have e8 : (B : Int) / 2 ^ q = (y : Int) := by rw [hy, Int.natCast_ediv, Int.natCast_pow]; rfl
      have e7 : ((y : Int) % 2 == 1) = l.getD n false := by rw [← e8]; exact bit_eq l n j q B hj hq hB
      have HNX := Hid.mk9 (take_snoc l (i := n) (by omega))
      have HLT := Hid.mk9 hlt
      obtain ⟨bb, hbb⟩ : ∃ bb, bb = l.getD n false := ⟨_, rfl⟩
      rw [← hbb] at e7 HNX
      clear hc hlt hLL hj hm hq hB hbb hy
      have HOA := Hid.mk9 (own_below ho.out (below_alloc wr (.cells #[.bool bb] 4)))
      have HBA := Hid.mk9 (below2 hs.out.1 (below_alloc wr (.cells #[.bool bb] 4)))
      have HXA := Hid.mk9 (hs.out.2.below (below_alloc wr (.cells #[.bool bb] 4)))
      have HLA := Hid.mk9 (own_lit wr bb)
      have hn9 : (n : Int) ≤ 100000 := by omega
      clear hs ho
      go_wp2_with (at_builtin; refine append_vu Tryd.underlying80 infoBo rfl (by decide) rfl _ _ rfl u3 n _ rfl HOA.out HBA.out _ 1 1 (boV [bb]) rfl HLA.out (boV_one _) hn9 (by decide) ?_; intro v7 w7 hown7 hb7 hg7; have HO7 := Hid.mk9 hown7; have HS7 := Hid.mk9 (And.intro hb7 (HXA.out.grown hg7 (own_apart HOA.out HXA.out (by decide)))); clear hown7 hb7 hg7)
      refine ⟨⟨n + 1, by go_num, HLT.out, ?_, HS7.out⟩, by simp [intOf]; have := HLT.out; omega⟩
      have := HO7.out
      rwa [← boV_append, HNX.out] at this
    · obtain rfl : n = k := by have := hn.out; omega
      have HE : Hid (BoPost l w (.returned u3) wr) := BoPost.of_own hs.out.1 (by have := ho.out; rwa [show l.take n = l from List.take_of_length_le (by rw [HL.out.1]; exact Nat.le_refl _)] at this) HL.out.1
      clear hs ho hlt
      go_wp2_with fail
      go_ret
      exact HE.out
set_option maxHeartbeats 1000000 in
set_option maxRecDepth 60000 in
theorem value_any (a : Option Addr) (len cap : Nat) (l : List Bool) (w : World) (h : BoAt w a len cap l) (hl : len ≤ 64) :
    Calls Tryd.prog 41 #[.slice a len cap] w fun e w' => e = .returned (.int .u64 ((valL l : Nat) : Int)) ∧ w' = w := by
  have HR := Hid.mk9 h
  have hlen := h.len
  have h9 : (len : Int) ≤ 64 := by omega
  have HL : Hid (l.length = len ∧ len ≤ 64) := ⟨hlen, hl⟩
  clear h hlen hl
  go_enter Tryd.func41, Tryd.ntmps41
  go_wp2_with fail
  go_loopw [3, 4] (fun u i wr => ∃ n : Nat, i = .int .i64 (n : Int) ∧ Hid (n ≤ len) ∧ Hid (u = .int .u64 ((valL (l.take n) : Nat) : Int) ∧ wr = w)) (fun u i _ => len - (intOf i).toNat)
  case atStart => exact ⟨0, rfl, Nat.zero_le _, rfl, rfl⟩
  case round =>
    obtain ⟨n, rfl, hn, hu⟩ := hrel
    obtain ⟨rfl, rfl⟩ := hu.out
    clear hu
    by_cases hlt : n < len
    · have e4 : (n : Int) < (len : Int) := by omega
      obtain ⟨b, off, rfl, h1⟩ := HR.out.at hlt
      have HS : Hid (valL (l.take (n + 1)) = 2 * valL (l.take n) + (l.getD n false).toNat) := by unfold Hid; rw [← take_snoc l (by have := HL.out; omega), valL_snoc]
      have hsm : ((valL (l.take (n + 1)) : Nat) : Int) < 18446744073709551616 := by
        have h2 := valL_lt (l.take (n + 1))
        have h3 : 2 ^ (l.take (n + 1)).length ≤ 2 ^ 64 := Nat.pow_le_pow_right (by decide) (by have := HL.out; simp; omega)
        have h4 : (2 : Nat) ^ 64 = 18446744073709551616 := by decide
        omega
      have HLT := Hid.mk9 hlt
      obtain ⟨x, hx⟩ : ∃ x, x = valL (l.take n) := ⟨_, rfl⟩
      obtain ⟨y, hy⟩ : ∃ y, y = valL (l.take (n + 1)) := ⟨_, rfl⟩
      rw [← hx] at HS ⊢
      rw [← hy] at HS hsm
      have HY := Hid.mk9 hy
      clear hx hlt hy
      cases hbb : l.getD n false with
      | false =>
        rw [hbb] at h1 HS
        have ey : (x : Int) * 2 = (y : Int) := by have := HS.out; simp at this; omega
        have ew : IntKind.u64.wrap (y : Int) = (y : Int) := by rw [IntKind.wrap_u64]; omega
        clear hbb hsm HS
        go_wp2_with fail
        exact ⟨⟨n + 1, by go_num, HLT.out, by rw [HY.out], trivial⟩, by simp [intOf]; have := HLT.out; omega⟩
      | true =>
        rw [hbb] at h1 HS
        obtain ⟨z, hz⟩ : ∃ z, z = 2 * x := ⟨_, rfl⟩
        have ey : (x : Int) * 2 = (z : Int) := by omega
        have ez : (z : Int) + 1 = (y : Int) := by have := HS.out; simp at this; omega
        have ew : IntKind.u64.wrap (y : Int) = (y : Int) := by rw [IntKind.wrap_u64]; omega
        have ew2 : IntKind.u64.wrap (z : Int) = (z : Int) := by rw [IntKind.wrap_u64]; omega
        clear hbb hsm HS hz
        go_wp2_with fail
        exact ⟨⟨n + 1, by go_num, HLT.out, by rw [HY.out], trivial⟩, by simp [intOf]; have := HLT.out; omega⟩
    · obtain rfl : n = len := by have := hn.out; omega
      have HE : Hid (l.take n = l) := by unfold Hid; rw [← HL.out.1, List.take_length]
      clear hlt
      rw [HE.out]
      obtain ⟨x, hx⟩ : ∃ x, x = valL l := ⟨_, rfl⟩
      rw [← hx]
      have HX := Hid.mk9 hx
      clear hx
      go_wp2_with fail
      go_ret
      exact ⟨by rw [← HX.out]; rfl, rfl⟩
end Go.Proofs.YtcdlkdbnlomghaaDoor.Bi
