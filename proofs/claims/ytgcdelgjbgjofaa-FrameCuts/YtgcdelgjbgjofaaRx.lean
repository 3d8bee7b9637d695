/-
  The contract of the program's Row: all data of a row, in a new list.
-/
import Derived.Test.YtgcdelgjbgjofaaRw
import Derived.Maps.AppendAt
namespace Go.Proofs.Ytgcdelgjbgjofaa
open Go.ChangeShapes Go.WideShapes Go.ChangeAt Go.RowKit
theorem info29 : (Try.prog.info? 29).map (fun i => (i.zero, i.size, i.bytes)) = some (some (.agg #[.slice none 0 0, .slice none 0 0]), 2, 48) := by kernel_rfl
/-- data that stand, whatever becomes of block o -/
def DStab (o : Option Nat) (w : World) (v : Value) (d : Dat) : Prop := ∀ w' : World, (∀ k, k < w.heap.size → some k ≠ o → w'.heap[k]? = w.heap[k]?) → DataAt w' v d.1 d.2
theorem DStab.data {o : Option Nat} {w : World} {v : Value} {d : Dat} (h : DStab o w v d) : DataAt w v d.1 d.2 := h w fun _ _ _ => rfl
theorem DStab.below {o : Option Nat} {w w' : World} {v : Value} {d : Dat} (h : DStab o w v d) (hb : Below w.heap.size w w') : DStab o w' v d :=
  fun w2 h2 => h w2 fun k hk ho => (h2 k (Nat.lt_of_lt_of_le hk hb.size) ho).trans (hb.block k hk)
theorem DStab.grown {o : Option Nat} {w w' : World} {v : Value} {d : Dat} (h : DStab o w v d) (hg : w.grownBy w' o) {o' : Option Nat} (ho' : o' = o ∨ o' = some w.heap.size) : DStab o' w' v d := by
  intro w2 h2
  refine h w2 fun k hk ho => ?_
  refine (h2 k (Nat.lt_of_lt_of_le hk hg.size) ?_).trans (hg.block k hk ho)
  rcases ho' with rfl | rfl
  · exact ho
  · intro e
    have := Option.some.inj e
    omega
theorem row_stab {w w' : World} {a : Option Addr} {len cap : Nat} {cs : List Value} (h : RowAt w a len cap cs) (hk : ∀ x, a = some x → x.block < w.heap.size → w'.heap[x.block]? = w.heap[x.block]?) : RowAt w' a len cap cs := by
  refine ⟨h.1, h.2.1, h.2.2.1, ?_⟩
  rcases h.2.2.2 with h0 | ⟨b, off, e, hc⟩
  · exact .inl h0
  · refine .inr ⟨b, off, e, fun i hi => ?_⟩
    have hl : i < cs.length := by rw [h.1]; exact hi
    have hx := hc i hi
    rw [List.getElem?_eq_getElem hl] at hx
    have hlt : b < w.heap.size := World.block_lt_of_cell? w ⟨b, off + i, none⟩ hx
    have hk2 : w'.heap[b]? = w.heap[b]? := hk _ e hlt
    exact (World.cell?_of_block (a := ⟨b, off + i, none⟩) hk2).trans (hc i hi)
theorem stab_new {w : World} {v : Value} {d : Dat} {B : Nat} {o : Option Nat} (h : DataAt w v d.1 d.2) (hf : FreshD B v) (ho : ∀ g, o = some g → g < B) : DStab o w v d := by
  intro w' hk
  obtain ⟨a1, n1, c1, a2, n2, c2, rfl, h1, h2, h3, h4⟩ := h
  obtain ⟨b1, m1, e1, b2, m2, e2, e, f1, f2⟩ := hf
  simp at e
  obtain ⟨⟨rfl, rfl, rfl⟩, rfl, rfl, rfl⟩ := e
  refine ⟨_, _, _, _, _, _, rfl, row_stab h1 fun x hx hlt => hk _ hlt fun eo => ?_, row_stab h2 fun x hx hlt => hk _ hlt fun eo => ?_, h3, h4⟩
  · have := ho _ eo.symm; have := f1 x hx; omega
  · have := ho _ eo.symm; have := f2 x hx; omega
/-- a list of data as cells -/
def flatP (ps : List (Value × Value)) : List Value := ps.flatMap fun p => [p.1, p.2]
theorem flatP_snoc (ps : List (Value × Value)) (x y : Value) : flatP (ps ++ [(x, y)]) = flatP ps ++ [x, y] := by simp [flatP]
def Datas (o : Option Nat) (w : World) : List (Value × Value) → List Dat → Prop
  | [], [] => True
  | p :: ps, d :: ds => DStab o w (.agg #[p.1, p.2]) d ∧ Datas o w ps ds
  | _, _ => False
theorem Datas.map {o o' : Option Nat} {w w' : World} (hm : ∀ v d, DStab o w v d → DStab o' w' v d) : ∀ {ps : List (Value × Value)} {ds : List Dat}, Datas o w ps ds → Datas o' w' ps ds := by
  intro ps
  induction ps with
  | nil => intro ds h; cases ds with
    | nil => exact h
    | cons _ _ => exact h.elim
  | cons p ps ih => intro ds h; cases ds with
    | nil => exact h.elim
    | cons d ds => exact ⟨hm _ _ h.1, ih h.2⟩
theorem Datas.snoc {o : Option Nat} {w : World} {x y : Value} {d : Dat} (hd : DStab o w (.agg #[x, y]) d) : ∀ {ps : List (Value × Value)} {ds : List Dat}, Datas o w ps ds → Datas o w (ps ++ [(x, y)]) (ds ++ [d]) := by
  intro ps
  induction ps with
  | nil => intro ds h; cases ds with
    | nil => exact ⟨hd, trivial⟩
    | cons _ _ => exact h.elim
  | cons p ps ih => intro ds h; cases ds with
    | nil => exact h.elim
    | cons d' ds => exact ⟨h.1, ih h.2⟩
/-- behind Row -/
def RowPost (w : World) (l : List UInt8) (e : Ending) (w' : World) : Prop := Below w.heap.size w w' ∧ ∃ v ps ds s, e = .returned (.tuple #[v, .int .i64 ((s : Nat) : Int)]) ∧ w'.ownsRow w.heap.size 29 2 v (List.length ds) (flatP ps) ∧ Datas v.ownBlock w' ps ds ∧ RowIs l ds s
theorem cells_two (w : World) (x y : Value) (t : TypeId) : ∀ j u, ([x, y] : List Value)[j]? = some u → (w.alloc (.cells #[x, y] t)).cell? ((⟨w.heap.size, 0, none⟩ : Addr).add j) = some u := by
  intro j u hj
  rw [addr_add, Nat.zero_add]
  unfold World.cell?
  rw [heap_alloc_new]
  simpa using hj
theorem one_two (a1 : Option Addr) (n1 c1 : Nat) (a2 : Option Addr) (n2 c2 : Nat) : ∀ u ∈ ([.slice a1 n1 c1, .slice a2 n2 c2] : List Value), u.oneCell' = true := by
  intro u hu; simp at hu; rcases hu with rfl | rfl <;> rfl
set_option maxHeartbeats 8000000 in
set_option maxRecDepth 60000 in
theorem row_any (a : Option Addr) (len cap : Nat) (l : List UInt8) (w : World) (h : RowAt w a len cap (cellsB l)) (h6 : Hid (len ≤ 60000)) :
    Calls Try.prog 26 #[.slice a len cap] w fun e w' => RowPost w l e w' := by
  obtain ⟨i0, hi, hz0, hz1, hz2⟩ := info_parts info29
  have hl : l.length = len := by simpa [cellsB] using h.1
  have h6' : ((len : Nat) : Int) ≤ 60000 := by have := h6.out; omega
  have HR : Hid (RowAt w a len cap (cellsB l)) := h
  have hcap := h.2.1
  clear h
  go_enter Try.func26, Try.ntmps26
  go_wp2
  go_loopw [4, 5] (fun v t wr => ∃ (ps : List (Value × Value)) (ds : List Dat) (s : Nat), t = .int .i64 (s : Int) ∧ s ≤ len ∧ wr.ownsRow w.heap.size 29 2 v ds.length (flatP ps) ∧ Datas v.ownBlock wr ps ds ∧ Below w.heap.size w wr ∧ Hid ((∀ d ∈ ds, OkD d) ∧ l = flatD ds ++ l.drop s ∧ s = (flatD ds).length ∧ ds.length ≤ s)) (fun _ t _ => len - (intOf t).toNat)
  case atStart => exact ⟨[], [], 0, rfl, Nat.zero_le _, World.ownsRow_nil _ _ _ _, trivial, Below.refl _ _, by simp, by simp [flatD], by simp [flatD], by simp⟩
  case round =>
    obtain ⟨ps, ds, s, rfl, hs, hown, hds, hbel, hI⟩ := hrel
    obtain ⟨a', hif, hrow⟩ := slice_from a len cap l s hs
    have HR1 : Hid (RowAt wr a' (len - s) (cap - s) (cellsB (l.drop s))) := hrow _ (HR.out.below hbel)
    clear hrow
    go_wp2_with fail
    refine (first2_any _ _ _ _ _ HR1.out).mono ?_
    rintro en w1 ⟨hb1, v1, s1, c1, rfl, hF, hfr⟩
    have hfr2 := hfr
    obtain ⟨x1, m1, k1, x2, m2, k2, rfl, _, _⟩ := hfr
    have hB1 := below2 hbel hb1
    have hb2 : Below w1.heap.size w1 (w1.alloc (.cells #[.slice x1 m1 k1, .slice x2 m2 k2] 29)) := (Below.refl _ _).alloc (Nat.le_refl _) _
    obtain ⟨hI1, hI2, hI3, hI4⟩ := hI.out
    rcases first_iff hF with ⟨rfl, d, r, hd1, hd2, hd3, hd4⟩ | ⟨hc, hno⟩
    · have hst := (stab_new (o := u4.ownBlock) hd1 hfr2 (fun g hg => (hown.lt g hg).2)).below (below2 hb2 ((Below.refl _ _).alloc (Nat.le_refl _) (.cells #[.slice x1 m1 k1, .slice x2 m2 k2] 29)))
      have HST : Hid (DStab u4.ownBlock ((w1.alloc (.cells #[.slice x1 m1 k1, .slice x2 m2 k2] 29)).alloc (.cells #[.slice x1 m1 k1, .slice x2 m2 k2] 29)) (.agg #[.slice x1 m1 k1, .slice x2 m2 k2]) d) := hst
      have HDS : Hid (Datas u4.ownBlock ((w1.alloc (.cells #[.slice x1 m1 k1, .slice x2 m2 k2] 29)).alloc (.cells #[.slice x1 m1 k1, .slice x2 m2 k2] 29)) ps ds) := hds.map fun v d h => h.below (below3 hb1 hb2 ((Below.refl _ _).alloc (Nat.le_refl _) _))
      have hlen : l.length - s = (frD d).length + r.length := by
        have := congrArg List.length hd3
        rw [List.length_drop, List.length_append] at this
        exact this
      have hpos := frD_pos d
      have HNEW : Hid ((∀ e ∈ ds ++ [d], OkD e) ∧ l = flatD (ds ++ [d]) ++ l.drop (s + s1) ∧ s + s1 = (flatD (ds ++ [d])).length ∧ (ds ++ [d]).length ≤ s + s1 ∧ s + s1 ≤ len ∧ 0 < s1) := by
        refine ⟨?_, ?_, ?_, ?_, by omega, by omega⟩
        · intro e he
          rcases List.mem_append.1 he with he | he
          · exact hI1 e he
          · rw [List.mem_singleton.1 he]; exact hd2
        · rw [flatD_snoc, List.append_assoc, ← List.drop_drop, hd3, hd4, List.drop_left, ← hd3]; exact hI2
        · rw [flatD_snoc, List.length_append, ← hI3, hd4]
        · rw [List.length_append]; simp; omega
      have HL : Hid (ds.length ≤ 60000) := by show _ ≤ _; have := h6.out; omega
      have hsum : (s : Int) + (s1 : Int) ≤ 60000 := by omega
      have hown2 := own_below hown hb1
      have hs1' := hb1.size
      have hsw := hbel.size
      have HB1 : Hid (Below w.heap.size w w1) := hB1
      clear hst hds hI1 hI2 hI3 hI4 hI hF hfr2 hd1 hd2 hd3 hlen hB1 hd4
      go_wp2_with (at_builtin; refine wpList_append_own_at _ rfl (.tmp 21) (.tmp 23) 44 rfl w.heap.size 29 i0 (.agg #[.slice none 0 0, .slice none 0 0]) 2 48 Try.underlying44 hi hz0 hz1 hz2 rfl (by decide) _ _ _ rfl ((hown2.alloc _).alloc _) ⟨w1.heap.size + 1, 0, none⟩ 1 1 [.slice x1 m1 k1, .slice x2 m2 k2] (by first | rfl | simp) rfl ?_ (one_two _ _ _ _ _ _) (by have := HL.out; unfold maxLen; omega) (by have := HL.out; omega) (by simp; omega) ?_)
      · have hct := cells_two (w1.alloc (.cells #[.slice x1 m1 k1, .slice x2 m2 k2] 29)) (.slice x1 m1 k1) (.slice x2 m2 k2) 29
        rw [World.size_alloc] at hct
        exact hct
      intro v5 w5 hown5 hgrow5 _ hat
      have hat' : v5.ownBlock = u4.ownBlock ∨ v5.ownBlock = some ((w1.alloc (.cells #[.slice x1 m1 k1, .slice x2 m2 k2] 29)).alloc (.cells #[.slice x1 m1 k1, .slice x2 m2 k2] 29)).heap.size := by
        rw [World.size_alloc, World.size_alloc]; exact hat
      have HD5 : Hid (Datas v5.ownBlock w5 (ps ++ [(.slice x1 m1 k1, .slice x2 m2 k2)]) (ds ++ [d])) := Datas.snoc (HST.out.grown hgrow5 hat') (HDS.out.map fun v d h => h.grown hgrow5 hat')
      have HB5 : Hid (Below w.heap.size w w5) := ((HB1.out.alloc HB1.out.size _).alloc (by simp; omega) _).grown hgrow5 (by simp; omega) (fun k hk => (hown.lt k hk).1)
      clear hgrow5 hat hat' HST HDS
      go_wp2
      go_roundw
      case rel =>
        obtain ⟨hN1, hN2, hN3, hN4, hN5, hN6⟩ := HNEW.out
        refine ⟨ps ++ [(.slice x1 m1 k1, .slice x2 m2 k2)], ds ++ [d], s + s1, by go_num, hN5, ?_, HD5.out, HB5.out, hN1, hN2, hN3, hN4⟩
        rw [List.length_append, flatP_snoc]
        exact hown5
      case measure => have := HNEW.out.2.2.2.2; simp [intOf]; omega
    · have HRO : Hid (RowIs l ds s) := ⟨hI1, l.drop s, hI2, hI3, hno⟩
      have hc0 : ((c1 : Int) != 0) = true := by simp; omega
      have hown2 := (own_below hown hb1).alloc (.cells #[.slice x1 m1 k1, .slice x2 m2 k2] 29)
      have hds2 := hds.map (o' := u4.ownBlock) (w' := w1.alloc (.cells #[.slice x1 m1 k1, .slice x2 m2 k2] 29)) fun v d h => h.below (below2 hb1 hb2)
      have hB2 := below2 hB1 hb2
      clear hI1 hI2 hI3 hI4 hI hF hfr2 hno hc
      go_wp2
      go_returns
      exact ⟨hB2, _, ps, ds, s, rfl, hown2, hds2, HRO.out⟩
end Go.Proofs.Ytgcdelgjbgjofaa
