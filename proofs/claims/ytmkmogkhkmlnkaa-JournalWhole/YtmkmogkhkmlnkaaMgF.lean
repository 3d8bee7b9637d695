/-
  Rows of data: what is read of them, and the contract of the program's Row.
  The contract of the program's Row: all data of a row, in a new list.
-/
import Derived.Test.YtmkmogkhkmlnkaaFrU2
import Derived.Test.YtmkmogkhkmlnkaaFrV
import Derived.Maps.AppendAt
namespace Go.Proofs.Ytmkmogkhkmlnkaa.Fr
open Go.ChangeShapes Go.WideShapes Go.ChangeAt Go.RowKit
abbrev Dat := List Int × List ByteArray
/-- data that may be -/
def OkD (d : Dat) : Prop := Fit d.1 d.2 ∧ (bytesL d.1 d.2).length ≤ 4096
def frD (d : Dat) : List UInt8 := frameL (bytesL d.1 d.2)
def flatD (ds : List Dat) : List UInt8 := ds.flatMap frD
theorem flatD_nil : flatD [] = [] := rfl
theorem flatD_cons (d : Dat) (ds : List Dat) : flatD (d :: ds) = frD d ++ flatD ds := rfl
theorem flatD_snoc (d : Dat) (ds : List Dat) : flatD (ds ++ [d]) = flatD ds ++ frD d := by simp [flatD]
theorem frD_pos (d : Dat) : 0 < (frD d).length := by
  have := countL_pos (bytesL d.1 d.2).length
  unfold frD frameL
  rw [List.length_append]; omega
/-- bytes that begin with no frame -/
def NoFrame (l : List UInt8) : Prop := ∀ d r, OkD d → l ≠ frD d ++ r
theorem frD_free {d d' : Dat} {r r' : List UInt8} (h : frD d ++ r = frD d' ++ r') : d = d' ∧ r = r' := by
  unfold frD frameL at h
  simp only [List.append_assoc] at h
  have h1 := countL_free _ _ _ _ h
  have h2 := List.append_inj h1.2 h1.1
  have h3 := bytesL_inj h2.1
  have h4 := List.append_inj h2.2 (by rw [fourL_length, fourL_length])
  exact ⟨Prod.ext h3.1 h3.2, h4.2⟩
theorem first_iff {w' : World} {l : List UInt8} {v : Value} {s c : Nat} (h : FirstIs w' l v s c) :
    (c = 0 ∧ ∃ d r, DataAt w' v d.1 d.2 ∧ OkD d ∧ l = frD d ++ r ∧ s = (frD d).length) ∨ (c ≠ 0 ∧ NoFrame l) := by
  have hno : ∀ n r d r', l = countL n ++ r → l = frD d ++ r' → n = (bytesL d.1 d.2).length ∧ r = bytesL d.1 d.2 ++ (fourL (sumL (bytesL d.1 d.2)) ++ r') := by
    intro n r d r' e1 e2
    rw [e1] at e2
    unfold frD frameL at e2
    simp only [List.append_assoc] at e2
    exact countL_free _ _ _ _ e2
  rcases h with ⟨_, _, rfl, h⟩ | ⟨n, r, e, hn, hr, ⟨h1, _, _, rfl⟩ | ⟨h1, h2, _, _, rfl⟩ | ⟨h1, h2, rfl, nums, texts, h3, h4, h5⟩⟩
  · refine .inr ⟨by omega, fun d r' hd e => ?_⟩
    unfold frD frameL at e
    rw [List.append_assoc] at e
    have := h _ _ e hd.2
    simp only [List.length_append, fourL_length] at this
    omega
  · refine .inr ⟨by omega, fun d r' hd e2 => h1 ?_⟩
    obtain ⟨rfl, rfl⟩ := hno n r d r' e e2
    rw [List.take_left, List.drop_left, show (4 : Nat) = (fourL (sumL (bytesL d.1 d.2))).length from rfl, List.take_left]
  · refine .inr ⟨by omega, fun d r' hd e2 => ?_⟩
    obtain ⟨rfl, rfl⟩ := hno n r d r' e e2
    rw [List.take_left] at h2
    exact h2 _ _ hd.1 rfl
  · have hl : (bytesL nums texts).length = n := by rw [← h5, List.length_take]; omega
    refine .inl ⟨rfl, (nums, texts), (r.drop n).drop 4, h3, ⟨h4, by show (bytesL nums texts).length ≤ 4096; omega⟩, ?_, ?_⟩
    · rw [e]
      unfold frD frameL
      show countL n ++ r = countL (bytesL nums texts).length ++ (bytesL nums texts ++ fourL (sumL (bytesL nums texts))) ++ (r.drop n).drop 4
      rw [hl, ← h5, h1, List.append_assoc, List.append_assoc, List.take_append_drop, List.take_append_drop]
    · rw [h2]
      unfold frD frameL
      show _ = (countL (bytesL nums texts).length ++ (bytesL nums texts ++ fourL (sumL (bytesL nums texts)))).length
      rw [List.length_append, List.length_append, fourL_length, hl]
      omega
/-- what both Rows answer -/
def RowIs (l : List UInt8) (ds : List Dat) (s : Nat) : Prop := (∀ d ∈ ds, OkD d) ∧ ∃ r, l = flatD ds ++ r ∧ s = (flatD ds).length ∧ NoFrame r
theorem rowIs_fn {l : List UInt8} : ∀ {ds ds' : List Dat} {s s' : Nat}, RowIs l ds s → RowIs l ds' s' → ds = ds' ∧ s = s' := by
  intro ds
  induction ds generalizing l with
  | nil =>
    intro ds' s s' h h'
    obtain ⟨_, r, e, rfl, hn⟩ := h
    obtain ⟨hok, r', e', rfl, _⟩ := h'
    cases ds' with
    | nil => exact ⟨rfl, rfl⟩
    | cons d ds' =>
      rw [e, flatD_nil, List.nil_append, flatD_cons, List.append_assoc] at e'
      exact absurd e' (hn d _ (hok d (List.mem_cons_self ..)))
  | cons d ds ih =>
    intro ds' s s' h h'
    obtain ⟨hok, r, e, rfl, hn⟩ := h
    obtain ⟨hok', r', e', rfl, hn'⟩ := h'
    rw [flatD_cons, List.append_assoc] at e
    cases ds' with
    | nil =>
      rw [flatD_nil, List.nil_append] at e'
      exact absurd (e'.symm.trans e) (hn' d _ (hok d (List.mem_cons_self ..)))
    | cons d' ds' =>
      rw [flatD_cons, List.append_assoc] at e'
      obtain ⟨rfl, e2⟩ := frD_free (e.symm.trans e')
      have h3 := ih (l := flatD ds ++ r) (s := (flatD ds).length) (s' := (flatD ds').length) ⟨fun x hx => hok x (List.mem_cons_of_mem _ hx), r, rfl, rfl, hn⟩ ⟨fun x hx => hok' x (List.mem_cons_of_mem _ hx), r', e2, rfl, hn'⟩
      rw [h3.1]
      exact ⟨rfl, rfl⟩
end Go.Proofs.Ytmkmogkhkmlnkaa.Fr
namespace Go.Proofs.Ytmkmogkhkmlnkaa.Fr
open Go.ChangeShapes Go.WideShapes Go.ChangeAt Go.RowKit
theorem info29 : (Try.prog.info? 38).map (fun i => (i.zero, i.size, i.bytes)) = some (some (.agg #[.slice none 0 0, .slice none 0 0]), 2, 48) := by kernel_rfl
/-- data that stand, whatever becomes of block o -/
def DStab (o : Option Nat) (w : World) (v : Value) (d : Dat) : Prop := ∀ w' : World, (∀ k, k < w.heap.size → some k ≠ o → w'.heap[k]? = w.heap[k]?) → DataAt w' v d.1 d.2
theorem DStab.data {o : Option Nat} {w : World} {v : Value} {d : Dat} (h : DStab o w v d) : DataAt w v d.1 d.2 := h w fun _ _ _ => rfl
theorem DStab.below {o : Option Nat} {w w' : World} {v : Value} {d : Dat} (h : DStab o w v d) (hb : Below w.heap.size w w') : DStab o w' v d :=
  fun w2 h2 => h w2 fun k hk ho => (h2 k (Nat.lt_of_lt_of_le hk hb.size) ho).trans (hb.block k hk)
theorem DStab.grown {o : Option Nat} {w w' : World} {v : Value} {d : Dat} (h : DStab o w v d) (hg : w.grownBy w' o) {o' : Option Nat} (ho' : o' = o ∨ o' = some w.heap.size) : DStab o' w' v d := by
  intro w2 h2
  refine h w2 fun k hk ho => ?_
  refine (h2 k (Nat.lt_of_lt_of_le hk hg.size) ?_).trans (hg.block k hk ho)
  rcases ho' with rfl | rfl
  · exact ho
  · intro e
    have := Option.some.inj e
    omega
theorem row_stab {w w' : World} {a : Option Addr} {len cap : Nat} {cs : List Value} (h : RowAt w a len cap cs) (hk : ∀ x, a = some x → x.block < w.heap.size → w'.heap[x.block]? = w.heap[x.block]?) : RowAt w' a len cap cs := by
  refine ⟨h.1, h.2.1, h.2.2.1, ?_⟩
  rcases h.2.2.2 with h0 | ⟨b, off, e, hc⟩
  · exact .inl h0
  · refine .inr ⟨b, off, e, fun i hi => ?_⟩
    have hl : i < cs.length := by rw [h.1]; exact hi
    have hx := hc i hi
    rw [List.getElem?_eq_getElem hl] at hx
    have hlt : b < w.heap.size := World.block_lt_of_cell? w ⟨b, off + i, none⟩ hx
    have hk2 : w'.heap[b]? = w.heap[b]? := hk _ e hlt
    exact (World.cell?_of_block (a := ⟨b, off + i, none⟩) hk2).trans (hc i hi)
theorem stab_new {w : World} {v : Value} {d : Dat} {B : Nat} {o : Option Nat} (h : DataAt w v d.1 d.2) (hf : FreshD B v) (ho : ∀ g, o = some g → g < B) : DStab o w v d := by
  intro w' hk
  obtain ⟨a1, n1, c1, a2, n2, c2, rfl, h1, h2, h3, h4⟩ := h
  obtain ⟨b1, m1, e1, b2, m2, e2, e, f1, f2⟩ := hf
  simp at e
  obtain ⟨⟨rfl, rfl, rfl⟩, rfl, rfl, rfl⟩ := e
  refine ⟨_, _, _, _, _, _, rfl, row_stab h1 fun x hx hlt => hk _ hlt fun eo => ?_, row_stab h2 fun x hx hlt => hk _ hlt fun eo => ?_, h3, h4⟩
  · have := ho _ eo.symm; have := f1 x hx; omega
  · have := ho _ eo.symm; have := f2 x hx; omega
/-- a list of data as cells -/
def flatP (ps : List (Value × Value)) : List Value := ps.flatMap fun p => [p.1, p.2]
theorem flatP_snoc (ps : List (Value × Value)) (x y : Value) : flatP (ps ++ [(x, y)]) = flatP ps ++ [x, y] := by simp [flatP]
def Datas (o : Option Nat) (w : World) : List (Value × Value) → List Dat → Prop
  | [], [] => True
  | p :: ps, d :: ds => DStab o w (.agg #[p.1, p.2]) d ∧ Datas o w ps ds
  | _, _ => False
theorem Datas.map {o o' : Option Nat} {w w' : World} (hm : ∀ v d, DStab o w v d → DStab o' w' v d) : ∀ {ps : List (Value × Value)} {ds : List Dat}, Datas o w ps ds → Datas o' w' ps ds := by
  intro ps
  induction ps with
  | nil => intro ds h; cases ds with
    | nil => exact h
    | cons _ _ => exact h.elim
  | cons p ps ih => intro ds h; cases ds with
    | nil => exact h.elim
    | cons d ds => exact ⟨hm _ _ h.1, ih h.2⟩
theorem Datas.snoc {o : Option Nat} {w : World} {x y : Value} {d : Dat} (hd : DStab o w (.agg #[x, y]) d) : ∀ {ps : List (Value × Value)} {ds : List Dat}, Datas o w ps ds → Datas o w (ps ++ [(x, y)]) (ds ++ [d]) := by
  intro ps
  induction ps with
  | nil => intro ds h; cases ds with
    | nil => exact ⟨hd, trivial⟩
    | cons _ _ => exact h.elim
  | cons p ps ih => intro ds h; cases ds with
    | nil => exact h.elim
    | cons d' ds => exact ⟨h.1, ih h.2⟩
/-- behind Row -/
def RowPost (w : World) (l : List UInt8) (e : Ending) (w' : World) : Prop := Below w.heap.size w w' ∧ ∃ v ps ds s, e = .returned (.tuple #[v, .int .i64 ((s : Nat) : Int)]) ∧ w'.ownsRow w.heap.size 38 2 v (List.length ds) (flatP ps) ∧ Datas v.ownBlock w' ps ds ∧ RowIs l ds s
theorem cells_two (w : World) (x y : Value) (t : TypeId) : ∀ j u, ([x, y] : List Value)[j]? = some u → (w.alloc (.cells #[x, y] t)).cell? ((⟨w.heap.size, 0, none⟩ : Addr).add j) = some u := by
  intro j u hj
  rw [addr_add, Nat.zero_add]
  unfold World.cell?
  rw [heap_alloc_new]
  simpa using hj
theorem one_two (a1 : Option Addr) (n1 c1 : Nat) (a2 : Option Addr) (n2 c2 : Nat) : ∀ u ∈ ([.slice a1 n1 c1, .slice a2 n2 c2] : List Value), u.oneCell' = true := by
  intro u hu; simp at hu; rcases hu with rfl | rfl <;> rfl
end Go.Proofs.Ytmkmogkhkmlnkaa.Fr
