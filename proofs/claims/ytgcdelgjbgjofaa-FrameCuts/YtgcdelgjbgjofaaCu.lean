/-
  Rows that are cut: plainly; a slice of data that came in, opened.
-/
import Derived.Test.YtgcdelgjbgjofaaLs
import Derived.Test.YtgcdelgjbgjofaaOp
import Derived.Test.YtgcdelgjbgjofaaRf
import Derived.Test.YtgcdelgjbgjofaaNn
namespace Go.Proofs.Ytgcdelgjbgjofaa
open Go.ChangeShapes Go.WideShapes Go.ChangeAt Go.RowKit
theorem noFrame_prefix {d : Dat} {r t : List UInt8} (h : frD d = r ++ t) (ht : t ≠ []) : NoFrame r := by
  intro d' r' _ e
  rw [e, List.append_assoc] at h
  have h2 : frD d ++ [] = frD d' ++ (r' ++ t) := by rw [List.append_nil]; exact h
  have h3 := (frD_free h2).2
  have h4 := List.append_eq_nil_iff.1 h3.symm
  exact ht h4.2
theorem noFrame_nil : NoFrame [] := by
  intro d r _ e
  have h1 := congrArg List.length e
  have h2 := frD_pos d
  rw [List.length_append] at h1
  simp at h1
  omega
/-- how far the first k data go -/
def endN (ks : List Dat) (k : Nat) : Nat := (flatD (ks.take k)).length
theorem flatD_append (l m : List Dat) : flatD (l ++ m) = flatD l ++ flatD m := by simp [flatD]
theorem cut_row {ks : List Dat} (hok : ∀ d ∈ ks, OkD d) {k to_ : Nat} (hk : k ≤ ks.length) (h1 : endN ks k ≤ to_) (h2 : k < ks.length → to_ < endN ks (k + 1)) (ht : to_ ≤ (flatD ks).length) :
    RowIs ((flatD ks).take to_) (ks.take k) (endN ks k) := by
  refine ⟨fun d hd => hok d (List.mem_of_mem_take hd), ((flatD ks).take to_).drop (endN ks k), ?_, rfl, ?_⟩
  · have e : flatD ks = flatD (ks.take k) ++ flatD (ks.drop k) := by rw [← flatD_append, List.take_append_drop]
    have e2 : ((flatD ks).take to_).take (endN ks k) = flatD (ks.take k) := by
      rw [List.take_take, Nat.min_eq_left h1, e, endN, List.take_left]
    conv => lhs; rw [← List.take_append_drop (endN ks k) ((flatD ks).take to_), e2]
  · by_cases hlt : k < ks.length
    · have hs : ks.take (k + 1) = ks.take k ++ [ks[k]] := by rw [List.take_add_one, List.getElem?_eq_getElem hlt]; rfl
      have e : flatD ks = flatD (ks.take k) ++ (frD ks[k] ++ flatD (ks.drop (k + 1))) := by
        conv => lhs; rw [← List.take_append_drop (k + 1) ks, flatD_append, hs, flatD_snoc, List.append_assoc]
      have hl : endN ks (k + 1) = endN ks k + (frD ks[k]).length := by unfold endN; rw [hs, flatD_snoc, List.length_append]
      have h3 := h2 hlt
      have er : ((flatD ks).take to_).drop (endN ks k) = (frD ks[k]).take (to_ - endN ks k) := by
        rw [List.drop_take, e, endN, List.drop_left]
        rw [List.take_append_of_le_length]
        have : endN ks k = (flatD (ks.take k)).length := rfl
        omega
      rw [er]
      refine noFrame_prefix (d := ks[k]) (t := (frD ks[k]).drop (to_ - endN ks k)) (List.take_append_drop _ _).symm ?_
      intro e0
      have := congrArg List.length e0
      rw [List.length_drop] at this
      simp at this
      omega
    · have hks : ks.take k = ks := List.take_of_length_le (by omega)
      have : endN ks k = (flatD ks).length := by unfold endN; rw [hks]
      rw [List.drop_eq_nil_of_le (by rw [List.length_take]; omega)]
      exact noFrame_nil
theorem frD_le {d : Dat} (h : OkD d) : (frD d).length ≤ 4110 := by
  have h1 := countL_le10 (bytesL d.1 d.2).length (by have := h.2; omega)
  have h2 := h.2
  unfold frD frameL
  rw [List.length_append, List.length_append, fourL_length]
  omega
theorem flatD_le : ∀ {ks : List Dat}, (∀ d ∈ ks, OkD d) → (flatD ks).length ≤ 4110 * ks.length := by
  intro ks
  induction ks with
  | nil => intro _; simp [flatD]
  | cons d ks ih =>
    intro h
    have h1 := frD_le (h d (List.mem_cons_self ..))
    have h2 := ih (fun x hx => h x (List.mem_cons_of_mem _ hx))
    rw [flatD_cons, List.length_append, List.length_cons]
    omega
/-- the ends, as numbers -/
def endsL (ks : List Dat) : List Int := (List.range ks.length).map fun j => ((endN ks (j + 1) : Nat) : Int)
theorem endsL_length (ks : List Dat) : (endsL ks).length = ks.length := by simp [endsL]
theorem endsL_snoc (ks : List Dat) (d : Dat) : endsL (ks ++ [d]) = endsL ks ++ [(((flatD (ks ++ [d])).length : Nat) : Int)] := by
  unfold endsL
  rw [List.length_append, List.length_singleton, List.range_succ, List.map_append]
  congr 1
  · apply List.map_congr_left
    intro j hj
    have := List.mem_range.1 hj
    unfold endN
    rw [List.take_append_of_le_length (by omega)]
  · simp only [List.map_cons, List.map_nil, endN]
    rw [List.take_of_length_le (by simp)]
theorem endsL_get (ks : List Dat) (j : Nat) (h : j < ks.length) : (cellsI (endsL ks))[j]? = some (.int .i64 ((endN ks (j + 1) : Nat) : Int)) := by
  simp [cellsI, endsL, h]
theorem endN_mono (ks : List Dat) (j : Nat) : endN ks j ≤ endN ks (j + 1) := by
  unfold endN
  by_cases h : j < ks.length
  · have hs : ks.take (j + 1) = ks.take j ++ [ks[j]] := by rw [List.take_add_one, List.getElem?_eq_getElem h]; rfl
    rw [hs, flatD_snoc, List.length_append]
    omega
  · rw [List.take_of_length_le (by omega), List.take_of_length_le (by omega)]
    exact Nat.le_refl _
/-- a slice of data that came in -/
theorem open_datas {H : Type} {enc : TypeId × Value → H} {w : World} {base : Nat} {spare : Nat → Bool} {held : Bool} {fuel : Nat} {cs : List Value} {x : DataW H × List MemPlace} (h : DataW.trod enc Try.prog w base spare held fuel 44 cs = some x) :
    ∃ a len cap ds, cs = [.slice a len cap] ∧ DRow w a len cap ds := by
  have e29 : Try.prog.cellsOf 29 = 2 := by kernel_rfl
  rcases Go.Deep.open_slice Try.underlying44 h with ⟨hcs, _⟩ | ⟨a, len, cap, m, n, D, Pl, hcs, _, hl, hm, hmm, _, hx⟩
  · exact ⟨none, 0, 0, [], hcs, ⟨rfl, Nat.le_refl _, Nat.zero_le _, .inl rfl⟩⟩
  · have hlm : len ≤ m := by rw [hmm]; split <;> omega
    have each : ∀ i, ∃ d : Dat, i < len → ∃ x1 m1 k1 x2 m2 k2, w.cell? (a.add (i * 2)) = some (.slice x1 m1 k1) ∧ w.cell? ((a.add (i * 2)).add 1) = some (.slice x2 m2 k2) ∧ DataAt w (.agg #[.slice x1 m1 k1, .slice x2 m2 k2]) d.1 d.2 := fun i => by
      by_cases hi : i < len
      · obtain ⟨cs', h1, h2⟩ := hx i (by omega)
        rw [e29] at h1
        obtain ⟨_, hlen, hc⟩ := World.cells?_some h1
        match cs', hlen with
        | [c0, c1], _ =>
          obtain ⟨nums, texts, hd⟩ := open_data_cells h2
          have hd2 := hd
          obtain ⟨x1, m1, k1, x2, m2, k2, e, _⟩ := hd2
          simp at e
          obtain ⟨rfl, rfl⟩ := e
          refine ⟨(nums, texts), fun _ => ⟨x1, m1, k1, x2, m2, k2, ?_, hc 1 (by decide), hd⟩⟩
          have := hc 0 (by decide)
          simpa [Addr.add] using this
      · exact ⟨([], []), fun h => absurd h hi⟩
    obtain ⟨f, hf⟩ := Classical.axiomOfChoice each
    refine ⟨some a, len, cap, (List.range len).map f, hcs, ⟨by simp, hl, hm, ?_⟩⟩
    by_cases h0 : len = 0
    · exact .inl h0
    · obtain ⟨b, off, spot⟩ := a
      obtain ⟨y1, y2, y3, y4, y5, y6, h1, _, _⟩ := hf 0 (by omega)
      have hspot : spot = none := by simpa [Addr.add] using World.cell?_spot h1
      subst hspot
      refine .inr ⟨b, off, rfl, fun i hi => ?_⟩
      obtain ⟨x1, m1, k1, x2, m2, k2, h2, h3, h4⟩ := hf i hi
      rw [addr_add] at h2
      rw [addr_add, addr_add] at h3
      have eg : ((List.range len).map f).getD i ([], []) = f i := by simp [hi]
      rw [eg]
      exact ⟨x1, m1, k1, x2, m2, k2, h2, h3, h4⟩
theorem open_datasv {H : Type} {enc : TypeId × Value → H} {w : World} {base : Nat} {spare : Nat → Bool} {held : Bool} {r : Reach} {b0 : Nat} {v : Value} {d : DataW H} {p : List MemPlace} (hv : Value.okWide Try.prog w r b0 44 v) (h : DataW.Trod enc Try.prog w base spare held 44 v d p) :
    ∃ a len cap ds, v = .slice a len cap ∧ DRow w a len cap ds := by
  obtain ⟨a, len, cap, rfl⟩ := okWide_slice Try.underlying44 hv
  obtain ⟨fuel, hf⟩ := h
  obtain ⟨a', len', cap', ds, e, hm⟩ := open_datas hf
  simp [Value.cells] at e
  obtain ⟨rfl, rfl, rfl⟩ := e
  exact ⟨_, _, _, ds, rfl, hm⟩
/-- rows of unlike types lie in unlike blocks -/
theorem own_apart {w : World} {B B' s s' n n' : Nat} {e e' : TypeId} {v v' : Value} {xs xs' : List Value} (h : w.ownsRow B e s v n xs) (h' : w.ownsRow B' e' s' v' n' xs') (he : e ≠ e') : v.ownBlock = none ∨ v.ownBlock ≠ v'.ownBlock := by
  rcases h.2 with ⟨rfl, _⟩ | ⟨g, cap, cur, rfl, _, hg, _⟩
  · exact .inl rfl
  · right
    rcases h'.2 with ⟨rfl, _⟩ | ⟨g', cap', cur', rfl, _, hg', _⟩
    · simp [Value.ownBlock]
    · intro e0
      simp [Value.ownBlock] at e0
      subst e0
      rw [hg] at hg'
      simp at hg'
      exact he hg'.2
end Go.Proofs.Ytgcdelgjbgjofaa
