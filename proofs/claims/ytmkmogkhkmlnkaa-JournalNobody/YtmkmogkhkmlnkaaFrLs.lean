/-
  The contract of List: whether lists of data are alike.
-/
import Derived.Test.YtmkmogkhkmlnkaaMgF
import Derived.Test.YtmkmogkhkmlnkaaMgC
import Derived.Deep.RegionHeld3
namespace Go.Proofs.Ytmkmogkhkmlnkaa.Fr
open Go.ChangeShapes Go.WideShapes Go.ChangeAt Go.RowKit
/-- a slice of data that reads as these -/
def DRow (w : World) (a : Option Addr) (len cap : Nat) (ds : List Dat) : Prop :=
  ds.length = len ∧ len ≤ cap ∧ cap ≤ maxLen ∧ (len = 0 ∨ ∃ b off, a = some ⟨b, off, none⟩ ∧ ∀ i, i < len → ∃ x1 m1 k1 x2 m2 k2, w.cell? ⟨b, off + i * 2, none⟩ = some (.slice x1 m1 k1) ∧ w.cell? ⟨b, off + i * 2 + 1, none⟩ = some (.slice x2 m2 k2) ∧ DataAt w (.agg #[.slice x1 m1 k1, .slice x2 m2 k2]) (ds.getD i ([], [])).1 (ds.getD i ([], [])).2)
theorem DRow.below {w w' : World} {a : Option Addr} {len cap : Nat} {ds : List Dat} (h : DRow w a len cap ds) (hb : Below w.heap.size w w') : DRow w' a len cap ds := by
  refine ⟨h.1, h.2.1, h.2.2.1, ?_⟩
  rcases h.2.2.2 with h0 | ⟨b, off, e, hc⟩
  · exact .inl h0
  · refine .inr ⟨b, off, e, fun i hi => ?_⟩
    obtain ⟨x1, m1, k1, x2, m2, k2, c0, c1, hd⟩ := hc i hi
    have hlt : b < w.heap.size := World.block_lt_of_cell? w ⟨b, off + i * 2, none⟩ c0
    exact ⟨x1, m1, k1, x2, m2, k2, (hb.cell (p := ⟨b, off + i * 2, none⟩) hlt).trans c0, (hb.cell (p := ⟨b, off + i * 2 + 1, none⟩) hlt).trans c1, hd.below hb⟩
def ListPost (w : World) (ds ds' : List Dat) (e : Ending) (w' : World) : Prop := Below w.heap.size w w' ∧ ∃ q : Bool, e = .returned (.bool q) ∧ (q = true ↔ ds = ds')
theorem list_yes {w w' : World} {ds ds' : List Dat} (hb : Below w.heap.size w w') (h : ds = ds') : ListPost w ds ds' (.returned (.bool true)) w' := ⟨hb, true, rfl, by simp [h]⟩
theorem list_no {w w' : World} {ds ds' : List Dat} (hb : Below w.heap.size w w') (h : ¬ ds = ds') : ListPost w ds ds' (.returned (.bool false)) w' := ⟨hb, false, rfl, by simp [h]⟩
set_option maxHeartbeats 8000000 in
set_option maxRecDepth 60000 in
theorem list_any (a : Option Addr) (n1 c1 : Nat) (b : Option Addr) (n2 c2 : Nat) (ds ds' : List Dat) (w : World) (h1 : DRow w a n1 c1 ds) (h2 : DRow w b n2 c2 ds') :
    Calls Try.prog 16 #[.slice a n1 c1, .slice b n2 c2] w fun e w' => ListPost w ds ds' e w' := by
  have hl : ds.length = n1 := h1.1
  have hm : ds'.length = n2 := h2.1
  have hx : n1 ≤ maxLen := Nat.le_trans h1.2.1 h1.2.2.1
  have hy : n2 ≤ maxLen := Nat.le_trans h2.2.1 h2.2.2.1
  unfold maxLen at hx hy
  have H1 : Hid (DRow w a n1 c1 ds) := h1
  have H2 : Hid (DRow w b n2 c2 ds') := h2
  clear h1 h2
  by_cases hn : n1 = n2
  · subst hn
    go_enter Try.func16, Try.ntmps16
    go_wp2
    go_loopw [5] (fun i wr => ∃ k : Nat, k ≤ n1 ∧ i = .int .i64 k ∧ Hid (ds.take k = ds'.take k) ∧ Below w.heap.size w wr) (fun i _ => n1 - (intOf i).toNat)
    case atStart => exact ⟨0, Nat.zero_le _, rfl, by show _ = _; simp, Below.refl _ _⟩
    case round =>
      obtain ⟨k, hk, rfl, hT, hbel⟩ := hrel
      by_cases hlt : k < n1
      · rcases (H1.out.below hbel).2.2.2 with h0 | ⟨p, off, rfl, hcell⟩
        · omega
        rcases (H2.out.below hbel).2.2.2 with h0 | ⟨p2, off2, rfl, hcell2⟩
        · omega
        obtain ⟨x1, m1, k1, x2, m2, k2, e0, e1, hd1⟩ := hcell k hlt
        obtain ⟨y1, p1, j1, y2, q2, j2, g0, g1, hd2⟩ := hcell2 k hlt
        clear hcell hcell2
        have hi0 : (0 : Int) ≤ (k : Int) := by omega
        have hi1 : (k : Int) < (n1 : Int) := by omega
        have HE : Hid (ds.getD k ([], []) = ds'.getD k ([], []) → ds.take (k + 1) = ds'.take (k + 1)) := fun e => take_ext ([], []) hT.out (by omega) (by omega) e
        have HNE : Hid (ds = ds' → ds.getD k ([], []) = ds'.getD k ([], [])) := fun e => by rw [e]
        generalize ds.getD k ([], []) = d1 at *
        generalize ds'.getD k ([], []) = d2 at *
        have hs := hbel.size
        have hp : p < wr.heap.size := World.block_lt_of_cell? wr ⟨p, off + k * 2, none⟩ e0
        have hp2 : p2 < wr.heap.size := World.block_lt_of_cell? wr ⟨p2, off2 + k * 2, none⟩ g0
        have HK : Hid (∀ w', Below wr.heap.size wr w' → ((w'.cell? ⟨p, off + k * 2, none⟩ = some (.slice x1 m1 k1) ∧ w'.cell? ⟨p, off + k * 2 + 1, none⟩ = some (.slice x2 m2 k2)) ∧ (w'.cell? ⟨p2, off2 + k * 2, none⟩ = some (.slice y1 p1 j1) ∧ w'.cell? ⟨p2, off2 + k * 2 + 1, none⟩ = some (.slice y2 q2 j2)) ∧ Below wr.heap.size wr w')) := fun w' hb =>
          ⟨⟨(hb.cell (p := ⟨p, off + k * 2, none⟩) hp).trans e0, (hb.cell (p := ⟨p, off + k * 2 + 1, none⟩) hp).trans e1⟩, ⟨(hb.cell (p := ⟨p2, off2 + k * 2, none⟩) hp2).trans g0, (hb.cell (p := ⟨p2, off2 + k * 2 + 1, none⟩) hp2).trans g1⟩, hb⟩
        have HD1 : Hid (DataAt wr (.agg #[.slice x1 m1 k1, .slice x2 m2 k2]) d1.1 d1.2) := hd1
        have HD2 : Hid (DataAt wr (.agg #[.slice y1 p1 j1, .slice y2 q2 j2]) d2.1 d2.2) := hd2
        clear hd1 hd2 hp hp2
        go_wp2_with fail
        go_region_held3 (fun w' => (w'.cell? ⟨p, off + k * 2, none⟩ = some (.slice x1 m1 k1) ∧ w'.cell? ⟨p, off + k * 2 + 1, none⟩ = some (.slice x2 m2 k2)) ∧ (w'.cell? ⟨p2, off2 + k * 2, none⟩ = some (.slice y1 p1 j1) ∧ w'.cell? ⟨p2, off2 + k * 2 + 1, none⟩ = some (.slice y2 q2 j2)) ∧ Below wr.heap.size wr w')
          (first | exact HK.out _ (below_drew _) | (go_split_ands; exact HK.out _ (by assumption)) | (go_split_ands; exact HK.out _ (below2 (by assumption) (by assumption))))
          ((go_at_call 35; refine (refSame_any _ _ d1.1 d2.1 d1.2 d2.2 _ (HD1.out.below (by go_split_ands; assumption)) (HD2.out.below (by go_split_ands; assumption))).mono ?_; rintro en w6 ⟨hb6, q6, rfl, hq6⟩; have HQ6 : Hid (q6 = true ↔ d1.1 = d2.1 ∧ d1.2 = d2.2) := hq6; clear hq6))
        all_goals
          have hb : Below w.heap.size w w6 := hbel.trans ((below2 (below_drew _) hb6).mono hs)
          cases q6 with
          | true =>
            have HE2 : Hid (ds.take (k + 1) = ds'.take (k + 1)) := HE.out (Prod.ext (HQ6.out.1 rfl).1 (HQ6.out.1 rfl).2)
            clear HE HNE HQ6 HK HD1 HD2 e0 e1 g0 g1 hb6
            go_wp2
            exact ⟨⟨k + 1, by omega, by go_num, HE2.out, hb⟩, by simp [intOf]; omega⟩
          | false =>
            have HN : Hid (¬ ds = ds') := fun e => by
              have h := HNE.out e
              have := HQ6.out.2 ⟨by rw [h], by rw [h]⟩
              cases this
            clear HE HNE HQ6 HK HD1 HD2 e0 e1 g0 g1 hb6
            go_wp2
            go_ret
            exact list_no hb HN.out
      · go_wp2
        go_ret
        have e := hT.out
        rw [List.take_of_length_le (by omega), List.take_of_length_le (by omega)] at e
        exact list_yes hbel e
  · have hne : ((n1 : Int) != (n2 : Int)) = true := by simp; omega
    go_enter Try.func16, Try.ntmps16
    go_wp2
    go_ret
    exact list_no (Below.refl _ _) (fun e => by rw [e] at hl; omega)
theorem flatP_get (ps : List (Value × Value)) : ∀ i (h : i < ps.length), (flatP ps)[i * 2]? = some ps[i].1 ∧ (flatP ps)[i * 2 + 1]? = some ps[i].2 := by
  induction ps with
  | nil => intro i h; simp at h
  | cons p ps ih =>
    intro i h
    cases i with
    | zero => exact ⟨rfl, rfl⟩
    | succ i =>
      have h1 := ih i (by simpa using h)
      have e1 : (i + 1) * 2 = i * 2 + 1 + 1 := by omega
      rw [e1]
      exact h1
theorem Datas.at {o : Option Nat} {w : World} : ∀ {ps : List (Value × Value)} {ds : List Dat}, Datas o w ps ds → ps.length = ds.length ∧ ∀ i (h : i < ps.length), DataAt w (.agg #[ps[i].1, ps[i].2]) (ds.getD i ([], [])).1 (ds.getD i ([], [])).2 := by
  intro ps
  induction ps with
  | nil => intro ds h; cases ds with
    | nil => exact ⟨rfl, fun i h => by simp at h⟩
    | cons _ _ => exact h.elim
  | cons p ps ih => intro ds h; cases ds with
    | nil => exact h.elim
    | cons d ds =>
      have h2 := ih h.2
      refine ⟨by simp [h2.1], fun i hi => ?_⟩
      cases i with
      | zero => exact h.1.data
      | succ i => exact h2.2 i (by simpa using hi)
/-- a list of data of one's own reads as them -/
theorem own_drow {w : World} {base : Nat} {v : Value} {ps : List (Value × Value)} {ds : List Dat} {o : Option Nat} (h : w.ownsRow base 38 2 v ds.length (flatP ps)) (hd : Datas o w ps ds) :
    ∃ a cap, v = .slice a ds.length cap ∧ DRow w a ds.length cap ds := by
  have hown := h
  obtain ⟨hpl, hall⟩ := hd.at
  obtain ⟨hl, ⟨rfl, h0⟩ | ⟨g, cap, cur, rfl, hg, hh, hc, hcm, hcs, ht⟩⟩ := h
  · exact ⟨none, 0, by rw [h0], rfl, by omega, Nat.zero_le _, .inl h0⟩
  · refine ⟨some ⟨g, 0, none⟩, cap, rfl, rfl, hc, hcm, .inr ⟨g, 0, rfl, fun i hi => ?_⟩⟩
    have hi' : i < ps.length := by omega
    obtain ⟨e0, e1⟩ := flatP_get ps i hi'
    have hda := hall i hi'
    obtain ⟨a1, n1, c1, a2, n2, c2, e, _⟩ := hda
    simp at e
    refine ⟨a1, n1, c1, a2, n2, c2, ?_, ?_, ?_⟩
    · rw [Nat.zero_add, hown.cellAt (i * 2) (by omega), e0, e.1]
    · rw [Nat.zero_add, hown.cellAt (i * 2 + 1) (by omega), e1, e.2]
    · have := hall i hi'
      rw [e.1, e.2] at this
      exact this
end Go.Proofs.Ytmkmogkhkmlnkaa.Fr
