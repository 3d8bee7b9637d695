/-
  Loads, plainly: no Go in sight.
-/
import Derived.Test.YtcncbjknfcjnmaaGreatTpE
namespace Go.Proofs.YtcncbjknfcjnmaaGreat.Tp
open Go.ChangeShapes Go.WideShapes Go.ChangeAt Go.RowKit
/-- a weight laid on where it stands; a new one behind, if it stands nowhere yet -/
def putL : List Ld → Int → Int → Int → List Ld
  | [], p, q, v => [(p, q, v)]
  | c :: L, p, q, v => if c.1 = p ∧ c.2.1 = q then (p, q, c.2.2 + v) :: L else c :: putL L p q v
def HitL (L : List Ld) (i : Nat) (p q : Int) : Prop := (L.getD i ld0).1 = p ∧ (L.getD i ld0).2.1 = q
theorem putL_miss {L : List Ld} {p q v : Int} (h : ∀ i, i < L.length → ¬ HitL L i p q) : putL L p q v = L ++ [(p, q, v)] := by
  induction L with
  | nil => rfl
  | cons c L ih =>
    have h0 : ¬ (c.1 = p ∧ c.2.1 = q) := h 0 (by simp)
    unfold putL
    rw [if_neg h0, ih (fun i hi => h (i + 1) (by simpa using hi))]
    rfl
theorem putL_hit {L : List Ld} {p q v : Int} {j : Nat} (hj : j < L.length) (hm : HitL L j p q) (h : ∀ i, i < j → ¬ HitL L i p q) : putL L p q v = L.set j (p, q, (L.getD j ld0).2.2 + v) := by
  induction L generalizing j with
  | nil => simp at hj
  | cons c L ih =>
    cases j with
    | zero =>
      have h0 : c.1 = p ∧ c.2.1 = q := hm
      unfold putL
      rw [if_pos h0]
      rfl
    | succ j =>
      have h0 : ¬ (c.1 = p ∧ c.2.1 = q) := h 0 (by omega)
      unfold putL
      rw [if_neg h0, ih (j := j) (by simpa using hj) hm (fun i hi => h (i + 1) (by omega))]
      rfl
/-- nothing below nought, nothing above m -/
def BdL (L : List Ld) (m : Int) : Prop := ∀ c ∈ L, 0 ≤ c.2.2 ∧ c.2.2 ≤ m
theorem BdL.mono {L : List Ld} {m n : Int} (h : BdL L m) (hm : m ≤ n) : BdL L n := fun c hc => ⟨(h c hc).1, by have := (h c hc).2; omega⟩
theorem putL_bd {L : List Ld} {p q v m : Int} (h : BdL L m) (hm : 0 ≤ m) (h0 : 0 ≤ v) (h1 : v ≤ 65536) : BdL (putL L p q v) (m + 65536) := by
  induction L with
  | nil => intro c hc; simp [putL] at hc; subst hc; exact ⟨h0, by show v ≤ _; omega⟩
  | cons d L ih =>
    have hd := h d (by simp)
    have hL : BdL L m := fun c hc => h c (by simp [hc])
    unfold putL
    split
    · intro c hc
      rcases List.mem_cons.1 hc with rfl | hc
      · exact ⟨by show 0 ≤ d.2.2 + v; omega, by show d.2.2 + v ≤ _; omega⟩
      · exact hL.mono (by omega) c hc
    · intro c hc
      rcases List.mem_cons.1 hc with rfl | hc
      · exact ⟨hd.1, by omega⟩
      · exact ih hL c hc
theorem putL_len (L : List Ld) (p q v : Int) : (putL L p q v).length ≤ L.length + 1 := by
  induction L with
  | nil => simp [putL]
  | cons d L ih =>
    unfold putL
    split
    · simp
    · simp; omega
theorem wtN_bd {x : Nd} (h : InN x) : 0 ≤ wtN x ∧ wtN x ≤ 65536 := by
  unfold wtN
  split
  · exact h.2.2.2
  · omega
/-- a node of that zone and that rack -/
def selN (zone rack : Int) (x : Nd) : Bool := coversB zone x.zone && coversB rack x.rack
def stepL (f : Nd → Int × Int) (L : List Ld) (x : Nd) : List Ld := putL L (f x).1 (f x).2 (wtN x)
/-- each spot once, in the order in which the nodes come to it -/
def loadsF (f : Nd → Int × Int) (zone rack : Int) (ls : List Nd) : List Ld := (ls.filter (selN zone rack)).foldl (stepL f) []
theorem getN_get {ls : List Nd} {k : Nat} (h : k < ls.length) : ls.getD k nd0 = ls[k] := by simp [h]
theorem loadsF_take {f : Nd → Int × Int} {zone rack : Int} {ls : List Nd} {k : Nat} (h : k < ls.length) :
    loadsF f zone rack (ls.take (k + 1)) = if selN zone rack (ls.getD k nd0) = true then stepL f (loadsF f zone rack (ls.take k)) (ls.getD k nd0) else loadsF f zone rack (ls.take k) := by
  rw [List.take_succ_eq_append_getElem h, getN_get h]
  unfold loadsF
  rw [List.filter_append]
  by_cases hs : selN zone rack ls[k] = true
  · rw [if_pos hs, List.filter_cons_of_pos hs, List.filter_nil, List.foldl_append]
    rfl
  · rw [if_neg hs, List.filter_cons_of_neg hs, List.filter_nil, List.append_nil]
end Go.Proofs.YtcncbjknfcjnmaaGreat.Tp
