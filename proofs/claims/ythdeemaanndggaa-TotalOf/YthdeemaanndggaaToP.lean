/-
  Totals, plainly: the sum, the least, the greatest and the growth of the first samples.
-/
import Derived.Test.YthdeemaanndggaaSpP
namespace Go.Proofs.Ythdeemaanndggaa.Bk
open Go.ChangeShapes Go.WideShapes Go.ChangeAt Go.RowKit
/-- the value at a place -/
def vAt (ls : List Sm) (i : Nat) : Int := (ls.getD i sm0).2
/-- the sum of the first k -/
def sumN (ls : List Sm) : Nat → Int
  | 0 => 0
  | k + 1 => sumN ls k + vAt ls k
/-- the least of the first k + 1 -/
def minN (ls : List Sm) : Nat → Int
  | 0 => vAt ls 0
  | k + 1 => if vAt ls (k + 1) < minN ls k then vAt ls (k + 1) else minN ls k
/-- the greatest of the first k + 1 -/
def maxN (ls : List Sm) : Nat → Int
  | 0 => vAt ls 0
  | k + 1 => if maxN ls k < vAt ls (k + 1) then vAt ls (k + 1) else maxN ls k
/-- by how much a value is more than the one ahead -/
def gr (a v : Int) : Int := if v < a then max v 0 else v - a
/-- the growth in the first k steps -/
def growN (ls : List Sm) : Nat → Int
  | 0 => 0
  | k + 1 => growN ls k + gr (vAt ls k) (vAt ls (k + 1))
theorem vAt_in {ls : List Sm} (h : MayS ls) {i : Nat} (hi : i < ls.length) : -1099511627776 ≤ vAt ls i ∧ vAt ls i ≤ 1099511627776 := ((h.2 i hi).1).2.2
theorem sumN_in {ls : List Sm} (h : MayS ls) : ∀ k, k ≤ ls.length → -(1099511627776 * (k : Int)) ≤ sumN ls k ∧ sumN ls k ≤ 1099511627776 * (k : Int) := by
  intro k
  induction k with
  | zero => intro _; simp [sumN]
  | succ k ih =>
    intro hk
    have h1 := ih (by omega)
    have h2 := vAt_in h (i := k) (by omega)
    rw [sumN]
    constructor <;> omega
theorem minN_in {ls : List Sm} (h : MayS ls) : ∀ k, k < ls.length → -1099511627776 ≤ minN ls k ∧ minN ls k ≤ 1099511627776 := by
  intro k
  induction k with
  | zero => intro hk; exact vAt_in h hk
  | succ k ih =>
    intro hk
    have h1 := ih (by omega)
    have h2 := vAt_in h hk
    rw [minN]
    split <;> assumption
theorem maxN_in {ls : List Sm} (h : MayS ls) : ∀ k, k < ls.length → -1099511627776 ≤ maxN ls k ∧ maxN ls k ≤ 1099511627776 := by
  intro k
  induction k with
  | zero => intro hk; exact vAt_in h hk
  | succ k ih =>
    intro hk
    have h1 := ih (by omega)
    have h2 := vAt_in h hk
    rw [maxN]
    split <;> assumption
theorem gr_in {a v : Int} (ha : -1099511627776 ≤ a ∧ a ≤ 1099511627776) (hv : -1099511627776 ≤ v ∧ v ≤ 1099511627776) : 0 ≤ gr a v ∧ gr a v ≤ 2199023255552 := by
  unfold gr
  split <;> omega
theorem growN_in {ls : List Sm} (h : MayS ls) : ∀ k, k < ls.length → 0 ≤ growN ls k ∧ growN ls k ≤ 2199023255552 * (k : Int) := by
  intro k
  induction k with
  | zero => intro _; simp [growN]
  | succ k ih =>
    intro hk
    have h1 := ih (by omega)
    have h2 := gr_in (vAt_in h (i := k) (by omega)) (vAt_in h hk)
    rw [growN]
    constructor <;> omega
theorem vAt_take {ls : List Sm} {k i : Nat} (h : i < k) : vAt (ls.take k) i = vAt ls i := by
  unfold vAt
  simp [List.getD_eq_getElem?_getD, h]
theorem vAt_drop (ls : List Sm) (k i : Nat) : vAt (ls.drop k) i = vAt ls (k + i) := by
  unfold vAt
  simp [List.getD_eq_getElem?_getD]
theorem sumN_take {ls : List Sm} {k : Nat} : ∀ i, i ≤ k → sumN (ls.take k) i = sumN ls i := by
  intro i
  induction i with
  | zero => intro _; rfl
  | succ i ih => intro h; rw [sumN, sumN, ih (by omega), vAt_take (by omega)]
theorem sumN_drop (ls : List Sm) (k : Nat) : ∀ i, sumN ls k + sumN (ls.drop k) i = sumN ls (k + i) := by
  intro i
  induction i with
  | zero => simp [sumN]
  | succ i ih => rw [sumN, ← Nat.add_assoc, sumN, vAt_drop, ← ih, Int.add_assoc]
theorem minN_take {ls : List Sm} {k : Nat} : ∀ i, i < k → minN (ls.take k) i = minN ls i := by
  intro i
  induction i with
  | zero => intro h; exact vAt_take h
  | succ i ih => intro h; rw [minN, minN, ih (by omega), vAt_take h]
theorem maxN_take {ls : List Sm} {k : Nat} : ∀ i, i < k → maxN (ls.take k) i = maxN ls i := by
  intro i
  induction i with
  | zero => intro h; exact vAt_take h
  | succ i ih => intro h; rw [maxN, maxN, ih (by omega), vAt_take h]
theorem minN_drop (ls : List Sm) (k : Nat) : ∀ i, min (minN ls k) (minN (ls.drop (k + 1)) i) = minN ls (k + 1 + i) := by
  intro i
  induction i with
  | zero =>
    show min (minN ls k) (vAt (ls.drop (k + 1)) 0) = minN ls (k + 1)
    rw [vAt_drop, Nat.add_zero, minN]
    generalize vAt ls (k + 1) = x
    generalize minN ls k = y
    split <;> omega
  | succ i ih =>
    rw [← Nat.add_assoc, minN, minN, vAt_drop, ← Nat.add_assoc, ← ih]
    generalize vAt ls (k + 1 + i + 1) = x
    generalize minN ls k = y
    generalize minN (ls.drop (k + 1)) i = z
    split <;> split <;> omega
theorem maxN_drop (ls : List Sm) (k : Nat) : ∀ i, max (maxN ls k) (maxN (ls.drop (k + 1)) i) = maxN ls (k + 1 + i) := by
  intro i
  induction i with
  | zero =>
    show max (maxN ls k) (vAt (ls.drop (k + 1)) 0) = maxN ls (k + 1)
    rw [vAt_drop, Nat.add_zero, maxN]
    generalize vAt ls (k + 1) = x
    generalize maxN ls k = y
    split <;> omega
  | succ i ih =>
    rw [← Nat.add_assoc, maxN, maxN, vAt_drop, ← Nat.add_assoc, ← ih]
    generalize vAt ls (k + 1 + i + 1) = x
    generalize maxN ls k = y
    generalize maxN (ls.drop (k + 1)) i = z
    split <;> split <;> omega
/-- the rate -/
def rateP (ls : List Sm) : Int := IntKind.i64.wrap (Int.tdiv (growN ls (ls.length - 1) * 60) ((ls.getD (ls.length - 1) sm0).1 - (ls.getD 0 sm0).1))
/-- a total of samples that may be -/
def totP (kind : Int) (ls : List Sm) : Option Int :=
  if kind = 1 then some (sumN ls ls.length)
  else if kind = 4 then some (ls.length : Int)
  else if kind = 2 then (if ls.length = 0 then none else some (minN ls (ls.length - 1)))
  else if kind = 3 then (if ls.length = 0 then none else some (maxN ls (ls.length - 1)))
  else if kind = 5 then (if ls.length < 2 then none else some (rateP ls))
  else none
/-- behind Of -/
def TotPost (o : Option Int) (w : World) (e : Ending) (w' : World) : Prop := Below w.heap.size w w' ∧ e = .returned (.tuple #[.int .i64 (o.getD 0), .bool o.isSome])
theorem tot_yes {o : Option Int} {x : Int} {w w' : World} (h : o = some x) (hb : Below w.heap.size w w') : TotPost o w (.returned (.tuple #[.int .i64 x, .bool true])) w' := by subst h; exact ⟨hb, rfl⟩
theorem tot_no {o : Option Int} {w w' : World} (h : o = none) (hb : Below w.heap.size w w') : TotPost o w (.returned (.tuple #[.int .i64 0, .bool false])) w' := by subst h; exact ⟨hb, rfl⟩
end Go.Proofs.Ythdeemaanndggaa.Bk
