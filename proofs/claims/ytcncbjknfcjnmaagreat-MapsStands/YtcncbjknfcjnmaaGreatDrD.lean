/-
  Choices as they lie in memory; the contracts of a choice's cost, of mayBe, Check and of the answer's May: which choices may be.
-/
import Derived.Test.YtcncbjknfcjnmaaGreatDrC
import Derived.Sort.Walk0
import Derived.Deep.QuietTactic
import Derived.Deep.RegionHeld3
import Derived.BigQuiet
import Derived.Laws.Cover1
import Derived.Shelf.SlSortCmp.QuietGrown
namespace Go.Proofs.YtcncbjknfcjnmaaGreat.Dr
open Go.ChangeShapes Go.WideShapes Go.ChangeAt Go.RowKit
theorem below2 {a b c : World} (h : Below a.heap.size a b) (k : Below b.heap.size b c) : Below a.heap.size a c := h.trans (k.mono h.size)
theorem below_drewN (w : World) (n : Nat) : Below w.heap.size w (w.drewN n) := ⟨rfl, rfl, rfl, Nat.le_refl _, fun _ _ => rfl⟩
theorem below_drew (w : World) : Below w.heap.size w w.drew := ⟨rfl, rfl, rfl, Nat.le_refl _, fun _ _ => rfl⟩
theorem below_alloc (w : World) (o : Obj) : Below w.heap.size w (w.alloc o) := (Below.refl _ _).alloc (Nat.le_refl _) _
/-- the walk of a region that only reads, closed to evaluation: else each step evaluates all the steps behind it -/
structure QW (P : Program) (ops : Array Oper) (C : World → Prop) (Q : Act → Prop) (l : List Oper) (a : Act) : Prop where
  out : wpQuiet P ops C Q l a
theorem QW_step {P : Program} {ops : Array Oper} {C : World → Prop} {Q : Act → Prop} {a : Act} {o : Oper} {rest : List Oper}
    (h : ∀ K : Act → Prop, (∀ a, QW P ops C Q rest a → K a) → if Region.wanted o (yielded ops a.tmps) then o.quiet P a C K else K (a.put o.dst undef)) : QW P ops C Q (o :: rest) a :=
  ⟨wpQuiet_step fun K hK => h K fun a q => hK a q.out⟩
theorem QW_nil {P : Program} {ops : Array Oper} {C : World → Prop} {Q : Act → Prop} {a : Act} (h : Q a) : QW P ops C Q [] a := ⟨wpQuiet_nil h⟩
theorem wp_region_QW {P : Program} {id : Nat} {Q : Exit → Act → World → Prop} {a : Act} {w : World} {l : List Oper} (hm : P.follows .mixedOrders = true) (hB : Region.lexB .any l.toArray = true)
    (h : QW P l.toArray (fun w' => ∃ p : GrownBy, w' = Go.Sort.grow (w.drewN p.n) p.os) (fun a' => ∀ w', (∃ p : GrownBy, w' = Go.Sort.grow (w.drewN p.n) p.os) → Q .normal a' w') l a) : (Code.region id l.toArray true).wp P Q a w :=
  wp_region_quiet_grown hm hB h.out
/-- an id's 64 bits as they are -/
def bitsOf (id : Int) : Nat := (id % 18446744073709551616).toNat
theorem bitsOf_lt (id : Int) : bitsOf id < 18446744073709551616 := by unfold bitsOf; omega
theorem bitsOf_form (id : Int) : IntKind.u64.wrap id = ((bitsOf id : Nat) : Int) := by
  rw [IntKind.wrap_u64]; unfold bitsOf; omega
def uOf (key : Nat) (id : Int) : Nat := 1 + foldN key [bitsOf id] / 281474976710656
theorem uOf_bound (key : Nat) (id : Int) : 1 ≤ uOf key id ∧ uOf key id ≤ 65536 := by
  have := foldN_lt key [bitsOf id]
  unfold uOf; omega
/-- what a choice costs for a key -/
def costOf (key : Nat) (id : Int) : Int := costI (uOf key id : Nat)
theorem costOf_bound (key : Nat) (id : Int) : 0 ≤ costOf key id ∧ costOf key id < 1114112 := costI_bound _
theorem mixed5 : Tryz.prog.follows .mixedOrders = true := by kernel_rfl
/-- so many draws on, these blocks behind -/
abbrev Grown (w w' : World) : Prop := ∃ q os', w' = Go.Sort.grow (w.drewN q) os'
theorem grown_alloc (w : World) (o : Obj) : Grown w (w.alloc o) := ⟨0, _, by rw [Go.Sort.alloc_eq_grow]; rfl⟩
theorem below_grow (w : World) (n : Nat) (os : Array Obj) : Below w.heap.size w (Go.Sort.grow (w.drewN n) os) := by
  refine ⟨rfl, rfl, rfl, ?_, fun k hk => ?_⟩
  · show w.heap.size ≤ (w.heap ++ os).size
    simp
  · show (w.heap ++ os)[k]? = w.heap[k]?
    exact Array.getElem?_append_left hk
theorem grown_below {w w' : World} (h : Grown w w') : Below w.heap.size w w' := by
  obtain ⟨q, os, rfl⟩ := h
  exact below_grow _ _ _
theorem grown2 {a b c : World} (h : Grown a b) (k : Grown b c) : Grown a c := by
  obtain ⟨n, os, rfl⟩ := h
  obtain ⟨q, os', rfl⟩ := k
  exact ⟨n + q, os ++ os', by show Go.Sort.grow (Go.Sort.grow ((a.drewN n).drewN q) os) os' = _; rw [Go.Sort.grow_grow, World.drewN_drewN]⟩
theorem grown_refl (w : World) : Grown w w := ⟨0, #[], by rw [Go.Sort.grow_empty]; rfl⟩
def CostPost (c : Int) (w : World) (e : Ending) (w' : World) : Prop := e = .returned (.int .i64 c) ∧ Grown w w'
set_option maxRecDepth 20000 in
theorem cost5_any (key : Nat) (id : Int) (w : World) (hk : key < 18446744073709551616) :
    Calls Tryz.prog 174 #[.int .u64 (key : Int), .int .i64 id] w fun e w' => CostPost (costOf key id) w e w' := by
  have hn := bitsOf_form id
  have hnl := bitsOf_lt id
  have HU : Hid (uOf key id = 1 + foldN key [bitsOf id] / 281474976710656) := rfl
  have HC : Hid (costOf key id = costI ((uOf key id : Nat) : Int)) := rfl
  have HF := fun (W : World) (h : W.cell? ⟨w.heap.size, 0, none⟩ = some (.int .u64 ((bitsOf id : Nat) : Int))) => fold_some key w.heap.size 0 1 [bitsOf id] W hk (by simp [maxLen]) (by simpa using hnl) (fun i hi => by
    have : i = 0 := by simp at hi; omega
    subst this; exact h)
  have hlt := foldN_lt key [bitsOf id]
  generalize foldN key [bitsOf id] = f at *
  generalize bitsOf id = n at *
  have HF' : Hid (∀ W : World, W.cell? ⟨w.heap.size, 0, none⟩ = some (.int .u64 ((n : Nat) : Int)) → Calls Tryz.prog 165 #[.int .u64 (key : Int), .slice (some ⟨w.heap.size, 0, none⟩) 1 1] W fun e w' => e = .returned (.int .u64 (f : Int)) ∧ w' = W) := HF
  obtain ⟨q, hq⟩ : ∃ q : Nat, q = f / 281474976710656 := ⟨_, rfl⟩
  have e1 : (f : Int) / 281474976710656 = (q : Int) := by omega
  have hq2 : (q : Int) < 65536 := by omega
  have HU' : Hid (uOf key id = 1 + q) := by have := HU.out; rw [← hq] at this; exact this
  clear HF HU hq
  go_enter Tryz.func174, Tryz.ntmps174
  go_wp2_with (first
    | (go_at_call 165; refine (HF'.out _ (by simp)).mono ?_; rintro e w' ⟨rfl, rfl⟩)
    | (go_at_call 184; refine (cost_any _ _ ?_).mono ?_; (omega); rintro e w' ⟨rfl, rfl⟩))
  go_ret
  refine ⟨ret_int ?_, grown_alloc _ _⟩
  rw [HC.out, HU'.out]
  rfl
set_option maxRecDepth 20000 in
theorem refCost5_any (key : Nat) (id : Int) (w : World) (hk : key < 18446744073709551616) :
    Calls Tryz.prog 151 #[.int .u64 (key : Int), .int .i64 id] w fun e w' => CostPost (costOf key id) w e w' := by
  have hn := bitsOf_form id
  have hnl := bitsOf_lt id
  have HU : Hid (uOf key id = 1 + foldN key [bitsOf id] / 281474976710656) := rfl
  have HC : Hid (costOf key id = costI ((uOf key id : Nat) : Int)) := rfl
  have HF := fun (W : World) (h : W.cell? ⟨w.heap.size, 0, none⟩ = some (.int .u64 ((bitsOf id : Nat) : Int))) => refFold_some key w.heap.size 0 1 [bitsOf id] W hk (by simp [maxLen]) (by simpa using hnl) (fun i hi => by
    have : i = 0 := by simp at hi; omega
    subst this; exact h)
  have hlt := foldN_lt key [bitsOf id]
  generalize foldN key [bitsOf id] = f at *
  generalize bitsOf id = n at *
  have HF' : Hid (∀ W : World, W.cell? ⟨w.heap.size, 0, none⟩ = some (.int .u64 ((n : Nat) : Int)) → Calls Tryz.prog 109 #[.int .u64 (key : Int), .slice (some ⟨w.heap.size, 0, none⟩) 1 1] W fun e w' => e = .returned (.int .u64 (f : Int)) ∧ w' = W) := HF
  obtain ⟨q, hq⟩ : ∃ q : Nat, q = f / 281474976710656 := ⟨_, rfl⟩
  have e1 : IntKind.u64.wrap ((f : Int).tdiv 281474976710656) = (q : Int) := by
    rw [Int.tdiv_eq_ediv_of_nonneg (by omega), IntKind.wrap_u64]; omega
  have e2 : (f : Int) / 281474976710656 = (q : Int) := by omega
  have hq2 : (q : Int) < 65536 := by omega
  have HU' : Hid (uOf key id = 1 + q) := by have := HU.out; rw [← hq] at this; exact this
  clear HF HU hq
  go_enter Tryz.func151, Tryz.ntmps151
  go_wp2_with (first
    | (go_at_call 109; refine (HF'.out _ (by simp)).mono ?_; rintro e w' ⟨rfl, rfl⟩)
    | (go_at_call 169; refine (refCost_any _ _ ?_).mono ?_; (omega); rintro e w' ⟨rfl, rfl⟩))
  go_ret
  refine ⟨ret_int ?_, grown_alloc _ _⟩
  rw [HC.out, HU'.out]
  rfl
end Go.Proofs.YtcncbjknfcjnmaaGreat.Dr
