/-
  Within, in, mayCount; asked: what its kind asks of a delta.
-/
import Derived.Test.YtejhmacbbdnlbaaAcB
namespace Go.Proofs.Ytejhmacbbdnlbaa.Ac
open Go.ChangeShapes Go.WideShapes Go.ChangeAt Go.RowKit
def inB (x lo hi : Int) : Bool := decide (lo ≤ x) && decide (x ≤ hi)
theorem inB_iff (x lo hi : Int) : inB x lo hi = true ↔ lo ≤ x ∧ x ≤ hi := by simp [inB]
theorem within_any (x lo hi : Int) (w : World) : Calls Try.prog 21 #[.int .i64 x, .int .i64 lo, .int .i64 hi] w fun e w' => e = .returned (.bool (inB x lo hi)) ∧ w' = w := by
  by_cases h1 : lo ≤ x
  · by_cases h2 : x ≤ hi
    · have hr : inB x lo hi = true := by simp [inB, h1, h2]
      rw [hr]
      go_enter Try.func21, Try.ntmps21
      go_wp2
      go_ret
      exact ⟨rfl, rfl⟩
    · have hr : inB x lo hi = false := by simp [inB, h2]
      have d : decide (x ≤ hi) = false := decide_eq_false h2
      rw [hr]
      go_enter Try.func21, Try.ntmps21
      go_wp2
      go_ret
      exact ⟨rfl, rfl⟩
  · have hr : inB x lo hi = false := by simp [inB, h1]
    have d : decide (lo ≤ x) = false := decide_eq_false h1
    rw [hr]
    go_enter Try.func21, Try.ntmps21
    go_wp2
    go_ret
    exact ⟨rfl, rfl⟩
def inC (x : Int) : Bool := inB x 0 2147483647
theorem in_any (x : Int) (w : World) : Calls Try.prog 27 #[.int .i64 x] w fun e w' => e = .returned (.bool (inC x)) ∧ w' = w := by
  by_cases h1 : 0 ≤ x
  · by_cases h2 : x < 2147483648
    · have hr : inC x = true := by simp only [inC, inB, decide_eq_true h1, Bool.true_and]; exact decide_eq_true (by omega)
      rw [hr]
      go_enter Try.func27, Try.ntmps27
      go_wp2
      go_ret
      exact ⟨rfl, rfl⟩
    · have hr : inC x = false := by simp only [inC, inB, decide_eq_true h1, Bool.true_and]; exact decide_eq_false (by omega)
      have d : decide (x < 2147483648) = false := decide_eq_false h2
      rw [hr]
      go_enter Try.func27, Try.ntmps27
      go_wp2
      go_ret
      exact ⟨rfl, rfl⟩
  · have hr : inC x = false := by simp only [inC, inB, decide_eq_false h1, Bool.false_and]
    have d : decide (0 ≤ x) = false := decide_eq_false h1
    rw [hr]
    go_enter Try.func27, Try.ntmps27
    go_wp2
    go_ret
    exact ⟨rfl, rfl⟩
def allC (l : List Int) : Bool := l.all inC
theorem allC_yes {l : List Int} (h : ∀ j, j < l.length → inC (l.getD j 0) = true) : allC l = true := by
  unfold allC
  rw [List.all_eq_true]
  intro x hx
  obtain ⟨j, hj, rfl⟩ := List.mem_iff_getElem.1 hx
  simpa [hj] using h j hj
theorem allC_no {l : List Int} {j : Nat} (hj : j < l.length) (h : inC (l.getD j 0) = false) : allC l = false := by
  cases hq : allC l with
  | false => rfl
  | true =>
    unfold allC at hq
    rw [List.all_eq_true] at hq
    have := hq (l[j]) (List.getElem_mem hj)
    simp [hj] at h
    rw [h] at this
    simp at this
set_option maxHeartbeats 1000000 in
set_option maxRecDepth 60000 in
theorem mayCount_any (a : Option Addr) (len cap : Nat) (l : List Int) (w : World) (h : RowI w a len cap l) : Calls Try.prog 30 #[.slice a len cap] w fun e w' => e = .returned (.bool (allC l)) ∧ w' = w := by
  have hm : len ≤ maxLen := Nat.le_trans h.2.1 h.2.2.1
  unfold maxLen at hm
  have hl := h.1
  have HR := Hid.mk9 h
  have HY : Hid ((∀ j, j < len → inC (l.getD j 0) = true) → allC l = true) := Hid.mk9 (fun g => allC_yes (by rw [hl]; exact g))
  have HN : Hid (∀ j, j < len → inC (l.getD j 0) = false → allC l = false) := Hid.mk9 (fun j hj g => allC_no (by rw [hl]; exact hj) g)
  generalize allC l = q at *
  clear h hl
  go_enter Try.func30, Try.ntmps30
  go_wp2_with fail
  go_loopw [7] (fun i wr => ∃ k : Nat, k ≤ len ∧ i = .int .i64 k ∧ Hid (wr = w) ∧ Hid (∀ j, j < k → inC (l.getD j 0) = true)) (fun i _ => len - (intOf i).toNat)
  case atStart => exact ⟨0, Nat.zero_le _, rfl, rfl, fun j hj => absurd hj (Nat.not_lt_zero _)⟩
  case round =>
    obtain ⟨k, hk, rfl, hwr, hT⟩ := hrel
    obtain rfl := hwr.out
    clear hwr
    by_cases hlt : k < len
    · have hk1 : (k : Int) < (len : Int) := by omega
      have hk0 : (0 : Int) ≤ (k : Int) := by omega
      obtain ⟨p, po, rfl, hp, hcp⟩ := HR.out.some (by omega)
      have x0 := hcp k hlt
      have HC := Hid.mk9 (within_any (l.getD k 0) 0 2147483647)
      have HNX : Hid (inC (l.getD k 0) = true → ∀ j, j < k + 1 → inC (l.getD j 0) = true) := Hid.mk9 fun h j hj => by
        by_cases e : j = k
        · rw [e]; exact h
        · exact hT.out j (by omega)
      have HNK := Hid.mk9 (HN.out k hlt)
      clear hcp hT
      change Hid (∀ w : World, Calls Try.prog 21 #[.int .i64 (l.getD k 0), .int .i64 0, .int .i64 2147483647] w fun e w' => e = .returned (.bool (inC (l.getD k 0))) ∧ w' = w) at HC
      generalize l.getD k 0 = y at *
      generalize inC y = c at *
      cases c
      · have hq := HNK.out rfl
        subst hq
        clear HNX HNK HN HY
        go_wp2_with (go_at_call 21; refine (HC.out _).mono ?_; rintro en w2 ⟨rfl, rfl⟩)
        go_ret
        exact ⟨rfl, rfl⟩
      · have HX := Hid.mk9 (HNX.out rfl)
        clear HNX HNK
        go_wp2_with (go_at_call 21; refine (HC.out _).mono ?_; rintro en w2 ⟨rfl, rfl⟩)
        exact ⟨⟨k + 1, by omega, by go_num, by unfold Hid; trivial, HX⟩, by simp [intOf]; omega⟩
    · obtain rfl : k = len := by omega
      have hq := HY.out hT.out
      subst hq
      clear HY HN hT
      go_wp2_with fail
      go_ret
      exact ⟨rfl, rfl⟩
def bareD (d : Dl) : Dl := if d.k = 1 then ⟨1, d.id, d.zn, d.rk, d.wt, 0, []⟩ else if d.k = 2 then ⟨2, d.id, 0, 0, d.wt, 0, []⟩ else if d.k = 8 then ⟨8, 0, 0, 0, 0, d.g, d.ns⟩ else if d.k = 9 then ⟨9, 0, 0, 0, 0, 0, []⟩ else if d.k = 10 then ⟨10, 0, 0, 0, d.wt, d.g, []⟩ else ⟨d.k, d.id, 0, 0, 0, 0, []⟩
def askD (d : Dl) : Dl := if inB d.k 1 10 = true then bareD d else dl0
theorem ret_7b {fn : Func} {p q : Tmp} (h : fn.results = #[.cell p 28, .tmp q]) (tmps : Array Value) (w : World) (b : Nat) (v0 v1 v2 v3 v4 v5 v6 u : Value) (hp : tmps.getD p undef = .pointer (some ⟨b, 0, none⟩)) (hq : tmps.getD q undef = u)
    (hb : B7 w b 28 v0 v1 v2 v3 v4 v5 v6) : (results fn tmps).run Try.prog w = .ok (.tuple #[.agg #[v0, v1, v2, v3, v4, v5, v6], u]) w := by
  obtain ⟨h0, h1, h2, h3, h4, h5, h6⟩ := hb.cells
  simp only [Array.getD_eq_getD_getElem?] at hp hq
  simp only [results, h]
  simp [go_sem, hp, hq, h0, h1, h2, h3, h4, h5, h6]
def AskPost (d : Dl) (w : World) (e : Ending) (w' : World) : Prop := Below w.heap.size w w' ∧ ∃ (a : Option Addr) (l c : Nat), e = .returned (.tuple #[.agg #[.int .i64 (askD d).k, .int .i64 (askD d).id, .int .i64 (askD d).zn, .int .i64 (askD d).rk, .int .i64 (askD d).wt, .int .i64 (askD d).g, .slice a l c], .bool (inB d.k 1 10)]) ∧ RowI w a l c (askD d).ns
end Go.Proofs.Ytejhmacbbdnlbaa.Ac
