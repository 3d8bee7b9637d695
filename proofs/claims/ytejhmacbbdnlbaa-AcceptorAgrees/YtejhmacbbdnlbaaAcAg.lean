/-
  The theorem of agreement, plainly: what holds of acceptors and proposers, whatever is asked.
-/
import Derived.Test.YtejhmacbbdnlbaaAcS0
namespace Go.Proofs.Ytejhmacbbdnlbaa.Ac
/-- how many of the first k -/
def cnt : Nat → (Nat → Bool) → Nat
  | 0, _ => 0
  | k + 1, f => cnt k f + if f k = true then 1 else 0
theorem cnt_mono {k : Nat} {f g : Nat → Bool} (h : ∀ q, q < k → f q = true → g q = true) : cnt k f ≤ cnt k g := by
  induction k with
  | zero => exact Nat.le_refl _
  | succ k ih =>
    have h1 := ih fun q hq => h q (by omega)
    have h2 := h k (by omega)
    unfold cnt
    by_cases hf : f k = true
    · rw [if_pos hf, if_pos (h2 hf)]; omega
    · rw [if_neg hf]; omega
theorem cnt_apart {k : Nat} {f g : Nat → Bool} (h : ∀ q, q < k → f q = true → g q = true → False) : cnt k f + cnt k g ≤ k := by
  induction k with
  | zero => exact Nat.le_refl _
  | succ k ih =>
    have h1 := ih fun q hq => h q (by omega)
    have h2 := h k (by omega)
    unfold cnt
    by_cases hf : f k = true
    · by_cases hg : g k = true
      · exact (h2 hf hg).elim
      · rw [if_pos hf, if_neg hg]; omega
    · rw [if_neg hf]
      split <;> omega
theorem cnt_same {k : Nat} {f g : Nat → Bool} (h : ∀ q, q < k → f q = g q) : cnt k f = cnt k g := Nat.le_antisymm (cnt_mono fun q hq e => by rw [← h q hq]; exact e) (cnt_mono fun q hq e => by rw [h q hq]; exact e)
theorem cnt_one {k q : Nat} {f g : Nat → Bool} (hq : q < k) (hf : f q = false) (hg : g q = true) (h : ∀ r, r < k → r ≠ q → g r = f r) : cnt k g = cnt k f + 1 := by
  induction k with
  | zero => omega
  | succ k ih =>
    unfold cnt
    by_cases e : q = k
    · subst e
      rw [cnt_same (g := f) (fun r hr => h r (by omega) (by omega)), hf, hg]
      simp
    · rw [ih (by omega) (fun r hr hne => h r (by omega) hne), h k (by omega) (fun x => e x.symm)]
      omega
theorem cnt_le (k : Nat) (f : Nat → Bool) : cnt k f ≤ k := by
  induction k with
  | zero => exact Nat.le_refl _
  | succ k ih => unfold cnt; split <;> omega
def slotA (ls : List Acd) (s : Nat) : Acd := ls.getD s acd0
theorem slot_put (ls : List Acd) (m n : Nat) (x : Acd) : slotA (putS ls (m + 1) x) n = if n = m then x else slotA ls n := by
  unfold slotA
  by_cases h : n < max ls.length (m + 1)
  · exact putS_get ls m n x h
  · have hl := putS_len ls m x
    rw [if_neg (by omega), List.getD_eq_getElem?_getD, List.getD_eq_getElem?_getD, List.getElem?_eq_none (by omega), List.getElem?_eq_none (by omega)]
def upd {α : Type} (f : Nat → α) (i : Nat) (x : α) : Nat → α := fun j => if j = i then x else f j
theorem upd_same {α : Type} (f : Nat → α) (i : Nat) (x : α) : upd f i x i = x := if_pos rfl
theorem upd_else {α : Type} (f : Nat → α) {i j : Nat} (x : α) (h : j ≠ i) : upd f i x j = f j := if_neg h
/-- acceptors, proposers, what was counted and chosen -/
structure Sy where
  P : Nat → Int
  L : Nat → List Acd
  bal : Nat → Int
  told : Nat → Nat → List Acd
  yes : Nat → Nat → Bool
  mine : Nat → Nat → Acd
  votes : Int → Nat → Nat
  chosen : Nat → Acd
/-- what may still be, or was, accepted at a ballot -/
def may (S : Sy) (A : Int → Nat → Nat → Bool) (b : Int) (s q : Nat) : Bool := A b s q || decide (S.P q ≤ b)
/-- what one told is what it had accepted, below that ballot -/
def Tl (A : Int → Nat → Nat → Bool) (V : Int → Nat → Option Dl) (b : Int) (q : Nat) (t : List Acd) : Prop := ∀ s, (slotA t s).b ≤ b ∧ (∀ b', b' < b → A b' s q = true → b' ≤ (slotA t s).b) ∧ ((slotA t s).b ≠ 0 → A (slotA t s).b s q = true ∧ V (slotA t s).b s = some (slotA t s).d)
structure Inv (k : Nat) (S : Sy) (A : Int → Nat → Nat → Bool) (V : Int → Nat → Option Dl) : Prop where
  ok : ∀ q, q < k → okA (S.P q) (S.L q) = true
  bal : ∀ p, p < 3 → ∃ j : Nat, S.bal p = (p : Int) + 1 + 3 * (j : Int)
  vote1 : ∀ q, q < k → ∀ b s, A b s q = true → 1 ≤ b ∧ b ≤ S.P q ∧ b ≤ (slotA (S.L q) s).b
  vote2 : ∀ q, q < k → ∀ s, (slotA (S.L q) s).b ≠ 0 → A (slotA (S.L q) s).b s q = true ∧ V (slotA (S.L q) s).b s = some (slotA (S.L q) s).d
  prom : ∀ p, p < 3 → ∀ q, q < k → S.yes p q = true → S.bal p ≤ S.P q ∧ Tl A V (S.bal p) q (S.told p q)
  val : ∀ b s v, V b s = some v → 1 ≤ b ∧ okD v = true ∧ (∃ p j : Nat, p < 3 ∧ b = (p : Int) + 1 + 3 * (j : Int) ∧ b ≤ S.bal p) ∧ k < 2 * cnt k (fun q => decide (b ≤ S.P q))
  safe : ∀ b s v, V b s = some v → ∀ b' v', b' < b → V b' s = some v' → v' = v ∨ 2 * cnt k (may S A b' s) ≤ k
  av : ∀ q, q < k → ∀ b s, A b s q = true → V b s ≠ none
  mine : ∀ p, p < 3 → ∀ s, s < 3 → ((S.mine p s).b = 0 → V (S.bal p) s = none) ∧ ((S.mine p s).b ≠ 0 → (S.mine p s).b = S.bal p ∧ V (S.bal p) s = some (S.mine p s).d)
  votes : ∀ b s, S.votes b s = cnt k (A b s)
  chosen : ∀ s, s < 3 → (S.chosen s).b ≠ 0 → V (S.chosen s).b s = some (S.chosen s).d ∧ k < 2 * cnt k (A (S.chosen s).b s)
/-- two proposers have unlike ballots -/
theorem bal_apart {p r j i : Nat} (hp : p < 3) (hr : r < 3) (h : (p : Int) + 1 + 3 * (j : Int) = (r : Int) + 1 + 3 * (i : Int)) : p = r := by omega
/-- all is asked to prepare: it promised no greater ballot -/
theorem Inv.prepare {k : Nat} {S : Sy} {A : Int → Nat → Nat → Bool} {V : Int → Nat → Option Dl} (h : Inv k S A V) {p q : Nat} (hp : p < 3) (hq : q < k) (hb : S.P q ≤ S.bal p) (hc : inC (S.bal p) = true) :
    Inv k { S with P := upd S.P q (S.bal p), told := upd S.told p (upd (S.told p) q (S.L q)), yes := upd S.yes p (upd (S.yes p) q true) } A V := by
  have hPm : ∀ r, S.P r ≤ upd S.P q (S.bal p) r := fun r => by
    by_cases e : r = q
    · subst e; rw [upd_same]; exact hb
    · rw [upd_else _ _ e]; exact Int.le_refl _
  constructor
  · intro r hr
    by_cases e : r = q
    · subst e
      show okA (upd S.P r (S.bal p) r) (S.L r) = true
      rw [upd_same]
      obtain ⟨h1, h2, h3, h4⟩ := okA_parts (h.ok r hr)
      exact okA_of hc h2 h3 fun x hx => okX_mono (h4 x hx) hb
    · show okA (upd S.P q (S.bal p) r) (S.L r) = true
      rw [upd_else _ _ e]
      exact h.ok r hr
  · exact h.bal
  · intro r hr b s ha
    obtain ⟨h1, h2, h3⟩ := h.vote1 r hr b s ha
    exact ⟨h1, Int.le_trans h2 (hPm r), h3⟩
  · exact h.vote2
  · intro p' hp' r hr hy
    show S.bal p' ≤ upd S.P q (S.bal p) r ∧ Tl A V (S.bal p') r (upd S.told p (upd (S.told p) q (S.L q)) p' r)
    by_cases e : p' = p ∧ r = q
    · obtain ⟨rfl, rfl⟩ := e
      have ht : (upd S.told p' (upd (S.told p') r (S.L r))) p' r = S.L r := by rw [upd_same, upd_same]
      rw [ht, upd_same]
      refine ⟨Int.le_refl _, fun s => ?_⟩
      refine ⟨?_, fun b _ ha => (h.vote1 r hr b s ha).2.2, fun hn => h.vote2 r hr s hn⟩
      by_cases h0 : (slotA (S.L r) s).b = 0
      · rw [h0]; exact ((inB_iff _ _ _).1 hc).1
      · have h1 := (h.vote1 r hr _ s (h.vote2 r hr s h0).1).2.1
        omega
    · have hy' : S.yes p' r = true := by
        have hy2 : (upd S.yes p (upd (S.yes p) q true)) p' r = true := hy
        by_cases e1 : p' = p
        · subst e1
          rw [upd_same, upd_else _ _ (fun e2 => e ⟨rfl, e2⟩)] at hy2
          exact hy2
        · rw [upd_else _ _ e1] at hy2
          exact hy2
      have ht : (upd S.told p (upd (S.told p) q (S.L q))) p' r = S.told p' r := by
        by_cases e1 : p' = p
        · subst e1
          rw [upd_same, upd_else _ _ (fun e2 => e ⟨rfl, e2⟩)]
        · rw [upd_else _ _ e1]
      obtain ⟨h1, h2⟩ := h.prom p' hp' r hr hy'
      rw [ht]
      exact ⟨Int.le_trans h1 (hPm r), h2⟩
  · intro b s v hv
    obtain ⟨h1, h2, h3, h4⟩ := h.val b s v hv
    refine ⟨h1, h2, h3, Nat.lt_of_lt_of_le h4 (Nat.mul_le_mul_left 2 (cnt_mono fun r _ hd => ?_))⟩
    exact decide_eq_true (Int.le_trans (of_decide_eq_true hd) (hPm r))
  · intro b s v hv b' v' hb' hv'
    rcases h.safe b s v hv b' v' hb' hv' with e | e
    · exact .inl e
    · refine .inr (Nat.le_trans (Nat.mul_le_mul_left 2 (cnt_mono fun r _ hm => ?_)) e)
      unfold may at hm ⊢
      rw [Bool.or_eq_true] at hm ⊢
      rcases hm with hm | hm
      · exact .inl hm
      · exact .inr (decide_eq_true (Int.le_trans (hPm r) (of_decide_eq_true hm)))
  · exact h.av
  · exact h.mine
  · exact h.votes
  · exact h.chosen
/-- a proposer begins anew -/
theorem Inv.anew {k : Nat} {S : Sy} {A : Int → Nat → Nat → Bool} {V : Int → Nat → Option Dl} (h : Inv k S A V) {p : Nat} (hp : p < 3) :
    Inv k { S with bal := upd S.bal p (S.bal p + 3), told := upd S.told p (fun _ => []), yes := upd S.yes p (fun _ => false), mine := upd S.mine p (fun _ => acd0) } A V := by
  have hbm : ∀ r, S.bal r ≤ upd S.bal p (S.bal p + 3) r := fun r => by
    by_cases e : r = p
    · subst e; rw [upd_same]; omega
    · rw [upd_else _ _ e]; exact Int.le_refl _
  constructor
  · exact h.ok
  · intro r hr
    obtain ⟨j, hj⟩ := h.bal r hr
    show ∃ j : Nat, upd S.bal p (S.bal p + 3) r = (r : Int) + 1 + 3 * (j : Int)
    by_cases e : r = p
    · subst e
      rw [upd_same, hj]
      exact ⟨j + 1, by omega⟩
    · rw [upd_else _ _ e]
      exact ⟨j, hj⟩
  · exact h.vote1
  · exact h.vote2
  · intro r hr q hq hy
    have hy2 : (upd S.yes p (fun _ => false)) r q = true := hy
    by_cases e : r = p
    · subst e
      rw [upd_same] at hy2
      cases hy2
    · rw [upd_else _ _ e] at hy2
      obtain ⟨h1, h2⟩ := h.prom r hr q hq hy2
      show upd S.bal p (S.bal p + 3) r ≤ S.P q ∧ Tl A V (upd S.bal p (S.bal p + 3) r) q (upd S.told p (fun _ => []) r q)
      rw [upd_else _ _ e, upd_else _ _ e]
      exact ⟨h1, h2⟩
  · intro b s v hv
    obtain ⟨h1, h2, ⟨r, j, hr, hj, hle⟩, h4⟩ := h.val b s v hv
    exact ⟨h1, h2, ⟨r, j, hr, hj, Int.le_trans hle (hbm r)⟩, h4⟩
  · exact h.safe
  · exact h.av
  · intro r hr s hs
    show ((upd S.mine p (fun _ => acd0) r s).b = 0 → V (upd S.bal p (S.bal p + 3) r) s = none) ∧ ((upd S.mine p (fun _ => acd0) r s).b ≠ 0 → (upd S.mine p (fun _ => acd0) r s).b = upd S.bal p (S.bal p + 3) r ∧ V (upd S.bal p (S.bal p + 3) r) s = some (upd S.mine p (fun _ => acd0) r s).d)
    by_cases e : r = p
    · subst e
      rw [upd_same, upd_same]
      refine ⟨fun _ => ?_, fun hn => absurd rfl hn⟩
      cases hv : V (S.bal r + 3) s with
      | none => rfl
      | some v =>
        obtain ⟨h1, h2, ⟨r', j, hr', hj, hle⟩, h4⟩ := h.val _ s v hv
        obtain ⟨i, hi⟩ := h.bal r hr
        have : r' = r := bal_apart (j := j) (i := i + 1) hr' hr (by omega)
        subst this
        omega
    · rw [upd_else _ _ e, upd_else _ _ e]
      exact h.mine r hr s hs
  · exact h.votes
  · exact h.chosen
/-- what a proposer must propose in a slot, of what those told that promised -/
def Must (k : Nat) (S : Sy) (p s : Nat) (m : Acd) : Prop :=
  (0 < m.b → (∃ q, q < k ∧ S.yes p q = true ∧ slotA (S.told p q) s = m) ∧ ∀ q, q < k → S.yes p q = true → (slotA (S.told p q) s).b ≤ m.b) ∧ (¬ 0 < m.b → ∀ q, q < k → S.yes p q = true → (slotA (S.told p q) s).b ≤ 0)
def setV (V : Int → Nat → Option Dl) (b : Int) (s : Nat) (d : Dl) : Int → Nat → Option Dl := fun b' s' => if b' = b ∧ s' = s then some d else V b' s'
theorem setV_same (V : Int → Nat → Option Dl) (b : Int) (s : Nat) (d : Dl) : setV V b s d b s = some d := if_pos ⟨rfl, rfl⟩
theorem setV_else (V : Int → Nat → Option Dl) {b b' : Int} {s s' : Nat} (d : Dl) (h : ¬ (b' = b ∧ s' = s)) : setV V b s d b' s' = V b' s' := if_neg h
/-- a proposer fixes what it proposes -/
theorem Inv.propose {k : Nat} {S : Sy} {A : Int → Nat → Nat → Bool} {V : Int → Nat → Option Dl} (h : Inv k S A V) {p s : Nat} (hp : p < 3) (hs : s < 3) (hmaj : k < 2 * cnt k (S.yes p)) (hmine : (S.mine p s).b = 0) (m : Acd) (hm : Must k S p s m) (own : Dl) (hown : okD own = true) :
    Inv k { S with mine := upd S.mine p (upd (S.mine p) s ⟨S.bal p, if 0 < m.b then m.d else own⟩) } A (setV V (S.bal p) s (if 0 < m.b then m.d else own)) := by
  have hV0 := (h.mine p hp s hs).1 hmine
  obtain ⟨j, hj⟩ := h.bal p hp
  have hA0 : ∀ q, q < k → A (S.bal p) s q = false := fun q hq => by
    cases ha : A (S.bal p) s q with
    | false => rfl
    | true => exact absurd hV0 (h.av q hq _ s ha)
  have hVm : ∀ b s' v, V b s' = some v → setV V (S.bal p) s (if 0 < m.b then m.d else own) b s' = some v := fun b s' v hv => by
    rw [setV_else]
    · exact hv
    · rintro ⟨rfl, rfl⟩
      rw [hV0] at hv
      cases hv
  have htold : ∀ q, q < k → S.yes p q = true → S.bal p ≤ S.P q ∧ Tl A V (S.bal p) q (S.told p q) := h.prom p hp
  -- what must be proposed was proposed, at a lesser ballot
  have hmV : 0 < m.b → V m.b s = some m.d ∧ m.b < S.bal p := fun h0 => by
    obtain ⟨⟨q, hq, hy, hqm⟩, -⟩ := hm.1 h0
    have hts := (htold q hq hy).2 s
    rw [hqm] at hts
    obtain ⟨h1, -, h3⟩ := hts
    have hv := (h3 (by omega)).2
    refine ⟨hv, ?_⟩
    by_cases e : m.b = S.bal p
    · rw [e, hV0] at hv; cases hv
    · omega
  have hquor : k < 2 * cnt k (fun q => decide (S.bal p ≤ S.P q)) := Nat.lt_of_lt_of_le hmaj (Nat.mul_le_mul_left 2 (cnt_mono fun q hq hy => decide_eq_true (htold q hq hy).1))
  -- who promised can't have accepted above what it told, nor can it any more
  have hno : ∀ b', b' < S.bal p → (∀ q, q < k → S.yes p q = true → (slotA (S.told p q) s).b < b') → 2 * cnt k (may S A b' s) ≤ k := fun b' hb' hlt => by
    have := cnt_apart (k := k) (f := may S A b' s) (g := S.yes p) fun q hq hm' hy => by
      unfold may at hm'
      rw [Bool.or_eq_true] at hm'
      obtain ⟨h1, h2⟩ := htold q hq hy
      rcases hm' with e | e
      · have := (h2 s).2.1 b' hb' e
        have := hlt q hq hy
        omega
      · have := of_decide_eq_true e
        omega
    omega
  have hnew : okD (if 0 < m.b then m.d else own) = true := by
    by_cases h0 : 0 < m.b
    · rw [if_pos h0]; exact (h.val _ _ _ (hmV h0).1).2.1
    · rw [if_neg h0]; exact hown
  have hsafe : ∀ b' v', b' < S.bal p → V b' s = some v' → v' = (if 0 < m.b then m.d else own) ∨ 2 * cnt k (may S A b' s) ≤ k := fun b' v' hb' hv' => by
    by_cases h0 : 0 < m.b
    · rw [if_pos h0]
      obtain ⟨hmv, hml⟩ := hmV h0
      by_cases h1 : m.b < b'
      · exact .inr (hno b' hb' fun q hq hy => by have := (hm.1 h0).2 q hq hy; omega)
      · by_cases h2 : b' = m.b
        · rw [h2, hmv] at hv'
          exact .inl (Option.some.inj hv').symm
        · exact h.safe m.b s m.d hmv b' v' (by omega) hv'
    · exact .inr (hno b' hb' fun q hq hy => by have h1 := hm.2 h0 q hq hy; have h2 := (h.val b' s v' hv').1; omega)
  generalize (if 0 < m.b then m.d else own) = nd at *
  have hin : ∀ b s' v, setV V (S.bal p) s nd b s' = some v → (b = S.bal p ∧ s' = s ∧ v = nd) ∨ (¬ (b = S.bal p ∧ s' = s) ∧ V b s' = some v) := fun b s' v hv => by
    by_cases e : b = S.bal p ∧ s' = s
    · obtain ⟨rfl, rfl⟩ := e
      rw [setV_same] at hv
      exact .inl ⟨rfl, rfl, (Option.some.inj hv).symm⟩
    · rw [setV_else _ _ e] at hv
      exact .inr ⟨e, hv⟩
  constructor
  · exact h.ok
  · exact h.bal
  · exact h.vote1
  · intro q hq s' hn
    obtain ⟨h1, h2⟩ := h.vote2 q hq s' hn
    exact ⟨h1, hVm _ _ _ h2⟩
  · intro r hr q hq hy
    obtain ⟨h1, h2⟩ := h.prom r hr q hq hy
    refine ⟨h1, fun s' => ?_⟩
    obtain ⟨h3, h4, h5⟩ := h2 s'
    exact ⟨h3, h4, fun hn => ⟨(h5 hn).1, hVm _ _ _ (h5 hn).2⟩⟩
  · intro b s' v hv
    rcases hin b s' v hv with ⟨rfl, rfl, rfl⟩ | ⟨-, hv⟩
    · exact ⟨by omega, hnew, ⟨p, j, hp, hj, Int.le_refl _⟩, hquor⟩
    · exact h.val b s' v hv
  · intro b s' v hv b' v' hb' hv'
    rcases hin b s' v hv with ⟨rfl, rfl, rfl⟩ | ⟨hne, hvo⟩
    · rcases hin b' s' v' hv' with ⟨e, -, -⟩ | ⟨-, hv'⟩
      · omega
      · exact hsafe b' v' hb' hv'
    · rcases hin b' s' v' hv' with ⟨rfl, rfl, rfl⟩ | ⟨-, hv'⟩
      · right
        have hq := (h.val b s' v hvo).2.2.2
        have := cnt_apart (k := k) (f := may S A (S.bal p) s') (g := fun q => decide (b ≤ S.P q)) fun q hq hm' hd => by
          unfold may at hm'
          rw [hA0 q hq, Bool.false_or] at hm'
          have h1 := of_decide_eq_true hm'
          have h2 := of_decide_eq_true hd
          omega
        show 2 * cnt k (may S A (S.bal p) s') ≤ k
        omega
      · exact h.safe b s' v hvo b' v' hb' hv'
  · intro q hq b s' ha hn
    cases hv : V b s' with
    | none => exact h.av q hq b s' ha hv
    | some v => rw [hVm _ _ _ hv] at hn; cases hn
  · intro r hr s' hs'
    show ((upd S.mine p (upd (S.mine p) s ⟨S.bal p, nd⟩) r s').b = 0 → setV V (S.bal p) s nd (S.bal r) s' = none) ∧ ((upd S.mine p (upd (S.mine p) s ⟨S.bal p, nd⟩) r s').b ≠ 0 → (upd S.mine p (upd (S.mine p) s ⟨S.bal p, nd⟩) r s').b = S.bal r ∧ setV V (S.bal p) s nd (S.bal r) s' = some (upd S.mine p (upd (S.mine p) s ⟨S.bal p, nd⟩) r s').d)
    by_cases e : r = p
    · subst e
      rw [upd_same]
      by_cases e2 : s' = s
      · subst e2
        rw [upd_same]
        exact ⟨fun h0 => by have h1 : S.bal r = 0 := h0; omega, fun _ => ⟨rfl, setV_same _ _ _ _⟩⟩
      · rw [upd_else _ _ e2, setV_else _ _ (fun x => e2 x.2)]
        exact h.mine r hr s' hs'
    · rw [upd_else _ _ e, setV_else _ _ (fun x => by
        obtain ⟨i, hi⟩ := h.bal r hr
        exact e (bal_apart (j := i) (i := j) hr hp (by omega)))]
      exact h.mine r hr s' hs'
  · exact h.votes
  · intro s' hs' hn
    obtain ⟨h1, h2⟩ := h.chosen s' hs' hn
    exact ⟨hVm _ _ _ h1, h2⟩
def putA (A : Int → Nat → Nat → Bool) (b : Int) (s q : Nat) : Int → Nat → Nat → Bool := fun b' s' q' => A b' s' q' || (decide (b' = b) && decide (s' = s) && decide (q' = q))
theorem putA_up {A : Int → Nat → Nat → Bool} {b b' : Int} {s q s' q' : Nat} (h : A b' s' q' = true) : putA A b s q b' s' q' = true := by unfold putA; rw [h]; rfl
theorem putA_in {A : Int → Nat → Nat → Bool} {b b' : Int} {s q s' q' : Nat} (h : putA A b s q b' s' q' = true) : A b' s' q' = true ∨ (b' = b ∧ s' = s ∧ q' = q) := by
  unfold putA at h
  rw [Bool.or_eq_true, Bool.and_eq_true, Bool.and_eq_true] at h
  rcases h with h | ⟨⟨h1, h2⟩, h3⟩
  · exact .inl h
  · exact .inr ⟨of_decide_eq_true h1, of_decide_eq_true h2, of_decide_eq_true h3⟩
theorem putA_at (A : Int → Nat → Nat → Bool) (b : Int) (s q : Nat) : putA A b s q b s q = true := by unfold putA; simp
theorem putA_else {A : Int → Nat → Nat → Bool} {b b' : Int} {s q s' q' : Nat} (h : ¬ (b' = b ∧ s' = s ∧ q' = q)) : putA A b s q b' s' q' = A b' s' q' := by
  cases ha : A b' s' q' with
  | true => exact putA_up ha
  | false =>
    cases hp : putA A b s q b' s' q' with
    | false => rfl
    | true =>
      rcases putA_in hp with e | e
      · rw [ha] at e; cases e
      · exact absurd e h
/-- one more vote, unless it was counted -/
def voted (S : Sy) (p q s : Nat) : Int → Nat → Nat := if (slotA (S.L q) s).b ≠ S.bal p then (fun b' s' => if b' = S.bal p ∧ s' = s then S.votes b' s' + 1 else S.votes b' s') else S.votes
/-- an acceptor is asked to accept, and does -/
theorem Inv.accept {k : Nat} {S : Sy} {A : Int → Nat → Nat → Bool} {V : Int → Nat → Option Dl} (h : Inv k S A V) {p q s : Nat} (hp : p < 3) (hq : q < k) (hs : s < 3) (hmine : (S.mine p s).b ≠ 0) (hb : S.P q ≤ S.bal p) (hc : inB (S.bal p) 1 2147483647 = true) :
    Inv k { S with P := upd S.P q (S.bal p), L := upd S.L q (putS (S.L q) (s + 1) ⟨S.bal p, (S.mine p s).d⟩), votes := voted S p q s } (putA A (S.bal p) s q) V := by
  obtain ⟨hmb, hmv⟩ := (h.mine p hp s hs).2 hmine
  obtain ⟨hv1, hvd, -, hvq⟩ := h.val _ _ _ hmv
  have hPm : ∀ r, S.P r ≤ upd S.P q (S.bal p) r := fun r => by
    by_cases e : r = q
    · subst e; rw [upd_same]; exact hb
    · rw [upd_else _ _ e]; exact Int.le_refl _
  -- it was counted already where its slot is of that ballot
  have hcount : A (S.bal p) s q = true ↔ (slotA (S.L q) s).b = S.bal p := by
    constructor
    · intro ha
      have h1 := h.vote1 q hq _ s ha
      by_cases h0 : (slotA (S.L q) s).b = 0
      · omega
      · have h2 := h.vote1 q hq _ s (h.vote2 q hq s h0).1
        omega
    · intro e
      have := (h.vote2 q hq s (by omega)).1
      rw [e] at this
      exact this
  have hslot : ∀ r s', slotA (upd S.L q (putS (S.L q) (s + 1) ⟨S.bal p, (S.mine p s).d⟩) r) s' = if r = q ∧ s' = s then ⟨S.bal p, (S.mine p s).d⟩ else slotA (S.L r) s' := fun r s' => by
    by_cases e : r = q
    · subst e
      rw [upd_same, slot_put]
      by_cases e2 : s' = s
      · rw [if_pos e2, if_pos ⟨rfl, e2⟩]
      · rw [if_neg e2, if_neg (fun x => e2 x.2)]
    · rw [upd_else _ _ e, if_neg (fun x => e x.1)]
  constructor
  · intro r hr
    show okA (upd S.P q (S.bal p) r) (upd S.L q (putS (S.L q) (s + 1) ⟨S.bal p, (S.mine p s).d⟩) r) = true
    by_cases e : r = q
    · subst e
      rw [upd_same, upd_same]
      exact okA_put (h.ok r hr) hc (by omega) hvd hb
    · rw [upd_else _ _ e, upd_else _ _ e]
      exact h.ok r hr
  · exact h.bal
  · intro r hr b s' ha
    show 1 ≤ b ∧ b ≤ upd S.P q (S.bal p) r ∧ b ≤ (slotA (upd S.L q (putS (S.L q) (s + 1) ⟨S.bal p, (S.mine p s).d⟩) r) s').b
    rw [hslot]
    rcases putA_in ha with ha | ⟨rfl, rfl, rfl⟩
    · obtain ⟨h1, h2, h3⟩ := h.vote1 r hr b s' ha
      refine ⟨h1, Int.le_trans h2 (hPm r), ?_⟩
      by_cases e : r = q ∧ s' = s
      · rw [if_pos e]
        obtain ⟨rfl, rfl⟩ := e
        exact Int.le_trans h2 hb
      · rw [if_neg e]; exact h3
    · rw [upd_same, if_pos ⟨rfl, rfl⟩]
      exact ⟨hv1, Int.le_refl _, Int.le_refl _⟩
  · intro r hr s' hn
    have hn' : (slotA (upd S.L q (putS (S.L q) (s + 1) ⟨S.bal p, (S.mine p s).d⟩) r) s').b ≠ 0 := hn
    show putA A (S.bal p) s q (slotA (upd S.L q (putS (S.L q) (s + 1) ⟨S.bal p, (S.mine p s).d⟩) r) s').b s' r = true ∧ V (slotA (upd S.L q (putS (S.L q) (s + 1) ⟨S.bal p, (S.mine p s).d⟩) r) s').b s' = some (slotA (upd S.L q (putS (S.L q) (s + 1) ⟨S.bal p, (S.mine p s).d⟩) r) s').d
    rw [hslot] at hn' ⊢
    by_cases e : r = q ∧ s' = s
    · rw [if_pos e]
      obtain ⟨rfl, rfl⟩ := e
      exact ⟨putA_at _ _ _ _, hmv⟩
    · rw [if_neg e] at hn' ⊢
      obtain ⟨h1, h2⟩ := h.vote2 r hr s' hn'
      exact ⟨putA_up h1, h2⟩
  · intro r hr q' hq' hy
    obtain ⟨h1, h2⟩ := h.prom r hr q' hq' hy
    refine ⟨Int.le_trans h1 (hPm q'), fun s' => ?_⟩
    obtain ⟨h3, h4, h5⟩ := h2 s'
    refine ⟨h3, fun b' hb' ha => ?_, fun hn => ⟨putA_up (h5 hn).1, (h5 hn).2⟩⟩
    rcases putA_in ha with ha | ⟨rfl, rfl, rfl⟩
    · exact h4 b' hb' ha
    · have hb'' : S.bal p < S.bal r := hb'
      omega
  · intro b s' v hv
    obtain ⟨h1, h2, h3, h4⟩ := h.val b s' v hv
    exact ⟨h1, h2, h3, Nat.lt_of_lt_of_le h4 (Nat.mul_le_mul_left 2 (cnt_mono fun r _ hd => decide_eq_true (Int.le_trans (of_decide_eq_true hd) (hPm r))))⟩
  · intro b s' v hv b' v' hb' hv'
    rcases h.safe b s' v hv b' v' hb' hv' with e | e
    · exact .inl e
    · refine .inr (Nat.le_trans (Nat.mul_le_mul_left 2 (cnt_mono fun r _ hm => ?_)) e)
      unfold may at hm ⊢
      rw [Bool.or_eq_true] at hm ⊢
      rcases hm with hm | hm
      · rcases putA_in hm with hm | ⟨rfl, rfl, rfl⟩
        · exact .inl hm
        · exact .inr (decide_eq_true hb)
      · exact .inr (decide_eq_true (Int.le_trans (hPm r) (of_decide_eq_true hm)))
  · intro r hr b s' ha
    rcases putA_in ha with ha | ⟨rfl, rfl, rfl⟩
    · exact h.av r hr b s' ha
    · rw [hmv]; nofun
  · exact h.mine
  · intro b s'
    show voted S p q s b s' = cnt k (putA A (S.bal p) s q b s')
    unfold voted
    by_cases hn : (slotA (S.L q) s).b = S.bal p
    · rw [if_neg (fun x => x hn), h.votes b s']
      refine cnt_same fun r hr => ?_
      by_cases e : b = S.bal p ∧ s' = s ∧ r = q
      · obtain ⟨rfl, rfl, rfl⟩ := e
        rw [putA_at, hcount.2 hn]
      · rw [putA_else e]
    · rw [if_pos hn]
      have ha : A (S.bal p) s q = false := by
        cases ha : A (S.bal p) s q with
        | false => rfl
        | true => exact absurd (hcount.1 ha) hn
      show (if b = S.bal p ∧ s' = s then S.votes b s' + 1 else S.votes b s') = _
      by_cases e : b = S.bal p ∧ s' = s
      · rw [if_pos e]
        obtain ⟨rfl, rfl⟩ := e
        rw [h.votes]
        exact (cnt_one hq ha (putA_at _ _ _ _) fun r _ hne => putA_else fun x => hne x.2.2).symm
      · rw [if_neg e, h.votes]
        exact cnt_same fun r _ => (putA_else fun x => e ⟨x.1, x.2.1⟩).symm
  · intro s' hs' hn
    obtain ⟨h1, h2⟩ := h.chosen s' hs' hn
    exact ⟨h1, Nat.lt_of_lt_of_le h2 (Nat.mul_le_mul_left 2 (cnt_mono fun r _ ha => putA_up ha))⟩
/-- two deltas that more than half accepted are one -/
theorem Inv.one {k : Nat} {S : Sy} {A : Int → Nat → Nat → Bool} {V : Int → Nat → Option Dl} (h : Inv k S A V) {b c : Int} {s : Nat} {v u : Dl} (hv : V b s = some v) (hu : V c s = some u) (hb : k < 2 * cnt k (A b s)) (hc : k < 2 * cnt k (A c s)) : v = u := by
  have key : ∀ {b c : Int} {v u : Dl}, V b s = some v → V c s = some u → c < b → k < 2 * cnt k (A c s) → u = v := fun {b c v u} hv hu hlt hc => by
    rcases h.safe b s v hv c u hlt hu with e | e
    · exact e
    · have : cnt k (A c s) ≤ cnt k (may S A c s) := cnt_mono fun r _ ha => by unfold may; rw [ha]; rfl
      omega
  by_cases e : b = c
  · subst e
    rw [hv] at hu
    exact Option.some.inj hu
  · by_cases hlt : b < c
    · exact key hu hv hlt hb
    · exact (key hv hu (by omega) hc).symm
/-- more than half accepted: it is what was chosen before -/
theorem Inv.choose {k : Nat} {S : Sy} {A : Int → Nat → Nat → Bool} {V : Int → Nat → Option Dl} (h : Inv k S A V) {p s : Nat} (hp : p < 3) (hs : s < 3) (hmine : (S.mine p s).b ≠ 0) (hv : k < 2 * S.votes (S.bal p) s) :
    ((S.chosen s).b ≠ 0 → (S.chosen s).d = (S.mine p s).d) ∧ Inv k { S with chosen := upd S.chosen s (S.mine p s) } A V := by
  obtain ⟨hmb, hmv⟩ := (h.mine p hp s hs).2 hmine
  rw [h.votes] at hv
  refine ⟨fun hn => ?_, ?_⟩
  · obtain ⟨h1, h2⟩ := h.chosen s hs hn
    exact h.one h1 hmv h2 hv
  · refine ⟨h.ok, h.bal, h.vote1, h.vote2, h.prom, h.val, h.safe, h.av, h.mine, h.votes, fun s' hs' hn => ?_⟩
    have hn' : (upd S.chosen s (S.mine p s) s').b ≠ 0 := hn
    show V (upd S.chosen s (S.mine p s) s').b s' = some (upd S.chosen s (S.mine p s) s').d ∧ k < 2 * cnt k (A (upd S.chosen s (S.mine p s) s').b s')
    by_cases e : s' = s
    · subst e
      rw [upd_same, hmb]
      exact ⟨hmv, hv⟩
    · rw [upd_else _ _ e] at hn' ⊢
      exact h.chosen s' hs' hn'
end Go.Proofs.Ytejhmacbbdnlbaa.Ac
