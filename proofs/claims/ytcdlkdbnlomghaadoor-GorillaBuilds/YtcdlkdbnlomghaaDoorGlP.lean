/-
  Samples as bits, plainly: numbers in pairs, runs of noughts; told, read, and each but one way.
-/
import Derived.Test.YtcdlkdbnlomghaaDoorBiS
namespace Go.Proofs.YtcdlkdbnlomghaaDoor.Gl
open Go.Proofs.YtcdlkdbnlomghaaDoor.Bi
/-- a place that stands in a run -/
def Still (T V : Nat → Int) (n i : Nat) : Prop := 2 ≤ i ∧ i < n ∧ T i = 0 ∧ V i = 0
instance (T V : Nat → Int) (n i : Nat) : Decidable (Still T V n i) := by unfold Still; infer_instance
/-- both numbers of a place -/
def cd (T V : Nat → Int) (i : Nat) : List Bool := coded (T i) ++ coded (V i)
/-- bits that tell the first i places; the flag: a run that stands last had room for one more -/
inductive Bd (T V : Nat → Int) (n : Nat) : Nat → Bool → List Bool → Prop
  | zero : Bd T V n 0 false []
  | one {i : Nat} {b : Bool} {l : List Bool} : Bd T V n i b l → i < n → ¬ Still T V n i → Bd T V n (i + 1) false (l ++ cd T V i)
  | run {i k : Nat} {l : List Bool} : Bd T V n i false l → 1 ≤ k → k ≤ 16 → (∀ j, j < k → Still T V n (i + j)) → Bd T V n (i + k) (decide (k < 16)) (l ++ (cd T V i ++ low (k - 1) 4))
/-- bits that tell the places from i on -/
inductive Sd (T V : Nat → Int) (n : Nat) : Nat → Bool → List Bool → Prop
  | done {b : Bool} : Sd T V n n b []
  | one {i : Nat} {b : Bool} {m : List Bool} : i < n → ¬ Still T V n i → Sd T V n (i + 1) false m → Sd T V n i b (cd T V i ++ m)
  | run {i k : Nat} {m : List Bool} : 1 ≤ k → k ≤ 16 → (∀ j, j < k → Still T V n (i + j)) → Sd T V n (i + k) (decide (k < 16)) m → Sd T V n i false ((cd T V i ++ low (k - 1) 4) ++ m)
def In2 (T V : Nat → Int) (n : Nat) : Prop := ∀ j, j < n → inI (T j) ∧ inI (V j)
/-- all of them, and all numbers are such as may be -/
def Told (T V : Nat → Int) (n : Nat) (L : List Bool) : Prop := In2 T V n ∧ Sd T V n 0 false L
theorem bd_sd {T V : Nat → Int} {n i : Nat} {b : Bool} {l : List Bool} (h : Bd T V n i b l) : ∀ {m : List Bool}, Sd T V n i b m → Sd T V n 0 false (l ++ m) := by
  induction h with
  | zero => exact fun k => k
  | one _ hi hs ih => intro m k; rw [List.append_assoc]; exact ih (.one hi hs k)
  | run _ h1 h2 h3 ih => intro m k; rw [List.append_assoc]; exact ih (.run h1 h2 h3 k)
theorem bd_told {T V : Nat → Int} {n : Nat} {b : Bool} {l : List Bool} (h : Bd T V n n b l) (hI : In2 T V n) : Told T V n l := ⟨hI, by have := bd_sd h .done; rwa [List.append_nil] at this⟩
theorem sd_inv {T V : Nat → Int} {n i : Nat} {b : Bool} {M : List Bool} (h : Sd T V n i b M) :
    (i = n ∧ M = []) ∨ (i < n ∧ ¬ Still T V n i ∧ ∃ m, M = cd T V i ++ m ∧ Sd T V n (i + 1) false m) ∨ (b = false ∧ ∃ k m, 1 ≤ k ∧ k ≤ 16 ∧ (∀ j, j < k → Still T V n (i + j)) ∧ M = (cd T V i ++ low (k - 1) 4) ++ m ∧ Sd T V n (i + k) (decide (k < 16)) m) := by
  cases h with
  | done => exact .inl ⟨rfl, rfl⟩
  | one h1 h2 h3 => exact .inr (.inl ⟨h1, h2, _, rfl, h3⟩)
  | run h1 h2 h3 h4 => exact .inr (.inr ⟨rfl, _, _, h1, h2, h3, rfl, h4⟩)
theorem still_lt {T V : Nat → Int} {n i k : Nat} (h1 : 1 ≤ k) (h : ∀ j, j < k → Still T V n (i + j)) : i < n ∧ i + k ≤ n ∧ Still T V n i := by
  have a := h 0 (by omega)
  have b := (h (k - 1) (by omega)).2.1
  rw [Nat.add_zero] at a
  exact ⟨a.2.1, by omega, a⟩
theorem bd_le {T V : Nat → Int} {n i : Nat} {b : Bool} {l : List Bool} (h : Bd T V n i b l) : i ≤ n := by
  cases h with
  | zero => omega
  | one _ hi _ => omega
  | run _ h1 _ h3 => exact (still_lt h1 h3).2.1
theorem still_congr {T V T2 V2 : Nat → Int} {n i : Nat} (ht : T i = T2 i) (hv : V i = V2 i) : Still T V n i ↔ Still T2 V2 n i := by unfold Still; rw [ht, hv]
theorem bd_congr {T V T2 V2 : Nat → Int} {n i : Nat} {b : Bool} {l : List Bool} (h : Bd T V n i b l) : (∀ j, j < i → T j = T2 j ∧ V j = V2 j) → Bd T2 V2 n i b l := by
  induction h with
  | zero => exact fun _ => .zero
  | @one i b l _ hi hs ih =>
    intro e
    have e1 := e i (by omega)
    have := Bd.one (ih fun j hj => e j (by omega)) hi (fun x => hs ((still_congr e1.1 e1.2).2 x))
    unfold cd at this ⊢
    rw [e1.1, e1.2]
    exact this
  | @run i k l _ h1 h2 h3 ih =>
    intro e
    have e1 := e i (by omega)
    have := Bd.run (ih fun j hj => e j (by omega)) h1 h2 (fun j hj => (still_congr (e (i + j) (by omega)).1 (e (i + j) (by omega)).2).1 (h3 j hj))
    unfold cd at this ⊢
    rw [e1.1, e1.2]
    exact this
theorem sd_congr {T V T2 V2 : Nat → Int} {n i : Nat} {b : Bool} {l : List Bool} (h : Sd T V n i b l) (e : ∀ j, j < n → T j = T2 j ∧ V j = V2 j) : Sd T2 V2 n i b l := by
  induction h with
  | done => exact .done
  | @one i b m hi hs _ ih =>
    have e1 := e i hi
    have := Sd.one (b := b) hi (fun x => hs ((still_congr e1.1 e1.2).2 x)) ih
    unfold cd at this ⊢
    rw [e1.1, e1.2]
    exact this
  | @run i k m h1 h2 h3 _ ih =>
    have e1 := e i (still_lt h1 h3).1
    have := Sd.run h1 h2 (fun j hj => (still_congr (e (i + j) (h3 j hj).2.1).1 (e (i + j) (h3 j hj).2.1).2).1 (h3 j hj)) ih
    unfold cd at this ⊢
    rw [e1.1, e1.2]
    exact this
theorem told_congr {T V T2 V2 : Nat → Int} {n : Nat} {l : List Bool} (h : Told T V n l) (e : ∀ j, j < n → T j = T2 j ∧ V j = V2 j) : Told T2 V2 n l :=
  ⟨fun j hj => by rw [← (e j hj).1, ← (e j hj).2]; exact h.1 j hj, sd_congr h.2 e⟩
/-- they are told in but one way -/
theorem sd_one {T V : Nat → Int} {n i : Nat} {b : Bool} {m : List Bool} (h : Sd T V n i b m) : ∀ {m' : List Bool}, Sd T V n i b m' → m = m' := by
  induction h with
  | done =>
    intro m' g
    rcases sd_inv g with ⟨_, e⟩ | ⟨h1, _⟩ | ⟨_, k, _, h1, _, h3, _⟩
    · exact e.symm
    · omega
    · have := still_lt h1 h3; omega
  | @one i b m hi hs _ ih =>
    intro m' g
    rcases sd_inv g with ⟨e, _⟩ | ⟨_, _, m2, e, g2⟩ | ⟨_, k, _, h1, _, h3, _⟩
    · omega
    · rw [e, ih g2]
    · exact absurd (still_lt h1 h3).2.2 hs
  | @run i k m h1 h2 h3 hg ih =>
    intro m' g
    have hi := still_lt h1 h3
    rcases sd_inv g with ⟨e, _⟩ | ⟨_, hs, _⟩ | ⟨_, k2, m2, g1, g2, g3, e, g4⟩
    · omega
    · exact absurd hi.2.2 hs
    · have hk : k = k2 := by
        rcases Nat.lt_trichotomy k k2 with hlt | heq | hlt
        · exfalso
          have hst := g3 k hlt
          rw [show decide (k < 16) = true from decide_eq_true (by omega)] at hg
          rcases sd_inv hg with ⟨e, _⟩ | ⟨_, hs, _⟩ | ⟨hb, _⟩
          · have := hst.2.1; omega
          · exact hs hst
          · cases hb
        · exact heq
        · exfalso
          have hst := h3 k2 hlt
          rw [show decide (k2 < 16) = true from decide_eq_true (by omega)] at g4
          rcases sd_inv g4 with ⟨e, _⟩ | ⟨_, hs, _⟩ | ⟨hb, _⟩
          · have := hst.2.1; omega
          · exact hs hst
          · cases hb
      subst hk
      rw [e, ih g4]
theorem told_one {T V : Nat → Int} {n : Nat} {l l' : List Bool} (h : Told T V n l) (h' : Told T V n l') : l = l' := sd_one h.2 h'.2
theorem coded_pref {a b : Int} {x y : List Bool} (ha : inI a) (hb : inI b) (h : coded a ++ x = coded b ++ y) : a = b ∧ x = y := by
  have h1 := num_coded [] x a ha
  have h2 := num_coded [] y b hb
  rw [List.nil_append] at h1 h2
  rw [h] at h1
  have e := (num_one h1 h2).1
  subst e
  exact ⟨rfl, List.append_cancel_left h⟩
theorem low4_inj {a b : Nat} (ha : a < 16) (hb : b < 16) (h : low a 4 = low b 4) : a = b := by
  have h1 := valL_low a 4
  have h2 := valL_low b 4
  rw [h] at h1
  have : (2 : Nat) ^ 4 = 16 := rfl
  rw [this] at h1 h2
  omega
/-- and bits tell but one row of numbers -/
theorem sd_uniq {T V T2 V2 : Nat → Int} {n : Nat} (hI : In2 T V n) (hJ : In2 T2 V2 n) {i : Nat} {b : Bool} {m : List Bool} (h : Sd T V n i b m) : ∀ {b' : Bool}, Sd T2 V2 n i b' m → ∀ j, i ≤ j → j < n → T j = T2 j ∧ V j = V2 j := by
  induction h with
  | done => intro _ _ j h1 h2; omega
  | @one i b m hi hs _ ih =>
    intro b' g j h1 h2
    rcases sd_inv g with ⟨e, _⟩ | ⟨_, _, m2, e, g2⟩ | ⟨_, k, m2, k1, _, k3, e, _⟩
    · omega
    · unfold cd at e
      rw [List.append_assoc, List.append_assoc] at e
      obtain ⟨e1, e2⟩ := coded_pref (hI i hi).1 (hJ i hi).1 e
      obtain ⟨e3, e4⟩ := coded_pref (hI i hi).2 (hJ i hi).2 e2
      subst e4
      by_cases hj : j = i
      · subst hj; exact ⟨e1, e3⟩
      · exact ih g2 j (by omega) h2
    · unfold cd at e
      rw [List.append_assoc, List.append_assoc, List.append_assoc] at e
      obtain ⟨e1, e2⟩ := coded_pref (hI i hi).1 (hJ i hi).1 e
      obtain ⟨e3, _⟩ := coded_pref (hI i hi).2 (hJ i hi).2 e2
      exact absurd ((still_congr e1 e3).2 (still_lt k1 k3).2.2) hs
  | @run i k m k1 k2 k3 hg ih =>
    intro b' g j h1 h2
    have hi := (still_lt k1 k3).1
    rcases sd_inv g with ⟨e, _⟩ | ⟨_, hs, m2, e, g2⟩ | ⟨_, q, m2, q1, q2, q3, e, g4⟩
    · omega
    · unfold cd at e
      rw [List.append_assoc, List.append_assoc, List.append_assoc] at e
      obtain ⟨e1, e2⟩ := coded_pref (hI i hi).1 (hJ i hi).1 e
      obtain ⟨e3, _⟩ := coded_pref (hI i hi).2 (hJ i hi).2 e2
      exact absurd ((still_congr e1 e3).1 (still_lt k1 k3).2.2) hs
    · unfold cd at e
      rw [List.append_assoc, List.append_assoc, List.append_assoc, List.append_assoc] at e
      obtain ⟨e1, e2⟩ := coded_pref (hI i hi).1 (hJ i hi).1 e
      obtain ⟨_, e4⟩ := coded_pref (hI i hi).2 (hJ i hi).2 e2
      obtain ⟨e5, e6⟩ := List.append_inj e4 (by rw [low_len, low_len])
      have := low4_inj (by omega) (by omega) e5
      obtain rfl : k = q := by omega
      subst e6
      by_cases hj : j < i + k
      · have a := k3 (j - i) (by omega)
        have b := q3 (j - i) (by omega)
        rw [show i + (j - i) = j by omega] at a b
        exact ⟨a.2.2.1.trans b.2.2.1.symm, a.2.2.2.trans b.2.2.2.symm⟩
      · exact ih g4 j (by omega) h2
theorem told_uniq {T V T2 V2 : Nat → Int} {n : Nat} {L : List Bool} (h : Told T V n L) (g : Told T2 V2 n L) : ∀ j, j < n → T j = T2 j ∧ V j = V2 j := fun j hj => sd_uniq h.1 g.1 h.2 g.2 j (by omega) hj
/-- in the midst of reading -/
def Mid (T V : Nat → Int) (n : Nat) (L : List Bool) (i at' : Nat) (b : Bool) : Prop :=
  at' ≤ L.length ∧ In2 T V i ∧ Bd T V n i b (L.take at') ∧ ∀ T2 V2, Told T2 V2 n L → (∀ j, j < i → T2 j = T j ∧ V2 j = V j) ∧ Sd T2 V2 n i b (L.drop at')
theorem mid_zero (T V : Nat → Int) (n : Nat) (L : List Bool) : Mid T V n L 0 0 false := ⟨by omega, fun j hj => by omega, .zero, fun T2 V2 h => ⟨fun j hj => by omega, h.2⟩⟩
theorem num_drop {L m : List Bool} {at' : Nat} {v : Int} (hv : inI v) (ha : at' ≤ L.length) (h : L.drop at' = coded v ++ m) : NumIs L at' v (szT (clsU (foldN v))) ∧ L.drop (at' + szT (clsU (foldN v))) = m ∧ at' + szT (clsU (foldN v)) ≤ L.length := by
  have e : L = L.take at' ++ (coded v ++ m) := by rw [← h, List.take_append_drop]
  have hl : (L.take at').length = at' := by simp; omega
  have h1 := num_coded (L.take at') m v hv
  rw [← e, hl] at h1
  refine ⟨h1, ?_, ?_⟩
  · rw [← List.drop_drop, h, ← coded_len, List.drop_left]
  · have := congrArg List.length h
    rw [List.length_append, List.length_drop, coded_len] at this
    omega
/-- what stands at the place where the reading stands -/
theorem mid_read {T2 V2 : Nat → Int} {n i at' : Nat} {L : List Bool} {b : Bool} (hT : Told T2 V2 n L) (hs : Sd T2 V2 n i b (L.drop at')) (ha : at' ≤ L.length) (hi : i < n) :
    ∃ k1 k2 m, NumIs L at' (T2 i) k1 ∧ NumIs L (at' + k1) (V2 i) k2 ∧ at' + k1 + k2 ≤ L.length ∧ L.drop (at' + k1 + k2) = m ∧
      ((¬ Still T2 V2 n i ∧ Sd T2 V2 n (i + 1) false m) ∨ (b = false ∧ ∃ k m2, 1 ≤ k ∧ k ≤ 16 ∧ (∀ j, j < k → Still T2 V2 n (i + j)) ∧ m = low (k - 1) 4 ++ m2 ∧ Sd T2 V2 n (i + k) (decide (k < 16)) m2)) := by
  have hI := hT.1 i hi
  rcases sd_inv hs with ⟨e, _⟩ | ⟨_, h2, m, e, h3⟩ | ⟨hb, k, m, h1, h2, h3, e, h4⟩
  · omega
  · unfold cd at e
    rw [List.append_assoc] at e
    obtain ⟨a1, a2, a3⟩ := num_drop hI.1 ha e
    obtain ⟨b1, b2, b3⟩ := num_drop hI.2 a3 a2
    exact ⟨_, _, _, a1, b1, b3, rfl, .inl ⟨h2, by rw [b2]; exact h3⟩⟩
  · unfold cd at e
    rw [List.append_assoc, List.append_assoc] at e
    obtain ⟨a1, a2, a3⟩ := num_drop hI.1 ha e
    obtain ⟨b1, b2, b3⟩ := num_drop hI.2 a3 a2
    exact ⟨_, _, _, a1, b1, b3, rfl, .inr ⟨hb, k, m, h1, h2, h3, b2, h4⟩⟩
def Nobody (n : Nat) (L : List Bool) : Prop := ∀ T V, ¬ Told T V n L
theorem mid_no1 {T V : Nat → Int} {n i at' : Nat} {L : List Bool} {b : Bool} (h : Mid T V n L i at' b) (hi : i < n) (hno : ∀ v k, ¬ NumIs L at' v k) : Nobody n L := fun T2 V2 hT => by
  obtain ⟨_, h2⟩ := h.2.2.2 T2 V2 hT
  obtain ⟨k1, k2, m, a, _⟩ := mid_read hT h2 h.1 hi
  exact hno _ _ a
theorem mid_no2 {T V : Nat → Int} {n i at' k : Nat} {t : Int} {L : List Bool} {b : Bool} (h : Mid T V n L i at' b) (hi : i < n) (ht : NumIs L at' t k) (hno : ∀ v m, ¬ NumIs L (at' + k) v m) : Nobody n L := fun T2 V2 hT => by
  obtain ⟨_, h2⟩ := h.2.2.2 T2 V2 hT
  obtain ⟨k1, k2, m, a, c, _⟩ := mid_read hT h2 h.1 hi
  rw [(num_one a ht).2] at c
  exact hno _ _ c
theorem low_val4 {L m2 : List Bool} {q k : Nat} (h : L.drop q = low (k - 1) 4 ++ m2) (hk : k ≤ 16) (h1 : 1 ≤ k) : q + 4 ≤ L.length ∧ val (bt L) q 4 = k - 1 ∧ L.drop (q + 4) = m2 := by
  have hl := congrArg List.length h
  rw [List.length_append, List.length_drop, low_len] at hl
  have h4 : q + 4 ≤ L.length := by omega
  refine ⟨h4, ?_, ?_⟩
  · rw [val_piece h4, h, List.take_append_of_le_length (by rw [low_len]; exact Nat.le_refl _), List.take_of_length_le (by rw [low_len]; exact Nat.le_refl _), valL_low]
    exact Nat.mod_eq_of_lt (by omega)
  · rw [← List.drop_drop, h]
    have := low_len (k - 1) 4
    conv => lhs; arg 1; rw [← this]
    exact List.drop_left
/-- two numbers that are a run's are read: the run must be there -/
theorem mid_run {T V : Nat → Int} {n i at' k1 k2 : Nat} {L : List Bool} {b : Bool} (h : Mid T V n L i at' b) (hi : i < n) (h2 : 2 ≤ i) (ht : NumIs L at' 0 k1) (hv : NumIs L (at' + k1) 0 k2) : ∀ T2 V2, Told T2 V2 n L → b = false ∧ at' + k1 + k2 + 4 ≤ L.length ∧ i + (val (bt L) (at' + k1 + k2) 4 + 1) ≤ n ∧ (∀ j, j < val (bt L) (at' + k1 + k2) 4 + 1 → Still T2 V2 n (i + j)) ∧ Sd T2 V2 n (i + (val (bt L) (at' + k1 + k2) 4 + 1)) (decide (val (bt L) (at' + k1 + k2) 4 + 1 < 16)) (L.drop (at' + k1 + k2 + 4)) := fun T2 V2 hT => by
  obtain ⟨_, hs⟩ := h.2.2.2 T2 V2 hT
  obtain ⟨q1, q2, m, a, c, _, e, hc⟩ := mid_read hT hs h.1 hi
  obtain ⟨a1, a2⟩ := num_one a ht
  subst a2
  obtain ⟨c1, c2⟩ := num_one c hv
  subst c2
  rcases hc with ⟨hn, _⟩ | ⟨hb, k, m2, w1, w2, w3, w4, w5⟩
  · exact absurd ⟨h2, hi, a1, c1⟩ hn
  · rw [w4] at e
    obtain ⟨x1, x2, x3⟩ := low_val4 e w2 w1
    rw [x2, show k - 1 + 1 = k by omega]
    refine ⟨hb, x1, (still_lt w1 w3).2.1, w3, ?_⟩
    rw [x3]
    exact w5
theorem take_num {L : List Bool} {at' k : Nat} {v : Int} (h : NumIs L at' v k) : L.take (at' + k) = L.take at' ++ coded v ∧ inI v ∧ at' + k ≤ L.length := by
  obtain ⟨c, hc, h1, h2, h3, h4⟩ := h
  have hw := wdT_small hc.1
  have hU : inU (val (bt L) (at' + hdT c) (wdT c)) := val_inU hw
  have hf : foldN v = val (bt L) (at' + hdT c) (wdT c) := by rw [h4, fold_gather]
  unfold szT at h1 h2
  refine ⟨?_, by rw [h4]; exact gather_in hU, by omega⟩
  rw [h2, List.take_add, coded, hf, h3]
  congr 1
  rw [List.take_add, List.drop_drop, ← hc.2.1.2, low_piece (by omega), low_piece (by omega)]
/-- a place that stands in no run is read -/
theorem Mid.one {T V : Nat → Int} {n i at' k1 k2 : Nat} {t v : Int} {L : List Bool} {b : Bool} (h : Mid T V n L i at' b) (hi : i < n) (ht : NumIs L at' t k1) (hv : NumIs L (at' + k1) v k2) (hs : ¬ (2 ≤ i ∧ t = 0 ∧ v = 0))
    {T2 V2 : Nat → Int} (e : ∀ j, j < i → T j = T2 j ∧ V j = V2 j) (et : T2 i = t) (ev : V2 i = v) : Mid T2 V2 n L (i + 1) (at' + k1 + k2) false := by
  obtain ⟨h1, h2, h3, h4⟩ := h
  obtain ⟨x1, x2, _⟩ := take_num ht
  obtain ⟨y1, y2, y3⟩ := take_num hv
  refine ⟨y3, fun j hj => ?_, ?_, fun T3 V3 hT => ?_⟩
  · by_cases hj' : j = i
    · subst hj'; rw [et, ev]; exact ⟨x2, y2⟩
    · have := h2 j (by omega); rw [← (e j (by omega)).1, ← (e j (by omega)).2]; exact this
  · rw [y1, x1, List.append_assoc, ← et, ← ev]
    exact .one (bd_congr h3 e) hi (by unfold Still; rw [et, ev]; exact fun q => hs ⟨q.1, q.2.2.1, q.2.2.2⟩)
  · obtain ⟨a1, a2⟩ := h4 T3 V3 hT
    obtain ⟨q1, q2, m, a, c, _, em, hc⟩ := mid_read hT a2 h1 hi
    obtain ⟨u1, u2⟩ := num_one a ht
    subst u2
    obtain ⟨z1, z2⟩ := num_one c hv
    subst z2
    rcases hc with ⟨_, hm⟩ | ⟨_, k, m2, w1, _, w3, _⟩
    · refine ⟨fun j hj => ?_, by rw [em]; exact hm⟩
      by_cases hj' : j = i
      · subst hj'; exact ⟨u1.trans et.symm, z1.trans ev.symm⟩
      · have := e j (by omega); exact ⟨(a1 j (by omega)).1.trans this.1, (a1 j (by omega)).2.trans this.2⟩
    · have := (still_lt w1 w3).2.2
      exact absurd ⟨this.1, u1.symm.trans this.2.2.1, z1.symm.trans this.2.2.2⟩ hs
/-- a run is read -/
theorem Mid.run {T V : Nat → Int} {n i at' k1 k2 r : Nat} {L : List Bool} (h : Mid T V n L i at' false) (hi : i < n) (h2 : 2 ≤ i) (ht : NumIs L at' 0 k1) (hv : NumIs L (at' + k1) 0 k2) (h4 : at' + k1 + k2 + 4 ≤ L.length) (hr : r = val (bt L) (at' + k1 + k2) 4 + 1) (hn : i + r ≤ n)
    {T2 V2 : Nat → Int} (e : ∀ j, j < i → T j = T2 j ∧ V j = V2 j) (ez : ∀ j, j < r → T2 (i + j) = 0 ∧ V2 (i + j) = 0) : Mid T2 V2 n L (i + r) (at' + k1 + k2 + 4) (decide (r < 16)) := by
  have hR := mid_run h hi h2 ht hv
  obtain ⟨h1, g2, h3, g4⟩ := h
  obtain ⟨x1, _, _⟩ := take_num ht
  obtain ⟨y1, _, y3⟩ := take_num hv
  rw [← hr] at hR
  have hlt : val (bt L) (at' + k1 + k2) 4 < 2 ^ 4 := val_lt (bt_lt L) _ 4
  have e16 : (2 : Nat) ^ 4 = 16 := rfl
  rw [e16] at hlt
  refine ⟨h4, fun j hj => ?_, ?_, fun T3 V3 hT => ?_⟩
  · by_cases hj' : j < i
    · have := g2 j hj'; rw [← (e j hj').1, ← (e j hj').2]; exact this
    · have := ez (j - i) (by omega)
      rw [show i + (j - i) = j by omega] at this
      rw [this.1, this.2]
      unfold inI
      omega
  · have e0 := ez 0 (by omega)
    rw [Nat.add_zero] at e0
    have hb := Bd.run (k := r) (bd_congr h3 e) (by omega) (by omega) (fun j hj => ⟨by omega, by omega, (ez j hj).1, (ez j hj).2⟩)
    have ep : L.take (at' + k1 + k2 + 4) = L.take at' ++ (cd T2 V2 i ++ low (r - 1) 4) := by
      rw [List.take_add, y1, x1, hr, Nat.add_sub_cancel, low_piece h4]
      unfold cd
      rw [e0.1, e0.2]
      simp only [List.append_assoc]
    rw [ep]
    exact hb
  · obtain ⟨_, _, _, z4, z5⟩ := hR T3 V3 hT
    obtain ⟨a1, _⟩ := g4 T3 V3 hT
    refine ⟨fun j hj => ?_, z5⟩
    by_cases hj' : j < i
    · have := e j hj'; exact ⟨(a1 j hj').1.trans this.1, (a1 j hj').2.trans this.2⟩
    · have p := z4 (j - i) (by omega)
      have q := ez (j - i) (by omega)
      rw [show i + (j - i) = j by omega] at p q
      exact ⟨p.2.2.1.trans q.1.symm, p.2.2.2.trans q.2.symm⟩
/-- all is read -/
theorem mid_end {T V : Nat → Int} {n : Nat} {L : List Bool} {b : Bool} (h : Mid T V n L n L.length b) : Told T V n L := by
  obtain ⟨_, h2, h3, _⟩ := h
  rw [List.take_length] at h3
  exact bd_told h3 h2
theorem mid_more {T V : Nat → Int} {n at' : Nat} {L : List Bool} {b : Bool} (h : Mid T V n L n at' b) (ha : at' < L.length) : Nobody n L := fun T2 V2 hT => by
  obtain ⟨_, h2⟩ := h.2.2.2 T2 V2 hT
  rcases sd_inv h2 with ⟨_, e⟩ | ⟨h1, _⟩ | ⟨_, k, _, h1, _, h3, _⟩
  · have := congrArg List.length e; rw [List.length_drop] at this; simp at this; omega
  · omega
  · have := still_lt h1 h3; omega
end Go.Proofs.YtcdlkdbnlomghaaDoor.Gl
