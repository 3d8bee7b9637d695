/-
  The answer's reading of a text, plainly: a value up to its mark, a label, labels put in their places; it reads just the texts of series.
-/
import Derived.Test.YtnjbpiekbekpeaaR
namespace Go.Proofs.Ytnjbpiekbekpeaa
open Go.ChangeShapes Go.WideShapes Go.ChangeAt Go.RowKit
/-- a value read up to its mark: the value, and what stands behind the mark -/
def valP : List UInt8 → Option (List UInt8 × List UInt8)
  | [] => none
  | b :: r =>
    if b = 34 then some ([], r)
    else if b = 92 then
      match r with
      | [] => none
      | c :: r' => if c = 34 ∨ c = 92 then (valP r').map fun p => (c :: p.1, p.2) else none
    else (valP r).map fun p => (b :: p.1, p.2)
theorem valP_nil : valP [] = none := by rw [valP.eq_def]
theorem valP_mark (r : List UInt8) : valP (34 :: r) = some ([], r) := by rw [valP.eq_def]; rfl
theorem valP_bad0 : valP [92] = none := by rw [valP.eq_def]; rfl
theorem valP_esc (c : UInt8) (r : List UInt8) : valP (92 :: c :: r) = if c = 34 ∨ c = 92 then (valP r).map fun p => (c :: p.1, p.2) else none := by
  rw [valP.eq_def]; rfl
theorem valP_plain (b : UInt8) (r : List UInt8) (h1 : ¬ b = 34) (h2 : ¬ b = 92) : valP (b :: r) = (valP r).map fun p => (b :: p.1, p.2) := by
  rw [valP.eq_def]
  simp only [h1, h2, if_false]
theorem escL_cons (b : UInt8) (l : List UInt8) : escL (b :: l) = (if markedB b then [92, b] else [b]) ++ escL l := rfl
theorem markedB_iff (b : UInt8) : markedB b = true ↔ b = 34 ∨ b = 92 := by simp [markedB]
theorem valP_to (v t : List UInt8) : valP (escL v ++ 34 :: t) = some (v, t) := by
  induction v with
  | nil => exact valP_mark t
  | cons b v ih =>
    rw [escL_cons]
    by_cases h : markedB b = true
    · rw [if_pos h]
      show valP (92 :: b :: (escL v ++ 34 :: t)) = _
      rw [valP_esc, if_pos ((markedB_iff b).1 h), ih]
      rfl
    · rw [if_neg h]
      have hn : ¬ (b = 34 ∨ b = 92) := fun e => h ((markedB_iff b).2 e)
      show valP (b :: (escL v ++ 34 :: t)) = _
      rw [valP_plain b _ (fun e => hn (.inl e)) (fun e => hn (.inr e)), ih]
      rfl
theorem valP_of : ∀ (n : Nat) (l v t : List UInt8), l.length ≤ n → valP l = some (v, t) → l = escL v ++ 34 :: t := by
  intro n
  induction n with
  | zero =>
    intro l v t hl h
    have : l = [] := List.length_eq_zero_iff.1 (by omega)
    subst this
    rw [valP_nil] at h
    cases h
  | succ n ih =>
    intro l v t hl h
    cases l with
    | nil => rw [valP_nil] at h; cases h
    | cons b r =>
      by_cases h1 : b = 34
      · subst h1
        rw [valP_mark] at h
        obtain ⟨rfl, rfl⟩ := Prod.mk.inj (Option.some.inj h)
        rfl
      · by_cases h2 : b = 92
        · subst h2
          cases r with
          | nil => rw [valP_bad0] at h; cases h
          | cons c r =>
            rw [valP_esc] at h
            split at h
            · rename_i hc
              obtain ⟨p, hp, he⟩ := Option.map_eq_some_iff.1 h
              obtain ⟨rfl, rfl⟩ := Prod.mk.inj he
              have := ih r p.1 p.2 (by simp at hl; omega) hp
              rw [escL_cons, if_pos ((markedB_iff c).2 hc), this]
              rfl
            · cases h
        · rw [valP_plain b r h1 h2] at h
          obtain ⟨p, hp, he⟩ := Option.map_eq_some_iff.1 h
          obtain ⟨rfl, rfl⟩ := Prod.mk.inj he
          have := ih r p.1 p.2 (by simp at hl; omega) hp
          have hm : ¬ markedB b = true := fun e => ((markedB_iff b).1 e).elim h1 h2
          rw [escL_cons, if_neg hm, this]
          rfl
/-- behind a value: a comma, or a brace and no more -/
def endP (n : ByteArray) (o : Option (List UInt8 × List UInt8)) : Option (Lab × List UInt8) :=
  match o with
  | some (v, c :: t) => if c = 44 then some ((n, baL v), c :: t) else if c = 125 ∧ t = [] then some ((n, baL v), []) else none
  | _ => none
def not61 (b : UInt8) : Bool := decide (b ≠ 61)
def not123 (b : UInt8) : Bool := decide (b ≠ 123)
/-- one label read -/
def lab1 (r : List UInt8) : Option (Lab × List UInt8) :=
  match r.dropWhile not61 with
  | _ :: q :: t => if q = 34 then endP (baL (r.takeWhile not61)) (valP t) else none
  | _ => none
/-- a label put into its place -/
def insP (acc : List Lab) (x : Lab) : List Lab := acc.takeWhile (fun y => ltB y.1 x.1) ++ x :: acc.dropWhile (fun y => ltB y.1 x.1)
/-- labels read, so many at most -/
def labP : Nat → List Lab → List UInt8 → Option (List Lab)
  | _, acc, [] => some acc
  | 0, _, _ :: _ => none
  | f + 1, acc, _ :: r =>
    match lab1 r with
    | some (x, l') => labP f (insP acc x) l'
    | none => none
theorem labP_nil (f : Nat) (acc : List Lab) : labP f acc [] = some acc := by cases f <;> rfl
theorem labP_zero (acc : List Lab) (b : UInt8) (r : List UInt8) : labP 0 acc (b :: r) = none := rfl
theorem labP_some {f : Nat} {acc : List Lab} {b : UInt8} {r l' : List UInt8} {x : Lab} (h : lab1 r = some (x, l')) : labP (f + 1) acc (b :: r) = labP f (insP acc x) l' := by
  show (match lab1 r with | some (x, l') => labP f (insP acc x) l' | none => none) = _
  rw [h]
theorem labP_none {f : Nat} {acc : List Lab} {b : UInt8} {r : List UInt8} (h : lab1 r = none) : labP f acc (b :: r) = none := by
  cases f with
  | zero => rfl
  | succ f =>
    show (match lab1 r with | some (x, l') => labP f (insP acc x) l' | none => none) = _
    rw [h]
theorem while_split {p : UInt8 → Bool} (n : List UInt8) (b : UInt8) (t : List UInt8) (hn : ∀ c ∈ n, p c = true) (hb : p b = false) :
    (n ++ b :: t).takeWhile p = n ∧ (n ++ b :: t).dropWhile p = b :: t := by
  rw [List.takeWhile_append_of_pos hn, List.dropWhile_append_of_pos hn, List.takeWhile_cons_of_neg (by simp [hb]), List.dropWhile_cons_of_neg (by simp [hb]), List.append_nil]
  exact ⟨rfl, rfl⟩
theorem lab1_to (x : Lab) (hx : ∀ c ∈ sg x.1, not61 c = true) (u t : List UInt8) (hu : endP x.1 (some (sg x.2, u)) = some (x, t)) : lab1 (labText x ++ u) = some (x, t) := by
  have e : labText x ++ u = sg x.1 ++ 61 :: (34 :: (escL (sg x.2) ++ 34 :: u)) := by simp [labText]
  obtain ⟨h1, h2⟩ := while_split (p := not61) (sg x.1) 61 (34 :: (escL (sg x.2) ++ 34 :: u)) hx (by decide)
  rw [e]
  unfold lab1
  rw [h1, h2]
  show (if (34 : UInt8) = 34 then endP (baL (sg x.1)) (valP (escL (sg x.2) ++ 34 :: u)) else none) = _
  rw [if_pos rfl, valP_to, baL_sg, hu]
theorem endP_comma (x : Lab) (t : List UInt8) : endP x.1 (some (sg x.2, 44 :: t)) = some (x, 44 :: t) := by
  simp [endP, baL_sg]
theorem endP_brace (x : Lab) : endP x.1 (some (sg x.2, [125])) = some (x, []) := by
  simp [endP, baL_sg]
theorem endP_of {n : ByteArray} {v u : List UInt8} {x : Lab} {l' : List UInt8} (h : endP n (some (v, u)) = some (x, l')) : x = (n, baL v) ∧ ((l' = [] ∧ u = [125]) ∨ ∃ t, l' = 44 :: t ∧ u = 44 :: t) := by
  cases u with
  | nil => cases h
  | cons c t =>
    have h' : (if c = 44 then some ((n, baL v), c :: t) else if c = 125 ∧ t = [] then some ((n, baL v), []) else none) = some (x, l') := h
    split at h'
    · rename_i hc
      subst hc
      obtain ⟨rfl, rfl⟩ := Prod.mk.inj (Option.some.inj h')
      exact ⟨rfl, .inr ⟨t, rfl, rfl⟩⟩
    · split at h'
      · rename_i hc
        obtain ⟨rfl, rfl⟩ := hc
        obtain ⟨rfl, rfl⟩ := Prod.mk.inj (Option.some.inj h')
        exact ⟨rfl, .inl ⟨rfl, rfl⟩⟩
      · cases h'
theorem dropWhile_head {p : UInt8 → Bool} : ∀ {l t : List UInt8} {b : UInt8}, l.dropWhile p = b :: t → p b = false := by
  intro l
  induction l with
  | nil => intro t b h; cases h
  | cons a l ih =>
    intro t b h
    by_cases ha : p a = true
    · rw [List.dropWhile_cons_of_pos ha] at h
      exact ih h
    · rw [List.dropWhile_cons_of_neg ha] at h
      obtain ⟨rfl, _⟩ := List.cons.inj h
      simpa using ha
theorem dropWhile_all {p : UInt8 → Bool} : ∀ {l : List UInt8}, (∀ b ∈ l, p b = true) → l.dropWhile p = [] := by
  intro l
  induction l with
  | nil => intro _; rfl
  | cons a l ih =>
    intro h
    rw [List.dropWhile_cons_of_pos (h a (List.mem_cons_self ..))]
    exact ih fun b hb => h b (List.mem_cons_of_mem _ hb)
theorem lab1_of {r l' : List UInt8} {x : Lab} (h : lab1 r = some (x, l')) : (l' = [] ∧ r = labText x ++ [125]) ∨ ∃ t, l' = 44 :: t ∧ r = labText x ++ 44 :: t := by
  unfold lab1 at h
  have hr := List.takeWhile_append_dropWhile (p := not61) (l := r)
  split at h
  · rename_i a q t hd
    split at h
    · rename_i hq
      subst hq
      have ha : a = 61 := by
        have := dropWhile_head hd
        simpa [not61] using this
      subst ha
      cases hv : valP t with
      | none => rw [hv] at h; cases h
      | some p =>
        obtain ⟨v, u⟩ := p
        rw [hv] at h
        obtain ⟨rfl, hc⟩ := endP_of h
        have ht := valP_of _ t v u (Nat.le_refl _) hv
        have e : r = labText (baL (r.takeWhile not61), baL v) ++ u := by
          conv => lhs; rw [← hr, hd, ht]
          simp [labText, sg_baL]
        rcases hc with ⟨rfl, rfl⟩ | ⟨t', rfl, rfl⟩
        · exact .inl ⟨rfl, e⟩
        · exact .inr ⟨t', rfl, e⟩
    · cases h
  · cases h
/-- the text from a label on -/
def tailT : List Lab → List UInt8
  | [] => [125]
  | x :: U => 44 :: (labText x ++ tailT U)
theorem labP_to : ∀ (U : List Lab) (x : Lab) (f : Nat) (acc : List Lab) (b : UInt8), U.length + 1 ≤ f → (∀ y ∈ x :: U, ∀ c ∈ sg y.1, not61 c = true) →
    labP f acc (b :: (labText x ++ tailT U)) = some ((x :: U).foldl insP acc) := by
  intro U
  induction U with
  | nil =>
    intro x f acc b hf hx
    obtain ⟨f, rfl⟩ : ∃ g, f = g + 1 := ⟨f - 1, by simp at hf; omega⟩
    show labP (f + 1) acc (b :: (labText x ++ [125])) = _
    rw [labP_some (lab1_to x (hx x (List.mem_cons_self ..)) [125] [] (endP_brace x)), labP_nil]
    rfl
  | cons y U ih =>
    intro x f acc b hf hx
    obtain ⟨f, rfl⟩ : ∃ g, f = g + 1 := ⟨f - 1, by simp at hf; omega⟩
    have e : tailT (y :: U) = 44 :: (labText y ++ tailT U) := rfl
    rw [e, labP_some (lab1_to x (hx x (List.mem_cons_self ..)) _ _ (endP_comma x _)), ih y f _ 44 (by simp at hf; omega) (fun z hz => hx z (List.mem_cons_of_mem _ hz))]
    rfl
theorem labP_of : ∀ (f : Nat) (acc : List Lab) (b : UInt8) (r : List UInt8) (ls : List Lab), labP f acc (b :: r) = some ls → ∃ x U, U.length + 1 ≤ f ∧ r = labText x ++ tailT U ∧ ls = (x :: U).foldl insP acc := by
  intro f
  induction f with
  | zero => intro acc b r ls h; cases h
  | succ f ih =>
    intro acc b r ls h
    cases h1 : lab1 r with
    | none => rw [labP_none h1] at h; cases h
    | some p =>
      obtain ⟨x, l'⟩ := p
      rw [labP_some h1] at h
      rcases lab1_of h1 with ⟨rfl, rfl⟩ | ⟨t, rfl, rfl⟩
      · rw [labP_nil] at h
        obtain rfl := Option.some.inj h
        exact ⟨x, [], by simp, rfl, rfl⟩
      · obtain ⟨y, U, h2, rfl, rfl⟩ := ih _ _ _ _ h
        exact ⟨x, y :: U, by simp; omega, rfl, rfl⟩
/-- a text read -/
def refP (l : List UInt8) : Option (ByteArray × List Lab) := (labP 4 [] (l.dropWhile not123)).map fun ls => (baL (l.takeWhile not123), ls)
theorem bodyAt_cons (x : Lab) (U : List Lab) : ∀ k, k ≤ U.length → bodyAt (x :: U) (k + 1) = 123 :: (labText x ++ (U.take k).flatMap fun y => 44 :: labText y) := by
  intro k
  induction k with
  | zero => intro _; simp [bodyAt]
  | succ k ih =>
    intro hk
    have e : bodyAt (x :: U) (k + 2) = bodyAt (x :: U) (k + 1) ++ [if k + 1 = 0 then 123 else 44] ++ labText ((x :: U).getD (k + 1) lab0) := rfl
    have e3 : U.take (k + 1) = U.take k ++ [U[k]'(by omega)] := by rw [List.take_add_one, List.getElem?_eq_getElem (by omega)]; rfl
    rw [e, ih (by omega), if_neg (by omega), e3, List.flatMap_append, List.flatMap_cons, List.flatMap_nil]
    have eg : (x :: U).getD (k + 1) lab0 = U[k]'(by omega) := by simp [show k < U.length by omega]
    rw [eg]
    simp
theorem tailT_eq (U : List Lab) : tailT U = (U.flatMap fun y => 44 :: labText y) ++ [125] := by
  induction U with
  | nil => rfl
  | cons x U ih => simp [tailT, ih]
theorem textL_nil (nm : ByteArray) : textL nm [] = sg nm := by simp [textL, bodyAt]
theorem textL_cons (nm : ByteArray) (x : Lab) (U : List Lab) : textL nm (x :: U) = sg nm ++ 123 :: (labText x ++ tailT U) := by
  unfold textL
  rw [if_neg (by simp), List.length_cons, bodyAt_cons x U U.length (Nat.le_refl _), tailT_eq, List.take_length]
  simp
theorem refP_to {nm : ByteArray} {U : List Lab} (hn : ∀ c ∈ sg nm, not123 c = true) (hU : U.length ≤ 4) (hx : ∀ y ∈ U, ∀ c ∈ sg y.1, not61 c = true) : refP (textL nm U) = some (nm, U.foldl insP []) := by
  unfold refP
  cases U with
  | nil =>
    have h1 : (sg nm).dropWhile not123 = [] := dropWhile_all hn
    have h2 : (sg nm).takeWhile not123 = sg nm := by
      have := List.takeWhile_append_dropWhile (p := not123) (l := sg nm)
      rw [h1, List.append_nil] at this
      exact this
    rw [textL_nil, h1, h2, labP_nil, baL_sg]
    rfl
  | cons x U =>
    rw [textL_cons]
    obtain ⟨h1, h2⟩ := while_split (p := not123) (sg nm) 123 (labText x ++ tailT U) hn (by decide)
    rw [h1, h2, labP_to U x 4 [] 123 (by simpa using hU) hx, baL_sg]
    rfl
theorem refP_of {l : List UInt8} {nm : ByteArray} {ls : List Lab} (h : refP l = some (nm, ls)) : ∃ U, U.length ≤ 4 ∧ l = textL nm U ∧ ls = U.foldl insP [] := by
  unfold refP at h
  obtain ⟨ls', h1, h2⟩ := Option.map_eq_some_iff.1 h
  obtain ⟨rfl, rfl⟩ := Prod.mk.inj h2
  have hr := List.takeWhile_append_dropWhile (p := not123) (l := l)
  cases hd : l.dropWhile not123 with
  | nil =>
    rw [hd, labP_nil] at h1
    obtain rfl := Option.some.inj h1
    refine ⟨[], by simp, ?_, rfl⟩
    rw [textL_nil, sg_baL]
    rw [hd, List.append_nil] at hr
    exact hr.symm
  | cons b r =>
    rw [hd] at h1
    have hb : b = 123 := by
      have := dropWhile_head hd
      simpa [not123] using this
    subst hb
    obtain ⟨x, U, h3, rfl, rfl⟩ := labP_of _ _ _ _ _ h1
    refine ⟨x :: U, by simpa using h3, ?_, rfl⟩
    rw [textL_cons, sg_baL, ← hd]
    exact hr.symm
end Go.Proofs.Ytnjbpiekbekpeaa
