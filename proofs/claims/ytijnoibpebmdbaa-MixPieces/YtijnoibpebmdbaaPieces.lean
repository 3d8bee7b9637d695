/-
  Plain facts: numbers of which one is another one have another sum; so have texts of one length that differ in one byte.
-/
import Derived.Test.YtijnoibpebmdbaaU
namespace Go.Proofs.Ytijnoibpebmdbaa
theorem xor_cancel_right {a b c : Nat} (h : a ^^^ c = b ^^^ c) : a = b := by
  have := congrArg (· ^^^ c) h
  simpa [Nat.xor_assoc] using this
theorem xor_cancel_left {a b c : Nat} (h : c ^^^ a = c ^^^ b) : a = b := by
  rw [Nat.xor_comm c a, Nat.xor_comm c b] at h
  exact xor_cancel_right h
theorem stepN_inj {s s' n n' : Nat} (hs : s < 18446744073709551616) (hs' : s' < 18446744073709551616) (hn : n < 18446744073709551616) (hn' : n' < 18446744073709551616)
    (h : stepN s n = stepN s' n') : s ^^^ n = s' ^^^ n' := by
  unfold stepN at h
  have h1 := mixN_inj (Nat.mod_lt _ (by decide)) (Nat.mod_lt _ (by decide)) h
  have h2 : s ^^^ n < 2 ^ 64 := Nat.xor_lt_two_pow (by omega) (by omega)
  have h3 : s' ^^^ n' < 2 ^ 64 := Nat.xor_lt_two_pow (by omega) (by omega)
  omega
theorem foldl_inj (l : List Nat) (hl : ∀ n ∈ l, n < 18446744073709551616) : ∀ a b, a < 18446744073709551616 → b < 18446744073709551616 → l.foldl stepN a = l.foldl stepN b → a = b := by
  induction l with
  | nil =>
    intro a b _ _ h
    rw [List.foldl_nil, List.foldl_nil] at h
    exact h
  | cons c l ih =>
    intro a b ha hb h
    rw [List.foldl_cons, List.foldl_cons] at h
    have hc : c < 18446744073709551616 := hl c (List.mem_cons_self)
    have h1 := ih (fun n hn => hl n (List.mem_cons_of_mem _ hn)) _ _ (stepN_lt a c) (stepN_lt b c) h
    exact xor_cancel_right (stepN_inj ha hb hc hc h1)
theorem foldN_set (s : Nat) (l : List Nat) (hl : ∀ n ∈ l, n < 18446744073709551616) (k y : Nat) (hk : k < l.length) (hy : y < 18446744073709551616) :
    foldN s (l.set k y) = foldN s l ↔ y = l[k] := by
  constructor
  · intro h
    have e : l = l.take k ++ l[k] :: l.drop (k + 1) := by
      rw [← List.drop_eq_getElem_cons hk, List.take_append_drop]
    have e' : l.set k y = l.take k ++ y :: l.drop (k + 1) := List.set_eq_take_append_cons_drop.trans (by rw [if_pos hk])
    rw [e'] at h
    have h' : foldN s (l.take k ++ y :: l.drop (k + 1)) = foldN s (l.take k ++ l[k] :: l.drop (k + 1)) := by rw [h, ← e]
    unfold foldN at h'
    rw [List.foldl_append, List.foldl_append, List.foldl_cons, List.foldl_cons] at h'
    have hlk : l[k] < 18446744073709551616 := hl _ (List.getElem_mem hk)
    have h1 := foldl_inj _ (fun n hn => hl n (List.mem_of_mem_drop hn)) _ _ (stepN_lt _ _) (stepN_lt _ _) h'
    have h2 := foldl_lt (l.take k) _ (mixN_lt s)
    exact xor_cancel_left (stepN_inj h2 h2 hy hlk h1)
  · intro h
    rw [h, List.set_getElem_self]
theorem pieceN_inj : ∀ (l l' : List UInt8), l.length = l'.length → pieceN l = pieceN l' → l = l' := by
  intro l
  induction l with
  | nil =>
    intro l' h _
    cases l' with
    | nil => rfl
    | cons => simp at h
  | cons a l ih =>
    intro l' h hp
    cases l' with
    | nil => simp at h
    | cons b l' =>
      rw [pieceN_cons, pieceN_cons] at hp
      have ha := a.toNat_lt
      have hb := b.toNat_lt
      have h1 : a.toNat = b.toNat := by omega
      have h2 : pieceN l = pieceN l' := by omega
      rw [UInt8.toNat_inj.1 h1, ih l' (by simpa using h) h2]
theorem pieceAt_other (l : List UInt8) (i j : Nat) (c : UInt8) (h : j ≠ i / 8) : pieceAt (l.set i c) j = pieceAt l j := by
  unfold pieceAt
  congr 1
  apply List.ext_getElem?
  intro t
  rw [List.getElem?_take, List.getElem?_take]
  by_cases ht : t < 8
  · rw [if_pos ht, if_pos ht, List.getElem?_drop, List.getElem?_drop, List.getElem?_set_ne (by omega)]
  · rw [if_neg ht, if_neg ht]
theorem pieceAt_same (l : List UInt8) (i : Nat) (c : UInt8) (hi : i < l.length) (h : pieceAt (l.set i c) (i / 8) = pieceAt l (i / 8)) : c = l[i] := by
  unfold pieceAt at h
  have h1 := pieceN_inj _ _ (by simp) h
  have h2 := congrArg (fun m => m[i % 8]?) h1
  simp only [List.getElem?_take, List.getElem?_drop] at h2
  rw [if_pos (Nat.mod_lt _ (by decide)), if_pos (Nat.mod_lt _ (by decide)), show 8 * (i / 8) + i % 8 = i from by omega] at h2
  simpa [hi] using h2
theorem piecesN_set (l : List UInt8) (i J : Nat) (c : UInt8) : piecesN (l.set i c) J = (piecesN l J).set (i / 8 + 1) (pieceAt (l.set i c) (i / 8)) := by
  unfold piecesN
  rw [List.set_cons_succ, List.length_set]
  congr 1
  apply List.ext_getElem?
  intro t
  rw [List.getElem?_set]
  by_cases ht : t < J
  · by_cases e : i / 8 = t
    · subst e
      simp [ht]
    · simp [ht, e, pieceAt_other l i t c (by omega)]
  · by_cases e : i / 8 = t
    · subst e
      simp [ht]
    · simp [ht, e]
theorem textN_set (x : Nat) (l : List UInt8) (i : Nat) (c : UInt8) (hi : i < l.length) (hl : l.length < 18446744073709551616) :
    textN x (l.set i c) = textN x l ↔ c = l[i] := by
  constructor
  · intro h
    unfold textN at h
    rw [List.length_set, piecesN_set] at h
    have hk : i / 8 + 1 < (piecesN l ((l.length + 7) / 8)).length := by rw [piecesN_length]; omega
    have h1 := (foldN_set x _ (piecesN_lt l _ hl) _ _ hk (pieceAt_lt _ _)).1 h
    refine pieceAt_same l i c hi (h1.trans ?_)
    simp [piecesN]
  · intro h
    rw [h, List.set_getElem_self]
end Go.Proofs.Ytijnoibpebmdbaa
