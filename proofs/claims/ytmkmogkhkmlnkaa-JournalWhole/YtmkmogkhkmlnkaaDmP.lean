/-
  The theorem of sectors, plainly.
-/
import Derived.Test.YtmkmogkhkmlnkaaDmJ
namespace Go.Proofs.Ytmkmogkhkmlnkaa.Dm
open Go.ChangeShapes Go.WideShapes Go.ChangeAt Go.RowKit
theorem sec_splice_same (L c : List UInt8) (p : Nat) (hc : c.length = 64) (hp : 64 * p + 64 ≤ L.length) : sec (splice L (64 * p) c) p = c := by
  unfold sec splice
  rw [List.drop_append_of_le_length (by simp; omega), List.drop_eq_nil_of_le (by simp; omega), List.nil_append, List.take_append_of_le_length (by omega), List.take_of_length_le (by omega)]
theorem sec_splice_ne (L c : List UInt8) (p j : Nat) (hc : c.length = 64) (hp : 64 * p + 64 ≤ L.length) (hj : j ≠ p) : sec (splice L (64 * p) c) j = sec L j := by
  unfold sec splice
  apply List.ext_getElem?
  intro i
  rw [List.getElem?_take, List.getElem?_take]
  split
  · rename_i hi
    rw [List.getElem?_drop, List.getElem?_drop]
    by_cases h : j < p
    · rw [List.getElem?_append_left (by simp; omega), List.getElem?_take, if_pos (by omega)]
    · rw [List.getElem?_append_right (by simp; omega), List.getElem?_append_right (by simp; omega), List.getElem?_drop]
      congr 1
      simp
      omega
  · rfl
/-- a sector of like bytes, of so many at least and at most -/
def Good (lo hi : Nat) (c : List UInt8) : Prop := ∃ v : UInt8, c = List.replicate 64 v ∧ lo ≤ v.toNat ∧ v.toNat ≤ hi
def Secs (lo hi : Nat) (L : List UInt8) : Prop := ∀ j, j < 3 → Good lo hi (sec L j)
theorem Good.mono {lo hi hi' : Nat} {c : List UInt8} (h : Good lo hi c) (hh : hi ≤ hi') : Good lo hi' c := by
  obtain ⟨v, h1, h2, h3⟩ := h
  exact ⟨v, h1, h2, by omega⟩
theorem Good.length {lo hi : Nat} {c : List UInt8} (h : Good lo hi c) : c.length = 64 := by
  obtain ⟨v, rfl, -⟩ := h
  simp
theorem secs_splice {lo hi p : Nat} {L c : List UInt8} (h : Secs lo hi L) (hL : L.length = 512) (hp : p < 3) (hc : Good lo hi c) : Secs lo hi (splice L (64 * p) c) := fun j hj => by
  by_cases e : j = p
  · subst e
    rw [sec_splice_same _ _ _ hc.length (by omega)]
    exact hc
  · rw [sec_splice_ne _ _ _ _ hc.length (by omega) e]
    exact h j hj
theorem keepN_secs {lo hi : Nat} {K : List UInt8} {P : List (Nat × List UInt8)} (f : Nat → Bool) (hK : Secs lo hi K) (hL : K.length = 64 * 8) (hP : ∀ x ∈ P, x.1 < 3 ∧ Good lo hi x.2) (m : Nat) (hm : m ≤ P.length) : Secs lo hi (keepN K P f m) := by
  induction m with
  | zero => exact hK
  | succ m ih =>
    have ih := ih (by omega)
    have hl := keepN_length K P f 8 hL (fun x hx => ⟨by have := (hP x hx).1; omega, (hP x hx).2.length⟩) m (by omega)
    unfold keepN
    split
    · have hx := hP (P.getD m (0, [])) (by rw [List.getD_eq_getElem?_getD, List.getElem?_eq_getElem (by omega : m < P.length)]; exact List.getElem_mem _)
      exact secs_splice ih hl hx.1 hx.2
    · exact ih
theorem keepN_app (K : List UInt8) (P : List (Nat × List UInt8)) (x : Nat × List UInt8) (f : Nat → Bool) (m : Nat) (hm : m ≤ P.length) : keepN K (P ++ [x]) f m = keepN K P f m := by
  induction m with
  | zero => rfl
  | succ m ih =>
    have ih := ih (by omega)
    have e : (P ++ [x]).getD m (0, []) = P.getD m (0, []) := by rw [List.getD_eq_getElem?_getD, List.getD_eq_getElem?_getD, List.getElem?_append_left (by omega)]
    unfold keepN
    rw [ih, e]
theorem keepN_snoc (K : List UInt8) (P : List (Nat × List UInt8)) (x : Nat × List UInt8) : keepN K (P ++ [x]) (fun _ => true) (P ++ [x]).length = splice (keepN K P (fun _ => true) P.length) (64 * x.1) x.2 := by
  rw [List.length_append]
  show (if true then splice (keepN K (P ++ [x]) (fun _ => true) P.length) (64 * ((P ++ [x]).getD P.length (0, [])).1) ((P ++ [x]).getD P.length (0, [])).2 else _) = _
  rw [keepN_app _ _ _ _ _ (Nat.le_refl _), if_pos rfl]
  have e : (P ++ [x]).getD P.length (0, []) = x := by simp
  rw [e]
/-- one write, of a drum that is not armed and has power -/
theorem wOne_calm (D : Dm) (p : Nat) (c : List UInt8) (ha : D.armed = false) (hg : D.gone = false) : wOneD D p c = { D with seen := splice D.seen (64 * p) c, pend := D.pend ++ [(p, c)] } := by
  simp [wOneD, spendD, ha, hg]
theorem wOne_kept (D : Dm) (p : Nat) (c : List UInt8) : (wOneD D p c).kept = D.kept := by
  unfold wOneD spendD
  split <;> split <;> (try split) <;> rfl
theorem wOne_mem (D : Dm) (p : Nat) (c : List UInt8) : ∀ x ∈ (wOneD D p c).pend, x ∈ D.pend ∨ x = (p, c) := by
  intro x hx
  unfold wOneD at hx
  split at hx
  · rw [spendD_pend] at hx
    exact .inl hx
  · simp [spendD_pend] at hx
    exact hx
/-- not synced yet -/
structure P1 (t : Nat) (D : Dm) : Prop where
  armed : D.armed = false
  gone : D.gone = false
  len : D.pend.length ≤ 3 * t
  pend : ∀ x ∈ D.pend, x.1 < 3 ∧ Good 0 t x.2
  kept : Secs 0 t D.kept
  all : keepN D.kept D.pend (fun _ => true) D.pend.length = D.seen
  seen : ∀ j, j < 3 → sec D.seen j = List.replicate 64 (UInt8.ofNat t)
/-- synced at k -/
structure P2 (k t : Nat) (D : Dm) : Prop where
  len : D.pend.length ≤ 3 * t
  pend : ∀ x ∈ D.pend, x.1 < 3 ∧ Good k t x.2
  kept : Secs k t D.kept
theorem zero_sec : ∀ j, j < 3 → sec (List.replicate (64 * 8) 0) j = List.replicate 64 (UInt8.ofNat 0) := by
  intro j hj
  unfold sec
  rw [List.drop_replicate, List.take_replicate]
  congr 1
  omega
theorem P1.zero : P1 0 (zeroD 8) := ⟨rfl, rfl, Nat.le_refl _, (fun x hx => by cases hx), fun j hj => ⟨0, zero_sec j hj, Nat.le_refl _, Nat.le_refl _⟩, rfl, zero_sec⟩
theorem sec_page (v : UInt8) (j : Nat) (hj : j < 3) : sec (List.replicate 192 v) j = List.replicate 64 v := by
  unfold sec
  rw [List.drop_replicate, List.take_replicate]
  congr 1
  omega
theorem nat_u8 {t : Nat} (ht : t ≤ 12) : (UInt8.ofNat t).toNat = t := by simp; omega
theorem P1.write {t : Nat} {D : Dm} (h : P1 t D) (hL : D.seen.length = 64 * 8) (ht : t < 12) : P1 (t + 1) (writesN D 0 (List.replicate 192 (UInt8.ofNat (t + 1))) 3) := by
  have hg : Good 0 (t + 1) (List.replicate 64 (UInt8.ofNat (t + 1))) := ⟨_, rfl, by omega, by rw [nat_u8 (by omega)]; exact Nat.le_refl _⟩
  have hlen : (List.replicate 64 (UInt8.ofNat (t + 1))).length = 64 := by simp
  have e : writesN D 0 (List.replicate 192 (UInt8.ofNat (t + 1))) 3 = { D with seen := splice (splice (splice D.seen (64 * 0) (List.replicate 64 (UInt8.ofNat (t + 1)))) (64 * 1) (List.replicate 64 (UInt8.ofNat (t + 1)))) (64 * 2) (List.replicate 64 (UInt8.ofNat (t + 1))), pend := ((D.pend ++ [(0, List.replicate 64 (UInt8.ofNat (t + 1)))]) ++ [(1, List.replicate 64 (UInt8.ofNat (t + 1)))]) ++ [(2, List.replicate 64 (UInt8.ofNat (t + 1)))] } := by
    have ha := h.armed
    have hgo := h.gone
    clear h hL
    obtain ⟨S, K, P, A, Lf, G⟩ := D
    obtain rfl : A = false := ha
    obtain rfl : G = false := hgo
    unfold writesN writesN writesN writesN
    rw [sec_page _ 0 (by omega), sec_page _ 1 (by omega), sec_page _ 2 (by omega)]
    rfl
  rw [e]
  have hcc : Hid (∀ j, j < 3 → ∀ c, c = List.replicate 64 (UInt8.ofNat (t + 1)) → c = List.replicate 64 (UInt8.ofNat (t + 1))) := fun _ _ _ h => h
  generalize hq : List.replicate 64 (UInt8.ofNat (t + 1)) = c at *
  clear hcc e
  have l1 : (splice D.seen (64 * 0) c).length = 64 * 8 := by rw [length_splice _ _ _ (by omega)]; exact hL
  have l2 : (splice (splice D.seen (64 * 0) c) (64 * 1) c).length = 64 * 8 := by rw [length_splice _ _ _ (by omega)]; exact l1
  refine ⟨h.armed, h.gone, ?_, ?_, fun j hj => (h.kept j hj).mono (by omega), ?_, ?_⟩
  · have := h.len
    simp
    omega
  · intro x hx
    simp at hx
    rcases hx with hx | rfl | rfl | rfl
    · exact ⟨(h.pend x hx).1, (h.pend x hx).2.mono (by omega)⟩
    · exact ⟨(by decide : 0 < 3), hg⟩
    · exact ⟨(by decide : 1 < 3), hg⟩
    · exact ⟨(by decide : 2 < 3), hg⟩
  · show keepN D.kept (((D.pend ++ [(0, c)]) ++ [(1, c)]) ++ [(2, c)]) _ _ = _
    rw [keepN_snoc, keepN_snoc, keepN_snoc, h.all]
  · intro j hj
    have : j = 0 ∨ j = 1 ∨ j = 2 := by omega
    rcases this with rfl | rfl | rfl
    · rw [sec_splice_ne _ _ _ _ hlen (by omega) (by decide), sec_splice_ne _ _ _ _ hlen (by omega) (by decide), sec_splice_same _ _ _ hlen (by omega)]; exact hq.symm
    · rw [sec_splice_ne _ _ _ _ hlen (by omega) (by decide), sec_splice_same _ _ _ hlen (by omega)]; exact hq.symm
    · rw [sec_splice_same _ _ _ hlen (by omega)]; exact hq.symm
theorem P2.write {k t : Nat} {D : Dm} (h : P2 k t D) (hk : k ≤ t + 1) (ht : t < 12) : P2 k (t + 1) (writesN D 0 (List.replicate 192 (UInt8.ofNat (t + 1))) 3) := by
  have hg : Good k (t + 1) (List.replicate 64 (UInt8.ofNat (t + 1))) := ⟨_, rfl, by rw [nat_u8 (by omega)]; omega, by rw [nat_u8 (by omega)]; exact Nat.le_refl _⟩
  have hl := writesN_pend D 0 (List.replicate 192 (UInt8.ofNat (t + 1))) 3
  refine ⟨by have := h.len; omega, ?_, ?_⟩
  · have base : ∀ x ∈ D.pend, x.1 < 3 ∧ Good k (t + 1) x.2 := fun x hx => ⟨(h.pend x hx).1, (h.pend x hx).2.mono (by omega)⟩
    have step : ∀ i, i ≤ 3 → ∀ x ∈ (writesN D 0 (List.replicate 192 (UInt8.ofNat (t + 1))) i).pend, x.1 < 3 ∧ Good k (t + 1) x.2 := by
      intro i
      induction i with
      | zero => intro _; exact base
      | succ i ih =>
        intro hi x hx
        rcases wOne_mem _ _ _ x hx with hx | rfl
        · exact ih (by omega) x hx
        · rw [sec_page _ _ (by omega)]
          exact ⟨by simp; omega, hg⟩
    exact step 3 (Nat.le_refl _)
  · unfold writesN writesN writesN writesN
    rw [wOne_kept, wOne_kept, wOne_kept]
    exact fun j hj => (h.kept j hj).mono (by omega)
theorem P1.synced {k : Nat} {D : Dm} (h : P1 k D) (hk : k ≤ 12) (x : Int) : P2 k k (armD (syncD D) x) := by
  have e : syncD D = keepD D fun _ => true := by simp [syncD, h.gone]
  have hs : P2 k k (keepD D fun _ => true) := by
    refine ⟨by simp [keepD], by simp [keepD], fun j hj => ?_⟩
    show Good k k (sec (keepN D.kept D.pend (fun _ => true) D.pend.length) j)
    rw [h.all, h.seen j hj]
    exact ⟨_, rfl, by rw [nat_u8 hk]; exact Nat.le_refl _, by rw [nat_u8 hk]; exact Nat.le_refl _⟩
  rw [e]
  unfold armD
  split
  · exact hs
  · exact ⟨hs.len, hs.pend, hs.kept⟩
theorem P1.two {t : Nat} {D : Dm} (h : P1 t D) : P2 0 t D := ⟨h.len, h.pend, h.kept⟩
/-- behind the writes so far -/
def Inv (k t : Nat) (D : Dm) : Prop := ((k = 0 ∨ t < k) ∧ P1 t D) ∨ (k ≤ t ∧ P2 k t D)
theorem Inv.len {k t : Nat} {D : Dm} (h : Inv k t D) : D.pend.length ≤ 3 * t := by
  rcases h with ⟨-, h⟩ | ⟨-, h⟩
  · exact h.len
  · exact h.len
theorem Inv.write {k t : Nat} {D : Dm} (h : Inv k t D) (hL : D.seen.length = 64 * 8) (ht : t < 12) : (t + 1 = k → P1 (t + 1) (writesN D 0 (List.replicate 192 (UInt8.ofNat (t + 1))) 3)) ∧ (t + 1 ≠ k → Inv k (t + 1) (writesN D 0 (List.replicate 192 (UInt8.ofNat (t + 1))) 3)) := by
  rcases h with ⟨h1, h⟩ | ⟨h1, h⟩
  · refine ⟨fun _ => h.write hL ht, fun hne => .inl ⟨by omega, h.write hL ht⟩⟩
  · exact ⟨fun e => by omega, fun _ => .inr ⟨by omega, h.write (by omega) ht⟩⟩
theorem Inv.two {k t : Nat} {D : Dm} (h : Inv k t D) (hk : k ≤ t) : P2 k t D := by
  rcases h with ⟨rfl | h1, h⟩ | ⟨-, h⟩
  · exact h.two
  · omega
  · exact h
theorem P2.crashed {k t : Nat} {D : Dm} (h : P2 k t D) (hL : D.kept.length = 64 * 8) (f : Nat → Bool) : Secs k t (crashD D f).seen := keepN_secs f h.kept hL h.pend _ (Nat.le_refl _)
/-- what is read of three sectors -/
theorem read_three {k t : Nat} {L : List UInt8} (h : Secs k t L) (i : Nat) (hi : i < 192) : ∃ v : UInt8, ((L.drop (64 * 0)).take (64 * 3))[i]? = some v ∧ ((L.drop (64 * 0)).take (64 * 3))[i / 64 * 64]? = some v ∧ k ≤ v.toNat ∧ v.toNat ≤ t := by
  obtain ⟨v, hv, h1, h2⟩ := h (i / 64) (by omega)
  have key : ∀ m, m < 64 → ((L.drop (64 * 0)).take (64 * 3))[64 * (i / 64) + m]? = some v := fun m hm => by
    have e : (sec L (i / 64))[m]? = some v := by rw [hv, List.getElem?_replicate, if_pos hm]
    unfold sec at e
    rw [List.getElem?_take, if_pos hm, List.getElem?_drop] at e
    rw [List.getElem?_take, if_pos (by omega), List.getElem?_drop]
    simpa using e
  refine ⟨v, ?_, ?_, h1, h2⟩
  · have := key (i % 64) (by omega)
    rwa [show 64 * (i / 64) + i % 64 = i by omega] at this
  · have := key 0 (by omega)
    rwa [show 64 * (i / 64) + 0 = i / 64 * 64 by omega] at this
end Go.Proofs.Ytmkmogkhkmlnkaa.Dm
