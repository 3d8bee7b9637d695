/-
  Whole or not at all, plainly: what a drum keeps of a journal.
  Whole or not at all, plainly: what Append, Sync, Anew, a crash and Open leave.
  Whole or not at all, plainly: a journal that lives, and one that is opened.
  A new drum's journal; drums that are not armed.
-/
import Derived.Test.YtmkmogkhkmlnkaaJnP
import Derived.Test.YtmkmogkhkmlnkaaDmP
namespace Go.Proofs.Ytmkmogkhkmlnkaa.Dm
open Go.ChangeShapes Go.WideShapes Go.ChangeAt Go.RowKit
theorem splice_get (A c : List UInt8) (o i : Nat) (h : o + c.length ≤ A.length) : (splice A o c)[i]? = if o ≤ i ∧ i < o + c.length then c[i - o]? else A[i]? := by
  unfold splice
  have ho : (A.take o).length = o := by rw [List.length_take]; omega
  by_cases h1 : i < o
  · rw [if_neg (by omega), List.getElem?_append_left (by omega), List.getElem?_take, if_pos h1]
  · rw [List.getElem?_append_right (by omega), ho]
    by_cases h2 : i < o + c.length
    · rw [if_pos (by omega), List.getElem?_append_left (by omega)]
    · rw [if_neg (by omega), List.getElem?_append_right (by omega), List.getElem?_drop]
      congr 1
      omega
/-- a half's row begins with these bytes -/
def RowHas (n : Nat) (K : List UInt8) (b : Bool) (F : List UInt8) : Prop := ∀ j, j < F.length → K[64 * (hN n b + 1) + j]? = F[j]?
theorem RowHas.take {n : Nat} {K : List UInt8} {b : Bool} {F : List UInt8} (h : RowHas n K b F) (hl : F.length ≤ roomN n) : (rowOf n K b).take F.length = F := by
  apply List.ext_getElem?
  intro j
  rw [List.getElem?_take]
  by_cases hj : j < F.length
  · rw [if_pos hj]
    unfold rowOf
    rw [List.getElem?_take, if_pos (by unfold roomN at hl; omega), List.getElem?_drop]
    exact h j hj
  · rw [if_neg hj, List.getElem?_eq_none (by omega)]
/-- the image of a drum on which a journal stands: the half in use, its age, its records -/
structure Img (n : Nat) (K : List UInt8) (b : Bool) (g : Nat) (R : List Fr.Dat) : Prop where
  g1 : 1 ≤ g
  g2 : (g : Int) ≤ 2147483647
  ok : ∀ d ∈ R, OkA g d
  le : (flatA g R).length ≤ roomN n
  head : sec K (hN n b) = headL g (flatA g R).length
  row : RowHas n K b (flatA g R)
  old : ∀ g' e', HdR n (sec K (hN n (!b))) g' e' → g' < g
/-- a write of a sector that does no harm -/
structure Calm1 (n : Nat) (b : Bool) (F : List UInt8) (x : Nat × List UInt8) : Prop where
  lt : x.1 < n
  len : x.2.length = 64
  nh : ∀ c, x.1 ≠ hN n c
  same : ∀ i m, x.1 = hN n b + 1 + i → m < 64 → 64 * i + m < F.length → x.2[m]? = F[64 * i + m]?
theorem Img.splice {n : Nat} {K : List UInt8} {b : Bool} {g : Nat} {R : List Fr.Dat} (h : Img n K b g R) (hK : K.length = 64 * n) {x : Nat × List UInt8} (hx : Calm1 n b (flatA g R) x) : Img n (Go.splice K (64 * x.1) x.2) b g R := by
  have hx1 := hx.lt
  have hx2 := hx.len
  refine ⟨h.g1, h.g2, h.ok, h.le, ?_, fun j hj => ?_, ?_⟩
  · rw [sec_splice_ne _ _ _ _ hx.len (by omega) (Ne.symm (hx.nh b))]
    exact h.head
  · rw [splice_get _ _ _ _ (by omega), hx2]
    by_cases hc : 64 * x.1 ≤ 64 * (hN n b + 1) + j ∧ 64 * (hN n b + 1) + j < 64 * x.1 + 64
    · rw [if_pos hc]
      have hp : x.1 = hN n b + 1 + j / 64 := by omega
      have hs := hx.same (j / 64) (j % 64) hp (Nat.mod_lt _ (by decide)) (by omega)
      rw [show 64 * (hN n b + 1) + j - 64 * x.1 = j % 64 by omega, hs, show 64 * (j / 64) + j % 64 = j by omega]
    · rw [if_neg hc]
      exact h.row j hj
  · rw [sec_splice_ne _ _ _ _ hx.len (by omega) (Ne.symm (hx.nh (!b)))]
    exact h.old
/-- whatever of the writes is kept, the same journal stands -/
structure Quiet (n : Nat) (D : Dm) (b : Bool) (g : Nat) (R : List Fr.Dat) : Prop where
  len : D.kept.length = 64 * n
  img : Img n D.kept b g R
  pend : ∀ x ∈ D.pend, Calm1 n b (flatA g R) x
theorem Quiet.keep {n : Nat} {D : Dm} {b : Bool} {g : Nat} {R : List Fr.Dat} (h : Quiet n D b g R) (f : Nat → Bool) : ∀ i, i ≤ D.pend.length → Img n (keepN D.kept D.pend f i) b g R ∧ (keepN D.kept D.pend f i).length = 64 * n := by
  intro i
  induction i with
  | zero => intro _; exact ⟨h.img, h.len⟩
  | succ i ih =>
    intro hi
    obtain ⟨h1, h2⟩ := ih (by omega)
    unfold keepN
    split
    · have hx := h.pend (D.pend.getD i (0, [])) (by rw [List.getD_eq_getElem?_getD, List.getElem?_eq_getElem (by omega : i < D.pend.length)]; exact List.getElem_mem _)
      have hx1 := hx.lt
      have hx2 := hx.len
      refine ⟨h1.splice h2 hx, ?_⟩
      rw [length_splice _ _ _ (by omega)]
      exact h2
    · exact ⟨h1, h2⟩
theorem Quiet.of {n : Nat} {D D' : Dm} {b : Bool} {g : Nat} {R : List Fr.Dat} (h : Quiet n D b g R) (hk : D'.kept = D.kept) (hp : ∀ x ∈ D'.pend, x ∈ D.pend ∨ Calm1 n b (flatA g R) x) : Quiet n D' b g R := ⟨by rw [hk]; exact h.len, by rw [hk]; exact h.img, fun x hx => by
  rcases hp x hx with hx | hx
  · exact h.pend x hx
  · exact hx⟩
/-- all that was written is seen, and counts -/
def On (D : Dm) : Prop := D.gone = false ∧ keepN D.kept D.pend (fun _ => true) D.pend.length = D.seen
theorem spend_gone {D : Dm} (h : (spendD D).gone = false) : D.gone = false := by
  unfold spendD at h
  split at h
  · split at h
    · exact absurd h (by simp)
    · exact h
  · exact h
theorem spend_kept (D : Dm) : (spendD D).kept = D.kept ∧ (spendD D).seen = D.seen := by
  unfold spendD
  split
  · split <;> exact ⟨rfl, rfl⟩
  · exact ⟨rfl, rfl⟩
theorem wOne_on {D : Dm} {p : Nat} {c : List UInt8} (h : (wOneD D p c).gone = false) : D.gone = false ∧ (wOneD D p c).pend = D.pend ++ [(p, c)] ∧ (wOneD D p c).seen = Go.splice D.seen (64 * p) c := by
  unfold wOneD at h ⊢
  split at h
  · rename_i hg
    exact absurd h (by rw [hg]; simp)
  · rename_i hg
    rw [if_neg hg]
    refine ⟨?_, ?_, (spend_kept _).2⟩
    · have := spend_gone (D := { D with seen := Go.splice D.seen (64 * p) c }) (by simpa using hg)
      exact this
    · show (spendD _).pend ++ _ = _
      rw [spendD_pend]
theorem wOne_off {D : Dm} {p : Nat} {c : List UInt8} (h : (wOneD D p c).gone = true) : (wOneD D p c).pend = D.pend := by
  unfold wOneD at h ⊢
  split at h
  · rename_i hg
    rw [if_pos hg, spendD_pend]
  · rename_i hg
    exact absurd h hg
theorem wOne_gone {D : Dm} {p : Nat} {c : List UInt8} (h : D.gone = true) : (wOneD D p c).gone = true := by
  cases hq : (wOneD D p c).gone
  · rw [(wOne_on hq).1] at h
    cases h
  · rfl
theorem On.wOne {D : Dm} {p : Nat} {c : List UInt8} (h : D.gone = false → On D) (hq : (wOneD D p c).gone = false) : On (wOneD D p c) := by
  obtain ⟨h1, h2, h3⟩ := wOne_on hq
  refine ⟨hq, ?_⟩
  rw [wOne_kept, h2, h3, keepN_snoc, (h h1).2]
/-- many sectors are written -/
theorem writes_kept (D : Dm) (p : Nat) (l : List UInt8) (i : Nat) : (writesN D p l i).kept = D.kept := by
  induction i with
  | zero => rfl
  | succ i ih => exact (wOne_kept _ _ _).trans ih
theorem writes_mem (D : Dm) (p : Nat) (l : List UInt8) (i : Nat) : ∀ x ∈ (writesN D p l i).pend, x ∈ D.pend ∨ ∃ k, k < i ∧ x = (p + k, sec l k) := by
  induction i with
  | zero => exact fun x hx => .inl hx
  | succ i ih =>
    intro x hx
    rcases wOne_mem _ _ _ x hx with hx | rfl
    · rcases ih x hx with hx | ⟨k, hk, e⟩
      · exact .inl hx
      · exact .inr ⟨k, by omega, e⟩
    · exact .inr ⟨i, by omega, rfl⟩
theorem writes_on {D : Dm} {p : Nat} {l : List UInt8} {i : Nat} (h : (writesN D p l i).gone = false) : D.gone = false := by
  induction i with
  | zero => exact h
  | succ i ih => exact ih (wOne_on h).1
theorem On.writes {D : Dm} {p : Nat} {l : List UInt8} (h : D.gone = false → On D) {i : Nat} (hq : (writesN D p l i).gone = false) : On (writesN D p l i) := by
  induction i with
  | zero => exact h hq
  | succ i ih => exact On.wOne ih hq
theorem writes_seen {D : Dm} {p : Nat} {l : List UInt8} {m n : Nat} (hl : l.length = 64 * m) (hD : D.seen.length = 64 * n) (hp : p + m ≤ n) : ∀ i, i ≤ m → (writesN D p l i).gone = false → (writesN D p l i).seen.length = 64 * n ∧ ∀ x, (writesN D p l i).seen[x]? = if 64 * p ≤ x ∧ x < 64 * p + 64 * i then l[x - 64 * p]? else D.seen[x]? := by
  intro i
  induction i with
  | zero =>
    intro _ _
    refine ⟨hD, fun x => ?_⟩
    rw [if_neg (by omega)]
    rfl
  | succ i ih =>
    intro hi hg
    obtain ⟨h1, h2, h3⟩ := wOne_on hg
    obtain ⟨i1, i2⟩ := ih (by omega) h1
    have hs := sec_length l i (by omega)
    have e : (writesN D p l (i + 1)).seen = Go.splice (writesN D p l i).seen (64 * (p + i)) (sec l i) := h3
    rw [e]
    refine ⟨by rw [length_splice _ _ _ (by omega)]; exact i1, fun x => ?_⟩
    rw [splice_get _ _ _ _ (by omega), hs, i2 x]
    by_cases c1 : 64 * (p + i) ≤ x ∧ x < 64 * (p + i) + 64
    · rw [if_pos c1, if_pos (by omega)]
      unfold sec
      rw [List.getElem?_take, if_pos (by omega), List.getElem?_drop]
      congr 1
      omega
    · rw [if_neg c1]
      by_cases c2 : 64 * p ≤ x ∧ x < 64 * p + 64 * i
      · rw [if_pos c2, if_pos (by omega)]
      · rw [if_neg c2, if_neg (by omega)]
end Go.Proofs.Ytmkmogkhkmlnkaa.Dm
namespace Go.Proofs.Ytmkmogkhkmlnkaa.Dm
open Go.ChangeShapes Go.WideShapes Go.ChangeAt Go.RowKit
theorem hN_ne {n : Nat} (h8 : 8 ≤ n) (b : Bool) : hN n b ≠ hN n (!b) := by
  unfold hN
  cases b <;> simp <;> omega
theorem fill_get (l : List UInt8) (i : Nat) (h : i < l.length) : (fillL l)[i]? = l[i]? := by
  unfold fillL
  rw [List.getElem?_append_left h]
theorem sec_get (l : List UInt8) (i m : Nat) (hm : m < 64) : (sec l i)[m]? = l[64 * i + m]? := by
  unfold sec
  rw [List.getElem?_take, if_pos hm, List.getElem?_drop]
/-- the sectors of a row do no harm -/
theorem row_calm {n : Nat} (h8 : 8 ≤ n) {b : Bool} {F : List UInt8} {J : Jr} (hl : J.fr.length ≤ roomN n) {q i : Nat} (hq : q * 64 ≤ J.fr.length) (hi : i < secs (J.fr.length - q * 64)) (hFl : F.length ≤ roomN n) (hF : J.second = b → F.length ≤ J.fr.length ∧ ∀ j, j < F.length → J.fr[j]? = F[j]?) : Calm1 n b F (hN n J.second + 1 + q + i, sec (fillL (J.fr.drop (q * 64))) i) := by
  have hs : q + i < n / 2 - 1 := by
    unfold secs at hi
    unfold roomN at hl
    omega
  have hh : ∀ c, hN n c = 0 ∨ hN n c = n / 2 := fun c => by unfold hN; cases c <;> simp
  have hJ : hN n J.second = 0 ∨ hN n J.second = n / 2 := hh _
  refine ⟨?_, ?_, fun c => ?_, fun i' m hp hm hlt => ?_⟩
  · show hN n J.second + 1 + q + i < n
    omega
  · refine sec_length _ _ ?_
    rw [fillL_length, List.length_drop]
    omega
  · show hN n J.second + 1 + q + i ≠ hN n c
    rcases hh c with e | e <;> rcases hJ with e' | e' <;> rw [e, e'] <;> omega
  · have hp' : hN n J.second + 1 + q + i = hN n b + 1 + i' := hp
    by_cases hb : J.second = b
    · obtain ⟨h1, h2⟩ := hF hb
      have hi' : i' = q + i := by rw [hb] at hp'; omega
      show (sec (fillL (J.fr.drop (q * 64))) i)[m]? = _
      rw [sec_get _ _ _ hm, fill_get _ _ (by rw [List.length_drop]; omega), List.getElem?_drop, ← h2 _ hlt]
      congr 1
      omega
    · exfalso
      have hne : J.second = !b := by cases hj : J.second <;> cases b <;> simp_all
      rw [hne] at hp'
      have h2 := hN_ne h8 b
      rcases hh b with e | e
      · rcases hh (!b) with e' | e'
        · exact h2 (by rw [e, e'])
        · rw [e, e'] at hp'
          unfold roomN at hFl
          omega
      · rcases hh (!b) with e' | e'
        · rw [e, e'] at hp'
          omega
        · exact h2 (by rw [e, e'])
theorem row_quiet {n : Nat} (h8 : 8 ≤ n) {D : Dm} {b : Bool} {g : Nat} {R : List Fr.Dat} (h : Quiet n D b g R) {J : Jr} (hl : J.fr.length ≤ roomN n) {p : Nat} (hp : p ≤ J.fr.length) (hF : J.second = b → (flatA g R).length ≤ J.fr.length ∧ ∀ j, j < (flatA g R).length → J.fr[j]? = (flatA g R)[j]?) : Quiet n (rowW n D J p) b g R := by
  refine h.of (writes_kept _ _ _ _) fun x hx => ?_
  rcases writes_mem _ _ _ _ x hx with hx | ⟨k, hk, rfl⟩
  · exact .inl hx
  · exact .inr (row_calm h8 hl (by omega) hk h.img.le hF)
theorem row_on {n : Nat} {D : Dm} (h : D.gone = false → On D) {J : Jr} {p : Nat} (hq : (rowW n D J p).gone = false) : On (rowW n D J p) := On.writes h hq
/-- the row is seen -/
theorem row_has {n : Nat} (h8 : 8 ≤ n) {D : Dm} (hD : D.seen.length = 64 * n) {J : Jr} (hl : J.fr.length ≤ roomN n) {p : Nat} (hp : p ≤ J.fr.length) (hpre : D.gone = false → RowHas n D.seen J.second (J.fr.take (p / 64 * 64))) (hq : (rowW n D J p).gone = false) : (rowW n D J p).seen.length = 64 * n ∧ RowHas n (rowW n D J p).seen J.second J.fr ∧ ∀ c, sec (rowW n D J p).seen (hN n c) = sec D.seen (hN n c) := by
  have hh : ∀ c, hN n c = 0 ∨ hN n c = n / 2 := fun c => by unfold hN; cases c <;> simp
  have hJ := hh J.second
  have hm : hN n J.second + 1 + p / 64 + secs (J.fr.length - p / 64 * 64) ≤ n := rowW_fit (by omega) J.second hl (by omega) rfl
  have hs : p / 64 + secs (J.fr.length - p / 64 * 64) ≤ n / 2 - 1 := by
    unfold secs
    unfold roomN at hl
    omega
  have hfl : (fillL (J.fr.drop (p / 64 * 64))).length = 64 * secs (J.fr.length - p / 64 * 64) := by rw [fillL_length, List.length_drop]
  obtain ⟨h1, h2⟩ := writes_seen (D := D) (p := hN n J.second + 1 + p / 64) hfl hD hm _ (Nat.le_refl _) hq
  have hg := writes_on hq
  refine ⟨h1, fun j hj => ?_, fun c => ?_⟩
  · show (rowW n D J p).seen[_]? = _
    have e : (rowW n D J p).seen[64 * (hN n J.second + 1) + j]? = _ := h2 _
    rw [e]
    by_cases hc : p / 64 * 64 ≤ j
    · have hle : j < p / 64 * 64 + 64 * secs (J.fr.length - p / 64 * 64) := by unfold secs; omega
      rw [if_pos (by omega), fill_get _ _ (by rw [List.length_drop]; omega), List.getElem?_drop]
      congr 1
      omega
    · rw [if_neg (by omega)]
      have := hpre hg j (by rw [List.length_take]; omega)
      rw [this, List.getElem?_take, if_pos (by omega)]
  · apply List.ext_getElem?
    intro m
    by_cases hm64 : m < 64
    · rw [sec_get _ _ _ hm64, sec_get _ _ _ hm64]
      have e : (rowW n D J p).seen[64 * hN n c + m]? = _ := h2 _
      rw [e, if_neg]
      rcases hh c with e1 | e1 <;> rcases hJ with e2 | e2 <;> rw [e1, e2] <;> omega
    · unfold sec
      rw [List.getElem?_take, if_neg hm64, List.getElem?_take, if_neg hm64]
theorem sync_g (D : Dm) : (syncD D).gone = D.gone := by
  unfold syncD keepD
  split <;> rfl
theorem sync_gone {D : Dm} (h : D.gone = true) : syncD D = D := by simp [syncD, h]
theorem sync_on {D : Dm} (h : On D) : syncD D = { D with kept := D.seen, pend := [] } := by
  unfold syncD keepD
  rw [h.1, h.2]
  rfl
theorem sec_zero (l : List UInt8) (h : l.length = 64) : sec l 0 = l := by
  unfold sec
  rw [Nat.mul_zero, List.drop_zero, List.take_of_length_le (by omega)]
/-- where the power goes in Sync -/
theorem syncJ_off {n : Nat} {D : Dm} {b : Bool} {g : Nat} {R : List Fr.Dat} (h : Quiet n D b g R) (hon : D.gone = false → On D) {J : Jr} (hq : (syncJ n D J).gone = true) : Quiet n (syncJ n D J) b g R := by
  have h1 : Quiet n (syncD D) b g R := by
    cases hg : D.gone
    · rw [sync_on (hon hg)]
      refine ⟨?_, ?_, fun x hx => by cases hx⟩
      · have := (h.keep (fun _ => true) _ (Nat.le_refl _)).2
        rw [(hon hg).2] at this
        exact this
      · have := (h.keep (fun _ => true) _ (Nat.le_refl _)).1
        rw [(hon hg).2] at this
        exact this
    · rw [sync_gone hg]
      exact h
  have hg2 : (writesN (syncD D) (hN n J.second) (headL J.age J.fr.length) 1).gone = true := by
    cases hg : (writesN (syncD D) (hN n J.second) (headL J.age J.fr.length) 1).gone
    · have : (syncJ n D J).gone = false := (sync_g _).trans hg
      rw [this] at hq
      cases hq
    · rfl
  have e : syncJ n D J = writesN (syncD D) (hN n J.second) (headL J.age J.fr.length) 1 := sync_gone hg2
  rw [e]
  refine h1.of (writes_kept _ _ _ _) fun x hx => .inl ?_
  have := wOne_off (D := syncD D) hg2
  have hx' : x ∈ (wOneD (syncD D) (hN n J.second + 0) (sec (headL J.age J.fr.length) 0)).pend := hx
  rw [this] at hx'
  exact hx'
/-- where it does not -/
structure Synced (n : Nat) (D : Dm) (J : Jr) (R : List Fr.Dat) : Prop where
  on : On D
  pend : D.pend = []
  q : Quiet n D J.second J.age R
  row : RowHas n D.seen J.second J.fr
  fr : J.fr = flatA J.age R
theorem syncJ_on {n : Nat} (h8 : 8 ≤ n) {D : Dm} (hD : D.seen.length = 64 * n) (hon : D.gone = false → On D) {J : Jr} {R : List Fr.Dat} (hfr : J.fr = flatA J.age R) (hok : ∀ d ∈ R, OkA J.age d) (hl : J.fr.length ≤ roomN n) (hn : n ≤ 8192) (g1 : 1 ≤ J.age) (g2 : (J.age : Int) ≤ 2147483647) (hrow : D.gone = false → RowHas n D.seen J.second J.fr) (hold : D.gone = false → ∀ g' e', HdR n (sec D.seen (hN n (!J.second))) g' e' → g' < J.age) (hq : (syncJ n D J).gone = false) : Synced n (syncJ n D J) J R := by
  have hr := roomN_le hn
  have hlen := headL_length J.age J.fr.length g2 (by omega)
  have hg2 : (wOneD (syncD D) (hN n J.second) (sec (headL J.age J.fr.length) 0)).gone = false := by
    cases hg : (wOneD (syncD D) (hN n J.second) (sec (headL J.age J.fr.length) 0)).gone
    · rfl
    · have : (syncJ n D J).gone = true := by
        have e : syncJ n D J = wOneD (syncD D) (hN n J.second) (sec (headL J.age J.fr.length) 0) := sync_gone hg
        rw [e]
        exact hg
      rw [this] at hq
      cases hq
  obtain ⟨h1, h2, h3⟩ := wOne_on hg2
  have hgD : D.gone = false := by
    cases hg : D.gone
    · rfl
    · rw [sync_gone hg, hg] at h1
      cases h1
  have hOn := hon hgD
  have hOn1 : On (syncD D) := by
    rw [sync_on hOn]
    exact ⟨hgD, rfl⟩
  have hOn2 := On.wOne (fun _ => hOn1) hg2
  have e : syncJ n D J = { wOneD (syncD D) (hN n J.second) (sec (headL J.age J.fr.length) 0) with kept := (wOneD (syncD D) (hN n J.second) (sec (headL J.age J.fr.length) 0)).seen, pend := [] } := sync_on hOn2
  have hsn : (syncD D).seen = D.seen := by rw [sync_on hOn]
  rw [hsn, sec_zero _ hlen] at h3
  have hb : hN n J.second + 1 ≤ n := hN_lt n (by omega) _
  have hseen : (syncJ n D J).seen = Go.splice D.seen (64 * hN n J.second) (headL J.age J.fr.length) := by rw [e, ← h3, sec_zero _ hlen]
  have hkept : (syncJ n D J).kept = (syncJ n D J).seen := by rw [e]
  have hrow2 : RowHas n (Go.splice D.seen (64 * hN n J.second) (headL J.age J.fr.length)) J.second J.fr := fun j hj => by
    rw [splice_get _ _ _ _ (by omega), if_neg (by omega)]
    exact hrow hgD j hj
  refine ⟨⟨hq, ?_⟩, by rw [e], ⟨?_, ?_, fun x hx => ?_⟩, by rw [hseen]; exact hrow2, hfr⟩
  · have hp : (syncJ n D J).pend = [] := by rw [e]
    rw [hp, hkept]
    rfl
  · rw [hkept, hseen, length_splice _ _ _ (by omega)]
    exact hD
  · rw [hkept, hseen]
    refine ⟨g1, g2, hok, by rw [← hfr]; exact hl, ?_, by rw [← hfr]; exact hrow2, ?_⟩
    · rw [sec_splice_same _ _ _ hlen (by omega), hfr]
    · rw [sec_splice_ne _ _ _ _ hlen (by omega) (Ne.symm (hN_ne h8 _))]
      exact hold hgD
  · have hp : (syncJ n D J).pend = [] := by rw [e]
    rw [hp] at hx
    cases hx
end Go.Proofs.Ytmkmogkhkmlnkaa.Dm
namespace Go.Proofs.Ytmkmogkhkmlnkaa.Dm
open Go.ChangeShapes Go.WideShapes Go.ChangeAt Go.RowKit
theorem head_inj {g e g' e' : Nat} (h : headL g e = headL g' e') : g = g' ∧ e = e' := by
  unfold headL fillL headF at h
  have := congrArg Prod.fst (Fr.frD_free h).1
  simp at this
  omega
theorem HdR.fn {n : Nat} {l : List UInt8} {g e g' e' : Nat} (h : HdR n l g e) (h' : HdR n l g' e') : g = g' ∧ e = e' := by
  rcases h with h | ⟨rfl, rfl, h⟩
  · rcases h' with h' | ⟨-, -, h'⟩
    · exact head_inj (h.1.symm.trans h'.1)
    · exact absurd h (h' _ _)
  · rcases h' with h' | ⟨rfl, rfl, -⟩
    · exact absurd h' (h _ _)
    · exact ⟨rfl, rfl⟩
theorem Img.hd {n : Nat} {K : List UInt8} {b : Bool} {g : Nat} {R : List Fr.Dat} (h : Img n K b g R) : HdR n (sec K (hN n b)) g (flatA g R).length := .inl ⟨h.head, h.g1, h.g2, h.le⟩
/-- what is found where a journal stands -/
theorem Img.found {n : Nat} {K : List UInt8} {b : Bool} {g : Nat} {R : List Fr.Dat} (h : Img n K b g R) {J : Jr} {ds : List Fr.Dat} (hs : StIs n K J ds) : J = ⟨b, g, flatA g R⟩ ∧ ds = R := by
  obtain ⟨e, ⟨g0, e0, g1, e1, h0, h1, hc⟩, hu, hf, -⟩ := hs
  have key : J.second = b ∧ J.age = g ∧ e = (flatA g R).length := by
    have hd := h.hd
    have ho := h.old
    have hg1 := h.g1
    cases b
    · obtain ⟨rfl, rfl⟩ := h0.fn hd
      have := ho g1 e1 h1
      rcases hc with ⟨h2 | h2, -⟩ | ⟨-, -, h3, h4, h5⟩
      · omega
      · omega
      · exact ⟨h3, h4, h5⟩
    · obtain ⟨rfl, rfl⟩ := h1.fn hd
      have := ho g0 e0 h0
      rcases hc with ⟨-, h3, h4, h5⟩ | ⟨h2, h3, -⟩
      · exact ⟨h3, h4, h5⟩
      · omega
  obtain ⟨k1, k2, rfl⟩ := key
  rw [k1, k2, h.row.take h.le] at hu
  have hds : ds = R := unIs_fn hu (unIs_all h.ok)
  subst hds
  refine ⟨?_, rfl⟩
  obtain ⟨js, ja, jf⟩ := J
  simp at k1 k2 hf
  subst k1 k2
  rw [hf]
/-- the journal j on the drum D; R was synced last, cur is what it has -/
structure Live (n : Nat) (D : Dm) (J : Jr) (R cur : List Fr.Dat) : Prop where
  q : Quiet n D J.second J.age R
  on : D.gone = false → On D
  fr : J.fr = flatA J.age cur
  ok : ∀ d ∈ cur, OkA J.age d
  le : J.fr.length ≤ roomN n
  pre : ∃ t, cur = R ++ t
  row : D.gone = false → RowHas n D.seen J.second J.fr
theorem flatA_app (g : Nat) (ds es : List Fr.Dat) : flatA g (ds ++ es) = flatA g ds ++ flatA g es := by simp [flatA]
theorem pre_get {A B F : List UInt8} (h : A = F ++ B) : F.length ≤ A.length ∧ ∀ j, j < F.length → A[j]? = F[j]? := by
  subst h
  exact ⟨by simp, fun j hj => List.getElem?_append_left hj⟩
theorem Live.app {n : Nat} (h8 : 8 ≤ n) {D : Dm} (hD : D.seen.length = 64 * n) {J : Jr} {R cur : List Fr.Dat} (h : Live n D J R cur) {x : Fr.Dat} (hm : MayA n J x) : Live n (appD n D J x) (appJ J x) R (cur ++ [x]) := by
  obtain ⟨t, ht⟩ := h.pre
  have hl : (appJ J x).fr.length ≤ roomN n := by show (J.fr ++ frA J.age x).length ≤ _; rw [List.length_append]; exact hm.2
  have hp : J.fr.length ≤ (appJ J x).fr.length := by show _ ≤ (J.fr ++ frA J.age x).length; rw [List.length_append]; omega
  refine ⟨row_quiet h8 h.q hl hp fun _ => pre_get (B := flatA J.age t ++ frA J.age x) ?_, fun hq => row_on h.on hq, ?_, ?_, hl, ⟨t ++ [x], by rw [ht, List.append_assoc]⟩, fun hq => (row_has h8 hD hl hp (fun hg j hj => ?_) hq).2.1⟩
  · show J.fr ++ frA J.age x = flatA J.age R ++ _
    rw [h.fr, ht, flatA_app, List.append_assoc]
  · show J.fr ++ frA J.age x = flatA J.age (cur ++ [x])
    rw [flatA_snoc, ← h.fr]
  · intro d hd
    rcases List.mem_append.1 hd with hd | hd
    · exact h.ok d hd
    · rw [List.mem_singleton.1 hd]; exact hm.1
  · have hjl : j < J.fr.length / 64 * 64 := by rw [List.length_take] at hj; omega
    have : D.seen[64 * (hN n J.second + 1) + j]? = J.fr[j]? := h.row hg j (by omega)
    show D.seen[64 * (hN n J.second + 1) + j]? = ((J.fr ++ frA J.age x).take _)[j]?
    rw [this, List.getElem?_take, if_pos hjl, List.getElem?_append_left (by omega)]
theorem Quiet.seen {n : Nat} {D : Dm} {b : Bool} {g : Nat} {R : List Fr.Dat} (h : Quiet n D b g R) (ho : On D) : Img n D.seen b g R := by
  have := (h.keep (fun _ => true) _ (Nat.le_refl _)).1
  rw [ho.2] at this
  exact this
theorem Synced.live {n : Nat} {D : Dm} {J : Jr} {R : List Fr.Dat} (h : Synced n D J R) (hl : J.fr.length ≤ roomN n) (hok : ∀ d ∈ R, OkA J.age d) : Live n D J R R := ⟨h.q, fun _ => h.on, h.fr, hok, hl, ⟨[], by simp⟩, fun _ => h.row⟩
theorem Live.sync {n : Nat} (h8 : 8 ≤ n) (hn : n ≤ 8192) {D : Dm} (hD : D.seen.length = 64 * n) {J : Jr} {R cur : List Fr.Dat} (h : Live n D J R cur) : ((syncJ n D J).gone = true ∧ Quiet n (syncJ n D J) J.second J.age R) ∨ ((syncJ n D J).gone = false ∧ Live n (syncJ n D J) J cur cur) := by
  cases hq : (syncJ n D J).gone
  · exact .inr ⟨rfl, (syncJ_on h8 hD h.on h.fr h.ok h.le hn h.q.img.g1 h.q.img.g2 h.row (fun hg => (h.q.seen (h.on hg)).old) hq).live h.le h.ok⟩
  · exact .inl ⟨rfl, syncJ_off h.q h.on hq⟩
/-- begun anew -/
theorem Quiet.anew {n : Nat} (h8 : 8 ≤ n) (hn : n ≤ 8192) {D : Dm} (hD : D.seen.length = 64 * n) {J : Jr} {R : List Fr.Dat} (h : Quiet n D J.second J.age R) (hon : D.gone = false → On D) (hg : (J.age : Int) < 2147483647) {ds : List Fr.Dat} (hf : FitA (J.age + 1) (roomN n) ds) : ((anewD n D J ds).gone = true ∧ Quiet n (anewD n D J ds) J.second J.age R) ∨ ((anewD n D J ds).gone = false ∧ Live n (anewD n D J ds) (anewJ J ds) ds ds) := by
  have hl : (anewJ J ds).fr.length ≤ roomN n := hf.2
  have hq2 : Quiet n (rowW n D (anewJ J ds) 0) J.second J.age R := row_quiet h8 h hl (Nat.zero_le _) fun e => by
    have : (!J.second) = J.second := e
    cases hj : J.second <;> rw [hj] at this <;> cases this
  have hon2 : (rowW n D (anewJ J ds) 0).gone = false → On (rowW n D (anewJ J ds) 0) := fun hq => row_on hon hq
  cases hq : (anewD n D J ds).gone
  · refine .inr ⟨rfl, ?_⟩
    have hrow := fun hq => row_has h8 hD hl (Nat.zero_le _) (fun _ j hj => by simp at hj) (p := 0) (J := anewJ J ds) (D := D) hq
    have hlen : (rowW n D (anewJ J ds) 0).seen.length = 64 * n := by
      have hg2 : (rowW n D (anewJ J ds) 0).gone = false := by
        cases hz : (rowW n D (anewJ J ds) 0).gone
        · rfl
        · have : (anewD n D J ds).gone = true := by
            unfold anewD syncJ
            rw [sync_g, sync_gone hz]
            exact wOne_gone hz
          rw [this] at hq
          cases hq
      exact (hrow hg2).1
    refine Synced.live (syncJ_on h8 hlen hon2 rfl hf.1 hl hn (by show 1 ≤ J.age + 1; omega) (by show ((J.age + 1 : Nat) : Int) ≤ _; omega) (fun hq => (hrow hq).2.1) (fun hq g' e' hh => ?_) hq) hl hf.1
    have hh2 : HdR n (sec (rowW n D (anewJ J ds) 0).seen (hN n J.second)) g' e' := by
      have e : (!(anewJ J ds).second) = J.second := by show (!(!J.second)) = J.second; simp
      rw [e] at hh
      exact hh
    rw [(hrow hq).2.2 J.second] at hh2
    have hgD : D.gone = false := writes_on hq
    have := (hh2.fn (h.seen (hon hgD)).hd).1
    show g' < J.age + 1
    omega
  · exact .inl ⟨rfl, syncJ_off hq2 hon2 hq⟩
/-- behind a crash -/
theorem Quiet.crash {n : Nat} {D : Dm} {b : Bool} {g : Nat} {R : List Fr.Dat} (h : Quiet n D b g R) (f : Nat → Bool) : Quiet n (crashD D f) b g R ∧ On (crashD D f) ∧ (crashD D f).pend = [] := by
  obtain ⟨h1, h2⟩ := h.keep f _ (Nat.le_refl _)
  exact ⟨⟨h2, h1, fun x hx => by cases hx⟩, ⟨rfl, rfl⟩, rfl⟩
theorem Quiet.arm {n : Nat} {D : Dm} {b : Bool} {g : Nat} {R : List Fr.Dat} (h : Quiet n D b g R) (x : Int) : Quiet n (armD D x) b g R := by
  unfold armD
  split
  · exact h
  · exact ⟨h.len, h.img, h.pend⟩
theorem On.arm {D : Dm} (h : On D) (x : Int) : On (armD D x) := by
  unfold armD
  split
  · exact h
  · exact ⟨h.1, h.2⟩
theorem arm_gone (D : Dm) (x : Int) : (armD D x).gone = D.gone ∧ (armD D x).pend = D.pend ∧ (armD D x).seen = D.seen := by
  unfold armD
  split <;> exact ⟨rfl, rfl, rfl⟩
theorem Live.arm {n : Nat} {D : Dm} {J : Jr} {R cur : List Fr.Dat} (h : Live n D J R cur) (x : Int) : Live n (armD D x) J R cur := by
  obtain ⟨a1, a2, a3⟩ := arm_gone D x
  exact ⟨h.q.arm x, fun hg => (h.on (a1 ▸ hg)).arm x, h.fr, h.ok, h.le, h.pre, fun hg => by rw [a3]; exact h.row (a1 ▸ hg)⟩
end Go.Proofs.Ytmkmogkhkmlnkaa.Dm
namespace Go.Proofs.Ytmkmogkhkmlnkaa.Dm
open Go.ChangeShapes Go.WideShapes Go.ChangeAt Go.RowKit
theorem noHd_zero (n : Nat) (hn : n ≤ 8192) : NoHd n (List.replicate 64 0) := fun g e h => by
  have he := roomN_le hn
  have h1 := h.1
  have hb := headB_length g e h.2.2.1 (by have := h.2.2.2; omega)
  have h0 : (List.replicate 64 (0 : UInt8))[0]? = some 0 := rfl
  rw [h1] at h0
  unfold headL fillL headF Fr.frD Fr.frameL at h0
  have hp : 0 < (Fr.bytesL [7, (g : Int), (e : Int)] []).length := by
    have := Fr.countL_pos [7, (g : Int), (e : Int)].length
    unfold Fr.bytesL
    rw [List.length_append]
    omega
  generalize (Fr.bytesL [7, (g : Int), (e : Int)] []) = X at *
  rw [Fr.countL_small _ (by omega)] at h0
  have h0' : UInt8.ofNat X.length = 0 := Option.some.inj h0
  have := congrArg UInt8.toNat h0'
  rw [Fr.toNat_small _ (by omega)] at this
  have h00 : (0 : UInt8).toNat = 0 := rfl
  omega
theorem sec_zeros (n i : Nat) (hi : i < n) : sec (List.replicate (64 * n) 0) i = List.replicate 64 0 := by
  unfold sec
  rw [List.drop_replicate, List.take_replicate]
  congr 1
  omega
theorem zero_hd {n : Nat} (h8 : 8 ≤ n) (hn : n ≤ 8192) {c : Bool} {g e : Nat} (h : HdR n (sec (List.replicate (64 * n) 0) (hN n c)) g e) : g = 0 ∧ e = 0 := by
  have hc := hN_lt n (by omega) c
  rw [sec_zeros n _ (by omega)] at h
  rcases h with h | h
  · exact absurd h (noHd_zero n hn _ _)
  · exact ⟨h.1, h.2.1⟩
theorem zero_found {n : Nat} (h8 : 8 ≤ n) (hn : n ≤ 8192) {J : Jr} {ds : List Fr.Dat} (hs : StIs n (List.replicate (64 * n) 0) J ds) : J = ⟨true, 0, []⟩ ∧ ds = [] := by
  obtain ⟨e, ⟨g0, e0, g1, e1, h0, h1, hc⟩, hu, hf, -⟩ := hs
  obtain ⟨rfl, rfl⟩ := zero_hd h8 hn h0
  obtain ⟨rfl, rfl⟩ := zero_hd h8 hn h1
  obtain ⟨k1, k2, rfl⟩ : J.second = true ∧ J.age = 0 ∧ e = 0 := by
    rcases hc with ⟨-, h3, h4, h5⟩ | ⟨-, h3, -⟩
    · exact ⟨h3, h4, h5⟩
    · omega
  obtain ⟨-, r, hr, hl, -⟩ := hu
  rw [List.take_zero] at hr
  have hz : (flatA J.age ds).length = 0 := by
    have := congrArg List.length hr
    rw [List.length_append, List.length_nil] at this
    omega
  have hds : ds = [] := List.length_eq_zero_iff.1 (by have := len_flatA J.age ds; omega)
  subst hds
  refine ⟨?_, rfl⟩
  obtain ⟨js, ja, jf⟩ := J
  simp at k1 k2 hf
  subst k1 k2
  rw [hf]
  rfl
/-- no power goes -/
def Calm (D : Dm) : Prop := D.armed = false ∧ D.gone = false
theorem Calm.wOne {D : Dm} (h : Calm D) (p : Nat) (c : List UInt8) : Calm (wOneD D p c) := by
  rw [wOne_calm D p c h.1 h.2]
  exact h
theorem Calm.writes {D : Dm} (h : Calm D) (p : Nat) (l : List UInt8) (i : Nat) : Calm (writesN D p l i) := by
  induction i with
  | zero => exact h
  | succ i ih => exact ih.wOne _ _
theorem Calm.sync {D : Dm} (h : Calm D) : Calm (syncD D) := by
  unfold syncD keepD
  split
  · exact h
  · exact h
theorem Calm.syncJ {D : Dm} (h : Calm D) (n : Nat) (J : Jr) : Calm (syncJ n D J) := (h.sync.writes _ _ _).sync
theorem Calm.row {D : Dm} (h : Calm D) (n : Nat) (J : Jr) (p : Nat) : Calm (rowW n D J p) := h.writes _ _ _
theorem Calm.anew {D : Dm} (h : Calm D) (n : Nat) (J : Jr) (ds : List Fr.Dat) : Calm (anewD n D J ds) := (h.row n _ 0).syncJ n _
theorem Calm.crash {D : Dm} (h : Calm D) (f : Nat → Bool) : Calm (crashD D f) := ⟨h.1, rfl⟩
theorem zero_calm (n : Nat) : Calm (zeroD n) := ⟨rfl, rfl⟩
/-- a new drum's journal -/
theorem zero_live {n : Nat} (h8 : 8 ≤ n) (hn : n ≤ 8192) : Live n (anewD n (zeroD n) ⟨true, 0, []⟩ []) (anewJ ⟨true, 0, []⟩ []) [] [] ∧ (anewD n (zeroD n) ⟨true, 0, []⟩ []).gone = false := by
  have hg := ((zero_calm n).anew n ⟨true, 0, []⟩ []).2
  have hon : On (zeroD n) := ⟨rfl, rfl⟩
  refine ⟨Synced.live (syncJ_on h8 (D := rowW n (zeroD n) (anewJ ⟨true, 0, []⟩ []) 0) (J := anewJ ⟨true, 0, []⟩ []) (R := []) ?_ (fun _ => hon) rfl (by simp) (Nat.zero_le _) hn (Nat.le_refl _) (by decide) (fun _ j hj => absurd hj (Nat.not_lt_zero _)) (fun _ g' e' hh => ?_) hg) (Nat.zero_le _) (by simp), hg⟩
  · show (List.replicate (64 * n) (0 : UInt8)).length = 64 * n
    simp
  · have hh2 : HdR n (sec (List.replicate (64 * n) 0) (hN n true)) g' e' := hh
    have := (zero_hd h8 hn hh2).1
    show g' < 0 + 1
    omega
/-- how many writes wait -/
theorem secs_small {n L q : Nat} (hn : n ≤ 40) (hl : L ≤ roomN n) : secs (L - q) ≤ 20 := by
  unfold secs
  unfold roomN at hl
  omega
theorem app_pend {n : Nat} (hn : n ≤ 40) (D : Dm) (J : Jr) (x : Fr.Dat) (hm : MayA n J x) : (appD n D J x).pend.length ≤ D.pend.length + 20 := by
  have h1 := rowW_pend n D (appJ J x) J.fr.length
  have h2 : secs ((appJ J x).fr.length - J.fr.length / 64 * 64) ≤ 20 := secs_small hn (by show (J.fr ++ frA J.age x).length ≤ _; rw [List.length_append]; exact hm.2)
  exact Nat.le_trans h1 (by omega)
theorem syncJ_pend (n : Nat) (D : Dm) (J : Jr) : (syncJ n D J).pend.length ≤ D.pend.length + 1 := by
  have h1 := syncD_pend (writesN (syncD D) (hN n J.second) (headL J.age J.fr.length) 1)
  have h2 := writesN_pend (syncD D) (hN n J.second) (headL J.age J.fr.length) 1
  have h3 := syncD_pend D
  unfold syncJ
  omega
theorem anew_pend {n : Nat} (hn : n ≤ 40) (D : Dm) (J : Jr) (ds : List Fr.Dat) (hf : FitA (J.age + 1) (roomN n) ds) : (anewD n D J ds).pend.length ≤ D.pend.length + 21 := by
  have h1 := syncJ_pend n (rowW n D (anewJ J ds) 0) (anewJ J ds)
  have h2 := rowW_pend n D (anewJ J ds) 0
  have h3 : secs ((anewJ J ds).fr.length - 0 / 64 * 64) ≤ 20 := secs_small hn hf.2
  unfold anewD
  omega
/-- one number alone -/
theorem one_len (g : Nat) (z : Int) (h0 : 0 ≤ z) (h1 : z < 64) : (Fr.bytesL [z] [txtA g]).length = 8 := by
  have hz : (Fr.countL (Fr.numberN z)).length = 1 := by
    have : Fr.numberN z < 128 := by unfold Fr.numberN; rw [if_pos h0]; omega
    rw [Fr.countL_small _ this]
    rfl
  have h3 : (Fr.countL 1).length = 1 := by rw [Fr.countL_small _ (by decide)]; rfl
  simp only [Fr.bytesL, Fr.numsL_cons, Fr.numsL_nil, Fr.textsL_cons, Fr.textsL_nil, List.length_append, List.length_cons, List.length_nil, hz, h3, fourL_len]
theorem one_ok (g : Nat) (z : Int) (h0 : 0 ≤ z) (h1 : z < 64) : OkA g ([z], []) ∧ (frA g ([z], [])).length = 13 := by
  have hl := one_len g z h0 h1
  refine ⟨⟨⟨fun x hx => ?_, fun t ht => ?_⟩, ?_⟩, ?_⟩
  · obtain rfl := List.mem_singleton.1 hx
    unfold Fr.Is64
    omega
  · obtain rfl := List.mem_singleton.1 ht
    rw [txtA_size]; decide
  · show (Fr.bytesL [z] [txtA g]).length ≤ 4096
    omega
  · unfold frA Fr.frD Fr.frameL
    have h8 : (Fr.countL 8).length = 1 := by rw [Fr.countL_small _ (by decide)]; rfl
    simp only [List.length_append, Fr.fourL_length, hl, h8]
end Go.Proofs.Ytmkmogkhkmlnkaa.Dm
