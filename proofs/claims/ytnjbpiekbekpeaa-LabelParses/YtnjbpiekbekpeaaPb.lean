/-
  A text is read by the program just where the answer's plain reading reads it, as the same series.
-/
import Derived.Test.YtnjbpiekbekpeaaPa
namespace Go.Proofs.Ytnjbpiekbekpeaa
open Go.ChangeShapes Go.WideShapes Go.ChangeAt Go.RowKit
/-- a name, and labels of names and values, in any order -/
def OkU (nm : ByteArray) (ls : List Lab) : Prop := nameL (sg nm) = true ∧ ls.length ≤ 4 ∧ ∀ i, i < ls.length → nameL (sg (ls.getD i lab0).1) = true ∧ valL (sg (ls.getD i lab0).2) = true ∧ True
theorem okU_mem {nm : ByteArray} {ls : List Lab} (h : OkU nm ls) {x : Lab} (hx : x ∈ ls) : nameL (sg x.1) = true ∧ valL (sg x.2) = true := by
  obtain ⟨i, hi, rfl⟩ := List.getElem_of_mem hx
  have := h.2.2 i hi
  have e : ls.getD i lab0 = ls[i] := by simp [hi]
  rw [e] at this
  exact ⟨this.1, this.2.1⟩
theorem okU_of {nm : ByteArray} {ls U : List Lab} (h : MayS nm ls) (hp : ls.Perm U) : OkU nm U := by
  refine ⟨h.1, by rw [← hp.length_eq]; exact h.2.1, fun i hi => ?_⟩
  have e : U.getD i lab0 = U[i] := by simp [hi]
  have hm : U[i] ∈ ls := hp.symm.subset (List.getElem_mem hi)
  obtain ⟨j, hj, hje⟩ := List.getElem_of_mem hm
  have := h.2.2 j hj
  have e2 : ls.getD j lab0 = ls[j] := by simp [hj]
  unfold OkAt at this
  rw [e2, hje] at this
  rw [e]
  exact ⟨this.1, this.2.1, trivial⟩
theorem run_bodyU {nm : ByteArray} {ls : List Lab} (h : OkU nm ls) : ∀ k, k ≤ ls.length → runL (sg nm ++ bodyAt ls k) st0 = some (afterL nm ls k) := by
  intro k
  induction k with
  | zero =>
    intro _
    obtain ⟨a1, a2, a3⟩ := nameL_all h.1
    have e : sg nm ++ bodyAt ls 0 = sg nm := by simp [bodyAt]
    rw [e]
    have := run_name (sg nm) a1 0 (.inl rfl) [] (⟨#[]⟩, ⟨#[]⟩, []) (by simpa using a3)
    simpa [afterL, st0] using this
  | succ k ih =>
    intro hk
    have hok := h.2.2 k (by omega)
    have e : sg nm ++ bodyAt ls (k + 1) = (sg nm ++ bodyAt ls k) ++ ([if k = 0 then 123 else 44] ++ labText (ls.getD k lab0)) := by simp [bodyAt]
    rw [e, runL_append, ih (by omega)]
    show runL _ (afterL nm ls k) = _
    rw [runL_append]
    have hl4 := h.2.1
    have hlt : (ls.take k).length + 1 ≤ 4 := by rw [List.length_take]; omega
    have htk : ls.take (k + 1) = ls.take k ++ [ls.getD k lab0] := by
      rw [List.take_add_one, List.getElem?_eq_getElem (by omega)]
      simp [show k < ls.length by omega]
    by_cases h0 : k = 0
    · subst h0
      have e1 : runL [if 0 = 0 then 123 else 44] (afterL nm ls 0) = some (1, [], ⟨#[]⟩, nm, []) := by
        show (stepS (0, sg nm, ⟨#[]⟩, ⟨#[]⟩, []) 123).bind (runL []) = _
        have : stepS (0, sg nm, ⟨#[]⟩, ⟨#[]⟩, []) 123 = some (1, [], ⟨#[]⟩, nm, []) := by simp [stepS, baL_sg]
        rw [this]; rfl
      rw [e1]
      show runL (labText _) _ = _
      rw [run_lab _ hok.1 hok.2.1 _ _ _ (by simp)]
      simp [afterL, htk]
    · have e1 : runL [if k = 0 then 123 else 44] (afterL nm ls k) = some (1, [], (ls.getD (k - 1) lab0).1, nm, ls.take k) := by
        rw [if_neg h0]
        unfold afterL
        rw [if_neg h0]
        rfl
      rw [e1]
      show runL (labText _) _ = _
      rw [run_lab _ hok.1 hok.2.1 _ _ _ hlt]
      simp [afterL, htk]
theorem run_textU {nm : ByteArray} {ls : List Lab} (h : OkU nm ls) : ∃ st, runL (textL nm ls) st0 = some st ∧ (endS st).1 = 6 ∧ (endS st).2.2.2.1 = nm ∧ (endS st).2.2.2.2 = ls := by
  have hb := run_bodyU h ls.length (Nat.le_refl _)
  unfold textL
  by_cases h0 : ls.length = 0
  · rw [if_pos h0, List.append_nil, hb]
    have hn : ls = [] := List.length_eq_zero_iff.1 h0
    subst hn
    refine ⟨_, rfl, ?_, ?_, ?_⟩
    · simp [afterL, endS]
    · simp [afterL, endS, baL_sg]
    · simp [afterL, endS]
  · rw [if_neg h0, runL_append, hb]
    have e : afterL nm ls ls.length = (5, [], (ls.getD (ls.length - 1) lab0).1, nm, ls) := by simp [afterL, h0]
    rw [e]
    exact ⟨(6, [], (ls.getD (ls.length - 1) lab0).1, nm, ls), rfl, rfl, rfl, rfl⟩
theorem text_asciiU {nm : ByteArray} {ls : List Lab} (h : OkU nm ls) : ∀ b ∈ textL nm ls, b.toNat < 128 := by
  have hname : ∀ s : ByteArray, nameL (sg s) = true → ∀ b ∈ sg s, b.toNat < 128 := fun s hs b hb => by
    have := (nameL_all hs).1 b hb
    simp [nameSign] at this
    omega
  have hval : ∀ s : ByteArray, valL (sg s) = true → ∀ b ∈ escL (sg s), b.toNat < 128 := fun s hs b hb => by
    unfold escL at hb
    obtain ⟨c, hc, hb⟩ := List.mem_flatMap.1 hb
    have := (valL_all hs).1 c hc
    simp [valSign] at this
    split at hb
    · simp at hb
      rcases hb with rfl | rfl
      · decide
      · omega
    · simp at hb
      subst hb
      omega
  have hbody : ∀ k, k ≤ ls.length → ∀ b ∈ bodyAt ls k, b.toNat < 128 := by
    intro k
    induction k with
    | zero => intro _ b hb; simp [bodyAt] at hb
    | succ k ih =>
      intro hk b hb
      have hok := h.2.2 k (by omega)
      simp only [bodyAt, labText, List.mem_append, List.mem_singleton] at hb
      rcases hb with (hb | hb) | (((hb | hb) | hb) | hb)
      · exact ih (by omega) b hb
      · subst hb; split <;> decide
      · exact hname _ hok.1 b hb
      · simp at hb; rcases hb with rfl | rfl <;> decide
      · exact hval _ hok.2.1 b hb
      · subst hb; decide
  intro b hb
  unfold textL at hb
  simp only [List.mem_append] at hb
  rcases hb with (hb | hb) | hb
  · exact hname _ h.1 b hb
  · exact hbody _ (Nat.le_refl _) b hb
  · split at hb
    · simp at hb
    · simp at hb; subst hb; decide
theorem run_txtU {nm : ByteArray} {ls : List Lab} (h : OkU nm ls) : runS (baL (textL nm ls)) (baL (textL nm ls)).size 0 st0 = runL (textL nm ls) st0 := by
  have ha := text_asciiU h
  have := runS_ascii (baL (textL nm ls)) (fun k hk => ha _ (by
    have := sg_get _ k hk
    rw [sg_baL] at this
    exact List.mem_of_getElem? this)) (baL (textL nm ls)).size 0 st0 (by omega)
  rw [sg_baL] at this
  exact this

theorem parses_textU {nm : ByteArray} {ls U : List Lab} (hU : OkU nm U) (hp : ls.Perm U) (hs : SortedL ls) (hM : MayS nm ls) : ParsesTo (baL (textL nm U)) nm ls := by
  obtain ⟨st, h1, h2, h3, h4⟩ := run_textU hU
  exact ⟨st, by rw [run_txtU hU]; exact h1, h2, h3.symm, by rw [h4]; exact hp, hs, hM⟩
/- labels put in their places -/
theorem insP_perm (acc : List Lab) (x : Lab) : (insP acc x).Perm (acc ++ [x]) := by
  unfold insP
  have h := List.takeWhile_append_dropWhile (p := fun y : Lab => ltB y.1 x.1) (l := acc)
  conv => rhs; rw [← h]
  rw [List.append_assoc]
  refine List.Perm.append_left _ ?_
  exact (List.perm_append_singleton x _).symm
theorem foldl_perm : ∀ (U acc : List Lab), (U.foldl insP acc).Perm (acc ++ U) := by
  intro U
  induction U with
  | nil => intro acc; simp
  | cons x U ih =>
    intro acc
    rw [List.foldl_cons]
    refine (ih (insP acc x)).trans ?_
    have := (insP_perm acc x).append_right U
    rw [List.append_assoc] at this
    exact this
theorem insP_length (acc : List Lab) (x : Lab) : (insP acc x).length = acc.length + 1 := by
  rw [(insP_perm acc x).length_eq]
  simp
def LeL (a b : Lab) : Prop := ltB b.1 a.1 = false
theorem le_lt {a b : Lab} {x : ByteArray} (h : LeL a b) (hx : ltB b.1 x = true) : ltB a.1 x = true := by
  cases h2 : ltB a.1 b.1 with
  | true => exact ltB_trans h2 hx
  | false =>
    have := ltB_total h2 h
    rw [this]
    exact hx
theorem takeWhile_all (acc : List Lab) (x : Lab) : ∀ y ∈ acc.takeWhile (fun y => ltB y.1 x.1), ltB y.1 x.1 = true := fun y hy => by
  have := List.all_takeWhile (p := fun y : Lab => ltB y.1 x.1) (l := acc)
  exact List.all_eq_true.1 this y hy
theorem dropWhile_ge : ∀ (acc : List Lab) (x : Lab), acc.Pairwise LeL → ∀ y ∈ acc.dropWhile (fun y => ltB y.1 x.1), ltB y.1 x.1 = false := by
  intro acc x
  induction acc with
  | nil => intro _ y hy; cases hy
  | cons a acc ih =>
    intro hp y hy
    by_cases ha : ltB a.1 x.1 = true
    · rw [List.dropWhile_cons_of_pos (by simpa using ha)] at hy
      exact ih (List.pairwise_cons.1 hp).2 y hy
    · rw [List.dropWhile_cons_of_neg (by simpa using ha)] at hy
      rcases List.mem_cons.1 hy with rfl | hy
      · simpa using ha
      · cases h : ltB y.1 x.1 with
        | false => rfl
        | true => exact absurd (le_lt ((List.pairwise_cons.1 hp).1 y hy) h) ha
theorem insP_pair {acc : List Lab} (x : Lab) (h : acc.Pairwise LeL) : (insP acc x).Pairwise LeL := by
  unfold insP
  have hsplit := List.takeWhile_append_dropWhile (p := fun y : Lab => ltB y.1 x.1) (l := acc)
  have h' := h
  rw [← hsplit, List.pairwise_append] at h'
  obtain ⟨h1, h2, h3⟩ := h'
  rw [List.pairwise_append]
  refine ⟨h1, List.pairwise_cons.2 ⟨fun y hy => dropWhile_ge acc x h y hy, h2⟩, fun a ha b hb => ?_⟩
  rcases List.mem_cons.1 hb with rfl | hb
  · exact ltB_asymm (takeWhile_all acc b a ha)
  · exact h3 a ha b hb
theorem foldl_pair : ∀ (U acc : List Lab), acc.Pairwise LeL → (U.foldl insP acc).Pairwise LeL := by
  intro U
  induction U with
  | nil => intro acc h; exact h
  | cons x U ih => intro acc h; exact ih _ (insP_pair x h)
theorem sorted_pair {ls : List Lab} (h : ls.Pairwise LeL) : SortedL ls := by
  rw [List.pairwise_iff_getElem] at h
  intro i j hij hj
  have := h i j (by omega) hj hij
  have e1 : ls.getD j lab0 = ls[j] := by simp [hj]
  have e2 : ls.getD i lab0 = ls[i]'(by omega) := by simp [show i < ls.length by omega]
  rw [e1, e2]
  exact this
theorem name_not {l : List UInt8} (h : nameL l = true) : (∀ c ∈ l, not61 c = true) ∧ ∀ c ∈ l, not123 c = true := by
  have h1 := (nameL_all h).1
  refine ⟨fun c hc => ?_, fun c hc => ?_⟩
  all_goals
    have := h1 c hc
    simp [nameSign] at this
  · have hn : c ≠ 61 := by
      rintro rfl
      exact absurd this.1 (by decide)
    simp [not61, hn]
  · have hn : c ≠ 123 := by
      rintro rfl
      exact absurd this.2 (by decide)
    simp [not123, hn]
theorem refP_parses {s : ByteArray} {nm : ByteArray} {ls : List Lab} (h : refP (sg s) = some (nm, ls)) (hM : MayS nm ls) : ParsesTo s nm ls := by
  obtain ⟨U, h1, h2, rfl⟩ := refP_of h
  have hp : (U.foldl insP []).Perm U := by simpa using foldl_perm U []
  have hs : SortedL (U.foldl insP []) := sorted_pair (foldl_pair U [] List.Pairwise.nil)
  have := parses_textU (okU_of hM hp) hp hs hM
  rw [← h2, baL_sg] at this
  exact this
/- the machine read backwards -/
def hiL (l : List UInt8) : Prop := ∃ b ∈ l, 128 ≤ b.toNat
def sepL (ls : List Lab) : UInt8 := if ls.length = 0 then 123 else 44
def formS (p : Nat) (wd : List UInt8) (ln sn : ByteArray) (ls : List Lab) : List UInt8 :=
  if p = 0 then wd
  else sg sn ++ bodyAt ls ls.length ++ (if p = 1 then sepL ls :: wd else if p = 2 then sepL ls :: (sg ln ++ [61]) else if p = 3 then sepL ls :: (sg ln ++ [61, 34] ++ escL wd)
    else if p = 4 then sepL ls :: (sg ln ++ [61, 34] ++ escL wd ++ [92]) else if p = 5 then [] else [125])
def badS (p : Nat) (wd : List UInt8) (ln sn : ByteArray) (ls : List Lab) : Prop := hiL wd ∨ ((p = 2 ∨ p = 3 ∨ p = 4) ∧ hiL (sg ln)) ∨ hiL (sg sn) ∨ ∃ x ∈ ls, hiL (sg x.1) ∨ hiL (sg x.2)
def wfS (p : Nat) (wd : List UInt8) (sn : ByteArray) (ls : List Lab) : Prop := (p = 0 → ls = [] ∧ sn = ⟨#[]⟩) ∧ (p = 2 → wd = []) ∧ (p = 5 ∨ p = 6 → wd = [] ∧ ls ≠ []) ∧ p ≤ 6
theorem bodyAt_append (ls : List Lab) (x : Lab) : ∀ k, k ≤ ls.length → bodyAt (ls ++ [x]) k = bodyAt ls k := by
  intro k
  induction k with
  | zero => intro _; rfl
  | succ k ih =>
    intro hk
    have e : (ls ++ [x]).getD k lab0 = ls.getD k lab0 := by
      rw [List.getD_eq_getElem?_getD, List.getElem?_append_left (by omega), List.getD_eq_getElem?_getD]
    show bodyAt (ls ++ [x]) k ++ _ ++ labText _ = bodyAt ls k ++ _ ++ labText _
    rw [ih (by omega), e]
theorem bodyAt_snoc (ls : List Lab) (x : Lab) : bodyAt (ls ++ [x]) (ls ++ [x]).length = bodyAt ls ls.length ++ sepL ls :: labText x := by
  have e : (ls ++ [x]).length = ls.length + 1 := by simp
  have e2 : (ls ++ [x]).getD ls.length lab0 = x := by simp
  rw [e]
  show bodyAt (ls ++ [x]) ls.length ++ [if ls.length = 0 then 123 else 44] ++ labText ((ls ++ [x]).getD ls.length lab0) = _
  rw [bodyAt_append ls x ls.length (Nat.le_refl _), e2]
  simp [sepL]
theorem enc_hi (r : Int) (h : 128 ≤ r) : hiL (Lib.encodeRune r) := by
  unfold Lib.encodeRune Lib.encodeRuneZ
  have a : ¬ (0 ≤ r ∧ r ≤ 127) := by omega
  rw [if_neg a]
  split
  · exact ⟨(192 + r / 64).toNat.toUInt8, by simp, by rw [Nat.toUInt8_eq, UInt8.toNat_ofNat']; omega⟩
  · split
    · exact ⟨(224 + r / 4096).toNat.toUInt8, by simp, by rw [Nat.toUInt8_eq, UInt8.toNat_ofNat']; omega⟩
    · split
      · exact ⟨(240 + r / 262144).toNat.toUInt8, by simp, by rw [Nat.toUInt8_eq, UInt8.toNat_ofNat']; omega⟩
      · exact ⟨239, by simp, by decide⟩
theorem hi_left {l m : List UInt8} (h : hiL l) : hiL (l ++ m) := by
  obtain ⟨b, hb, h⟩ := h
  exact ⟨b, List.mem_append_left _ hb, h⟩
theorem hi_right {l m : List UInt8} (h : hiL m) : hiL (l ++ m) := by
  obtain ⟨b, hb, h⟩ := h
  exact ⟨b, List.mem_append_right _ hb, h⟩
theorem not_hi_nil : ¬ hiL [] := fun ⟨_, h, _⟩ => by cases h
theorem keepS_some {r : Int} {p : Nat} {wd : List UInt8} {q : ByteArray × ByteArray × List Lab} {st' : St} (h : keepS r (p, wd, q) = some st') : st' = (p, wd ++ Lib.encodeRune r, q) := by
  unfold keepS at h
  split at h
  · cases h
  · exact (Option.some.inj h).symm
theorem byte_eq {b : UInt8} {n : Nat} (hn : n < 256) (h : (b.toNat : Int) = (n : Int)) : b = UInt8.ofNat n := by
  apply UInt8.toNat_inj.1
  rw [UInt8.toNat_ofNat']
  omega
def StepOk (b : UInt8) (p : Nat) (wd : List UInt8) (ln sn : ByteArray) (ls : List Lab) (st' : St) : Prop :=
  wfS st'.1 st'.2.1 st'.2.2.2.1 st'.2.2.2.2 ∧ (badS p wd ln sn ls → badS st'.1 st'.2.1 st'.2.2.1 st'.2.2.2.1 st'.2.2.2.2) ∧ formS st'.1 st'.2.1 st'.2.2.1 st'.2.2.2.1 st'.2.2.2.2 = formS p wd ln sn ls ++ [b]
theorem step_ascii {p : Nat} {wd : List UInt8} {ln sn : ByteArray} {ls : List Lab} {b : UInt8} (hb : b.toNat < 128) {st' : St} (hw : wfS p wd sn ls) (h : stepS (p, wd, ln, sn, ls) (b.toNat : Int) = some st') : StepOk b p wd ln sn ls st' := by
  have henc := encodeRune_ascii b hb
  obtain ⟨w0, w2, w5, w6⟩ := hw
  have hp : p = 0 ∨ p = 1 ∨ p = 2 ∨ p = 3 ∨ p = 4 ∨ p = 5 ∨ p = 6 := by omega
  rcases hp with rfl | rfl | rfl | rfl | rfl | rfl | rfl
  · have h' : (if (b.toNat : Int) = 123 then some (1, [], ln, baL wd, ls) else keepS (b.toNat : Int) (0, wd, ln, sn, ls)) = some st' := h
    obtain ⟨rfl, rfl⟩ := w0 rfl
    split at h'
    · rename_i hc
      obtain rfl : b = 123 := byte_eq (n := 123) (by decide) hc
      obtain rfl := Option.some.inj h'
      refine ⟨⟨by simp, by simp, by simp, by simp⟩, fun hB => ?_, by simp [formS, sg_baL, bodyAt, sepL]⟩
      rcases hB with hB | ⟨hp, _⟩ | hB | ⟨x, hx, _⟩
      · exact .inr (.inr (.inl (by rw [sg_baL]; exact hB)))
      · omega
      · exact absurd hB not_hi_nil
      · cases hx
    · obtain rfl := keepS_some h'
      rw [henc]
      refine ⟨⟨by simp, by simp, by simp, by simp⟩, fun hB => ?_, by simp [formS]⟩
      rcases hB with hB | hB
      · exact .inl (hi_left hB)
      · exact .inr hB
  · have h' : (if (b.toNat : Int) = 61 then some (2, [], baL wd, sn, ls) else keepS (b.toNat : Int) (1, wd, ln, sn, ls)) = some st' := h
    split at h'
    · rename_i hc
      obtain rfl : b = 61 := byte_eq (n := 61) (by decide) hc
      obtain rfl := Option.some.inj h'
      refine ⟨⟨by simp, by simp, by simp, by simp⟩, fun hB => ?_, by simp [formS, sg_baL]⟩
      rcases hB with hB | ⟨hp, _⟩ | hB
      · exact .inr (.inl ⟨.inl rfl, by rw [sg_baL]; exact hB⟩)
      · omega
      · exact .inr (.inr hB)
    · obtain rfl := keepS_some h'
      rw [henc]
      refine ⟨⟨by simp, by simp, by simp, by simp⟩, fun hB => ?_, by simp [formS]⟩
      rcases hB with hB | hB
      · exact .inl (hi_left hB)
      · exact .inr hB
  · have h' : (if (b.toNat : Int) = 34 then some (3, wd, ln, sn, ls) else none) = some st' := h
    obtain rfl := w2 rfl
    split at h'
    · rename_i hc
      obtain rfl : b = 34 := byte_eq (n := 34) (by decide) hc
      obtain rfl := Option.some.inj h'
      refine ⟨⟨by simp, by simp, by simp, by simp⟩, fun hB => ?_, by simp [formS, escL]⟩
      rcases hB with hB | ⟨_, hB⟩ | hB
      · exact .inl hB
      · exact .inr (.inl ⟨.inr (.inl rfl), hB⟩)
      · exact .inr (.inr hB)
    · cases h'
  · have h' : (if (b.toNat : Int) = 92 then some (4, wd, ln, sn, ls) else if (b.toNat : Int) = 34 then (if ls.length + 1 ≤ 4 then some (5, [], ln, sn, ls ++ [(ln, baL wd)]) else none) else keepS (b.toNat : Int) (3, wd, ln, sn, ls)) = some st' := h
    split at h'
    · rename_i hc
      obtain rfl : b = 92 := byte_eq (n := 92) (by decide) hc
      obtain rfl := Option.some.inj h'
      refine ⟨⟨by simp, by simp, by simp, by simp⟩, fun hB => ?_, by simp [formS]⟩
      rcases hB with hB | ⟨_, hB⟩ | hB
      · exact .inl hB
      · exact .inr (.inl ⟨.inr (.inr rfl), hB⟩)
      · exact .inr (.inr hB)
    · rename_i n92
      split at h'
      · rename_i hc
        obtain rfl : b = 34 := byte_eq (n := 34) (by decide) hc
        split at h'
        · obtain rfl := Option.some.inj h'
          refine ⟨⟨by simp, by simp, by simp, by simp⟩, fun hB => ?_, ?_⟩
          · rcases hB with hB | ⟨_, hB⟩ | hB | ⟨x, hx, hB⟩
            · exact .inr (.inr (.inr ⟨(ln, baL wd), by simp, .inr (by rw [sg_baL]; exact hB)⟩))
            · exact .inr (.inr (.inr ⟨(ln, baL wd), by simp, .inl hB⟩))
            · exact .inr (.inr (.inl hB))
            · exact .inr (.inr (.inr ⟨x, List.mem_append_left _ hx, hB⟩))
          · have e := bodyAt_snoc ls (ln, baL wd)
            simp only [formS]
            rw [e]
            simp [labText, sg_baL]
        · cases h'
      · rename_i n34
        obtain rfl := keepS_some h'
        rw [henc]
        have hm : ¬ markedB b = true := fun e => by
          rcases (markedB_iff b).1 e with rfl | rfl
          · exact n34 rfl
          · exact n92 rfl
        refine ⟨⟨by simp, by simp, by simp, by simp⟩, fun hB => ?_, by simp [formS, escL_snoc, hm]⟩
        rcases hB with hB | hB
        · exact .inl (hi_left hB)
        · exact .inr hB
  · have h' : (if (b.toNat : Int) = 34 ∨ (b.toNat : Int) = 92 then (keepS (b.toNat : Int) (4, wd, ln, sn, ls)).map fun s => (3, s.2) else none) = some st' := h
    split at h'
    · rename_i hc
      obtain ⟨s, hk, rfl⟩ := Option.map_eq_some_iff.1 h'
      obtain rfl := keepS_some hk
      rw [henc]
      have hm : markedB b = true := (markedB_iff b).2 (by
        rcases hc with hc | hc
        · exact .inl (byte_eq (n := 34) (by decide) hc)
        · exact .inr (byte_eq (n := 92) (by decide) hc))
      refine ⟨⟨by simp, by simp, by simp, by simp⟩, fun hB => ?_, by simp [formS, escL_snoc, hm]⟩
      rcases hB with hB | ⟨_, hB⟩ | hB
      · exact .inl (hi_left hB)
      · exact .inr (.inl ⟨.inr (.inl rfl), hB⟩)
      · exact .inr (.inr hB)
    · cases h'
  · have h' : (if (b.toNat : Int) = 44 then some (1, wd, ln, sn, ls) else if (b.toNat : Int) = 125 then some (6, wd, ln, sn, ls) else none) = some st' := h
    obtain ⟨rfl, hne⟩ := w5 (.inl rfl)
    split at h'
    · rename_i hc
      obtain rfl : b = 44 := byte_eq (n := 44) (by decide) hc
      obtain rfl := Option.some.inj h'
      have hl : ls.length ≠ 0 := fun e => hne (List.length_eq_zero_iff.1 e)
      refine ⟨⟨by simp, by simp, by simp, by simp⟩, fun hB => ?_, by simp [formS, sepL, hl]⟩
      rcases hB with hB | ⟨hp, _⟩ | hB
      · exact .inl hB
      · omega
      · exact .inr (.inr hB)
    · split at h'
      · rename_i hc
        obtain rfl : b = 125 := byte_eq (n := 125) (by decide) hc
        obtain rfl := Option.some.inj h'
        refine ⟨⟨by simp, by simp, fun _ => ⟨rfl, hne⟩, by simp⟩, fun hB => ?_, by simp [formS]⟩
        rcases hB with hB | ⟨hp, _⟩ | hB
        · exact .inl hB
        · omega
        · exact .inr (.inr hB)
      · cases h'
  · have h' : (none : Option St) = some st' := h
    cases h'
theorem step_high {p : Nat} {wd : List UInt8} {ln sn : ByteArray} {ls : List Lab} {r : Int} (hr : 128 ≤ r) {st' : St} (hw : wfS p wd sn ls) (h : stepS (p, wd, ln, sn, ls) r = some st') :
    wfS st'.1 st'.2.1 st'.2.2.2.1 st'.2.2.2.2 ∧ badS st'.1 st'.2.1 st'.2.2.1 st'.2.2.2.1 st'.2.2.2.2 := by
  have henc := enc_hi r hr
  obtain ⟨w0, w2, w5, w6⟩ := hw
  have n1 : ¬ r = 123 := by omega
  have n2 : ¬ r = 61 := by omega
  have n3 : ¬ r = 34 := by omega
  have n4 : ¬ r = 92 := by omega
  have n5 : ¬ r = 44 := by omega
  have n6 : ¬ r = 125 := by omega
  have hp : p = 0 ∨ p = 1 ∨ p = 2 ∨ p = 3 ∨ p = 4 ∨ p = 5 ∨ p = 6 := by omega
  rcases hp with rfl | rfl | rfl | rfl | rfl | rfl | rfl
  · have h' : (if r = 123 then some (1, [], ln, baL wd, ls) else keepS r (0, wd, ln, sn, ls)) = some st' := h
    rw [if_neg n1] at h'
    obtain rfl := keepS_some h'
    exact ⟨⟨fun _ => w0 rfl, by simp, by simp, by simp⟩, .inl (hi_right henc)⟩
  · have h' : (if r = 61 then some (2, [], baL wd, sn, ls) else keepS r (1, wd, ln, sn, ls)) = some st' := h
    rw [if_neg n2] at h'
    obtain rfl := keepS_some h'
    exact ⟨⟨by simp, by simp, by simp, by simp⟩, .inl (hi_right henc)⟩
  · have h' : (if r = 34 then some (3, wd, ln, sn, ls) else none) = some st' := h
    rw [if_neg n3] at h'
    cases h'
  · have h' : (if r = 92 then some (4, wd, ln, sn, ls) else if r = 34 then (if ls.length + 1 ≤ 4 then some (5, [], ln, sn, ls ++ [(ln, baL wd)]) else none) else keepS r (3, wd, ln, sn, ls)) = some st' := h
    rw [if_neg n4, if_neg n3] at h'
    obtain rfl := keepS_some h'
    exact ⟨⟨by simp, by simp, by simp, by simp⟩, .inl (hi_right henc)⟩
  · have h' : (if r = 34 ∨ r = 92 then (keepS r (4, wd, ln, sn, ls)).map fun s => (3, s.2) else none) = some st' := h
    rw [if_neg (by omega)] at h'
    cases h'
  · have h' : (if r = 44 then some (1, wd, ln, sn, ls) else if r = 125 then some (6, wd, ln, sn, ls) else none) = some st' := h
    rw [if_neg n5, if_neg n6] at h'
    cases h'
  · have h' : (none : Option St) = some st' := h
    cases h'
theorem run_back (s : ByteArray) : ∀ (f pos p : Nat) (wd : List UInt8) (ln sn : ByteArray) (ls : List Lab) (st' : St), wfS p wd sn ls → (badS p wd ln sn ls ∨ (formS p wd ln sn ls = (sg s).take pos ∧ pos ≤ s.size)) → s.size ≤ pos + f → runS s f pos (p, wd, ln, sn, ls) = some st' →
    wfS st'.1 st'.2.1 st'.2.2.2.1 st'.2.2.2.2 ∧ (badS st'.1 st'.2.1 st'.2.2.1 st'.2.2.2.1 st'.2.2.2.2 ∨ formS st'.1 st'.2.1 st'.2.2.1 st'.2.2.2.1 st'.2.2.2.2 = sg s) := by
  intro f
  induction f with
  | zero =>
    intro pos p wd ln sn ls st' hw hB hf h
    obtain rfl := Option.some.inj h
    refine ⟨hw, hB.imp_right fun h => ?_⟩
    rw [h.1, List.take_of_length_le (by rw [sg_length]; omega)]
  | succ f ih =>
    intro pos p wd ln sn ls st' hw hB hf h
    by_cases hlt : pos < s.size
    · have h' : (stepS (p, wd, ln, sn, ls) ((Utf8.decode s pos).1 : Int)).bind (runS s f (pos + (Utf8.decode s pos).2)) = some st' := by
        have : runS s (f + 1) pos (p, wd, ln, sn, ls) = if pos < s.size then (stepS (p, wd, ln, sn, ls) ((Utf8.decode s pos).1 : Int)).bind (runS s f (pos + (Utf8.decode s pos).2)) else some (p, wd, ln, sn, ls) := rfl
        rw [this, if_pos hlt] at h
        exact h
      have hwp := width_pos s pos hlt
      cases hst : stepS (p, wd, ln, sn, ls) ((Utf8.decode s pos).1 : Int) with
      | none => rw [hst] at h'; cases h'
      | some st1 =>
        rw [hst] at h'
        obtain ⟨p1, wd1, ln1, sn1, ls1⟩ := st1
        have h2 : runS s f (pos + (Utf8.decode s pos).2) (p1, wd1, ln1, sn1, ls1) = some st' := h'
        by_cases ha : (s[pos]'hlt).toNat < 128
        · rw [decode_ascii s pos hlt ha] at hst h2
          obtain ⟨a1, a2, a3⟩ := step_ascii ha hw hst
          refine ih (pos + 1) p1 wd1 ln1 sn1 ls1 st' a1 ?_ (by omega) h2
          rcases hB with hB | ⟨hF, _⟩
          · exact .inl (a2 hB)
          · right
            refine ⟨?_, by omega⟩
            have a3' : formS p1 wd1 ln1 sn1 ls1 = formS p wd ln sn ls ++ [s[pos]] := a3
            rw [a3', hF, sg_take s pos hlt]
        · obtain ⟨hd, _⟩ := decode_high s pos hlt (by omega)
          obtain ⟨a1, a2⟩ := step_high (r := ((Utf8.decode s pos).1 : Int)) (by omega) hw hst
          exact ih _ p1 wd1 ln1 sn1 ls1 st' a1 (.inl a2) (by omega) h2
    · rw [runS_end _ _ _ _ hlt] at h
      obtain rfl := Option.some.inj h
      refine ⟨hw, hB.imp_right fun h => ?_⟩
      rw [h.1, List.take_of_length_le (by rw [sg_length]; omega)]
theorem name_low {l : List UInt8} (h : nameL l = true) : ¬ hiL l := fun ⟨b, hb, hh⟩ => by
  have := (nameL_all h).1 b hb
  simp [nameSign] at this
  omega
theorem val_low {l : List UInt8} (h : valL l = true) : ¬ hiL l := fun ⟨b, hb, hh⟩ => by
  have := (valL_all h).1 b hb
  simp [valSign] at this
  omega
theorem parses_back {s nm : ByteArray} {ls : List Lab} (h : ParsesTo s nm ls) : ∃ U, ls.Perm U ∧ sg s = textL nm U ∧ SortedL ls ∧ MayS nm ls := by
  obtain ⟨st, h1, h2, h3, h4, h5, h6⟩ := h
  obtain ⟨p, wd, ln, sn, U⟩ := st
  have hw0 : wfS 0 [] ⟨#[]⟩ [] := ⟨by simp, by simp, by simp, by simp⟩
  have hf0 : formS 0 [] ⟨#[]⟩ ⟨#[]⟩ [] = (sg s).take 0 := by simp [formS]
  obtain ⟨a1, a2⟩ := run_back s s.size 0 0 [] ⟨#[]⟩ ⟨#[]⟩ [] _ hw0 (.inr ⟨hf0, Nat.zero_le _⟩) (by omega) h1
  obtain ⟨w0, w2, w5, w6⟩ := a1
  simp only at w0 w2 w5 w6 a2
  by_cases hp : p = 0
  · subst hp
    obtain ⟨rfl, rfl⟩ := w0 rfl
    have e : endS (0, wd, ln, ⟨#[]⟩, []) = (6, [], ln, baL wd, []) := rfl
    rw [e] at h3 h4
    simp only at h3 h4
    subst h3
    refine ⟨[], h4, ?_, h5, h6⟩
    rw [textL_nil, sg_baL]
    have hn := name_low h6.1
    rw [sg_baL] at hn
    rcases a2 with hB | hF
    · rcases hB with hB | ⟨hp, _⟩ | hB | ⟨x, hx, _⟩
      · exact absurd hB hn
      · omega
      · exact absurd hB not_hi_nil
      · cases hx
    · exact hF.symm
  · have e : endS (p, wd, ln, sn, U) = (p, wd, ln, sn, U) := if_neg hp
    rw [e] at h2 h3 h4
    simp only at h2 h3 h4
    subst h2 h3
    obtain ⟨rfl, hne⟩ := w5 (.inr rfl)
    refine ⟨U, h4, ?_, h5, h6⟩
    have hU := okU_of h6 h4
    rcases a2 with hB | hF
    · rcases hB with hB | ⟨hp, _⟩ | hB | ⟨x, hx, hB⟩
      · exact absurd hB not_hi_nil
      · omega
      · exact absurd hB (name_low h6.1)
      · obtain ⟨b1, b2⟩ := okU_mem hU hx
        rcases hB with hB | hB
        · exact absurd hB (name_low b1)
        · exact absurd hB (val_low b2)
    · have hl : ¬ U.length = 0 := fun e => hne (List.length_eq_zero_iff.1 e)
      rw [← hF]
      simp [formS, textL, hl]
theorem parses_refP {s nm : ByteArray} {ls : List Lab} (h : ParsesTo s nm ls) : refP (sg s) = some (nm, ls) := by
  obtain ⟨U, h1, h2, h3, h4⟩ := parses_back h
  have hU := okU_of h4 h1
  rw [h2, refP_to (name_not hU.1).2 hU.2.1 (fun y hy => (name_not (okU_mem hU hy).1).1)]
  have hp : (U.foldl insP []).Perm U := by simpa using foldl_perm U []
  have := uniq (h1.trans hp.symm) (may_pair h4) (foldl_pair U [] List.Pairwise.nil)
  rw [this]
end Go.Proofs.Ytnjbpiekbekpeaa
