/-
  The theorem of weights, plainly.
  Where groups stand by the common rule, plainly: no Go in sight.
  Who is drawn, chosen and told, plainly; no two of one zone.
-/
import Derived.Test.YtcncbjknfcjnmaaGreatPr05
import Derived.Test.YtcncbjknfcjnmaaGreatPr10
namespace Go.Proofs.YtcncbjknfcjnmaaGreat.Tp
open Go.ChangeShapes Go.WideShapes Go.ChangeAt Go.RowKit
def wsum : List Nd -> Int
 | [] => 0
 | x :: l => wtN x + wsum l
def getW : List Ld -> Int -> Int -> Int
 | [],_,_ => 0
 | c :: L,p,q => if c.1 = p /\ c.2.1 = q then c.2.2 else getW L p q
theorem getW_same (L : List Ld) (p q v : Int) : getW (putL L p q v) p q = getW L p q + v := by
 induction L with
 | nil => simp [putL,getW]
 | cons c L ih =>
  unfold putL
  by_cases h : c.1 = p /\ c.2.1 = q
  ·rw [if_pos h]
   simp only [getW,and_self,if_true,if_pos h]
  ·rw [if_neg h]
   simp only [getW,if_neg h]
   exact ih
theorem getW_other (L : List Ld) (p q v r s : Int) (h : ¬ (p = r /\ q = s)) : getW (putL L p q v) r s = getW L r s := by
 induction L with
 | nil => simp only [putL,getW,if_neg h]
 | cons c L ih =>
  unfold putL
  by_cases h1 : c.1 = p /\ c.2.1 = q
  ·rw [if_pos h1]
   have h2 : ¬ (c.1 = r /\ c.2.1 = s) := fun h3 => h ⟨h1.1.symm.trans h3.1,h1.2.symm.trans h3.2⟩
   simp only [getW,if_neg h,if_neg h2]
  ·rw [if_neg h1]
   by_cases h2 : c.1 = r /\ c.2.1 = s
   ·simp only [getW,if_pos h2]
   ·simp only [getW,if_neg h2]
    exact ih
theorem fold_get (f : Nd -> Int × Int) (p q : Int) (l : List Nd) : ∀ L,getW (l.foldl (stepL f) L) p q = getW L p q + wsum (l.filter fun x => decide ((f x).1 = p /\ (f x).2 = q)) := by
 induction l with
 | nil => intro L; simp [wsum]
 | cons x l ih =>
  intro L
  rw [List.foldl_cons,ih,stepL]
  by_cases h : (f x).1 = p /\ (f x).2 = q
  ·rw [List.filter_cons_of_pos (by simpa using h)]
   have := getW_same L (f x).1 (f x).2 (wtN x)
   rw [h.1,h.2] at this
   rw [h.1,h.2,this]
   simp only [wsum]
   omega
  ·rw [List.filter_cons_of_neg (by simpa using h),getW_other _ _ _ _ _ _ h]
def Once (L : List Ld) : Prop := L.Pairwise fun c d => ¬ (c.1 = d.1 /\ c.2.1 = d.2.1)
theorem putL_mem {L : List Ld} {p q v : Int} {c : Ld} (h : c ∈ putL L p q v) : (c.1 = p /\ c.2.1 = q) ∨ c ∈ L := by
 induction L with
 | nil => simp [putL] at h; subst h; exact .inl ⟨rfl,rfl⟩
 | cons d L ih =>
  unfold putL at h
  split at h
  ·rcases List.mem_cons.1 h with rfl | h
   ·exact .inl ⟨rfl,rfl⟩
   ·exact .inr (List.mem_cons_of_mem _ h)
  ·rcases List.mem_cons.1 h with rfl | h
   ·exact .inr (by simp)
   ·rcases ih h with h | h
    ·exact .inl h
    ·exact .inr (List.mem_cons_of_mem _ h)
theorem putL_once {L : List Ld} {p q v : Int} (h : Once L) : Once (putL L p q v) := by
 induction L with
 | nil => simp [putL,Once]
 | cons d L ih =>
  obtain ⟨h1,h2⟩ := List.pairwise_cons.1 h
  unfold putL
  split
  ·rename_i hd
   refine List.pairwise_cons.2 ⟨fun c hc => ?_,h2⟩
   have := h1 c hc
   rw [hd.1,hd.2] at this
   exact this
  ·rename_i hd
   refine List.pairwise_cons.2 ⟨fun c hc => ?_,ih h2⟩
   rcases putL_mem hc with h | h
   ·rw [h.1,h.2]; exact hd
   ·exact h1 c h
theorem fold_once (f : Nd -> Int × Int) (l : List Nd) : ∀ L,Once L -> Once (l.foldl (stepL f) L) := by
 induction l with
 | nil => intro L h; exact h
 | cons x l ih => intro L h; rw [List.foldl_cons]; exact ih _ (putL_once h)
theorem fold_mem (f : Nd -> Int × Int) (l : List Nd) : ∀ L c,c ∈ l.foldl (stepL f) L -> c ∈ L ∨ ∃ x ∈ l,(f x).1 = c.1 /\ (f x).2 = c.2.1 := by
 induction l with
 | nil => intro L c h; exact .inl h
 | cons x l ih =>
  intro L c h
  rw [List.foldl_cons] at h
  rcases ih _ c h with h | ⟨y,hy,h⟩
  ·rcases putL_mem h with h | h
   ·exact .inr ⟨x,by simp,h.1.symm,h.2.symm⟩
   ·exact .inl h
  ·exact .inr ⟨y,by simp [hy],h⟩
theorem once_get {L : List Ld} (h : Once L) {c : Ld} (hc : c ∈ L) : getW L c.1 c.2.1 = c.2.2 := by
 induction L with
 | nil => simp at hc
 | cons d L ih =>
  obtain ⟨h1,h2⟩ := List.pairwise_cons.1 h
  rcases List.mem_cons.1 hc with rfl | hc
  ·simp [getW]
  ·have := h1 c hc
   simp only [getW,if_neg this]
   exact ih h2 hc
theorem may_in {ls : List Nd} (h : MayN ls) : ∀ x ∈ ls,InN x := fun x hx => by
 obtain ⟨i,hi,rfl⟩ := List.getElem_of_mem hx
 have := (h.2 i hi).1
 rw [getN_get hi] at this
 exact this
theorem may_rise {ls : List Nd} (h : MayN ls) : ls.Pairwise fun x y => x.id < y.id := by
 rw [List.pairwise_iff_getElem]
 intro i j hi hj hij
 obtain ⟨d,rfl⟩ : ∃ d,j = i + 1 + d := ⟨j - (i + 1),by omega⟩
 clear hij
 induction d with
 | zero =>
  have := (h.2 (i + 1) hj).2 (by omega)
  rw [Nat.add_sub_cancel,getN_get hi,getN_get hj] at this
  exact this
 | succ d ih =>
  have h1 := ih (by omega)
  have := (h.2 (i + 1 + (d + 1)) hj).2 (by omega)
  rw [show i + 1 + (d + 1) - 1 = i + 1 + d by omega,getN_get (show i + 1 + d < ls.length by omega),getN_get hj] at this
  exact Int.lt_trans h1 this
end Go.Proofs.YtcncbjknfcjnmaaGreat.Tp
namespace Go.Proofs.YtcncbjknfcjnmaaGreat
open Tp
abbrev Sp := Int × Int × Int
def sumAt (g : Nd -> Int) (ls : List Nd) (id : Int) : Int := min (wsum (ls.filter fun x => decide (g x = id))) 65536
def upTo (g : Nd -> Int) (ls : List Nd) : Nat -> List Ch
 | 0 => []
 | k + 1 => if ls.any (fun x => decide (g x = ((k + 1 : Nat) : Int))) then upTo g ls k ++ [(((k + 1 : Nat) : Int),sumAt g ls ((k + 1 : Nat) : Int))] else upTo g ls k
def sumF (g : Nd -> Int) (ls : List Nd) : List Ch := upTo g ls 999
theorem mem_upTo (g : Nd -> Int) (ls : List Nd) (c : Ch) : ∀ k,c ∈ upTo g ls k ↔ (1 <= c.1 /\ c.1 <= (k : Int)) /\ (∃ x ∈ ls,g x = c.1) /\ c.2 = sumAt g ls c.1 := by
 intro k
 induction k with
 | zero => simp [upTo]; omega
 | succ k ih =>
  unfold upTo
  by_cases h : ls.any (fun x => decide (g x = ((k + 1 : Nat) : Int))) = true
  ·rw [if_pos h,List.mem_append,ih]
   simp only [List.any_eq_true,decide_eq_true_eq] at h
   constructor
   ·rintro (⟨⟨h1,h2⟩,h3,h4⟩ | h1)
    ·exact ⟨⟨h1,by omega⟩,h3,h4⟩
    ·obtain rfl := List.mem_singleton.1 h1
     exact ⟨⟨by show (1 : Int) <= ((k + 1 : Nat) : Int); omega,Int.le_refl _⟩,h,rfl⟩
   ·rintro ⟨⟨h1,h2⟩,h3,h4⟩
    by_cases e : c.1 = ((k + 1 : Nat) : Int)
    ·right
     obtain ⟨c1,c2⟩ := c
     simp only at e h4
     subst e
     subst h4
     simp
    ·exact .inl ⟨⟨h1,by omega⟩,h3,h4⟩
  ·rw [if_neg h,ih]
   simp only [List.any_eq_true,decide_eq_true_eq] at h
   constructor
   ·rintro ⟨⟨h1,h2⟩,h3,h4⟩
    exact ⟨⟨h1,by omega⟩,h3,h4⟩
   ·rintro ⟨⟨h1,h2⟩,⟨x,hx,hgx⟩,h4⟩
    have e : c.1 ≠ ((k + 1 : Nat) : Int) := fun e => h ⟨x,hx,hgx.trans e⟩
    exact ⟨⟨h1,by omega⟩,⟨x,hx,hgx⟩,h4⟩
theorem rise_upTo (g : Nd -> Int) (ls : List Nd) : ∀ k,Dr.Rise (upTo g ls k) := by
 intro k
 induction k with
 | zero => exact List.Pairwise.nil
 | succ k ih =>
  unfold upTo
  split
  ·refine List.pairwise_append.2 ⟨ih,by simp,fun a ha b hb => ?_⟩
   obtain rfl := List.mem_singleton.1 hb
   have := ((mem_upTo g ls a k).1 ha).1.2
   show a.1 < ((k + 1 : Nat) : Int)
   omega
  ·exact ih
theorem rise_ext {l r : List Ch} (hl : Dr.Rise l) (hr : Dr.Rise r) (h : ∀ c,c ∈ l ↔ c ∈ r) : l = r := by
 induction l generalizing r with
 | nil =>
  cases r with
  | nil => rfl
  | cons d r => exact absurd ((h d).2 (by simp)) (by simp)
 | cons c l ih =>
  cases r with
  | nil => exact absurd ((h c).1 (by simp)) (by simp)
  | cons d r =>
   obtain ⟨hc,hl'⟩ := List.pairwise_cons.1 hl
   obtain ⟨hd,hr'⟩ := List.pairwise_cons.1 hr
   have e : c = d := by
    rcases List.mem_cons.1 ((h c).1 (by simp)) with e | h1
    ·exact e
    ·rcases List.mem_cons.1 ((h d).2 (by simp)) with e | h2
     ·exact e.symm
     ·have h3 := hd c h1
      have h4 := hc d h2
      omega
   subst e
   congr 1
   refine ih hl' hr' fun x => ?_
   have hx := h x
   simp only [List.mem_cons] at hx
   constructor
   ·intro h1
    rcases hx.1 (.inr h1) with rfl | h2
    ·exact absurd (hc x h1) (by omega)
    ·exact h2
   ·intro h1
    rcases hx.2 (.inr h1) with rfl | h2
    ·exact absurd (hd x h1) (by omega)
    ·exact h2
theorem upTo_len (g : Nd -> Int) (ls : List Nd) : ∀ k,(upTo g ls k).length <= ls.countP (fun x => decide (1 <= g x /\ g x <= (k : Int))) := by
 intro k
 induction k with
 | zero => simp [upTo]
 | succ k ih =>
  have hs : ls.countP (fun x => decide (1 <= g x /\ g x <= ((k + 1 : Nat) : Int))) = ls.countP (fun x => decide (1 <= g x /\ g x <= (k : Int))) + ls.countP (fun x => decide (g x = ((k + 1 : Nat) : Int))) := by
   clear ih
   induction ls with
   | nil => rfl
   | cons x ls ihl =>
    simp only [List.countP_cons]
    rw [ihl]
    by_cases h1 : g x = ((k + 1 : Nat) : Int)
    ·have a1 : 1 <= g x /\ g x <= ((k + 1 : Nat) : Int) := by omega
     have a2 : ¬ (1 <= g x /\ g x <= (k : Int)) := by omega
     rw [decide_eq_true a1,decide_eq_false a2,decide_eq_true h1]
     simp only [if_true,Bool.false_eq_true,if_false]
     omega
    ·by_cases h2 : 1 <= g x /\ g x <= (k : Int)
     ·have a1 : 1 <= g x /\ g x <= ((k + 1 : Nat) : Int) := by omega
      rw [decide_eq_true a1,decide_eq_true h2,decide_eq_false h1]
      simp only [if_true,Bool.false_eq_true,if_false]
      omega
     ·have a1 : ¬ (1 <= g x /\ g x <= ((k + 1 : Nat) : Int)) := by omega
      rw [decide_eq_false a1,decide_eq_false h2,decide_eq_false h1]
      simp only [Bool.false_eq_true,if_false]
      omega
  rw [hs]
  unfold upTo
  split
  ·rename_i h
   have : 0 < ls.countP (fun x => decide (g x = ((k + 1 : Nat) : Int))) := by
    rw [List.countP_pos_iff]
    simpa using h
   rw [List.length_append,List.length_singleton]
   omega
  ·omega
theorem sumF_len (g : Nd -> Int) (ls : List Nd) : (sumF g ls).length <= ls.length := Nat.le_trans (upTo_len g ls 999) (List.countP_le_length)
theorem wsum_nn {l : List Nd} (h : ∀ x ∈ l,InN x) : 0 <= wsum l := by
 induction l with
 | nil => exact Int.le_refl _
 | cons x l ih =>
  have h1 := (wtN_bd (h x (by simp))).1
  have h2 := ih fun y hy => h y (by simp [hy])
  simp only [wsum]
  omega
theorem sumAt_bd {g : Nd -> Int} {ls : List Nd} (hM : MayN ls) (id : Int) : 0 <= sumAt g ls id /\ sumAt g ls id <= 65536 := by
 have h := wsum_nn (l := ls.filter fun x => decide (g x = id)) fun x hx => may_in hM x (List.mem_filter.1 hx).1
 unfold sumAt
 omega
theorem sumF_may {g : Nd -> Int} {ls : List Nd} (hM : MayN ls) : Dr.MayC (sumF g ls) := by
 rw [Dr.may_iff]
 refine ⟨Nat.le_trans (sumF_len g ls) (Nat.le_trans hM.1 (by decide)),fun c hc => ?_,rise_upTo g ls 999⟩
 obtain ⟨⟨h1,h2⟩,_,h4⟩ := (mem_upTo g ls c 999).1 hc
 have := sumAt_bd (g := g) hM c.1
 refine ⟨by omega,by omega,by omega,by omega⟩
theorem putL_keep {L : List Ld} {p q v : Int} {a b : Int} (h : ∃ d ∈ L,d.1 = a /\ d.2.1 = b) : ∃ d ∈ putL L p q v,d.1 = a /\ d.2.1 = b := by
 induction L with
 | nil => simp at h
 | cons c L ih =>
  obtain ⟨d,hd,h1,h2⟩ := h
  unfold putL
  split
  ·rename_i he
   rcases List.mem_cons.1 hd with rfl | hd
   ·exact ⟨(p,q,d.2.2 + v),by simp,by rw [<- h1]; exact he.1.symm,by rw [<- h2]; exact he.2.symm⟩
   ·exact ⟨d,by simp [hd],h1,h2⟩
  ·rcases List.mem_cons.1 hd with rfl | hd
   ·exact ⟨d,by simp,h1,h2⟩
   ·obtain ⟨d',h3,h4⟩ := ih ⟨d,hd,h1,h2⟩
    exact ⟨d',by simp [h3],h4⟩
theorem putL_new (L : List Ld) (p q v : Int) : ∃ d ∈ putL L p q v,d.1 = p /\ d.2.1 = q := by
 induction L with
 | nil => exact ⟨(p,q,v),by simp [putL],rfl,rfl⟩
 | cons c L ih =>
  unfold putL
  split
  ·exact ⟨(p,q,c.2.2 + v),by simp,rfl,rfl⟩
  ·obtain ⟨d,h3,h4⟩ := ih
   exact ⟨d,by simp [h3],h4⟩
theorem fold_keep (f : Nd -> Int × Int) (l : List Nd) : ∀ (L : List Ld) (a b : Int),(∃ d ∈ L,d.1 = a /\ d.2.1 = b) -> ∃ d ∈ l.foldl (stepL f) L,d.1 = a /\ d.2.1 = b := by
 induction l with
 | nil => intro L a b h; exact h
 | cons x l ih => intro L a b h; rw [List.foldl_cons]; exact ih _ a b (putL_keep h)
theorem fold_new (f : Nd -> Int × Int) (l : List Nd) : ∀ (L : List Ld) (x : Nd),x ∈ l -> ∃ d ∈ l.foldl (stepL f) L,d.1 = (f x).1 /\ d.2.1 = (f x).2 := by
 induction l with
 | nil => intro L x h; simp at h
 | cons y l ih =>
  intro L x h
  rw [List.foldl_cons]
  rcases List.mem_cons.1 h with rfl | h
  ·exact fold_keep f l _ _ _ (putL_new _ _ _ _)
  ·exact ih _ x h
theorem sorted_rise {L : List Ld} (hs : SortedL L) (ho : Once L) (hd : ∀ c ∈ L,∀ d ∈ L,c.1 = d.1 -> c.2.1 = d.2.1) : Dr.Rise (L.map told) := by
 unfold Dr.Rise
 rw [List.pairwise_map,List.pairwise_iff_getElem]
 intro i j hi hj hij
 show L[i].1 < L[j].1
 have h1 := hs i j hij hj
 rw [show L.getD j ld0 = L[j] by simp [hj],show L.getD i ld0 = L[i] by simp [hi]] at h1
 have h2 := (List.pairwise_iff_getElem.1 ho) i j hi hj hij
 have h3 := hd L[i] (List.getElem_mem hi) L[j] (List.getElem_mem hj)
 unfold ltL at h1
 have h4 : ¬ L[j].1 < L[i].1 := fun h => h1 (.inl h)
 have h5 : L[i].1 ≠ L[j].1 := fun h => h2 ⟨h,h3 h⟩
 omega
theorem weigh_sum {f : Nd -> Int × Int} {g : Nd -> Int} {zone rack : Int} {ls : List Nd} {Z : List Ch} (hM : MayN ls) (h : WeighIs f zone rack ls Z)
  (hg : ∀ x ∈ ls,∀ id,1 <= id -> (g x = id ↔ (selN zone rack x = true /\ (f x).1 = id)))
  (hdet : ∀ x ∈ ls,∀ y ∈ ls,selN zone rack x = true -> selN zone rack y = true -> (f x).1 = (f y).1 -> (f x).2 = (f y).2)
  (hpos : ∀ x ∈ ls,1 <= (f x).1 /\ (f x).1 <= 999) : Z = sumF g ls := by
 have hex : ∃ L' : List Ld,L'.Perm (loadsF f zone rack ls) /\ SortedL L' /\ Z = L'.map told := by
  rcases h with ⟨_,L',hp,hs,e⟩ | ⟨h,_⟩
  ·exact ⟨L',hp,hs,e⟩
  ·exact absurd hM h
 obtain ⟨L',hp,hs,rfl⟩ := hex
 have ho : Once (loadsF f zone rack ls) := fold_once f _ [] (by simp [Once])
 have hmem : ∀ c ∈ loadsF f zone rack ls,∃ x ∈ ls,selN zone rack x = true /\ (f x).1 = c.1 /\ (f x).2 = c.2.1 := fun c hc => by
  rcases fold_mem f _ [] c hc with h | ⟨x,hx,h1,h2⟩
  ·simp at h
  ·obtain ⟨hx1,hx2⟩ := List.mem_filter.1 hx
   exact ⟨x,hx1,hx2,h1,h2⟩
 have hd : ∀ c ∈ loadsF f zone rack ls,∀ d ∈ loadsF f zone rack ls,c.1 = d.1 -> c.2.1 = d.2.1 := fun c hc d hd e => by
  obtain ⟨x,hx,sx,x1,x2⟩ := hmem c hc
  obtain ⟨y,hy,sy,y1,y2⟩ := hmem d hd
  have := hdet x hx y hy sx sy (by rw [x1,y1,e])
  rw [<- x2,<- y2,this]
 have hW : ∀ c ∈ loadsF f zone rack ls,c.2.2 = wsum (ls.filter fun x => decide (g x = c.1)) := fun c hc => by
  have h1 := once_get ho hc
  unfold loadsF at h1
  rw [fold_get] at h1
  rw [<- h1]
  simp only [getW,Int.zero_add]
  rw [List.filter_filter]
  congr 1
  apply List.filter_congr
  intro x hx
  obtain ⟨y,hy,sy,y1,y2⟩ := hmem c hc
  have hc1 : 1 <= c.1 := by rw [<- y1]; exact (hpos y hy).1
  have h2 := hg x hx c.1 hc1
  by_cases hgx : g x = c.1
  ·obtain ⟨a1,a2⟩ := h2.1 hgx
   have a3 : (f x).2 = c.2.1 := by rw [<- y2]; exact hdet x hx y hy a1 sy (by rw [a2,y1])
   simp [hgx,a1,a2,a3]
  ·have : ¬ (((f x).1 = c.1 /\ (f x).2 = c.2.1) /\ selN zone rack x = true) := fun h3 => hgx (h2.2 ⟨h3.2,h3.1.1⟩)
   have e2 : decide (g x = c.1) = false := decide_eq_false hgx
   rw [e2]
   cases hsx : selN zone rack x with
   | false => simp
   | true =>
    have : ¬ ((f x).1 = c.1 /\ (f x).2 = c.2.1) := fun h3 => this ⟨h3,hsx⟩
    simp [this]
 refine rise_ext (sorted_rise hs (hp.symm.pairwise ho fun {a b} h e => h ⟨e.1.symm,e.2.symm⟩) fun c hc d hd' => hd c (hp.mem_iff.1 hc) d (hp.mem_iff.1 hd')) (rise_upTo g ls 999) fun c => ?_
 show _ ↔ c ∈ upTo g ls 999
 rw [mem_upTo,List.mem_map]
 constructor
 ·rintro ⟨d,hd1,rfl⟩
  have hd2 := hp.mem_iff.1 hd1
  obtain ⟨x,hx,sx,x1,x2⟩ := hmem d hd2
  have hb := hpos x hx
  refine ⟨⟨by show 1 <= d.1; omega,by show d.1 <= ((999 : Nat) : Int); omega⟩,⟨x,hx,(hg x hx d.1 (by omega)).2 ⟨sx,x1⟩⟩,?_⟩
  show min d.2.2 65536 = min _ 65536
  rw [hW d hd2]
  rfl
 ·rintro ⟨⟨h1,h2⟩,⟨x,hx,hgx⟩,h4⟩
  obtain ⟨a1,a2⟩ := (hg x hx c.1 h1).1 hgx
  obtain ⟨d,hd1,hd2,_⟩ := fold_new f (ls.filter (selN zone rack)) [] x (List.mem_filter.2 ⟨hx,a1⟩)
  refine ⟨d,hp.mem_iff.2 hd1,?_⟩
  have hw := hW d hd1
  have e1 : d.1 = c.1 := hd2.trans a2
  obtain ⟨c1,c2⟩ := c
  simp only at h4 e1
  unfold told
  rw [hw,e1,h4]
  rfl
def zoneG (x : Nd) : Int := x.zone
def rackG (z : Int) (x : Nd) : Int := if x.zone = z then x.rack else 0
def leafG (z r : Int) (x : Nd) : Int := if selN z r x then x.id else 0
def zonesOf (ls : List Nd) : List Ch := sumF zoneG ls
def racksOf (ls : List Nd) (z : Int) : List Ch := sumF (rackG z) ls
def leavesOf (ls : List Nd) (z r : Int) : List Ch := sumF (leafG z r) ls
theorem zones_is {ls : List Nd} {Z : List Ch} (hM : MayN ls) (h : WeighIs zoneF 0 0 ls Z) : Z = zonesOf ls :=
 weigh_sum hM h (fun x _ id _ => by simp [zoneG,zoneF,selN,coversB]) (fun x _ y _ _ _ h => h) (fun x hx => by have := may_in hM x hx; exact ⟨this.2.1.1,by have := this.2.1.2; show x.zone <= 999; omega⟩)
theorem racks_is {ls : List Nd} {z : Int} {Z : List Ch} (hM : MayN ls) (hz : z ≠ 0) (h : WeighIs rackF z 0 ls Z) : Z = racksOf ls z := by
 have hs : ∀ x,selN z 0 x = true ↔ x.zone = z := fun x => by
  simp only [selN,coversB,Bool.and_eq_true,Bool.or_eq_true,beq_iff_eq]
  constructor
  ·rintro ⟨h | h,_⟩
   ·exact absurd h hz
   ·exact h.symm
  ·intro h; exact ⟨.inr h.symm,.inl trivial⟩
 refine weigh_sum hM h (fun x hx id hid => ?_) (fun x _ y _ hx hy _ => ((hs x).1 hx).trans ((hs y).1 hy).symm) (fun x hx => by have := (may_in hM x hx).2.2.1; exact ⟨this.1,by have := this.2; show x.rack <= 999; omega⟩)
 rw [hs]
 unfold rackG rackF
 by_cases h1 : x.zone = z
 ·simp [h1]
 ·simp [h1]; omega
theorem id_inj {ls : List Nd} (hM : MayN ls) {x y : Nd} (hx : x ∈ ls) (hy : y ∈ ls) (h : x.id = y.id) : x = y := by
 have hr := may_rise hM
 obtain ⟨i,hi,rfl⟩ := List.getElem_of_mem hx
 obtain ⟨j,hj,rfl⟩ := List.getElem_of_mem hy
 rw [List.pairwise_iff_getElem] at hr
 rcases Nat.lt_trichotomy i j with h1 | rfl | h1
 ·have := hr i j hi hj h1; omega
 ·rfl
 ·have := hr j i hj hi h1; omega
theorem leaves_is {ls : List Nd} {z r : Int} {Z : List Ch} (hM : MayN ls) (h : WeighIs leafF z r ls Z) : Z = leavesOf ls z r := by
 refine weigh_sum hM h (fun x hx id hid => ?_) (fun x hx y hy _ _ h => by rw [id_inj hM hx hy h]) (fun x hx => (may_in hM x hx).1)
 unfold leafG leafF
 by_cases h1 : selN z r x = true
 ·simp [h1]
 ·simp [h1]; omega
end Go.Proofs.YtcncbjknfcjnmaaGreat
namespace Go.Proofs.YtcncbjknfcjnmaaGreat
open Tp
theorem perm_out {L : List Dr.Ch} {a : Dr.Ch} (hr : Dr.Rise L) (ha : a ∈ L) : L.Perm (a :: L.filter fun c => decide (c.1 ≠ a.1)) := by
 induction L with
 | nil => simp at ha
 | cons c L ih =>
  obtain ⟨h1,h2⟩ := List.pairwise_cons.1 hr
  rcases List.mem_cons.1 ha with rfl | ha
  ·rw [List.filter_cons_of_neg (by simp),List.filter_eq_self.2 (fun d hd => by have := h1 d hd; simp; omega)]
  ·have := h1 a ha
   rw [List.filter_cons_of_pos (by simp; omega)]
   exact ((ih h2 ha).cons c).trans (List.Perm.swap a c _)
theorem heavy_filter (l : List Dr.Ch) (p : Dr.Ch -> Bool) : Dr.heavy (l.filter p) = (Dr.heavy l).filter p := by
 unfold Dr.heavy
 rw [List.filter_filter,List.filter_filter]
 apply List.filter_congr
 intro c _
 exact Bool.and_comm _ _
theorem sel_perm (cost : Int -> Int) : ∀ (n : Nat) (l : List Dr.Ch),Dr.Rise l -> (∀ c ∈ l,0 <= c.2) -> (Dr.heavy l).length <= n -> (Dr.selC cost n l).Perm ((Dr.heavy l).map (·.1)) := by
 intro n
 induction n with
 | zero =>
  intro l _ _ h
  have : Dr.heavy l = [] := List.length_eq_zero_iff.1 (by omega)
  rw [this,Dr.selC_zero]
  exact List.Perm.refl _
 | succ n ih =>
  intro l hr hw h
  have hb := Dr.bestC_is cost hr hw
  cases e : Dr.bestC cost l with
  | none =>
   rw [e] at hb
   rw [(Dr.isBest_nobody cost hw).1 hb,Dr.selC_none cost e]
   exact List.Perm.refl _
  | some a =>
   rw [e] at hb
   have ha := ((Dr.isBest_heavy cost).1 hb).1
   have hrh : Dr.Rise (Dr.heavy l) := Dr.rise_filter hr _
   have hp : (Dr.heavy l).Perm (a :: (Dr.heavy l).filter fun c => decide (c.1 ≠ a.1)) := perm_out hrh ha
   rw [Dr.selC_some cost e]
   have h1 := ih (l.filter fun c => decide (c.1 ≠ a.1)) (Dr.rise_filter hr _) (fun c hc => hw c (List.mem_filter.1 hc).1) (by
    rw [heavy_filter]
    have := hp.length_eq
    rw [List.length_cons] at this
    omega)
   rw [heavy_filter] at h1
   exact (h1.cons a.1).trans (hp.map (fun x : Dr.Ch => x.1)).symm
def ordF (key : Nat) (l : List Ch) : List Int := Dr.selC (Dr.costOf key) l.length l
theorem ord_perm (key : Nat) {l : List Ch} (hM : Dr.MayC l) : (ordF key l).Perm ((Dr.heavy l).map (·.1)) := sel_perm _ _ _ (Dr.may_rise hM) (Dr.may_w hM) (Dr.heavy_len l)
theorem ord_mem {key : Nat} {l : List Ch} (hM : Dr.MayC l) {id : Int} : id ∈ ordF key l ↔ ∃ c ∈ l,0 < c.2 /\ c.1 = id := by
 rw [(ord_perm key hM).mem_iff,List.mem_map]
 constructor
 ·rintro ⟨c,hc,rfl⟩
  exact ⟨c,(Dr.heavy_mem.1 hc).1,(Dr.heavy_mem.1 hc).2,rfl⟩
 ·rintro ⟨c,hc,h,rfl⟩
  exact ⟨c,Dr.heavy_mem.2 ⟨hc,h⟩,rfl⟩
theorem ord_nodup (key : Nat) {l : List Ch} (hM : Dr.MayC l) : (ordF key l).Nodup := by
 refine (ord_perm key hM).nodup_iff.2 ?_
 unfold List.Nodup
 rw [List.pairwise_map]
 have h : Dr.Rise (Dr.heavy l) := Dr.rise_filter (Dr.may_rise hM) _
 exact h.imp fun {a b} h e => by omega
theorem ord_some {key : Nat} {l : List Ch} (hM : Dr.MayC l) (h : ∃ c ∈ l,0 < c.2) : ∃ c ∈ l,0 < c.2 /\ (ordF key l).take 1 = [c.1] := by
 cases e : ordF key l with
 | nil =>
  obtain ⟨c,hc,h0⟩ := h
  have : c.1 ∈ ordF key l := (ord_mem hM).2 ⟨c,hc,h0,rfl⟩
  rw [e] at this
  simp at this
 | cons i s =>
  obtain ⟨c,hc,h0,rfl⟩ := (ord_mem (key := key) hM).1 (by rw [e]; simp : i ∈ ordF key l)
  exact ⟨c,hc,h0,rfl⟩
def keyOf (g lev z r : Int) : Nat := Dr.foldN (Dr.bitsOf g) [Dr.bitsOf lev,Dr.bitsOf z,Dr.bitsOf r]
theorem keyOf_lt (g lev z r : Int) : keyOf g lev z r < 18446744073709551616 := Dr.foldN_lt _ _
def childrenOf (ls : List Nd) (lev z r : Int) : List Ch := if lev = 1 then zonesOf ls else if lev = 2 then racksOf ls z else leavesOf ls z r
def childOf (x : Sp) (lev id : Int) : Sp := if lev = 1 then (id,x.2.1,x.2.2) else if lev = 2 then (x.1,id,x.2.2) else (x.1,x.2.1,id)
theorem children_may {ls : List Nd} (hM : MayN ls) (lev z r : Int) : Dr.MayC (childrenOf ls lev z r) := by
 unfold childrenOf
 split
 ·exact sumF_may hM
 ·split
  ·exact sumF_may hM
  ·exact sumF_may hM
def idsOf (ls : List Nd) (g lev : Int) (n : Nat) (x : Sp) : List Int := (ordF (keyOf g lev x.1 x.2.1) (childrenOf ls lev x.1 x.2.1)).take n
def chosen1 (ls : List Nd) (g lev : Int) (n : Nat) (x : Sp) : List Sp := (idsOf ls g lev n x).map (childOf x lev)
def chooseP (ls : List Nd) (g lev : Int) (n : Nat) (H : List Sp) : List Sp := H.flatMap (chosen1 ls g lev n)
def emit1 (size : Nat) (out : List Int) (x : Sp) : List Int := if out.length < size /\ x.2.2 ∉ out then out ++ [x.2.2] else out
def emitP (size : Nat) (out : List Int) (H : List Sp) : List Int := H.foldl (emit1 size) out
def hand1 (ls : List Nd) (g : Int) (size : Nat) : List Sp := chooseP ls g 1 size [(0,0,0)]
def hand2 (ls : List Nd) (g : Int) (size : Nat) : List Sp := chooseP ls g 2 1 (hand1 ls g size)
def hand3 (ls : List Nd) (g : Int) (size : Nat) : List Sp := chooseP ls g 3 1 (hand2 ls g size)
def ofP (ls : List Nd) (g : Int) (size : Nat) : List Int := emitP size [] (hand3 ls g size)
def zsOf (ls : List Nd) (g : Int) (size : Nat) : List Int := (ordF (keyOf g 1 0 0) (zonesOf ls)).take size
def pk (ls : List Nd) (g z : Int) : Int := (((chooseP ls g 3 1 (chosen1 ls g 2 1 (z,0,0))).headD (0,0,0)).2.2)
theorem wsum_pos {l : List Nd} (hI : ∀ x ∈ l,InN x) (h : 0 < wsum l) : ∃ x ∈ l,0 < wtN x := by
 induction l with
 | nil => simp [wsum] at h
 | cons x l ih =>
  by_cases hx : 0 < wtN x
  ·exact ⟨x,by simp,hx⟩
  ·have h1 := (wtN_bd (hI x (by simp))).1
   obtain ⟨y,hy,h2⟩ := ih (fun y hy => hI y (by simp [hy])) (by simp only [wsum] at h; omega)
   exact ⟨y,by simp [hy],h2⟩
theorem wsum_ge {l : List Nd} (hI : ∀ x ∈ l,InN x) {x : Nd} (hx : x ∈ l) : wtN x <= wsum l := by
 induction l with
 | nil => simp at hx
 | cons y l ih =>
  have h1 := (wtN_bd (hI y (by simp))).1
  have h2 := wsum_nn (l := l) fun z hz => hI z (by simp [hz])
  simp only [wsum]
  rcases List.mem_cons.1 hx with rfl | hx
  ·omega
  ·have := ih (fun z hz => hI z (by simp [hz])) hx
   omega
theorem wt_node {x : Nd} (h : 0 < wtN x) : x.inn = true /\ 0 < x.weight := by
 unfold wtN at h
 split at h
 ·rename_i h1; exact ⟨h1,h⟩
 ·omega
theorem sum_heavy {g : Nd -> Int} {ls : List Nd} (hM : MayN ls) {c : Ch} (hc : c ∈ sumF g ls) (h : 0 < c.2) : ∃ x ∈ ls,g x = c.1 /\ 0 < wtN x := by
 obtain ⟨_,_,h2⟩ := (mem_upTo g ls c 999).1 hc
 have h3 : 0 < wsum (ls.filter fun x => decide (g x = c.1)) := by unfold sumAt at h2; omega
 obtain ⟨x,hx,h4⟩ := wsum_pos (fun x hx => may_in hM x (List.mem_filter.1 hx).1) h3
 obtain ⟨h5,h6⟩ := List.mem_filter.1 hx
 exact ⟨x,h5,by simpa using h6,h4⟩
theorem heavy_sum {g : Nd -> Int} {ls : List Nd} (hM : MayN ls) {x : Nd} (hx : x ∈ ls) (h : 0 < wtN x) (h1 : 1 <= g x) (h2 : g x <= 999) : ∃ c ∈ sumF g ls,0 < c.2 := by
 refine ⟨(g x,sumAt g ls (g x)),(mem_upTo g ls _ 999).2 ⟨⟨h1,h2⟩,⟨x,hx,rfl⟩,rfl⟩,?_⟩
 have := wsum_ge (l := ls.filter fun y => decide (g y = g x)) (fun y hy => may_in hM y (List.mem_filter.1 hy).1) (List.mem_filter.2 ⟨hx,by simp⟩)
 show 0 < sumAt g ls (g x)
 unfold sumAt
 omega
theorem pick_one {ls : List Nd} (hM : MayN ls) (g : Int) {z : Int} (hz : ∃ c ∈ zonesOf ls,0 < c.2 /\ c.1 = z) :
  ∃ r n,n ∈ ls /\ n.zone = z /\ n.inn = true /\ 0 < n.weight /\ chosen1 ls g 2 1 (z,0,0) = [(z,r,0)] /\ chosen1 ls g 3 1 (z,r,0) = [(z,r,n.id)] := by
 obtain ⟨c,hc,h0,rfl⟩ := hz
 obtain ⟨x,hx,e1,h1⟩ := sum_heavy hM hc h0
 have e1' : x.zone = c.1 := e1
 have hI := may_in hM x hx
 have hz0 : c.1 ≠ 0 := by have := hI.2.1.1; omega
 obtain ⟨d,hd,hd0,hd1⟩ := ord_some (key := keyOf g 2 c.1 0) (sumF_may hM : Dr.MayC (racksOf ls c.1)) (heavy_sum (g := rackG c.1) hM hx h1 (by unfold rackG; rw [if_pos e1']; exact hI.2.2.1.1) (by unfold rackG; rw [if_pos e1']; have := hI.2.2.1.2; omega))
 obtain ⟨y,hy,e2,h2⟩ := sum_heavy hM hd hd0
 obtain ⟨⟨hd2,_⟩,_⟩ := (mem_upTo _ ls d 999).1 hd
 have hyz : y.zone = c.1 := by
  unfold rackG at e2
  split at e2
  ·assumption
  ·omega
 have hyr : y.rack = d.1 := by
  unfold rackG at e2
  rw [if_pos hyz] at e2
  exact e2
 have hIy := may_in hM y hy
 have hsel : selN c.1 d.1 y = true := by simp [selN,coversB,hyz,hyr]
 obtain ⟨f,hf,hf0,hf1⟩ := ord_some (key := keyOf g 3 c.1 d.1) (sumF_may hM : Dr.MayC (leavesOf ls c.1 d.1)) (heavy_sum (g := leafG c.1 d.1) hM hy h2 (by unfold leafG; rw [if_pos hsel]; exact hIy.1.1) (by unfold leafG; rw [if_pos hsel]; exact hIy.1.2))
 obtain ⟨n,hn,e3,h3⟩ := sum_heavy hM hf hf0
 obtain ⟨⟨hf2,_⟩,_⟩ := (mem_upTo _ ls f 999).1 hf
 have hsn : selN c.1 d.1 n = true := by
  unfold leafG at e3
  split at e3
  ·assumption
  ·omega
 have hni : n.id = f.1 := by
  unfold leafG at e3
  rw [if_pos hsn] at e3
  exact e3
 have hnz : n.zone = c.1 := by
  simp only [selN,coversB,Bool.and_eq_true,Bool.or_eq_true,beq_iff_eq] at hsn
  rcases hsn.1 with h | h
  ·exact absurd h hz0
  ·exact h.symm
 obtain ⟨h4,h5⟩ := wt_node h3
 refine ⟨d.1,n,hn,hnz,h4,h5,?_,?_⟩
 ·show ((ordF (keyOf g 2 c.1 0) (racksOf ls c.1)).take 1).map (childOf (c.1,0,0) 2) = _
  have hd1' : (ordF (keyOf g 2 c.1 0) (racksOf ls c.1)).take 1 = [d.1] := hd1
  rw [hd1']
  rfl
 ·show ((ordF (keyOf g 3 c.1 d.1) (leavesOf ls c.1 d.1)).take 1).map (childOf (c.1,d.1,0) 3) = _
  have hf1' : (ordF (keyOf g 3 c.1 d.1) (leavesOf ls c.1 d.1)).take 1 = [f.1] := hf1
  rw [hf1',hni]
  rfl
theorem emit_all (size : Nat) : ∀ (H : List Sp) (out : List Int),(out ++ H.map (·.2.2)).Nodup -> out.length + H.length <= size -> emitP size out H = out ++ H.map (·.2.2) := by
 intro H
 induction H with
 | nil => intro out _ _; simp [emitP]
 | cons x H ih =>
  intro out hn hl
  have h1 : x.2.2 ∉ out := fun h => by
   rw [List.map_cons,List.nodup_append] at hn
   exact hn.2.2 _ h _ (by simp) rfl
  have e : emit1 size out x = out ++ [x.2.2] := if_pos ⟨by simp at hl; omega,h1⟩
  show emitP size (emit1 size out x) H = _
  rw [e,ih _ (by simpa using hn) (by simp at hl ⊢; omega)]
  simp
theorem zs_mem {ls : List Nd} (hM : MayN ls) {g : Int} {size : Nat} {z : Int} (h : z ∈ zsOf ls g size) : ∃ c ∈ zonesOf ls,0 < c.2 /\ c.1 = z := (ord_mem (sumF_may hM : Dr.MayC (zonesOf ls))).1 (List.mem_of_mem_take h)
theorem zs_nodup {ls : List Nd} (hM : MayN ls) (g : Int) (size : Nat) : (zsOf ls g size).Nodup := (ord_nodup _ (sumF_may hM : Dr.MayC (zonesOf ls))).sublist (List.take_sublist _ _)
theorem pk_one {ls : List Nd} (hM : MayN ls) (g : Int) {z : Int} (hz : ∃ c ∈ zonesOf ls,0 < c.2 /\ c.1 = z) : ∃ n,n ∈ ls /\ n.zone = z /\ n.inn = true /\ 0 < n.weight /\ pk ls g z = n.id := by
 obtain ⟨r,n,h1,h2,h3,h4,h5,h6⟩ := pick_one hM g hz
 refine ⟨n,h1,h2,h3,h4,?_⟩
 unfold pk chooseP
 rw [h5,List.flatMap_cons,h6]
 rfl
theorem hand1_eq (ls : List Nd) (g : Int) (size : Nat) : hand1 ls g size = (zsOf ls g size).map fun z => (z,0,0) := by
 unfold hand1 chooseP zsOf
 rw [List.flatMap_cons,List.flatMap_nil,List.append_nil]
 rfl
theorem hands {ls : List Nd} (hM : MayN ls) (g : Int) : ∀ Z : List Int,(∀ z ∈ Z,∃ c ∈ zonesOf ls,0 < c.2 /\ c.1 = z) -> (chooseP ls g 3 1 (chooseP ls g 2 1 (Z.map fun z => (z,0,0)))).map (·.2.2) = Z.map (pk ls g) := by
 intro Z
 induction Z with
 | nil => intro _; rfl
 | cons z Z ih =>
  intro h
  have h1 := ih fun y hy => h y (by simp [hy])
  obtain ⟨r,n,_,_,_,_,h5,h6⟩ := pick_one hM g (h z (by simp))
  have e : pk ls g z = n.id := by
   unfold pk chooseP
   rw [h5,List.flatMap_cons,h6]
   rfl
  rw [List.map_cons,List.map_cons,e,<- h1]
  unfold chooseP
  rw [List.flatMap_cons,h5,List.flatMap_append,List.flatMap_cons,h6,List.flatMap_nil,List.append_nil,List.map_append]
  rfl
theorem of_eq {ls : List Nd} (hM : MayN ls) (g : Int) (size : Nat) : ofP ls g size = (zsOf ls g size).map (pk ls g) := by
 have h1 := hands hM g (zsOf ls g size) fun z hz => zs_mem hM hz
 rw [<- hand1_eq] at h1
 have h2 : (hand3 ls g size).map (·.2.2) = (zsOf ls g size).map (pk ls g) := h1
 unfold ofP
 rw [emit_all size _ [],List.nil_append,h2]
 ·rw [List.nil_append,h2]
  unfold List.Nodup
  rw [List.pairwise_map]
  refine List.Pairwise.imp_of_mem (R := fun a b => a ≠ b) (fun {a b} ha hb hne e => ?_) (zs_nodup hM g size)
  obtain ⟨n,n1,n2,_,_,n3⟩ := pk_one hM g (zs_mem hM ha)
  obtain ⟨m,m1,m2,_,_,m3⟩ := pk_one hM g (zs_mem hM hb)
  have := id_inj hM n1 m1 (by rw [<- n3,<- m3,e])
  subst this
  exact hne (n2.symm.trans m2)
 ·have := congrArg List.length h2
  simp at this
  rw [List.length_nil,Nat.zero_add,this]
  unfold zsOf
  rw [List.length_take]
  exact Nat.min_le_left _ _
theorem of_len {ls : List Nd} (hM : MayN ls) (g : Int) (size : Nat) : (ofP ls g size).length <= size := by
 rw [of_eq hM]
 unfold zsOf
 simp
 exact Nat.min_le_left _ _
end Go.Proofs.YtcncbjknfcjnmaaGreat
