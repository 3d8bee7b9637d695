/-
  The theorem of trails, plainly: who acted is in the past, or acts.
  A map that stands whatever becomes of blocks of other types; who acted, as it lies: eight rows of rows.
  The law MapsTrails: the region in which a delta is applied.
-/
import Derived.Test.YtcncbjknfcjnmaaGreatPr37
namespace Go.Proofs.YtcncbjknfcjnmaaGreat.Tp
def SetP (a b : List Int) : Prop := (∀ x ∈ a,x ∈ b) /\ a.length = b.length
theorem SetP.refl (a : List Int) : SetP a a := ⟨fun _ h => h,rfl⟩
theorem SetP.sort {a b : List Int} (h : SetP a b) : SetP a (sortI b) :=
 ⟨fun x hx => by unfold sortI; exact List.mem_mergeSort.2 (h.1 x hx),by rw [sortI_len]; exact h.2⟩
def turnTr (m m1 : Mp) (cn : Nat -> Bool) (j : Nat) : Tr :=
 if cn j = true /\ actP m j ≠ actP m1 j then (if m.mn <= ((actP m j).length : Int) then ⟨m.ep + 1,otherT (m1.trs.getD j tr0).past (sortI (actP m j)) ++ [⟨(m1.trs.getD j tr0).since,sortI (actP m j)⟩]⟩ else ⟨m.ep + 1,(m1.trs.getD j tr0).past⟩) else m1.trs.getD j tr0
theorem turnTrs9_is (m m1 : Mp) (cn : Nat -> Bool) (j : Nat) (hj : j < m1.trs.length) : ∀ k,j < k -> (turnTrs9 m m1 cn k).getD j tr0 = turnTr m m1 cn j := by
 intro k
 induction k with
 | zero => intro h; omega
 | succ k ih =>
  intro h
  have hlen := turnTrs9_len m m1 cn k
  by_cases e : j = k
  ·subst e
   have hat := turnTrs9_at m m1 cn j j (Nat.le_refl _)
   unfold turnTrs9 turnTr
   split
   ·split
    ·unfold leftT
     rw [trGetD_eq _ _ _ (by omega),hat]
    ·unfold sinceT
     rw [trGetD_eq _ _ _ (by omega),hat]
   ·exact hat
  ·have := ih (by omega)
   unfold turnTrs9
   split
   ·split
    ·unfold leftT
     rw [trGetD_ne _ _ _ _ e]; exact this
    ·unfold sinceT
     rw [trGetD_ne _ _ _ _ e]; exact this
   ·exact this
def FoundP (m : Mp) (j : Nat) (a : List Int) : Prop := SetP a (actP m j) ∨ ∃ t ∈ (m.trs.getD j tr0).past,SetP a t.ns
theorem nds_tn (m : Mp) (k id z r wt g : Int) (ns : List Int) (hk : k = 8 ∨ k = 9 ∨ k = 10) : (tnM m k id z r wt g ns).nds = m.nds := by
 show (chM m k id z r wt g ns).nds = m.nds
 unfold chM
 rcases hk with rfl | rfl | rfl
 ·rw [if_neg (by decide),if_pos rfl]
 ·rw [if_pos rfl]
 ·rw [if_neg (by decide),if_neg (by decide),if_pos rfl]
theorem act_still {m : Mp} {k id z r wt g : Int} {ns : List Int} (hM : MayM m) (href : refP m k id z r wt g ns = 0) (q : Int) (hc : concP k g q = false) : actP (tnM m k id z r wt g ns) q = actP m q := by
 unfold concP at hc
 by_cases h1 : k = 9 ∨ k = 10
 ·unfold actP
  rw [raw_still hM href (by omega),nds_tn _ _ _ _ _ _ _ _ (by omega)]
 ·rw [if_neg h1] at hc
  by_cases h8 : k = 8
  ·subst h8
   rw [if_pos rfl] at hc
   have hq : q ≠ g := by simpa using hc
   unfold actP
   rw [raw_other hM q hq,nds_tn _ _ _ _ _ _ _ _ (by omega)]
  ·rw [if_neg h8] at hc
   cases hc
theorem past_ch (m : Mp) (k id z r wt g : Int) (ns : List Int) (j : Nat) (h : k ≠ 10 ∨ (j : Int) ≠ g) (hg : k = 10 -> 0 <= g) : (chM m k id z r wt g ns).trs.getD j tr0 = m.trs.getD j tr0 := by
 unfold chM
 by_cases h9 : k = 9
 ·rw [if_pos h9]
 ·rw [if_neg h9]
  by_cases h8 : k = 8
  ·rw [if_pos h8]
  ·rw [if_neg h8]
   by_cases h10 : k = 10
   ·rw [if_pos h10]
    show (cleanT m.trs g.toNat).getD j tr0 = _
    unfold cleanT
    have := hg h10
    rw [trGetD_ne _ _ _ _ (by omega)]
   ·rw [if_neg h10]
theorem len_ch (m : Mp) (k id z r wt g : Int) (ns : List Int) : (chM m k id z r wt g ns).trs.length = m.trs.length := (chM_same m k id z r wt g ns).2.2.2.2
theorem found_turn {m : Mp} {k id z r wt g : Int} {ns : List Int} (hM : MayM m) (href : refP m k id z r wt g ns = 0) {j : Nat} (hj : j < m.trs.length) {a : List Int} (ha : m.mn <= (a.length : Int)) (hcl : k ≠ 10 ∨ (j : Int) ≠ g) (h : FoundP m j a) : FoundP (tnM m k id z r wt g ns) j a := by
 have hg : k = 10 -> 0 <= g := fun h10 => ((ref_may href).2.2.2.2.1 h10).1
 have htr : (tnM m k id z r wt g ns).trs.getD j tr0 = turnTr m (chM m k id z r wt g ns) (fun j => concP k g (j : Int)) j :=
  turnTrs9_is m _ _ j (by rw [len_ch]; exact hj) m.trs.length hj
 have hpc := past_ch m k id z r wt g ns j hcl hg
 by_cases hch : actP (tnM m k id z r wt g ns) j = actP m j
 ·have e : turnTr m (chM m k id z r wt g ns) (fun j => concP k g (j : Int)) j = m.trs.getD j tr0 := by
   unfold turnTr
   rw [if_neg fun hh => hh.2 (by rw [<- hch]; rfl)]
   exact hpc
  unfold FoundP
  rw [hch,htr,e]
  exact h
 ·have hcn : concP k g (j : Int) = true := by
   cases hc : concP k g (j : Int) with
   | true => rfl
   | false => exact absurd (act_still hM href _ hc) hch
  have hne : actP m j ≠ actP (chM m k id z r wt g ns) j := fun e => hch e.symm
  rcases h with h | ⟨t,ht,hs⟩
  ·have hlen : m.mn <= ((actP m j).length : Int) := by have := h.2; omega
   refine .inr ⟨⟨(m.trs.getD j tr0).since,sortI (actP m j)⟩,?_,h.sort⟩
   rw [htr]
   unfold turnTr
   rw [if_pos ⟨hcn,hne⟩,if_pos hlen,hpc]
   exact List.mem_append_right _ (by simp)
  ·by_cases hlen : m.mn <= ((actP m j).length : Int)
   ·by_cases hsame : t.ns = sortI (actP m j)
    ·refine .inr ⟨⟨(m.trs.getD j tr0).since,sortI (actP m j)⟩,?_,by show SetP a (sortI (actP m j)); rw [<- hsame]; exact hs⟩
     rw [htr]
     unfold turnTr
     rw [if_pos ⟨hcn,hne⟩,if_pos hlen,hpc]
     exact List.mem_append_right _ (by simp)
    ·refine .inr ⟨t,?_,hs⟩
     rw [htr]
     unfold turnTr
     rw [if_pos ⟨hcn,hne⟩,if_pos hlen,hpc]
     refine List.mem_append_left _ ?_
     unfold otherT
     exact List.mem_filter.2 ⟨ht,by simpa using hsame⟩
   ·refine .inr ⟨t,?_,hs⟩
    rw [htr]
    unfold turnTr
    rw [if_pos ⟨hcn,hne⟩,if_neg hlen,hpc]
    exact ht
theorem past_grow {m : Mp} {k id z r wt g : Int} {ns : List Int} {j K : Nat} (hj : j < m.trs.length) (h : (m.trs.getD j tr0).past.length <= K) : ((tnM m k id z r wt g ns).trs.getD j tr0).past.length <= K + 1 := by
 have htr : (tnM m k id z r wt g ns).trs.getD j tr0 = turnTr m (chM m k id z r wt g ns) (fun j => concP k g (j : Int)) j :=
  turnTrs9_is m _ _ j (by rw [len_ch]; exact hj) m.trs.length hj
 have hpc := chM_past m k id z r wt g ns j
 rw [htr]
 unfold turnTr
 split
 ·split
  ·show (otherT _ _ ++ [_]).length <= K + 1
   rw [List.length_append,List.length_singleton]
   have : (otherT ((chM m k id z r wt g ns).trs.getD j tr0).past (sortI (actP m j))).length <= ((chM m k id z r wt g ns).trs.getD j tr0).past.length := by unfold otherT; exact List.length_filter_le _ _
   omega
  ·show ((chM m k id z r wt g ns).trs.getD j tr0).past.length <= K + 1
   omega
 ·omega
theorem tn_same (m : Mp) (k id z r wt g : Int) (ns : List Int) : (tnM m k id z r wt g ns).mn = m.mn /\ (tnM m k id z r wt g ns).gr = m.gr /\ (tnM m k id z r wt g ns).trs.length = m.trs.length := by
 obtain ⟨h1,_,_,h4,h5⟩ := chM_same m k id z r wt g ns
 refine ⟨h1,h4,?_⟩
 show (turnTrs9 m _ _ m.trs.length).length = _
 rw [turnTrs9_len]; exact h5
end Go.Proofs.YtcncbjknfcjnmaaGreat.Tp
namespace Go.Proofs.YtcncbjknfcjnmaaGreat.Tp
open Go.ChangeShapes Go.WideShapes Go.ChangeAt Go.RowKit
def SureM (w0 w : World) (m : Mp) (s : MV) : Prop := (MapAt w0 m s /\ Below w0.heap.size w0 w) ∨ (w0.heap.size <= w.heap.size /\ ∃ (G : Nat -> Prop) (N : Nat),OwnG G w N m s)
theorem SureM.map {w0 w : World} {m : Mp} {s : MV} (h : SureM w0 w m s) : MapAt w m s := by
 rcases h with ⟨h,hb⟩ | ⟨_,G,N,h⟩
 ·exact h.below hb
 ·exact h.map
theorem SureM.below {w0 w w' : World} {m : Mp} {s : MV} (h : SureM w0 w m s) (hb : Below w.heap.size w w') : SureM w0 w' m s := by
 rcases h with ⟨h,h1⟩ | ⟨hs,G,N,h⟩
 ·exact .inl ⟨h,below2 h1 hb⟩
 ·exact .inr ⟨Nat.le_trans hs hb.size,G,N,h.below9 hb⟩
theorem SureM.type {w0 w w' : World} {m : Mp} {s : MV} (h : SureM w0 w m s) {b : Nat} {cb : Array Value} {T : TypeId} {fz : Nat × Nat} (hg : w.grownBy w' (some b)) (hb : w.heap[b]? = some (.cells cb T fz)) (hB : w0.heap.size <= b)
  (h2 : T ≠ 72) (h3 : T ≠ 59) (h4 : T ≠ 53) (h5 : T ≠ 55) (h6 : T ≠ 3) : SureM w0 w' m s := by
 rcases h with ⟨h,h1⟩ | ⟨hs,G,N,h⟩
 ·exact .inl ⟨h,h1.grown hg h1.size fun k hk => by simp at hk; omega⟩
 ·exact .inr ⟨Nat.le_trans hs hg.size,G,N,own_type h.nds hg hb h2,h.ndl,h.tms.type hg hb h3 h6,h.tml,h.trs.type hg hb h4 h5 h6,h.trl⟩
theorem own_kept9 {w w' : World} {B s n : Nat} {E : TypeId} {v : Value} {xs : List Value} {row : Option Nat} (h : w.ownsRow B E s v n xs) (hg : w.grownBy w' row) (hne : ∀ b,v.ownBlock = some b -> row ≠ some b) : w'.ownsRow B E s v n xs := by
 refine h.kept hg ?_
 cases hv : v.ownBlock with
 | none => exact .inl rfl
 | some k => right; exact fun e => hne k hv e.symm
def RowsAt (w : World) (B : Nat) (v : Value) (ls : List (List Int)) : Prop :=
 ∃ L : List Value,w.ownsRow B 35 1 v ls.length L /\ ∀ i,i < ls.length -> ∃ a c,L[i]? = some (.slice a (ls.getD i []).length c) /\ w.ownsRow B 3 1 (.slice a (ls.getD i []).length c) (ls.getD i []).length (intCells (ls.getD i []))
theorem RowsAt.nil (w : World) (B : Nat) : RowsAt w B (.slice none 0 0) [] := ⟨[],World.ownsRow_nil _ _ _ _,fun _ hi => absurd hi (Nat.not_lt_zero _)⟩
theorem RowsAt.below {w w' : World} {B : Nat} {v : Value} {ls : List (List Int)} (h : RowsAt w B v ls) (hb : Below w.heap.size w w') : RowsAt w' B v ls := by
 obtain ⟨L,h1,h2⟩ := h
 exact ⟨L,own_below h1 hb,fun i hi => by obtain ⟨a,c,e,ho⟩ := h2 i hi; exact ⟨a,c,e,own_below ho hb⟩⟩
theorem RowsAt.type {w w' : World} {B : Nat} {v : Value} {ls : List (List Int)} (h : RowsAt w B v ls) {b : Nat} {cb : Array Value} {T : TypeId} {fz : Nat × Nat} (hg : w.grownBy w' (some b)) (hb : w.heap[b]? = some (.cells cb T fz)) (h1 : T ≠ 35) (h3 : T ≠ 3) : RowsAt w' B v ls := by
 obtain ⟨L,a1,a2⟩ := h
 exact ⟨L,own_type a1 hg hb h1,fun i hi => by obtain ⟨a,c,e,ho⟩ := a2 i hi; exact ⟨a,c,e,own_type ho hg hb h3⟩⟩
theorem own_tag {w : World} {B s n b : Nat} {E : TypeId} {v : Value} {xs : List Value} (h : w.ownsRow B E s v n xs) (e : v.ownBlock = some b) : ∃ cb,w.heap[b]? = some (.cells cb E (0,0)) := by
 obtain ⟨_,⟨rfl,_⟩ | ⟨g,cap,cur,rfl,_,hh,_⟩⟩ := h
 ·simp [Value.ownBlock] at e
 ·simp [Value.ownBlock] at e
  subst e
  exact ⟨cur,hh⟩
theorem RowsAt.other {w w' : World} {B B' s n : Nat} {v u : Value} {ls : List (List Int)} {xs : List Value} (h : RowsAt w B v ls) (hu : w.ownsRow B' 35 s u n xs) (hg : w.grownBy w' u.ownBlock) (hne : ∀ b,v.ownBlock = some b -> u.ownBlock ≠ some b) : RowsAt w' B v ls := by
 obtain ⟨L,a1,a2⟩ := h
 refine ⟨L,own_kept9 a1 hg hne,fun i hi => ?_⟩
 obtain ⟨a,c,e,ho⟩ := a2 i hi
 refine ⟨a,c,e,own_kept9 ho hg fun b hb hub => ?_⟩
 obtain ⟨c1,q1⟩ := own_tag ho hb
 obtain ⟨c2,q2⟩ := own_tag hu hub
 rw [q1] at q2
 simp at q2
theorem own_cells_eq {w : World} {B B' s n : Nat} {E : TypeId} {v : Value} {xs ys : List Value} (h : w.ownsRow B E s v n xs) (h' : w.ownsRow B' E s v n ys) : xs = ys := by
 obtain ⟨l1,⟨e1,n1⟩ | ⟨g,cap,cur,e1,_,hh,_,_,_,t1⟩⟩ := h
 ·subst n1
  have := h'.1
  have q1 : xs = [] := List.length_eq_zero_iff.1 (by simpa using l1)
  have q2 : ys = [] := List.length_eq_zero_iff.1 (by simpa using this)
  rw [q1,q2]
 ·obtain ⟨l2,⟨e2,_⟩ | ⟨g2,cap2,cur2,e2,_,hh2,_,_,_,t2⟩⟩ := h'
  ·rw [e1] at e2; simp at e2
  ·rw [e1] at e2
   simp at e2
   obtain ⟨rfl,rfl⟩ := e2
   rw [hh] at hh2
   simp at hh2
   subst hh2
   rw [<- t1,<- t2]
theorem RowsAt.snoc {w w' : World} {B : Nat} {v v' : Value} {ls : List (List Int)} {l : List Int} {a : Option Addr} {c : Nat} {L : List Value} (h : RowsAt w B v ls) (hL : w.ownsRow B 35 1 v ls.length L) (ho : w.ownsRow B 3 1 (.slice a l.length c) l.length (intCells l)) (hg : w.grownBy w' v.ownBlock) (hv : w'.ownsRow B 35 1 v' (ls.length + 1) (L ++ [.slice a l.length c])) : RowsAt w' B v' (ls ++ [l]) := by
 obtain ⟨L',a1,a2⟩ := h
 have e1 : L' = L := own_cells_eq a1 hL
 subst e1
 have hl : L'.length = ls.length := by have := a1.1; simpa using this
 have keep : ∀ (x : Option Addr) (y : Nat) (z : List Int),w.ownsRow B 3 1 (.slice x z.length y) z.length (intCells z) -> w'.ownsRow B 3 1 (.slice x z.length y) z.length (intCells z) := fun x y z hz => own_kept9 hz hg fun b hb hub => by
  obtain ⟨c1,q1⟩ := own_tag hz hb
  obtain ⟨c2,q2⟩ := own_tag a1 hub
  rw [q1] at q2
  simp at q2
 refine ⟨L' ++ [.slice a l.length c],by rw [List.length_append,List.length_singleton]; exact hv,fun i hi => ?_⟩
 rw [List.length_append,List.length_singleton] at hi
 by_cases hil : i < ls.length
 ·obtain ⟨x,y,e,hz⟩ := a2 i hil
  have eg : (ls ++ [l]).getD i [] = ls.getD i [] := by rw [List.getD_eq_getElem?_getD,List.getElem?_append_left hil,<- List.getD_eq_getElem?_getD]
  rw [eg]
  exact ⟨x,y,by rw [List.getElem?_append_left (by omega)]; exact e,keep x y _ hz⟩
 ·obtain rfl : i = ls.length := by omega
  have eg : (ls ++ [l]).getD ls.length [] = l := by rw [List.getD_eq_getElem?_getD,List.getElem?_append_right (Nat.le_refl _)]; simp
  rw [eg]
  refine ⟨a,c,?_,keep a c l ho⟩
  rw [List.getElem?_append_right (by omega),hl]; simp
def upd {α : Type} (f : Nat -> α) (g : Nat) (x : α) : Nat -> α := fun h => if h = g then x else f h
theorem upd_same {α : Type} (f : Nat -> α) (g : Nat) (x : α) : upd f g x g = x := by unfold upd; rw [if_pos rfl]
theorem upd_else {α : Type} (f : Nat -> α) {g h : Nat} (x : α) (e : h ≠ g) : upd f g x h = f h := by unfold upd; rw [if_neg e]
structure Acted (w : World) (B X : Nat) (A : Nat -> List (List Int)) (vs : Nat -> Value) : Prop where
 box : ∀ g,g < 8 -> w.cell? ⟨X,g,none⟩ = some (vs g) /\ w.frozen? ⟨X,g,none⟩ = false
 ty : ∃ cs,w.heap[X]? = some (.cells cs 50 (0,0))
 rows : ∀ g,g < 8 -> RowsAt w B (vs g) (A g)
 apart : ∀ g h,g < 8 -> h < 8 -> g ≠ h -> ∀ b,(vs g).ownBlock = some b -> (vs h).ownBlock ≠ some b
 ge : B <= X
theorem Acted.lt {w : World} {B X : Nat} {A : Nat -> List (List Int)} {vs : Nat -> Value} (h : Acted w B X A vs) : X < w.heap.size := by
 obtain ⟨cs,e⟩ := h.ty
 exact (Array.getElem?_eq_some_iff.1 e).1
theorem Acted.below {w w' : World} {B X : Nat} {A : Nat -> List (List Int)} {vs : Nat -> Value} (h : Acted w B X A vs) (hb : Below w.heap.size w w') : Acted w' B X A vs :=
 ⟨fun g hg => ⟨(hb.cell (p := ⟨X,g,none⟩) h.lt).trans (h.box g hg).1,(hb.frozen (p := ⟨X,g,none⟩) h.lt).trans (h.box g hg).2⟩,by obtain ⟨cs,e⟩ := h.ty; exact ⟨cs,(hb.block X h.lt).trans e⟩,fun g hg => (h.rows g hg).below hb,h.apart,h.ge⟩
theorem Acted.type {w w' : World} {B X : Nat} {A : Nat -> List (List Int)} {vs : Nat -> Value} (h : Acted w B X A vs) {b : Nat} {cb : Array Value} {T : TypeId} {fz : Nat × Nat} (hg : w.grownBy w' (some b)) (hb : w.heap[b]? = some (.cells cb T fz)) (h1 : T ≠ 35) (h3 : T ≠ 3) (h5 : T ≠ 50) : Acted w' B X A vs := by
 have hne : X ≠ b := by
  rintro rfl
  obtain ⟨cs,e⟩ := h.ty
  rw [e] at hb
  simp at hb
  exact h5 hb.2.1.symm
 have hblk : w'.heap[X]? = w.heap[X]? := hg.block X h.lt (by simpa using hne)
 exact ⟨fun g hg9 => ⟨(World.cell?_of_block hblk).trans (h.box g hg9).1,(World.frozen?_of_block hblk).trans (h.box g hg9).2⟩,by obtain ⟨cs,e⟩ := h.ty; exact ⟨cs,hblk.trans e⟩,fun g hg9 => (h.rows g hg9).type hg hb h1 h3,h.apart,h.ge⟩
theorem setCell_grown (w : World) (p : Addr) (v : Value) : w.grownBy (w.setCell p v) (some p.block) :=
 ⟨rfl,rfl,rfl,by simp,fun k _ hne => heap_setCell_other w p k v (by simpa using hne)⟩
def ActedBut (w : World) (B X : Nat) (A : Nat -> List (List Int)) (vs : Nat -> Value) (g : Nat) : Prop :=
 (∀ k,k < 8 -> w.cell? ⟨X,k,none⟩ = some (vs k) /\ w.frozen? ⟨X,k,none⟩ = false) /\ (∃ cs,w.heap[X]? = some (.cells cs 50 (0,0))) /\ (∀ k,k < 8 -> k ≠ g -> RowsAt w B (vs k) (A k)) /\ (∀ i j,i < 8 -> j < 8 -> i ≠ g -> j ≠ g -> i ≠ j -> ∀ b,(vs i).ownBlock = some b -> (vs j).ownBlock ≠ some b) /\ B <= X
theorem Acted.but {w : World} {B X : Nat} {A : Nat -> List (List Int)} {vs : Nat -> Value} (h : Acted w B X A vs) (g : Nat) : ActedBut w B X A vs g :=
 ⟨h.box,h.ty,fun k hk _ => h.rows k hk,fun i j hi hj _ _ hij => h.apart i j hi hj hij,h.ge⟩
theorem ActedBut.store {w : World} {B X : Nat} {A : Nat -> List (List Int)} {vs : Nat -> Value} {g : Nat} {v : Value} {ls : List (List Int)} (h : ActedBut w B X A vs g) (hr : RowsAt w B v ls) (ha : ∀ h,h < 8 -> h ≠ g -> ∀ b,v.ownBlock = some b -> (vs h).ownBlock ≠ some b) :
  Acted (w.setCell ⟨X,g,none⟩ v) B X (upd A g ls) (upd vs g v) := by
 obtain ⟨hbox,⟨cs,hcs⟩,hrows,hap,hge⟩ := h
 have hG := setCell_grown w ⟨X,g,none⟩ v
 refine ⟨fun k hk => ?_,⟨cs.setIfInBounds g v,heap_setCell_same w X g _ _ v hcs⟩,fun k hk => ?_,fun i j hi hj hij b hb => ?_,hge⟩
 ·rw [World.frozen?_setCell]
  refine ⟨?_,(hbox k hk).2⟩
  by_cases e : k = g
  ·subst e
   rw [upd_same]
   exact World.cell?_setCell_same _ _ _ (hbox k hk).1
  ·rw [upd_else _ _ e,World.cell?_setCell_other _ _ _ _ (by intro e9; exact e (congrArg Addr.off e9).symm)]
   exact (hbox k hk).1
 ·by_cases e : k = g
  ·subst e
   rw [upd_same,upd_same]
   exact hr.type hG hcs (by decide) (by decide)
  ·rw [upd_else _ _ e,upd_else _ _ e]
   exact (hrows k hk e).type hG hcs (by decide) (by decide)
 ·by_cases e : i = g
  ·subst e
   rw [upd_same] at hb
   rw [upd_else _ _ (Ne.symm hij)]
   exact ha j hj (Ne.symm hij) b hb
  ·rw [upd_else _ _ e] at hb
   by_cases e2 : j = g
   ·subst e2
    rw [upd_same]
    exact fun hv => ha i hi e b hv hb
   ·rw [upd_else _ _ e2]
    exact hap i j hi hj e e2 hij b hb
theorem Acted.clean {w : World} {B X : Nat} {A : Nat -> List (List Int)} {vs : Nat -> Value} (h : Acted w B X A vs) (g : Nat) : Acted (w.setCell ⟨X,g,none⟩ (.slice none 0 0)) B X (upd A g []) (upd vs g (.slice none 0 0)) :=
 (h.but g).store (RowsAt.nil w B) fun _ _ _ b hb => by simp [Value.ownBlock] at hb
theorem Acted.snoc {w w' : World} {B X : Nat} {A : Nat -> List (List Int)} {vs : Nat -> Value} {g : Nat} {v' : Value} {l : List Int} {a : Option Addr} {c : Nat} {L : List Value} (h : Acted w B X A vs) (hg : g < 8) (hL : w.ownsRow B 35 1 (vs g) (A g).length L) (ho : w.ownsRow B 3 1 (.slice a l.length c) l.length (intCells l))
  (hgr : w.grownBy w' (vs g).ownBlock) (hv : w'.ownsRow B 35 1 v' ((A g).length + 1) (L ++ [.slice a l.length c])) (hat : v'.ownBlock = (vs g).ownBlock ∨ v'.ownBlock = some w.heap.size) :
  Acted (w'.setCell ⟨X,g,none⟩ v') B X (upd A g (A g ++ [l])) (upd vs g v') := by
 have hne : ∀ b,(vs g).ownBlock = some b -> X ≠ b := by
  rintro b hb rfl
  obtain ⟨cs,e⟩ := h.ty
  obtain ⟨cb,e2⟩ := own_tag hL hb
  rw [e] at e2
  simp at e2
 have hblk : w'.heap[X]? = w.heap[X]? := hgr.block X h.lt fun e => hne X e.symm rfl
 have hap : ∀ k,k < 8 -> k ≠ g -> ∀ b,(vs k).ownBlock = some b -> (vs g).ownBlock ≠ some b := fun k hk hkg b hb => h.apart k g hk hg hkg b hb
 have h' : ActedBut w' B X A vs g := by
  refine ⟨fun k hk => ⟨(World.cell?_of_block hblk).trans (h.box k hk).1,(World.frozen?_of_block hblk).trans (h.box k hk).2⟩,by obtain ⟨cs,e⟩ := h.ty; exact ⟨cs,hblk.trans e⟩,fun k hk hkg => (h.rows k hk).other hL hgr (hap k hk hkg),fun i j hi hj _ _ hij => h.apart i j hi hj hij,h.ge⟩
 refine h'.store ((h.rows g hg).snoc hL ho hgr hv) fun k hk hkg b hb hkb => ?_
 rcases hat with e | e
 ·exact hap k hk hkg b hkb (e ▸ hb)
 ·rw [e] at hb
  obtain ⟨L2,o2,_⟩ := h.rows k hk
  have := (o2.lt b hkb).2
  simp at hb
  omega
theorem Acted.new (w : World) (B : Nat) (hB : B <= w.heap.size) : Acted (w.alloc (.cells #[.slice none 0 0,.slice none 0 0,.slice none 0 0,.slice none 0 0,.slice none 0 0,.slice none 0 0,.slice none 0 0,.slice none 0 0] 50)) B w.heap.size (fun _ => []) (fun _ => .slice none 0 0) := by
 refine ⟨fun g hg => ?_,⟨_,heap_alloc_new w _⟩,fun _ _ => RowsAt.nil _ _,fun _ _ _ _ _ b hb => by simp [Value.ownBlock] at hb,hB⟩
 unfold World.cell? World.frozen?
 rw [show (w.alloc (.cells #[.slice none 0 0,.slice none 0 0,.slice none 0 0,.slice none 0 0,.slice none 0 0,.slice none 0 0,.slice none 0 0,.slice none 0 0] 50)).heap[(⟨w.heap.size,g,none⟩ : Addr).block]? = _ from heap_alloc_new w _]
 match g,hg with
 | 0,_ => exact ⟨rfl,rfl⟩
 | 1,_ => exact ⟨rfl,rfl⟩
 | 2,_ => exact ⟨rfl,rfl⟩
 | 3,_ => exact ⟨rfl,rfl⟩
 | 4,_ => exact ⟨rfl,rfl⟩
 | 5,_ => exact ⟨rfl,rfl⟩
 | 6,_ => exact ⟨rfl,rfl⟩
 | 7,_ => exact ⟨rfl,rfl⟩
end Go.Proofs.YtcncbjknfcjnmaaGreat.Tp
namespace Go.Proofs.YtcncbjknfcjnmaaGreat.Tp
open Go.ChangeShapes Go.WideShapes Go.ChangeAt Go.RowKit
theorem held_two {P : Program} {ops : Array Oper} {Q : Exit -> Act -> World -> Prop} {md : Region.Mode} {S : World -> Prop} {i j : Nat} {o o2 : Oper} {fuel : Nat} {listed : Array Bool} {a : Act} {w : World} (hr : Region.ready md ops listed = [i,j]) (hi : ops.toList[i]? = some o) (hj : ops.toList[j]? = some o2) (hg : Region.wanted o (yielded ops a.tmps) = true) (hg2 : Region.wanted o2 (yielded ops a.tmps) = true)
  (h : ∀ K : Act -> World -> Prop,Hid (∀ a' w',S w' -> wpAnyH P md ops Q S fuel (listed.setIfInBounds i true) a' w' -> K a' w') -> o.wp P a w K Q)
  (h2 : ∀ K : Act -> World -> Prop,Hid (∀ a' w',S w' -> wpAnyH P md ops Q S fuel (listed.setIfInBounds j true) a' w' -> K a' w') -> o2.wp P a w K Q) : wpAnyH P md ops Q S (fuel + 1) listed a w := by
 have ho : ops[i]? = some o := by simpa using hi
 have ho2 : ops[j]? = some o2 := by simpa using hj
 refine wpAnyH_all hr (by simp) (fun l hl => ?_)
 have hl2 : l = i ∨ l = j := by simpa using hl
 rcases hl2 with rfl | rfl
 ·unfold wpOp
  simp only [ho]
  rw [if_pos hg]
  exact .inl (h _ (fun _ _ h1 h2 => ⟨h1,h2⟩))
 ·unfold wpOp
  simp only [ho2]
  rw [if_pos hg2]
  exact .inl (h2 _ (fun _ _ h1 h2 => ⟨h1,h2⟩))
theorem boxTy_below {w w' : World} {b : Nat} {T : TypeId} (h : BoxTy w b T) (hb : Below w.heap.size w w') : BoxTy w' b T := by
 obtain ⟨c,e⟩ := h
 exact ⟨c,(hb.block b (Array.getElem?_eq_some_iff.1 e).1).trans e⟩
theorem boxTy_setCell {w : World} {b k : Nat} {T : TypeId} {v : Value} (h : BoxTy w b T) : BoxTy (w.setCell ⟨b,k,none⟩ v) b T := by
 obtain ⟨c,e⟩ := h
 exact ⟨_,heap_setCell_same w b k _ _ v e⟩
theorem boxTy_set7 {w : World} {b : Nat} {T : TypeId} (h : BoxTy w b T) (v0 v1 v2 v3 v4 v5 v6 : Value) : BoxTy (set7 w b v0 v1 v2 v3 v4 v5 v6) b T := by
 unfold set7
 exact boxTy_setCell (boxTy_setCell (boxTy_setCell (boxTy_setCell (boxTy_setCell (boxTy_setCell (boxTy_setCell h))))))
set_option maxHeartbeats 4000000 in
set_option maxRecDepth 60000 in
theorem trails_13 (t0 t3 t4 t5 t7 t8 t9 t10 t11 t12 t13 t14 t15 t16 t17 t18 t19 t20 t21 t22 t23 t24 t25 t26 t27 t28 t29 t30 t31 t32 t33 t34 t35 t36 t37 t38 t39 t40 t41 t42 t43 t44 t45 t46 t47 t48 t49 t50 t51 t52 t53 t54 t55 t56 t57 t58 t59 t60 t61 t62 t63 t64 t65 t66 t67 t68 t69 t70 t71 t72 t73 t74 t75 t76 t77 t78 t79 t80 t81 t82 t83 t84 t85 t86 t87 t88 t89 t90 t91 t92 t93 t94 t95 t96 t97 t98 t99 t100 t101 t102 t103 t104 t105 t106 t107 t108 t109 t110 t111 t112 t113 t114 t115 t116 t117 t118 t119 t120 t121 t122 t123 t124 t125 t126 t127 t128 t129 t130 t131 t132 t133 t134 t135 t136 t137 t138 t139 t140 t141 t142 t143 t144 t145 t146 t147 t148 : Value) (X b off len cap i : Nat) (c0 c1 c2 c3 c4 c5 c6 d0 d1 d2 d3 d4 d5 d6 : Value) (n e1 e2 e3 e4 : Int) (R : MV -> World -> Prop) (w1 : World) (Q : Exit -> Act -> World -> Prop)
  (hx : Box7 w1 X c0 c1 c2 c3 c4 c5 c6) (hd : w1.cell? ⟨b,off + i * 7,none⟩ = some d0 /\ w1.cell? ⟨b,off + i * 7 + 1,none⟩ = some d1 /\ w1.cell? ⟨b,off + i * 7 + 2,none⟩ = some d2 /\ w1.cell? ⟨b,off + i * 7 + 3,none⟩ = some d3 /\ w1.cell? ⟨b,off + i * 7 + 4,none⟩ = some d4 /\ w1.cell? ⟨b,off + i * 7 + 5,none⟩ = some d5 /\ w1.cell? ⟨b,off + i * 7 + 6,none⟩ = some d6) (hbl : b < w1.heap.size) (hi0 : (0 : Int) <= (i : Int)) (hi1 : (i : Int) < (len : Int))
  (HRb : ∀ r w w',R r w -> Below w.heap.size w w' -> R r w') (HRt : ∀ r w w' y,R r w -> w.grownBy w' (some y) -> BoxTy w y 26 -> w1.heap.size <= y -> R r w')
  (HA : Hid (∀ W,Below w1.heap.size w1 W -> Calls Tryz.prog 15 #[.agg #[c0,c1,c2,c3,c4,c5,c6],.agg #[d0,d1,d2,d3,d4,d5,d6]] W fun e w' => ∃ r : MV,e = .returned (.tuple #[.agg #[.int .i64 e1,.int .i64 e2,.int .i64 e3,.int .i64 e4,.slice r.aN r.lN r.cN,.slice r.aT r.lT r.cT,.slice r.aR r.lR r.cR],.int .i64 n]) /\ R r w' /\ Below W.heap.size W w'))
  (hQ : Hid (∀ (u64 u65 u66 u67 u68 u69 u70 u71 u72 : Value) (Y : Nat) (r : MV) (wC : World),w1.heap.size <= Y -> Below w1.heap.size w1 wC -> Box7 wC Y (.int .i64 e1) (.int .i64 e2) (.int .i64 e3) (.int .i64 e4) (.slice r.aN r.lN r.cN) (.slice r.aT r.lT r.cT) (.slice r.aR r.lR r.cR) -> BoxTy wC Y 26 -> R r wC -> Q .normal ⟨#[t0,.slice (some ⟨b,off,none⟩) len cap,.pointer (some ⟨X,0,none⟩),t3,t4,t5,.int .i64 (i : Int),t7,t8,.pointer (some ⟨Y,0,none⟩),.int .i64 n,t11,t12,t13,t14,t15,t16,t17,t18,t19,t20,t21,t22,t23,t24,t25,t26,t27,t28,t29,t30,t31,t32,t33,t34,t35,t36,t37,t38,t39,t40,t41,t42,t43,t44,t45,t46,t47,t48,t49,t50,t51,t52,t53,t54,t55,t56,t57,t58,t59,t60,t61,t62,t63,u64,u65,u66,u67,u68,u69,u70,u71,u72,t73,t74,t75,t76,t77,t78,t79,t80,t81,t82,t83,t84,t85,t86,t87,t88,t89,t90,t91,t92,t93,t94,t95,t96,t97,t98,t99,t100,t101,t102,t103,t104,t105,t106,t107,t108,t109,t110,t111,t112,t113,t114,t115,t116,t117,t118,t119,t120,t121,t122,t123,t124,t125,t126,t127,t128,t129,t130,t131,t132,t133,t134,t135,t136,t137,t138,t139,t140,t141,t142,t143,t144,t145,t146,t147,t148],[]⟩ wC)) :
  Code.wp Tryz.prog ((Tryz.f8.body.bind (regionOf 13)).getD .skip) Q ⟨#[t0,.slice (some ⟨b,off,none⟩) len cap,.pointer (some ⟨X,0,none⟩),t3,t4,t5,.int .i64 (i : Int),t7,t8,t9,t10,t11,t12,t13,t14,t15,t16,t17,t18,t19,t20,t21,t22,t23,t24,t25,t26,t27,t28,t29,t30,t31,t32,t33,t34,t35,t36,t37,t38,t39,t40,t41,t42,t43,t44,t45,t46,t47,t48,t49,t50,t51,t52,t53,t54,t55,t56,t57,t58,t59,t60,t61,t62,t63,t64,t65,t66,t67,t68,t69,t70,t71,t72,t73,t74,t75,t76,t77,t78,t79,t80,t81,t82,t83,t84,t85,t86,t87,t88,t89,t90,t91,t92,t93,t94,t95,t96,t97,t98,t99,t100,t101,t102,t103,t104,t105,t106,t107,t108,t109,t110,t111,t112,t113,t114,t115,t116,t117,t118,t119,t120,t121,t122,t123,t124,t125,t126,t127,t128,t129,t130,t131,t132,t133,t134,t135,t136,t137,t138,t139,t140,t141,t142,t143,t144,t145,t146,t147,t148],[]⟩ w1 := by
 have hX := hx.lt
 obtain ⟨⟨x0,x1,x2,x3,x4,x5,x6⟩,-⟩ := hx
 obtain ⟨y0,y1,y2,y3,y4,y5,y6⟩ := hd
 have HS : Hid (∀ w',Below w1.heap.size w1 w' -> (fun w' => (w'.cell? ⟨X,0,none⟩ = some c0 /\ w'.cell? ⟨X,1,none⟩ = some c1 /\ w'.cell? ⟨X,2,none⟩ = some c2 /\ w'.cell? ⟨X,3,none⟩ = some c3 /\ w'.cell? ⟨X,4,none⟩ = some c4 /\ w'.cell? ⟨X,5,none⟩ = some c5 /\ w'.cell? ⟨X,6,none⟩ = some c6) /\ (w'.cell? ⟨b,off + i * 7,none⟩ = some d0 /\ w'.cell? ⟨b,off + i * 7 + 1,none⟩ = some d1 /\ w'.cell? ⟨b,off + i * 7 + 2,none⟩ = some d2 /\ w'.cell? ⟨b,off + i * 7 + 3,none⟩ = some d3 /\ w'.cell? ⟨b,off + i * 7 + 4,none⟩ = some d4 /\ w'.cell? ⟨b,off + i * 7 + 5,none⟩ = some d5 /\ w'.cell? ⟨b,off + i * 7 + 6,none⟩ = some d6)) w') := fun w' h => ⟨⟨(h.cell (p := ⟨X,0,none⟩) hX).trans x0,(h.cell (p := ⟨X,1,none⟩) hX).trans x1,(h.cell (p := ⟨X,2,none⟩) hX).trans x2,(h.cell (p := ⟨X,3,none⟩) hX).trans x3,(h.cell (p := ⟨X,4,none⟩) hX).trans x4,(h.cell (p := ⟨X,5,none⟩) hX).trans x5,(h.cell (p := ⟨X,6,none⟩) hX).trans x6⟩,⟨(h.cell (p := ⟨b,off + i * 7,none⟩) hbl).trans y0,(h.cell (p := ⟨b,off + i * 7 + 1,none⟩) hbl).trans y1,(h.cell (p := ⟨b,off + i * 7 + 2,none⟩) hbl).trans y2,(h.cell (p := ⟨b,off + i * 7 + 3,none⟩) hbl).trans y3,(h.cell (p := ⟨b,off + i * 7 + 4,none⟩) hbl).trans y4,(h.cell (p := ⟨b,off + i * 7 + 5,none⟩) hbl).trans y5,(h.cell (p := ⟨b,off + i * 7 + 6,none⟩) hbl).trans y6⟩⟩
 have HRB := Hid.mk9 HRb
 have HRT := Hid.mk9 HRt
 clear x0 x1 x2 x3 x4 x5 x6 y0 y1 y2 y3 y4 y5 y6 HRb HRt
 have hS := HS.out w1.drew (below_drew w1)
 conv => arg 2; whnf
 refine held_start (S := (fun w' => (w'.cell? ⟨X,0,none⟩ = some c0 /\ w'.cell? ⟨X,1,none⟩ = some c1 /\ w'.cell? ⟨X,2,none⟩ = some c2 /\ w'.cell? ⟨X,3,none⟩ = some c3 /\ w'.cell? ⟨X,4,none⟩ = some c4 /\ w'.cell? ⟨X,5,none⟩ = some c5 /\ w'.cell? ⟨X,6,none⟩ = some c6) /\ (w'.cell? ⟨b,off + i * 7,none⟩ = some d0 /\ w'.cell? ⟨b,off + i * 7 + 1,none⟩ = some d1 /\ w'.cell? ⟨b,off + i * 7 + 2,none⟩ = some d2 /\ w'.cell? ⟨b,off + i * 7 + 3,none⟩ = some d3 /\ w'.cell? ⟨b,off + i * 7 + 4,none⟩ = some d4 /\ w'.cell? ⟨b,off + i * 7 + 5,none⟩ = some d5 /\ w'.cell? ⟨b,off + i * 7 + 6,none⟩ = some d6))) mixed5 ?_
 refine held_take (i := 0) (v := .agg #[c0,c1,c2,c3,c4,c5,c6]) rfl (by kernel_rfl) (fun _ _ _ h => h) (.inl ⟨rfl,fun w hS => ?_⟩) hS ?_
 ·obtain ⟨⟨s0,s1,s2,s3,s4,s5,s6⟩,⟨p0,p1,p2,p3,p4,p5,p6⟩⟩ := hS
  go_simp
 try simp only [Act.put,List.setIfInBounds_toArray,List.set_cons_zero,List.set_cons_succ]
 refine held_take (i := 1) (v := .slice (some ⟨b,off,none⟩) len cap) rfl (by kernel_rfl) (fun _ _ _ h => h) (.inl ⟨rfl,fun w hS => ?_⟩) hS ?_
 ·obtain ⟨⟨s0,s1,s2,s3,s4,s5,s6⟩,⟨p0,p1,p2,p3,p4,p5,p6⟩⟩ := hS
  go_simp
 try simp only [Act.put,List.setIfInBounds_toArray,List.set_cons_zero,List.set_cons_succ]
 refine held_take (i := 2) (v := .int .i64 (i : Int)) rfl (by kernel_rfl) (fun _ _ _ h => h) (.inl ⟨rfl,fun w hS => ?_⟩) hS ?_
 ·obtain ⟨⟨s0,s1,s2,s3,s4,s5,s6⟩,⟨p0,p1,p2,p3,p4,p5,p6⟩⟩ := hS
  go_simp
 try simp only [Act.put,List.setIfInBounds_toArray,List.set_cons_zero,List.set_cons_succ]
 refine held_take (i := 3) (v := .pointer (some ⟨b,off + i * 7,none⟩)) rfl (by kernel_rfl) (fun _ _ _ h => h) (.inl ⟨rfl,fun w hS => ?_⟩) hS ?_
 ·obtain ⟨⟨s0,s1,s2,s3,s4,s5,s6⟩,⟨p0,p1,p2,p3,p4,p5,p6⟩⟩ := hS
  go_simp
 try simp only [Act.put,List.setIfInBounds_toArray,List.set_cons_zero,List.set_cons_succ]
 refine held_take (i := 4) (v := .agg #[d0,d1,d2,d3,d4,d5,d6]) rfl (by kernel_rfl) (fun _ _ _ h => h) (.inl ⟨rfl,fun w hS => ?_⟩) hS ?_
 ·obtain ⟨⟨s0,s1,s2,s3,s4,s5,s6⟩,⟨p0,p1,p2,p3,p4,p5,p6⟩⟩ := hS
  go_simp
 try simp only [Act.put,List.setIfInBounds_toArray,List.set_cons_zero,List.set_cons_succ]
 refine held_two (i := 5) (j := 9) (by kernel_rfl) rfl rfl rfl rfl ?_ ?_
 ·intro K hK
  go_simp
  go_at_call 15
  refine (HA.out _ (below_drew w1)).mono ?_
  rintro en w3 ⟨r,rfl,hR,hb3'⟩
  have hb3 : Below w1.heap.size w1 w3 := below2 (below_drew w1) hb3'
  refine hK.out _ _ (HS.out w3 hb3) ?_
  clear hK hS hb3'
  have hS := HS.out w3 hb3
  refine held_take (i := 6) (v := .tuple #[.agg #[.int .i64 e1,.int .i64 e2,.int .i64 e3,.int .i64 e4,.slice r.aN r.lN r.cN,.slice r.aT r.lT r.cT,.slice r.aR r.lR r.cR],.int .i64 n]) rfl (by kernel_rfl) (fun _ _ _ h => h) (.inl ⟨rfl,fun w hS => ?_⟩) hS ?_
  ·obtain ⟨⟨s0,s1,s2,s3,s4,s5,s6⟩,⟨p0,p1,p2,p3,p4,p5,p6⟩⟩ := hS
   go_simp
  try simp only [Act.put,List.setIfInBounds_toArray,List.set_cons_zero,List.set_cons_succ]
  refine held_take (i := 7) (v := .agg #[.int .i64 e1,.int .i64 e2,.int .i64 e3,.int .i64 e4,.slice r.aN r.lN r.cN,.slice r.aT r.lT r.cT,.slice r.aR r.lR r.cR]) rfl (by kernel_rfl) (fun _ _ _ h => h) (.inl ⟨rfl,fun w hS => ?_⟩) hS ?_
  ·obtain ⟨⟨s0,s1,s2,s3,s4,s5,s6⟩,⟨p0,p1,p2,p3,p4,p5,p6⟩⟩ := hS
   go_simp
  try simp only [Act.put,List.setIfInBounds_toArray,List.set_cons_zero,List.set_cons_succ]
  refine held_take (i := 8) (v := .int .i64 n) rfl (by kernel_rfl) (fun _ _ _ h => h) (.inl ⟨rfl,fun w hS => ?_⟩) hS ?_
  ·obtain ⟨⟨s0,s1,s2,s3,s4,s5,s6⟩,⟨p0,p1,p2,p3,p4,p5,p6⟩⟩ := hS
   go_simp
  try simp only [Act.put,List.setIfInBounds_toArray,List.set_cons_zero,List.set_cons_succ]
  refine held_one (i := 9) (by kernel_rfl) rfl rfl ?_
  intro K hK
  go_simp
  have hb4 : Below w1.heap.size w1 (w3.alloc (.cells #[.int .i64 0,.int .i64 0,.int .i64 0,.int .i64 0,.slice none 0 0,.slice none 0 0,.slice none 0 0] 26)) := hb3.alloc hb3.size _
  have H7 := Hid.mk9 (Box7.new w3 (.int .i64 0) (.int .i64 0) (.int .i64 0) (.int .i64 0) (.slice none 0 0) (.slice none 0 0) (.slice none 0 0) 26)
  have HT := Hid.mk9 (BoxTy.new w3 #[.int .i64 0,.int .i64 0,.int .i64 0,.int .i64 0,.slice none 0 0,.slice none 0 0,.slice none 0 0] 26)
  have hj : w1.heap.size <= w3.heap.size := hb3.size
  have HR4 := Hid.mk9 (HRB.out r _ _ hR (below_alloc w3 (.cells #[.int .i64 0,.int .i64 0,.int .i64 0,.int .i64 0,.slice none 0 0,.slice none 0 0,.slice none 0 0] 26)))
  refine hK.out _ _ (HS.out _ hb4) ?_
  clear hK hS hR
  have hS := HS.out _ hb4
  try simp only [Act.put,List.setIfInBounds_toArray,List.set_cons_zero,List.set_cons_succ]
  generalize w3.alloc (.cells #[.int .i64 0,.int .i64 0,.int .i64 0,.int .i64 0,.slice none 0 0,.slice none 0 0,.slice none 0 0] 26) = w4 at *
  generalize w3.heap.size = Y at *
  refine held_one (i := 10) (by kernel_rfl) rfl rfl ?_
  intro K hK
  obtain ⟨⟨z0,z1,z2,z3,z4,z5,z6⟩,f0,f1,f2,f3,f4,f5,f6⟩ := H7.out
  go_simp
  have hG := set7_grownBy w4 Y (.int .i64 e1) (.int .i64 e2) (.int .i64 e3) (.int .i64 e4) (.slice r.aN r.lN r.cN) (.slice r.aT r.lT r.cT) (.slice r.aR r.lR r.cR)
  have hb5 : Below w1.heap.size w1 (set7 w4 Y (.int .i64 e1) (.int .i64 e2) (.int .i64 e3) (.int .i64 e4) (.slice r.aN r.lN r.cN) (.slice r.aT r.lT r.cT) (.slice r.aR r.lR r.cR)) := set7_below hb4 hj _ _ _ _ _ _ _
  refine hK.out _ _ (HS.out _ hb5) ?_
  have H8 := Hid.mk9 (H7.out.set (.int .i64 e1) (.int .i64 e2) (.int .i64 e3) (.int .i64 e4) (.slice r.aN r.lN r.cN) (.slice r.aT r.lT r.cT) (.slice r.aR r.lR r.cR))
  have HT8 := Hid.mk9 (boxTy_set7 HT.out (.int .i64 e1) (.int .i64 e2) (.int .i64 e3) (.int .i64 e4) (.slice r.aN r.lN r.cN) (.slice r.aT r.lT r.cT) (.slice r.aR r.lR r.cR))
  have HR8 := Hid.mk9 (HRT.out r _ _ Y HR4.out hG HT.out hj)
  have hS := HS.out _ hb5
  clear hK z0 z1 z2 z3 z4 z5 z6 f0 f1 f2 f3 f4 f5 f6
  try simp only [Act.put,List.setIfInBounds_toArray,List.set_cons_zero,List.set_cons_succ]
  have hQ9 := Hid.mk9 (fun (u64 u65 u66 u67 u68 u69 u70 u71 u72 : Value) => hQ.out u64 u65 u66 u67 u68 u69 u70 u71 u72 Y r _ hj hb5 H8.out HT8.out HR8.out)
  clear hQ
  have hw : ((((((w4.setCell ⟨Y,0,none⟩ (.int .i64 e1)).setCell ⟨Y,1,none⟩ (.int .i64 e2)).setCell ⟨Y,2,none⟩ (.int .i64 e3)).setCell ⟨Y,3,none⟩ (.int .i64 e4)).setCell ⟨Y,4,none⟩ (.slice r.aN r.lN r.cN)).setCell ⟨Y,5,none⟩ (.slice r.aT r.lT r.cT)).setCell ⟨Y,6,none⟩ (.slice r.aR r.lR r.cR) = set7 w4 Y (.int .i64 e1) (.int .i64 e2) (.int .i64 e3) (.int .i64 e4) (.slice r.aN r.lN r.cN) (.slice r.aT r.lT r.cT) (.slice r.aR r.lR r.cR) := rfl
  first | rw [hw] | skip
  generalize set7 w4 Y (.int .i64 e1) (.int .i64 e2) (.int .i64 e3) (.int .i64 e4) (.slice r.aN r.lN r.cN) (.slice r.aT r.lT r.cT) (.slice r.aR r.lR r.cR) = w5 at *
  clear hw
  refine held_take (i := 11) (v := .int .i64 n) rfl (by kernel_rfl) (fun _ _ _ h => h) (.inl ⟨rfl,fun w hS => ?_⟩) hS ?_
  ·obtain ⟨⟨s0,s1,s2,s3,s4,s5,s6⟩,⟨p0,p1,p2,p3,p4,p5,p6⟩⟩ := hS
   go_simp
  try simp only [Act.put,List.setIfInBounds_toArray,List.set_cons_zero,List.set_cons_succ]
  refine wpAnyH_done (by kernel_rfl) ?_ _
  refine NoPanic.normal ?_
  exact hQ9.out _ _ _ _ _ _ _ _ _
 ·intro K hK
  go_simp
  have hb2 : Below w1.heap.size w1 (w1.alloc (.cells #[.int .i64 0,.int .i64 0,.int .i64 0,.int .i64 0,.slice none 0 0,.slice none 0 0,.slice none 0 0] 26)).drew := below2 (below_alloc w1 _) (below_drew _)
  have H7 := Hid.mk9 ((Box7.new w1 (.int .i64 0) (.int .i64 0) (.int .i64 0) (.int .i64 0) (.slice none 0 0) (.slice none 0 0) (.slice none 0 0) 26).below (below_drew _))
  have HT := Hid.mk9 (boxTy_below (BoxTy.new w1 #[.int .i64 0,.int .i64 0,.int .i64 0,.int .i64 0,.slice none 0 0,.slice none 0 0,.slice none 0 0] 26) (below_drew _))
  obtain ⟨Y,hY⟩ : ∃ Y,w1.heap.size = Y := ⟨_,rfl⟩
  have hj : w1.heap.size <= Y := by omega
  rw [hY] at H7 HT
  refine hK.out _ _ (HS.out _ hb2) ?_
  clear hK hS
  have hS := HS.out _ hb2
  try simp only [Act.put,List.setIfInBounds_toArray,List.set_cons_zero,List.set_cons_succ]
  generalize hw3 : (w1.alloc (.cells #[.int .i64 0,.int .i64 0,.int .i64 0,.int .i64 0,.slice none 0 0,.slice none 0 0,.slice none 0 0] 26)).drew = w3 at *
  rw [show (⟨w1.heap.size,0,none⟩ : Addr) = ⟨Y,0,none⟩ from by rw [hY]]
  refine held_one (i := 5) (by kernel_rfl) rfl rfl ?_
  intro K hK
  go_simp
  go_at_call 15
  refine (HA.out _ hb2).mono ?_
  rintro en w4 ⟨r,rfl,hR,hb3'⟩
  have hb4 : Below w1.heap.size w1 w4 := below2 hb2 hb3'
  replace H7 := Hid.mk9 (H7.out.below hb3')
  replace HT := Hid.mk9 (boxTy_below HT.out hb3')
  have HR4 := Hid.mk9 hR
  refine hK.out _ _ (HS.out w4 hb4) ?_
  clear hK hS hb3' hR
  have hS := HS.out w4 hb4
  refine held_take (i := 6) (v := .tuple #[.agg #[.int .i64 e1,.int .i64 e2,.int .i64 e3,.int .i64 e4,.slice r.aN r.lN r.cN,.slice r.aT r.lT r.cT,.slice r.aR r.lR r.cR],.int .i64 n]) rfl (by kernel_rfl) (fun _ _ _ h => h) (.inl ⟨rfl,fun w hS => ?_⟩) hS ?_
  ·obtain ⟨⟨s0,s1,s2,s3,s4,s5,s6⟩,⟨p0,p1,p2,p3,p4,p5,p6⟩⟩ := hS
   go_simp
  try simp only [Act.put,List.setIfInBounds_toArray,List.set_cons_zero,List.set_cons_succ]
  refine held_take (i := 7) (v := .agg #[.int .i64 e1,.int .i64 e2,.int .i64 e3,.int .i64 e4,.slice r.aN r.lN r.cN,.slice r.aT r.lT r.cT,.slice r.aR r.lR r.cR]) rfl (by kernel_rfl) (fun _ _ _ h => h) (.inl ⟨rfl,fun w hS => ?_⟩) hS ?_
  ·obtain ⟨⟨s0,s1,s2,s3,s4,s5,s6⟩,⟨p0,p1,p2,p3,p4,p5,p6⟩⟩ := hS
   go_simp
  try simp only [Act.put,List.setIfInBounds_toArray,List.set_cons_zero,List.set_cons_succ]
  refine held_take (i := 8) (v := .int .i64 n) rfl (by kernel_rfl) (fun _ _ _ h => h) (.inl ⟨rfl,fun w hS => ?_⟩) hS ?_
  ·obtain ⟨⟨s0,s1,s2,s3,s4,s5,s6⟩,⟨p0,p1,p2,p3,p4,p5,p6⟩⟩ := hS
   go_simp
  try simp only [Act.put,List.setIfInBounds_toArray,List.set_cons_zero,List.set_cons_succ]
  refine held_one (i := 10) (by kernel_rfl) rfl rfl ?_
  intro K hK
  obtain ⟨⟨z0,z1,z2,z3,z4,z5,z6⟩,f0,f1,f2,f3,f4,f5,f6⟩ := H7.out
  go_simp
  have hG := set7_grownBy w4 Y (.int .i64 e1) (.int .i64 e2) (.int .i64 e3) (.int .i64 e4) (.slice r.aN r.lN r.cN) (.slice r.aT r.lT r.cT) (.slice r.aR r.lR r.cR)
  have hb5 : Below w1.heap.size w1 (set7 w4 Y (.int .i64 e1) (.int .i64 e2) (.int .i64 e3) (.int .i64 e4) (.slice r.aN r.lN r.cN) (.slice r.aT r.lT r.cT) (.slice r.aR r.lR r.cR)) := set7_below hb4 hj _ _ _ _ _ _ _
  refine hK.out _ _ (HS.out _ hb5) ?_
  have H8 := Hid.mk9 (H7.out.set (.int .i64 e1) (.int .i64 e2) (.int .i64 e3) (.int .i64 e4) (.slice r.aN r.lN r.cN) (.slice r.aT r.lT r.cT) (.slice r.aR r.lR r.cR))
  have HT8 := Hid.mk9 (boxTy_set7 HT.out (.int .i64 e1) (.int .i64 e2) (.int .i64 e3) (.int .i64 e4) (.slice r.aN r.lN r.cN) (.slice r.aT r.lT r.cT) (.slice r.aR r.lR r.cR))
  have HR8 := Hid.mk9 (HRT.out r _ _ Y HR4.out hG HT.out hj)
  have hS := HS.out _ hb5
  clear hK z0 z1 z2 z3 z4 z5 z6 f0 f1 f2 f3 f4 f5 f6
  try simp only [Act.put,List.setIfInBounds_toArray,List.set_cons_zero,List.set_cons_succ]
  have hQ9 := Hid.mk9 (fun (u64 u65 u66 u67 u68 u69 u70 u71 u72 : Value) => hQ.out u64 u65 u66 u67 u68 u69 u70 u71 u72 Y r _ hj hb5 H8.out HT8.out HR8.out)
  clear hQ
  have hw : ((((((w4.setCell ⟨Y,0,none⟩ (.int .i64 e1)).setCell ⟨Y,1,none⟩ (.int .i64 e2)).setCell ⟨Y,2,none⟩ (.int .i64 e3)).setCell ⟨Y,3,none⟩ (.int .i64 e4)).setCell ⟨Y,4,none⟩ (.slice r.aN r.lN r.cN)).setCell ⟨Y,5,none⟩ (.slice r.aT r.lT r.cT)).setCell ⟨Y,6,none⟩ (.slice r.aR r.lR r.cR) = set7 w4 Y (.int .i64 e1) (.int .i64 e2) (.int .i64 e3) (.int .i64 e4) (.slice r.aN r.lN r.cN) (.slice r.aT r.lT r.cT) (.slice r.aR r.lR r.cR) := rfl
  first | rw [hw] | skip
  generalize set7 w4 Y (.int .i64 e1) (.int .i64 e2) (.int .i64 e3) (.int .i64 e4) (.slice r.aN r.lN r.cN) (.slice r.aT r.lT r.cT) (.slice r.aR r.lR r.cR) = w5 at *
  clear hw
  refine held_take (i := 11) (v := .int .i64 n) rfl (by kernel_rfl) (fun _ _ _ h => h) (.inl ⟨rfl,fun w hS => ?_⟩) hS ?_
  ·obtain ⟨⟨s0,s1,s2,s3,s4,s5,s6⟩,⟨p0,p1,p2,p3,p4,p5,p6⟩⟩ := hS
   go_simp
  try simp only [Act.put,List.setIfInBounds_toArray,List.set_cons_zero,List.set_cons_succ]
  refine wpAnyH_done (by kernel_rfl) ?_ _
  refine NoPanic.normal ?_
  exact hQ9.out _ _ _ _ _ _ _ _ _
end Go.Proofs.YtcncbjknfcjnmaaGreat.Tp
