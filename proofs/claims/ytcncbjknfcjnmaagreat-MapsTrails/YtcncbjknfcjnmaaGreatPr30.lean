/-
  A map in a box of one's own, all its rows one's own; where a node stands or would stand; rows of nodes, cut and joined.
  changeNode of whatever map: a node is added, removed, changed.
  Temps in a row of one's own, cut and joined; another row of Temps laid into the map's box; where a Temp stands.
-/
import Derived.Test.YtcncbjknfcjnmaaGreatPr29
namespace Go.Proofs.YtcncbjknfcjnmaaGreat.Tp
open Go.ChangeShapes Go.WideShapes Go.ChangeAt Go.RowKit
variable {G : Nat -> Prop}
def AllOk (G : Nat -> Prop) (w : World) (B : Nat) : List (Int × Value) -> List Tm -> Prop
 | [],[] => True
 | x :: L,t :: ts => (x.1 = t.g /\ IRow w B x.2 t.ns /\ ∀ b,x.2.ownBlock = some b -> G b) /\ AllOk G w B L ts
 | _,_ => False
theorem AllOk.len {w : World} {B : Nat} : ∀ {L : List (Int × Value)} {ts : List Tm},AllOk G w B L ts -> L.length = ts.length
 | [],[],_ => rfl
 | _ :: L,_ :: ts,h => by simpa using AllOk.len h.2
theorem AllOk.map {w w' : World} {B B' : Nat} (hk : ∀ (u : Value) (l : List Int),(∀ b,u.ownBlock = some b -> G b) -> IRow w B u l -> IRow w' B' u l) : ∀ {L : List (Int × Value)} {ts : List Tm},AllOk G w B L ts -> AllOk G w' B' L ts
 | [],[],_ => trivial
 | _ :: _,_ :: _,h => ⟨⟨h.1.1,hk _ _ h.1.2.2 h.1.2.1,h.1.2.2⟩,AllOk.map hk h.2⟩
theorem AllOk.app {w : World} {B : Nat} : ∀ {L L' : List (Int × Value)} {ts ts' : List Tm},AllOk G w B L ts -> AllOk G w B L' ts' -> AllOk G w B (L ++ L') (ts ++ ts')
 | [],_,[],_,_,h => h
 | _ :: _,_,_ :: _,_,h,h' => ⟨h.1,AllOk.app h.2 h'⟩
theorem AllOk.take {w : World} {B : Nat} : ∀ {L : List (Int × Value)} {ts : List Tm} (k : Nat),AllOk G w B L ts -> AllOk G w B (L.take k) (ts.take k)
 | _,_,0,_ => by simp [AllOk]
 | [],[],k + 1,_ => by simp [AllOk]
 | _ :: L,_ :: ts,k + 1,h => ⟨h.1,AllOk.take k h.2⟩
theorem AllOk.drop {w : World} {B : Nat} : ∀ {L : List (Int × Value)} {ts : List Tm} (k : Nat),AllOk G w B L ts -> AllOk G w B (L.drop k) (ts.drop k)
 | _,_,0,h => by simpa using h
 | [],[],k + 1,_ => by simp [AllOk]
 | _ :: L,_ :: ts,k + 1,h => AllOk.drop k h.2
theorem AllOk.one {w : World} {B : Nat} : ∀ {L : List (Int × Value)} {ts : List Tm},AllOk G w B L ts -> ∀ u ∈ pairCells L,u.oneCell' = true
 | [],[],_,u,hu => by simp [pairCells] at hu
 | x :: L,t :: ts,h,u,hu => by
  have e : pairCells (x :: L) = .int .i64 x.1 :: x.2 :: pairCells L := rfl
  rw [e] at hu
  rcases List.mem_cons.1 hu with rfl | hu
  ·rfl
  ·rcases List.mem_cons.1 hu with rfl | hu
   ·rcases h.1.2.1.2 with ⟨e,_⟩ | ⟨g,cap,cur,e,_⟩
    ·rw [e]; rfl
    ·rw [e]; rfl
   ·exact AllOk.one h.2 u hu
theorem AllOk.at {w : World} {B : Nat} : ∀ {L : List (Int × Value)} {ts : List Tm},AllOk G w B L ts -> ∀ i,i < ts.length -> (L.getD i nilP).1 = (ts.getD i tm0).g /\ IRow w B (L.getD i nilP).2 (ts.getD i tm0).ns /\ ∀ b,(L.getD i nilP).2.ownBlock = some b -> G b
 | [],[],_,i,hi => by simp at hi
 | _ :: L,_ :: ts,h,0,_ => h.1
 | _ :: L,_ :: ts,h,i + 1,hi => by simpa using AllOk.at h.2 i (by simpa using hi)
theorem AllOk.of {w : World} {B : Nat} : ∀ {L : List (Int × Value)} {ts : List Tm},L.length = ts.length -> (∀ i,i < ts.length -> (L.getD i nilP).1 = (ts.getD i tm0).g /\ IRow w B (L.getD i nilP).2 (ts.getD i tm0).ns /\ ∀ b,(L.getD i nilP).2.ownBlock = some b -> G b) -> AllOk G w B L ts
 | [],[],_,_ => trivial
 | [],_ :: _,h,_ => by simp at h
 | _ :: _,[],h,_ => by simp at h
 | _ :: L,_ :: ts,h,ha => ⟨by simpa using ha 0 (by simp),AllOk.of (by simpa using h) fun i hi => by simpa using ha (i + 1) (by simpa using hi)⟩
theorem AllOk.weak {G' : Nat -> Prop} {w : World} {B : Nat} (hG : ∀ b,G b -> G' b) : ∀ {L : List (Int × Value)} {ts : List Tm},AllOk G w B L ts -> AllOk G' w B L ts
 | [],[],_ => trivial
 | _ :: _,_ :: _,h => ⟨⟨h.1.1,h.1.2.1,fun b hb => hG b (h.1.2.2 b hb)⟩,AllOk.weak hG h.2⟩
def TmRowG (G : Nat -> Prop) (B : Nat) (E : TypeId) (ts : List Tm) (v : Value) (w : World) : Prop := ∃ L,w.ownsRow B E 2 v ts.length (pairCells L) /\ AllOk G w B L ts
theorem tmRow_of {w : World} {B : Nat} {E : TypeId} {L : List (Int × Value)} {ts : List Tm} {v : Value} {n : Nat} (ho : w.ownsRow B E 2 v n (pairCells L)) (hn : ts.length = n) (h : AllOk G w B L ts) : TmRowG G B E ts v w := by
 subst hn
 exact ⟨L,ho,h⟩
theorem TmRowG.all {w : World} {B : Nat} {E : TypeId} {ts : List Tm} {v : Value} (h : TmRowG G B E ts v w) : ∃ L,w.ownsRow B E 2 v ts.length (pairCells L) /\ AllOk G w B L ts := h
theorem TmRowG.weak {G' : Nat -> Prop} {w : World} {B : Nat} {E : TypeId} {ts : List Tm} {v : Value} (h : TmRowG G B E ts v w) (hG : ∀ b,G b -> G' b) : TmRowG G' B E ts v w := by
 obtain ⟨L,h1,h2⟩ := h
 exact ⟨L,h1,h2.weak hG⟩
theorem TmRowG.below {w w' : World} {B : Nat} {E : TypeId} {ts : List Tm} {v : Value} (h : TmRowG G B E ts v w) (hb : Below w.heap.size w w') : TmRowG G B E ts v w' := by
 obtain ⟨L,h1,h2⟩ := h
 exact ⟨L,own_below h1 hb,h2.map fun u l _ hu => own_below hu hb⟩
theorem TmRowG.type {w w' : World} {B : Nat} {E : TypeId} {ts : List Tm} {v : Value} (h : TmRowG G B E ts v w) {b : Nat} {cb : Array Value} {tb : TypeId} {fz : Nat × Nat} (hg : w.grownBy w' (some b)) (hb : w.heap[b]? = some (.cells cb tb fz)) (hE : tb ≠ E) (h3 : tb ≠ 3) : TmRowG G B E ts v w' := by
 obtain ⟨L,h1,h2⟩ := h
 exact ⟨L,own_type h1 hg hb hE,h2.map fun u l _ hu => own_type hu hg hb h3⟩
theorem own_else9 {w w' : World} {B s n b : Nat} {E : TypeId} {v : Value} {xs : List Value} (h : w.ownsRow B E s v n xs) (hg : w.grownBy w' (some b)) (hne : v.ownBlock ≠ some b) : w'.ownsRow B E s v n xs := by
 refine h.kept hg ?_
 cases hv : v.ownBlock with
 | none => exact .inl rfl
 | some k => right; rw [hv] at hne; exact hne
theorem TmRowG.ints {w w' : World} {B : Nat} {E : TypeId} {ts : List Tm} {v : Value} (h : TmRowG G B E ts v w) {b : Nat} {cb : Array Value} {fz : Nat × Nat} (hg : w.grownBy w' (some b)) (hb : w.heap[b]? = some (.cells cb 3 fz)) (hE : (3 : TypeId) ≠ E) (hG : ¬ G b) : TmRowG G B E ts v w' := by
 obtain ⟨L,h1,h2⟩ := h
 exact ⟨L,own_type h1 hg hb hE,h2.map fun u l hu hi => own_else9 hi hg fun e => hG (hu b e)⟩
theorem TmRow.toG {w : World} {B : Nat} {E : TypeId} {ts : List Tm} {v : Value} (h : TmRow B E ts v w) (hG : ∀ b,B <= b -> b < w.heap.size -> G b) : TmRowG G B E ts v w := by
 obtain ⟨L,h1,h2,h3⟩ := h
 refine ⟨L,h2,AllOk.of h1 fun i hi => ⟨(h3 i hi).1,(h3 i hi).2.1 hi,fun b hb => ?_⟩⟩
 have := ((h3 i hi).2.1 hi).lt b hb
 exact hG b this.1 this.2
def TrRowG (G : Nat -> Prop) (B : Nat) (ts : List Tr) (v : Value) (w : World) : Prop :=
 ∃ L : List (Int × Value),L.length = ts.length /\ w.ownsRow B 53 2 v ts.length (pairCells L) /\ (∀ i,i < ts.length -> (L.getD i nilP).1 = (ts.getD i tr0).since /\ TmRowG G B 55 (ts.getD i tr0).past (L.getD i nilP).2 w) /\ ∀ i j,i < j -> j < ts.length -> ∀ b,(L.getD i nilP).2.ownBlock = some b -> (L.getD j nilP).2.ownBlock ≠ some b
theorem TrRowG.map {G' : Nat -> Prop} {w w' : World} {B : Nat} {ts : List Tr} {v : Value} (h : TrRowG G B ts v w) (h1 : ∀ (L : List (Int × Value)),w.ownsRow B 53 2 v ts.length (pairCells L) -> w'.ownsRow B 53 2 v ts.length (pairCells L)) (h2 : ∀ (l : List Tm) (u : Value),TmRowG G B 55 l u w -> TmRowG G' B 55 l u w') : TrRowG G' B ts v w' := by
 obtain ⟨L,a1,a2,a3,a4⟩ := h
 exact ⟨L,a1,h1 L a2,fun i hi => ⟨(a3 i hi).1,h2 _ _ (a3 i hi).2⟩,a4⟩
theorem TrRowG.below {w w' : World} {B : Nat} {ts : List Tr} {v : Value} (h : TrRowG G B ts v w) (hb : Below w.heap.size w w') : TrRowG G B ts v w' := h.map (fun _ ho => own_below ho hb) fun _ _ hu => hu.below hb
theorem TrRowG.type {w w' : World} {B : Nat} {ts : List Tr} {v : Value} (h : TrRowG G B ts v w) {b : Nat} {cb : Array Value} {tb : TypeId} {fz : Nat × Nat} (hg : w.grownBy w' (some b)) (hb : w.heap[b]? = some (.cells cb tb fz)) (hR : tb ≠ 53) (hS : tb ≠ 55) (h3 : tb ≠ 3) : TrRowG G B ts v w' := h.map (fun _ ho => own_type ho hg hb hR) fun _ _ hu => hu.type hg hb hS h3
theorem TrRowG.ints {w w' : World} {B : Nat} {ts : List Tr} {v : Value} (h : TrRowG G B ts v w) {b : Nat} {cb : Array Value} {fz : Nat × Nat} (hg : w.grownBy w' (some b)) (hb : w.heap[b]? = some (.cells cb 3 fz)) (hG : ¬ G b) : TrRowG G B ts v w' := h.map (fun _ ho => own_type ho hg hb (by decide)) fun _ _ hu => hu.ints hg hb (by decide) hG
theorem TrRowG.weak {G' : Nat -> Prop} {w : World} {B : Nat} {ts : List Tr} {v : Value} (h : TrRowG G B ts v w) (hG : ∀ b,G b -> G' b) : TrRowG G' B ts v w := h.map (fun _ ho => ho) fun _ _ hu => hu.weak hG
theorem TrRow.toG {w : World} {B : Nat} {ts : List Tr} {v : Value} (h : TrRow B ts v w) (hG : ∀ b,B <= b -> b < w.heap.size -> G b) : TrRowG G B ts v w := by
 obtain ⟨L,h1,h2,h3,h4⟩ := h
 exact ⟨L,h1,h2,fun i hi => ⟨(h3 i hi).1,((h3 i hi).2.1 hi).toG hG⟩,fun i j hij hj => h4 i j hij hj hj⟩
structure OwnG (G : Nat -> Prop) (w : World) (B : Nat) (m : Mp) (s : MV) : Prop where
 nds : w.ownsRow B 72 6 (.slice s.aN s.lN s.cN) s.lN (ndsCells m.nds)
 ndl : m.nds.length = s.lN
 tms : TmRowG G B 59 m.tms (.slice s.aT s.lT s.cT) w
 tml : m.tms.length = s.lT
 trs : TrRowG G B m.trs (.slice s.aR s.lR s.cR) w
 trl : m.trs.length = s.lR
theorem OwnM.toG {w : World} {B : Nat} {m : Mp} {s : MV} (h : OwnM w B m s) (hG : ∀ b,B <= b -> b < w.heap.size -> G b) : OwnG G w B m s := ⟨h.nds,h.ndl,h.tms.toG hG,h.tml,h.trs.toG hG,h.trl⟩
structure Kq (w w' : World) : Prop where
 os : w'.os = w.os
 tape : w'.tape = w.tape
 output : w'.output = w.output
 size : w.heap.size <= w'.heap.size
 block : ∀ (k : Nat) (cur : Array Value) (T : TypeId) (fz : Nat × Nat),w.heap[k]? = some (Obj.cells cur T fz) -> ¬ TurnT T -> w'.heap[k]? = w.heap[k]?
theorem Kq.trans {a b c : World} (h : Kq a b) (k : Kq b c) : Kq a c :=
 ⟨k.os.trans h.os,k.tape.trans h.tape,k.output.trans h.output,Nat.le_trans h.size k.size,fun j cur T fz hj hT => by
  have h1 := h.block j cur T fz hj hT
  rw [<- h1] at hj
  exact (k.block j cur T fz hj hT).trans h1⟩
theorem Kp.kq {w w' : World} (h : Kp w w') : Kq w w' := ⟨h.os,h.tape,h.output,h.size,h.block⟩
theorem kq_below {w w' : World} (h : Below w.heap.size w w') : Kq w w' := (kp_below h).kq
theorem kq_grownBy {w w' : World} {b : Nat} {T : TypeId} (hg : w.grownBy w' (some b)) (ht : BoxTy w b T) (hT : TurnT T) : Kq w w' := by
 obtain ⟨cur,h⟩ := ht
 refine ⟨hg.os,hg.tape,hg.output,hg.size,fun k c T' fz hk hT' => hg.block k (lt_of_get hk) ?_⟩
 intro e
 injection e with e
 subst e
 rw [h] at hk
 injection hk with hk
 injection hk with h1 h2 h3
 exact hT' (h2 ▸ hT)
theorem own_kq {w w' : World} {B s n : Nat} {E : TypeId} {v : Value} {xs : List Value} (h : w.ownsRow B E s v n xs) (k : Kq w w') (hE : ¬ TurnT E) : w'.ownsRow B E s v n xs := by
 refine ⟨h.1,?_⟩
 rcases h.2 with h | ⟨g,cap,cur,hv,hB,hh,r⟩
 ·exact .inl h
 ·exact .inr ⟨g,cap,cur,hv,hB,(k.block g cur E _ hh hE).trans hh,r⟩
theorem boxTy_kq {w w' : World} {b : Nat} {T : TypeId} (h : BoxTy w b T) (k : Kq w w') (hT : ¬ TurnT T) : BoxTy w' b T := by
 obtain ⟨cur,h⟩ := h
 exact ⟨cur,(k.block b cur T _ h hT).trans h⟩
theorem grownBy_none {w w' : World} (h : w.grownBy w' none) : Below w.heap.size w w' := ⟨h.os,h.tape,h.output,h.size,fun k hk => h.block k hk (by simp)⟩
theorem own_blk {w : World} {B s n : Nat} {E : TypeId} {v : Value} {xs : List Value} (h : w.ownsRow B E s v n xs) : v.ownBlock = none ∨ ∃ g,v.ownBlock = some g /\ BoxTy w g E /\ B <= g := by
 rcases h.2 with ⟨rfl,_⟩ | ⟨g,cap,cur,rfl,hB,hh,_⟩
 ·exact .inl rfl
 ·exact .inr ⟨g,rfl,⟨cur,hh⟩,hB⟩
theorem kq_own {w w' : World} {B s n : Nat} {E : TypeId} {v : Value} {xs : List Value} (h : w.ownsRow B E s v n xs) (hg : w.grownBy w' v.ownBlock) (hE : TurnT E) : Kq w w' := by
 rcases own_blk h with e | ⟨g,e,ht,-⟩
 ·rw [e] at hg
  exact kq_below (grownBy_none hg)
 ·rw [e] at hg
  exact kq_grownBy hg ht hE
theorem below_own {w w' : World} {B s n : Nat} {E : TypeId} {v : Value} {xs : List Value} (h : w.ownsRow B E s v n xs) (hB : B <= w.heap.size) (hg : w.grownBy w' v.ownBlock) : Below B w w' := by
 refine ⟨hg.os,hg.tape,hg.output,hg.size,fun k hk => hg.block k (by omega) ?_⟩
 rcases own_blk h with e | ⟨g,e,-,hb⟩
 ·rw [e]; simp
 ·rw [e]
  intro e2
  injection e2 with e2
  omega
structure LiveM (G : Nat -> Prop) (w : World) (pm N : Nat) (m : Mp) (s : MV) : Prop where
 box : Box7 w pm (.int .i64 m.ep) (.int .i64 m.size) (.int .i64 m.mn) (.int .i64 m.gr) (.slice s.aN s.lN s.cN) (.slice s.aT s.lT s.cT) (.slice s.aR s.lR s.cR)
 ty : BoxTy w pm 26
 own : OwnG G w N m s
 ge : N <= pm
theorem OwnG.below9 {w w' : World} {B : Nat} {m : Mp} {s : MV} (h : OwnG G w B m s) (hb : Below w.heap.size w w') : OwnG G w' B m s :=
 ⟨own_below h.nds hb,h.ndl,TmRowG.below h.tms hb,h.tml,TrRowG.below h.trs hb,h.trl⟩
theorem LiveM.below {w w' : World} {pm N : Nat} {m : Mp} {s : MV} (h : LiveM G w pm N m s) (hb : Below w.heap.size w w') : LiveM G w' pm N m s := ⟨h.box.below hb,h.ty.kp (kp_below hb),h.own.below9 hb,h.ge⟩
theorem boxTy_ne {w : World} {a b : Nat} {S T : TypeId} (h : BoxTy w a S) (k : BoxTy w b T) (hne : S ≠ T) : a ≠ b := by
 rintro rfl
 obtain ⟨c1,h1⟩ := h
 obtain ⟨c2,h2⟩ := k
 rw [h1] at h2
 injection h2 with h2
 injection h2 with _ h2
 exact hne h2
theorem box_own {w w' : World} {B s n pm : Nat} {E T : TypeId} {v v0 v1 v2 v3 v4 v5 v6 : Value} {xs : List Value} (h : w.ownsRow B E s v n xs) (hg : w.grownBy w' v.ownBlock) (hb : Box7 w pm v0 v1 v2 v3 v4 v5 v6) (ht : BoxTy w pm T) (hT : T ≠ E) : Box7 w' pm v0 v1 v2 v3 v4 v5 v6 /\ BoxTy w' pm T := by
 rcases own_blk h with e | ⟨g,e,hg2,-⟩
 ·rw [e] at hg
  exact ⟨hb.below (grownBy_none hg),ht.kp (kp_below (grownBy_none hg))⟩
 ·rw [e] at hg
  have hne := boxTy_ne ht hg2 hT
  refine ⟨hb.else hg hne,?_⟩
  obtain ⟨cur,hc⟩ := ht
  exact ⟨cur,(hg.block pm (lt_of_get hc) (by simpa using hne)).trans hc⟩
theorem tms_kept {w w' : World} {B s n N : Nat} {E F : TypeId} {v u : Value} {xs : List Value} {ts : List Tm} (h : w.ownsRow B E s v n xs) (hg : w.grownBy w' v.ownBlock) (ht : TmRowG G N F ts u w) (hF : E ≠ F) (h3 : E ≠ 3) : TmRowG G N F ts u w' := by
 rcases own_blk h with e | ⟨g,e,⟨cur,hc⟩,-⟩
 ·rw [e] at hg
  exact TmRowG.below ht (grownBy_none hg)
 ·rw [e] at hg
  exact TmRowG.type ht hg hc hF h3
theorem trs_kept {w w' : World} {B s n N : Nat} {E : TypeId} {v u : Value} {xs : List Value} {ts : List Tr} (h : w.ownsRow B E s v n xs) (hg : w.grownBy w' v.ownBlock) (ht : TrRowG G N ts u w) (hF : E ≠ 53) (hS : E ≠ 55) (h3 : E ≠ 3) : TrRowG G N ts u w' := by
 rcases own_blk h with e | ⟨g,e,⟨cur,hc⟩,-⟩
 ·rw [e] at hg
  exact TrRowG.below ht (grownBy_none hg)
 ·rw [e] at hg
  exact TrRowG.type ht hg hc hF hS h3
theorem LiveM.putN {w W : World} {pm N : Nat} {m : Mp} {s : MV} (h : LiveM G w pm N m s) (hN : N <= w.heap.size) (hg : w.grownBy W (Value.slice s.aN s.lN s.cN).ownBlock) {g l c : Nat} {nds' : List Nd} (ho : W.ownsRow N 72 6 (.slice (some ⟨g,0,none⟩) l c) l (ndsCells nds')) (hl : nds'.length = l) :
  LiveM G (W.setCell ⟨pm,4,none⟩ (.slice (some ⟨g,0,none⟩) l c)) pm N { m with nds := nds' } { s with aN := some ⟨g,0,none⟩,lN := l,cN := c } /\ Kq w (W.setCell ⟨pm,4,none⟩ (.slice (some ⟨g,0,none⟩) l c)) /\ Below N w (W.setCell ⟨pm,4,none⟩ (.slice (some ⟨g,0,none⟩) l c)) := by
 obtain ⟨hb,ht⟩ := box_own h.own.nds hg h.box h.ty (by decide)
 have hT := tms_kept h.own.nds hg h.own.tms (by decide) (by decide)
 have hR := trs_kept h.own.nds hg h.own.trs (by decide) (by decide) (by decide)
 have hgr := set_grownBy W pm 4 (.slice (some ⟨g,0,none⟩) l c)
 have hkp := kp_set ht (.inl rfl) 4 (.slice (some ⟨g,0,none⟩) l c)
 obtain ⟨cm,hcm⟩ := ht
 refine ⟨⟨hb.put4 _,BoxTy.kp ⟨cm,hcm⟩ hkp,⟨own_type ho hgr hcm (by decide),hl,TmRowG.type hT hgr hcm (by decide) (by decide),h.own.tml,TrRowG.type hR hgr hcm (by decide) (by decide) (by decide),h.own.trl⟩,h.ge⟩,(kq_own h.own.nds hg (.inr (.inl rfl))).trans hkp.kq,(below_own h.own.nds hN hg).setCell (p := ⟨pm,4,none⟩) h.ge _⟩
def insPos (keys : List Int) (id : Int) : Nat := (keys.takeWhile fun k => decide (k < id)).length
theorem insPos_eq : ∀ (keys : List Int) (id : Int) (p : Nat),p <= keys.length -> (∀ j,j < p -> keys.getD j 0 < id) -> (p < keys.length -> id <= keys.getD p 0) -> p = insPos keys id
 | [],_,p,h,_,_ => by simp at h; subst h; rfl
 | k :: r,id,0,_,_,h => by
  have := h (by simp)
  have h2 : ¬ k < id := by simpa using this
  simp [insPos,h2]
 | k :: r,id,p + 1,hp,h1,h2 => by
  have a0 : k < id := by simpa using h1 0 (by omega)
  have ih := insPos_eq r id p (by simpa using hp) (fun j hj => by simpa using h1 (j + 1) (by omega)) (fun hp => by simpa using h2 (by simpa using hp))
  unfold insPos at ih ⊢
  simp [a0]
  exact ih
theorem srch_pos {keys : List Int} {id : Int} {p : Nat} {t : Bool} (h : SrchIs keys id p t) : p = insPos keys id := insPos_eq keys id p h.1 h.2.1 fun hp => h.2.2.1 p (Nat.le_refl _) hp
theorem node_pos (m : Mp) (s : MV) (id : Int) (w : World) (hN : NdsAt w s.aN s.lN s.cN m.nds) (hM : MayN m.nds) : Calls Tryz.prog 68 #[.agg (mapCells m s).toArray,.int .i64 id] w fun e w' => (e = .returned (.tuple #[.int .i64 (insPos (m.nds.map (·.id)) id : Int),.bool (findN m.nds id).isSome]) /\ Grown w w') /\ SrchIs (m.nds.map (·.id)) id (insPos (m.nds.map (·.id)) id) (findN m.nds id).isSome := by
 refine (node_grown m s id w hN hM).mono fun e w' ⟨hg,p,t,he,hI⟩ => ?_
 have hu := srch_up hM hI
 have ht : (findN m.nds id).isSome = t := by
  cases t
  ·rw [(hu.2 rfl).2]; rfl
  ·rw [(hu.1 rfl).2.2]; rfl
 rw [ht,<- srch_pos hI]
 exact ⟨⟨he,hg⟩,hI⟩
theorem insPos_yes {k id : Int} (r : List Int) (h : k < id) : insPos (k :: r) id = insPos r id + 1 := by simp [insPos,h]
theorem insPos_no {k id : Int} (r : List Int) (h : ¬ k < id) : insPos (k :: r) id = 0 := by simp [insPos,h]
theorem insPos_all : ∀ (keys : List Int) (id : Int),insPos keys id <= keys.length /\ (∀ j,j < insPos keys id -> keys.getD j 0 < id) /\ (insPos keys id < keys.length -> id <= keys.getD (insPos keys id) 0)
 | [],id => ⟨Nat.le_refl _,fun j hj => absurd hj (by simp [insPos]),fun h => absurd h (by simp [insPos])⟩
 | k :: r,id => by
  obtain ⟨h1,h2,h3⟩ := insPos_all r id
  by_cases h : k < id
  ·rw [insPos_yes r h]
   refine ⟨by simpa using h1,fun j hj => ?_,fun hl => ?_⟩
   ·cases j with
    | zero => simpa using h
    | succ j => simpa using h2 j (by omega)
   ·simpa using h3 (by simpa using hl)
  ·rw [insPos_no r h]
   exact ⟨Nat.zero_le _,fun j hj => absurd hj (Nat.not_lt_zero _),fun _ => by simp; omega⟩
theorem srch_all {keys : List Int} (hR : Rising keys) (id : Int) : SrchIs keys id (insPos keys id) (decide (insPos keys id < keys.length /\ keys.getD (insPos keys id) 0 = id)) := by
 obtain ⟨h1,h2,h3⟩ := insPos_all keys id
 refine ⟨h1,h2,fun j hp hj => ?_,by simp only [decide_eq_true_eq]⟩
 by_cases e : insPos keys id = j
 ·rw [<- e]
  exact h3 (by omega)
 ·have a1 := h3 (by omega)
  have a2 := hR (insPos keys id) j (by omega) hj
  omega
theorem srch_nodes {nds : List Nd} (hM : MayN nds) (id : Int) : SrchIs (nds.map (·.id)) id (insPos (nds.map (·.id)) id) (findN nds id).isSome := by
 have hI := srch_all (may_rising hM) id
 generalize decide (insPos (nds.map (·.id)) id < (nds.map (·.id)).length /\ (nds.map (·.id)).getD (insPos (nds.map (·.id)) id) 0 = id) = t at hI
 have hu := srch_up hM hI
 have ht : (findN nds id).isSome = t := by
  cases t
  ·rw [(hu.2 rfl).2]; rfl
  ·rw [(hu.1 rfl).2.2]; rfl
 rw [ht]
 exact hI
theorem ndsCells_cons (x : Nd) (l : List Nd) : ndsCells (x :: l) = ndCells x ++ ndsCells l := rfl
theorem ndsCells_app (a b : List Nd) : ndsCells (a ++ b) = ndsCells a ++ ndsCells b := by simp [ndsCells]
theorem ndsCells_take : ∀ (l : List Nd) (k : Nat),(ndsCells l).take (k * 6) = ndsCells (l.take k)
 | l,0 => by simp [ndsCells]
 | [],k + 1 => by simp [ndsCells]
 | x :: l,k + 1 => by
  have ih := ndsCells_take l k
  rw [ndsCells_cons,List.take_succ_cons,ndsCells_cons,<- ih,show (k + 1) * 6 = (ndCells x).length + k * 6 by simp [ndCells]; omega,List.take_length_add_append]
theorem ndsCells_drop : ∀ (l : List Nd) (k : Nat),(ndsCells l).drop (k * 6) = ndsCells (l.drop k)
 | l,0 => by simp [ndsCells]
 | [],k + 1 => by simp [ndsCells]
 | x :: l,k + 1 => by
  have ih := ndsCells_drop l k
  rw [ndsCells_cons,List.drop_succ_cons,<- ih,show (k + 1) * 6 = (ndCells x).length + k * 6 by simp [ndCells]; omega,List.drop_length_add_append]
def set6o (w : World) (b o : Nat) (v0 v1 v2 v3 v4 v5 : Value) : World := (((((w.setCell ⟨b,o,none⟩ v0).setCell ⟨b,o + 1,none⟩ v1).setCell ⟨b,o + 2,none⟩ v2).setCell ⟨b,o + 3,none⟩ v3).setCell ⟨b,o + 4,none⟩ v4).setCell ⟨b,o + 5,none⟩ v5
theorem set6o_grownBy (w : World) (b o : Nat) (v0 v1 v2 v3 v4 v5 : Value) : w.grownBy (set6o w b o v0 v1 v2 v3 v4 v5) (some b) :=
 grownBy_trans (grownBy_trans (grownBy_trans (grownBy_trans (grownBy_trans (set_grownBy _ _ _ _) (set_grownBy _ _ _ _)) (set_grownBy _ _ _ _)) (set_grownBy _ _ _ _)) (set_grownBy _ _ _ _)) (set_grownBy _ _ _ _)
theorem ndsCells_set : ∀ (l : List Nd) (k : Nat) (y : Nd),k < l.length -> ((((((ndsCells l).set (k * 6) (.int .i64 y.id)).set (k * 6 + 1) (.int .i64 y.zone)).set (k * 6 + 2) (.int .i64 y.rack)).set (k * 6 + 3) (.int .i64 y.weight)).set (k * 6 + 4) (.bool y.up)).set (k * 6 + 5) (.bool y.inn) = ndsCells (l.set k y)
 | x :: l,0,y,_ => by simp [ndsCells,ndCells]
 | x :: l,k + 1,y,h => by
  have ih := ndsCells_set l k y (by simpa using h)
  rw [ndsCells_cons,List.set_cons_succ,ndsCells_cons,<- ih,show (k + 1) * 6 = k * 6 + 6 by omega]
  simp [ndCells]
theorem own_set6o {w : World} {B g c n p : Nat} {l : List Nd} {y : Nd} (h : w.ownsRow B 72 6 (.slice (some ⟨g,0,none⟩) n c) n (ndsCells l)) (hp : p < l.length) : (set6o w g (p * 6) (.int .i64 y.id) (.int .i64 y.zone) (.int .i64 y.rack) (.int .i64 y.weight) (.bool y.up) (.bool y.inn)).ownsRow B 72 6 (.slice (some ⟨g,0,none⟩) n c) n (ndsCells (l.set p y)) := by
 have k0 := (h.stored (p * 6) (.int .i64 y.id)).1
 have k1 := (k0.stored (p * 6 + 1) (.int .i64 y.zone)).1
 have k2 := (k1.stored (p * 6 + 2) (.int .i64 y.rack)).1
 have k3 := (k2.stored (p * 6 + 3) (.int .i64 y.weight)).1
 have k4 := (k3.stored (p * 6 + 4) (.bool y.up)).1
 have k5 := (k4.stored (p * 6 + 5) (.bool y.inn)).1
 rw [ndsCells_set l p y hp] at k5
 exact k5
theorem LiveM.setN {w : World} {pm N g n c : Nat} {m : Mp} {s : MV} (h : LiveM G w pm N m s) (hN : N <= w.heap.size) (ha : s.aN = some ⟨g,0,none⟩) (hn : s.lN = n) (hc : s.cN = c) {p : Nat} (hp : p < m.nds.length) (y : Nd) :
  LiveM G (set6o w g (p * 6) (.int .i64 y.id) (.int .i64 y.zone) (.int .i64 y.rack) (.int .i64 y.weight) (.bool y.up) (.bool y.inn)) pm N { m with nds := m.nds.set p y } s /\ Kq w (set6o w g (p * 6) (.int .i64 y.id) (.int .i64 y.zone) (.int .i64 y.rack) (.int .i64 y.weight) (.bool y.up) (.bool y.inn)) /\ Below N w (set6o w g (p * 6) (.int .i64 y.id) (.int .i64 y.zone) (.int .i64 y.rack) (.int .i64 y.weight) (.bool y.up) (.bool y.inn)) := by
 have hg0 := set6o_grownBy w g (p * 6) (.int .i64 y.id) (.int .i64 y.zone) (.int .i64 y.rack) (.int .i64 y.weight) (.bool y.up) (.bool y.inn)
 have hv : (Value.slice s.aN s.lN s.cN).ownBlock = some g := by rw [ha]; rfl
 have hg : w.grownBy (set6o w g (p * 6) (.int .i64 y.id) (.int .i64 y.zone) (.int .i64 y.rack) (.int .i64 y.weight) (.bool y.up) (.bool y.inn)) (Value.slice s.aN s.lN s.cN).ownBlock := by rw [hv]; exact hg0
 have ho := h.own.nds
 rw [ha,hn,hc] at ho
 have ho2 := own_set6o (y := y) ho hp
 obtain ⟨hb,ht⟩ := box_own h.own.nds hg h.box h.ty (by decide)
 have hT := tms_kept h.own.nds hg h.own.tms (by decide) (by decide)
 have hR := trs_kept h.own.nds hg h.own.trs (by decide) (by decide) (by decide)
 refine ⟨⟨hb,ht,⟨?_,by rw [List.length_set]; exact h.own.ndl,hT,h.own.tml,hR,h.own.trl⟩,h.ge⟩,kq_own h.own.nds hg (.inr (.inl rfl)),below_own h.own.nds hN hg⟩
 rw [ha,hn,hc]
 exact ho2
end Go.Proofs.YtcncbjknfcjnmaaGreat.Tp
namespace Go.Proofs.YtcncbjknfcjnmaaGreat.Tp
open Go.ChangeShapes Go.WideShapes Go.ChangeAt Go.RowKit
variable {G : Nat -> Prop}
def ChgPost (G : Nat -> Prop) (w : World) (pm N : Nat) (m : Mp) (e : Ending) (w' : World) : Prop := e = .returned (.tuple #[]) /\ (∃ s',LiveM G w' pm N m s') /\ Kq w w' /\ Below N w w'
set_option maxRecDepth 60000 in
theorem added_g (k id z r wt gd : Int) (ad : Option Addr) (ld cd : Nat) (w : World) : Calls Tryz.prog 88 #[.agg #[.int .i64 k,.int .i64 id,.int .i64 z,.int .i64 r,.int .i64 wt,.int .i64 gd,.slice ad ld cd]] w fun e w' => e = .returned (.agg #[.int .i64 id,.int .i64 z,.int .i64 r,.int .i64 wt,.bool false,.bool true]) /\ w' = (w.alloc (.cells #[.int .i64 k,.int .i64 id,.int .i64 z,.int .i64 r,.int .i64 wt,.int .i64 gd,.slice ad ld cd] 37)).alloc (.cells #[.int .i64 id,.int .i64 z,.int .i64 r,.int .i64 wt,.bool false,.bool true] 72) := by
 go_enter Tryz.func88,Tryz.ntmps88
 go_wp2_with fail
 refine bodyPost_ret (ret_nd rfl _ _ (w.heap.size + 1) (.int .i64 id) (.int .i64 z) (.int .i64 r) (.int .i64 wt) (.bool false) (.bool true) rfl (by unfold Six; simp)) rfl ?_
 exact ⟨rfl,rfl⟩
def Ins5 (S : World -> Prop) (R : Nat -> Nat -> World -> Prop) (n : Nat) (e : Ending) (w' : World) : Prop := ∃ g c,e = .returned (.slice (some ⟨g,0,none⟩) n c) /\ S w' /\ R g c w'
set_option maxHeartbeats 4000000 in
set_option maxRecDepth 60000 in
theorem cn_add9 (t1 t2 t5 t6 t7 t8 t9 t10 t11 t12 t13 t14 t15 t16 t17 t18 t19 t20 t21 t22 t23 t24 t25 t26 t27 t28 t29 t30 t31 t32 t33 t34 t35 t36 t37 t38 t39 t40 t41 t42 t43 t44 t45 t46 t47 t48 t49 t50 t51 t52 t53 t54 t55 t56 t57 t58 : Value) (pm pd p n : Nat) (id z r wt gd ep sz mn gr : Int) (ad aN : Option Addr) (ld cd lN cN : Nat) (vT vR : Value) (R : Nat -> Nat -> World -> Prop) (w1 : World) (Q : Exit -> Act -> World -> Prop)
  (hA : Box7 w1 pm (.int .i64 ep) (.int .i64 sz) (.int .i64 mn) (.int .i64 gr) (.slice aN lN cN) vT vR) (hD : Box7 w1 pd (.int .i64 1) (.int .i64 id) (.int .i64 z) (.int .i64 r) (.int .i64 wt) (.int .i64 gd) (.slice ad ld cd))
  (HIN : Hid (∀ W,Below w1.heap.size w1 W -> Calls Tryz.prog 115 #[.slice aN lN cN,.int .i64 (p : Int),.slice (some ⟨W.heap.size,0,none⟩) 1 1] (W.alloc (.cells #[.int .i64 id,.int .i64 z,.int .i64 r,.int .i64 wt,.bool false,.bool true] 72)) fun e w' => Ins5 (fun w' => Box7 w' pm (.int .i64 ep) (.int .i64 sz) (.int .i64 mn) (.int .i64 gr) (.slice aN lN cN) vT vR /\ Box7 w' pd (.int .i64 1) (.int .i64 id) (.int .i64 z) (.int .i64 r) (.int .i64 wt) (.int .i64 gd) (.slice ad ld cd)) R n e w'))
  (hQ : Hid (∀ (u34 u35 u36 u37 u38 u39 u40 u41 u42 u43 u44 u45 : Value) (g c : Nat) (W : World),R g c W -> Q .normal ⟨#[.pointer (some ⟨pm,0,none⟩),t1,t2,.pointer (some ⟨pd,0,none⟩),.int .i64 (p : Int),t5,t6,t7,t8,t9,t10,t11,t12,t13,t14,t15,t16,t17,t18,t19,t20,t21,t22,t23,t24,t25,t26,t27,t28,t29,t30,t31,t32,t33,u34,u35,u36,u37,u38,u39,u40,u41,u42,u43,u44,u45,t46,t47,t48,t49,t50,t51,t52,t53,t54,t55,t56,t57,t58],[]⟩ (W.setCell ⟨pm,4,none⟩ (.slice (some ⟨g,0,none⟩) n c)))) :
  Code.wp Tryz.prog ((Tryz.f95.body.bind (regionOf 5)).getD .skip) Q ⟨#[.pointer (some ⟨pm,0,none⟩),t1,t2,.pointer (some ⟨pd,0,none⟩),.int .i64 (p : Int),t5,t6,t7,t8,t9,t10,t11,t12,t13,t14,t15,t16,t17,t18,t19,t20,t21,t22,t23,t24,t25,t26,t27,t28,t29,t30,t31,t32,t33,t34,t35,t36,t37,t38,t39,t40,t41,t42,t43,t44,t45,t46,t47,t48,t49,t50,t51,t52,t53,t54,t55,t56,t57,t58],[]⟩ w1 := by
 have HS : Hid (∀ w',Below w1.heap.size w1 w' -> (fun w' => Box7 w' pm (.int .i64 ep) (.int .i64 sz) (.int .i64 mn) (.int .i64 gr) (.slice aN lN cN) vT vR /\ Box7 w' pd (.int .i64 1) (.int .i64 id) (.int .i64 z) (.int .i64 r) (.int .i64 wt) (.int .i64 gd) (.slice ad ld cd)) w') := fun w' h => ⟨hA.below h,hD.below h⟩
 have HAD : Hid (∀ W,Calls Tryz.prog 88 #[.agg #[.int .i64 1,.int .i64 id,.int .i64 z,.int .i64 r,.int .i64 wt,.int .i64 gd,.slice ad ld cd]] W fun e w' => e = .returned (.agg #[.int .i64 id,.int .i64 z,.int .i64 r,.int .i64 wt,.bool false,.bool true]) /\ w' = (W.alloc (.cells #[.int .i64 1,.int .i64 id,.int .i64 z,.int .i64 r,.int .i64 wt,.int .i64 gd,.slice ad ld cd] 37)).alloc (.cells #[.int .i64 id,.int .i64 z,.int .i64 r,.int .i64 wt,.bool false,.bool true] 72)) := added_g 1 id z r wt gd ad ld cd
 have hS := HS.out w1.drew (below_drew w1)
 clear hA hD
 conv => arg 2; whnf
 refine wp_region_but (S := (fun w' => Box7 w' pm (.int .i64 ep) (.int .i64 sz) (.int .i64 mn) (.int .i64 gr) (.slice aN lN cN) vT vR /\ Box7 w' pd (.int .i64 1) (.int .i64 id) (.int .i64 z) (.int .i64 r) (.int .i64 wt) (.int .i64 gd) (.slice ad ld cd))) (n := 12) mixed5 ?_
 refine but_take (i := 0) (v := .pointer (some ⟨pm,0,none⟩)) rfl (by kernel_rfl) (fun _ _ _ h => h) (.inl ⟨rfl,fun w hS => ?_⟩) hS ?_
 ·obtain ⟨⟨⟨s0,s1,s2,s3,s4,s5,s6⟩,⟨f0,f1,f2,f3,f4,f5,f6⟩⟩,⟨⟨d0,d1,d2,d3,d4,d5,d6⟩,-⟩⟩ := hS
  go_simp
 simp only [Act.put,List.setIfInBounds_toArray,List.set_cons_zero,List.set_cons_succ]
 refine but_take (i := 1) (v := .pointer (some ⟨pm,0,none⟩)) rfl (by kernel_rfl) (fun _ _ _ h => h) (.inl ⟨rfl,fun w hS => ?_⟩) hS ?_
 ·obtain ⟨⟨⟨s0,s1,s2,s3,s4,s5,s6⟩,⟨f0,f1,f2,f3,f4,f5,f6⟩⟩,⟨⟨d0,d1,d2,d3,d4,d5,d6⟩,-⟩⟩ := hS
  go_simp
 simp only [Act.put,List.setIfInBounds_toArray,List.set_cons_zero,List.set_cons_succ]
 refine but_take (i := 2) (v := .pointer (some ⟨pm,0,none⟩)) rfl (by kernel_rfl) (fun _ _ _ h => h) (.inl ⟨rfl,fun w hS => ?_⟩) hS ?_
 ·obtain ⟨⟨⟨s0,s1,s2,s3,s4,s5,s6⟩,⟨f0,f1,f2,f3,f4,f5,f6⟩⟩,⟨⟨d0,d1,d2,d3,d4,d5,d6⟩,-⟩⟩ := hS
  go_simp
 simp only [Act.put,List.setIfInBounds_toArray,List.set_cons_zero,List.set_cons_succ]
 refine but_take (i := 3) (v := .pointer (some ⟨pm,4,none⟩)) rfl (by kernel_rfl) (fun _ _ _ h => h) (.inl ⟨rfl,fun w hS => ?_⟩) hS ?_
 ·obtain ⟨⟨⟨s0,s1,s2,s3,s4,s5,s6⟩,⟨f0,f1,f2,f3,f4,f5,f6⟩⟩,⟨⟨d0,d1,d2,d3,d4,d5,d6⟩,-⟩⟩ := hS
  go_simp
 simp only [Act.put,List.setIfInBounds_toArray,List.set_cons_zero,List.set_cons_succ]
 refine but_take (i := 4) (v := .slice aN lN cN) rfl (by kernel_rfl) (fun _ _ _ h => h) (.inl ⟨rfl,fun w hS => ?_⟩) hS ?_
 ·obtain ⟨⟨⟨s0,s1,s2,s3,s4,s5,s6⟩,⟨f0,f1,f2,f3,f4,f5,f6⟩⟩,⟨⟨d0,d1,d2,d3,d4,d5,d6⟩,-⟩⟩ := hS
  go_simp
 simp only [Act.put,List.setIfInBounds_toArray,List.set_cons_zero,List.set_cons_succ]
 refine but_take (i := 5) (v := .int .i64 (p : Int)) rfl (by kernel_rfl) (fun _ _ _ h => h) (.inl ⟨rfl,fun w hS => ?_⟩) hS ?_
 ·obtain ⟨⟨⟨s0,s1,s2,s3,s4,s5,s6⟩,⟨f0,f1,f2,f3,f4,f5,f6⟩⟩,⟨⟨d0,d1,d2,d3,d4,d5,d6⟩,-⟩⟩ := hS
  go_simp
 simp only [Act.put,List.setIfInBounds_toArray,List.set_cons_zero,List.set_cons_succ]
 refine but_take (i := 6) (v := .agg #[.int .i64 1,.int .i64 id,.int .i64 z,.int .i64 r,.int .i64 wt,.int .i64 gd,.slice ad ld cd]) rfl (by kernel_rfl) (fun _ _ _ h => h) (.inl ⟨rfl,fun w hS => ?_⟩) hS ?_
 ·obtain ⟨⟨⟨s0,s1,s2,s3,s4,s5,s6⟩,⟨f0,f1,f2,f3,f4,f5,f6⟩⟩,⟨⟨d0,d1,d2,d3,d4,d5,d6⟩,-⟩⟩ := hS
  go_simp
 simp only [Act.put,List.setIfInBounds_toArray,List.set_cons_zero,List.set_cons_succ]
 refine but_one (i := 7) (by kernel_rfl) rfl rfl ?_
 intro K hK
 go_simp
 go_at_call 88
 refine (HAD.out _).mono ?_
 rintro en w3 ⟨rfl,hw3⟩
 have hb3 : Below w1.heap.size w1 w3 := by rw [hw3]; exact below2 (below_drew w1) (below2 (below_alloc _ _) (below_alloc _ _))
 clear hw3
 refine hK.out _ _ (fun _ => HS.out w3 hb3) ?_
 clear hK hS
 have hS := HS.out w3 hb3
 try simp only [Act.put,List.setIfInBounds_toArray,List.set_cons_zero,List.set_cons_succ]
 refine but_one (i := 8) (by kernel_rfl) rfl rfl ?_
 intro K hK
 go_simp
 have hb4 : Below w1.heap.size w1 (w3.alloc (.cells #[.int .i64 id,.int .i64 z,.int .i64 r,.int .i64 wt,.bool false,.bool true] 72)) := below2 hb3 (below_alloc _ _)
 refine hK.out _ _ (fun _ => HS.out _ hb4) ?_
 clear hK hS
 have hS := HS.out _ hb4
 try simp only [Act.put,List.setIfInBounds_toArray,List.set_cons_zero,List.set_cons_succ]
 refine but_one (i := 9) (by kernel_rfl) rfl rfl ?_
 intro K hK
 go_simp
 go_at_call 115
 refine (HIN.out _ hb3).mono ?_
 rintro en w5 ⟨g5,cp5,rfl,hS5,hR5⟩
 have HR5 : Hid (R g5 cp5 w5) := hR5
 clear hR5
 refine hK.out _ _ (fun _ => hS5) ?_
 clear hK hS
 have hS := hS5
 clear hS5
 try simp only [Act.put,List.setIfInBounds_toArray,List.set_cons_zero,List.set_cons_succ]
 refine but_take (i := 10) (v := .pointer (some ⟨pm,0,none⟩)) rfl (by kernel_rfl) (fun _ _ _ h => h) (.inl ⟨rfl,fun w hS => ?_⟩) hS ?_
 ·obtain ⟨⟨⟨s0,s1,s2,s3,s4,s5,s6⟩,⟨f0,f1,f2,f3,f4,f5,f6⟩⟩,⟨⟨d0,d1,d2,d3,d4,d5,d6⟩,-⟩⟩ := hS
  go_simp
 simp only [Act.put,List.setIfInBounds_toArray,List.set_cons_zero,List.set_cons_succ]
 refine but_take (i := 11) (v := .pointer (some ⟨pm,4,none⟩)) rfl (by kernel_rfl) (fun _ _ _ h => h) (.inl ⟨rfl,fun w hS => ?_⟩) hS ?_
 ·obtain ⟨⟨⟨s0,s1,s2,s3,s4,s5,s6⟩,⟨f0,f1,f2,f3,f4,f5,f6⟩⟩,⟨⟨d0,d1,d2,d3,d4,d5,d6⟩,-⟩⟩ := hS
  go_simp
 simp only [Act.put,List.setIfInBounds_toArray,List.set_cons_zero,List.set_cons_succ]
 refine but_one (i := 12) (by kernel_rfl) rfl rfl ?_
 intro K hK
 obtain ⟨⟨⟨s0,s1,s2,s3,s4,s5,s6⟩,⟨f0,f1,f2,f3,f4,f5,f6⟩⟩,⟨⟨d0,d1,d2,d3,d4,d5,d6⟩,-⟩⟩ := hS
 go_simp
 refine hK.out _ _ (fun h => absurd rfl h) ?_
 clear hK
 try simp only [Act.put,List.setIfInBounds_toArray,List.set_cons_zero,List.set_cons_succ]
 refine AnyBut.done (by kernel_rfl) ?_ _
 refine NoPanic.normal ?_
 exact hQ.out _ _ _ _ _ _ _ _ _ _ _ _ g5 cp5 w5 HR5.out
set_option maxHeartbeats 4000000 in
set_option maxRecDepth 60000 in
theorem cn_set9 (t1 t2 t5 t6 t7 t8 t9 t10 t11 t12 t13 t14 t15 t16 t17 t18 t19 t20 t21 t22 t23 t24 t25 t26 t27 t28 t29 t30 t31 t32 t33 t34 t35 t36 t37 t38 t39 t40 t41 t42 t43 t44 t45 t46 t47 t48 t49 t50 t51 t52 t53 t54 t55 t56 t57 t58 : Value) (pm pd p g lN cN : Nat) (k id z r wt gd ep sz mn gr c1 c2 c3 c4 y1 y2 y3 y4 : Int) (c5 c6 y5 y6 : Bool) (ad : Option Addr) (ld cd : Nat) (vT vR : Value) (w1 : World) (Q : Exit -> Act -> World -> Prop) (hpn : (p : Int) < (lN : Int))
  (hA : Box7 w1 pm (.int .i64 ep) (.int .i64 sz) (.int .i64 mn) (.int .i64 gr) (.slice (some ⟨g,0,none⟩) lN cN) vT vR) (hD : Box7 w1 pd (.int .i64 k) (.int .i64 id) (.int .i64 z) (.int .i64 r) (.int .i64 wt) (.int .i64 gd) (.slice ad ld cd)) (hSix : NdAt w1 g (p * 6) ⟨c1,c2,c3,c4,c5,c6⟩) (hF : (w1.frozen? ⟨g,p * 6,none⟩ = false /\ w1.frozen? ⟨g,p * 6 + 1,none⟩ = false /\ w1.frozen? ⟨g,p * 6 + 2,none⟩ = false /\ w1.frozen? ⟨g,p * 6 + 3,none⟩ = false /\ w1.frozen? ⟨g,p * 6 + 4,none⟩ = false /\ w1.frozen? ⟨g,p * 6 + 5,none⟩ = false))
  (HT : Hid (∀ W,Calls Tryz.prog 93 #[.agg #[.int .i64 c1,.int .i64 c2,.int .i64 c3,.int .i64 c4,.bool c5,.bool c6],.agg #[.int .i64 k,.int .i64 id,.int .i64 z,.int .i64 r,.int .i64 wt,.int .i64 gd,.slice ad ld cd]] W fun e w' => e = .returned (.agg #[.int .i64 y1,.int .i64 y2,.int .i64 y3,.int .i64 y4,.bool y5,.bool y6]) /\ Grown W w'))
  (hQ : Hid (∀ (u17 u18 u19 u20 u21 u22 u23 u24 u25 u26 u27 u28 u29 u30 u31 : Value) (W : World),Below w1.heap.size w1 W -> Q .normal ⟨#[.pointer (some ⟨pm,0,none⟩),t1,t2,.pointer (some ⟨pd,0,none⟩),.int .i64 (p : Int),t5,t6,t7,t8,t9,t10,t11,t12,t13,t14,t15,t16,u17,u18,u19,u20,u21,u22,u23,u24,u25,u26,u27,u28,u29,u30,u31,t32,t33,t34,t35,t36,t37,t38,t39,t40,t41,t42,t43,t44,t45,t46,t47,t48,t49,t50,t51,t52,t53,t54,t55,t56,t57,t58],[]⟩ (set6o W g (p * 6) (.int .i64 y1) (.int .i64 y2) (.int .i64 y3) (.int .i64 y4) (.bool y5) (.bool y6)))) :
  Code.wp Tryz.prog ((Tryz.f95.body.bind (regionOf 3)).getD .skip) Q ⟨#[.pointer (some ⟨pm,0,none⟩),t1,t2,.pointer (some ⟨pd,0,none⟩),.int .i64 (p : Int),t5,t6,t7,t8,t9,t10,t11,t12,t13,t14,t15,t16,t17,t18,t19,t20,t21,t22,t23,t24,t25,t26,t27,t28,t29,t30,t31,t32,t33,t34,t35,t36,t37,t38,t39,t40,t41,t42,t43,t44,t45,t46,t47,t48,t49,t50,t51,t52,t53,t54,t55,t56,t57,t58],[]⟩ w1 := by
 have hgl : g < w1.heap.size := World.block_lt_of_cell? w1 ⟨g,p * 6,none⟩ hSix.1
 have hpn' : p < lN := by omega
 have HS : Hid (∀ w',Below w1.heap.size w1 w' -> (fun w' => Box7 w' pm (.int .i64 ep) (.int .i64 sz) (.int .i64 mn) (.int .i64 gr) (.slice (some ⟨g,0,none⟩) lN cN) vT vR /\ Box7 w' pd (.int .i64 k) (.int .i64 id) (.int .i64 z) (.int .i64 r) (.int .i64 wt) (.int .i64 gd) (.slice ad ld cd) /\ NdAt w' g (p * 6) ⟨c1,c2,c3,c4,c5,c6⟩ /\ (w'.frozen? ⟨g,p * 6,none⟩ = false /\ w'.frozen? ⟨g,p * 6 + 1,none⟩ = false /\ w'.frozen? ⟨g,p * 6 + 2,none⟩ = false /\ w'.frozen? ⟨g,p * 6 + 3,none⟩ = false /\ w'.frozen? ⟨g,p * 6 + 4,none⟩ = false /\ w'.frozen? ⟨g,p * 6 + 5,none⟩ = false) /\ Below w1.heap.size w1 w') w') := fun w' h => ⟨hA.below h,hD.below h,hSix.below h,⟨(h.frozen (p := ⟨g,p * 6,none⟩) hgl).trans hF.1,(h.frozen (p := ⟨g,p * 6 + 1,none⟩) hgl).trans hF.2.1,(h.frozen (p := ⟨g,p * 6 + 2,none⟩) hgl).trans hF.2.2.1,(h.frozen (p := ⟨g,p * 6 + 3,none⟩) hgl).trans hF.2.2.2.1,(h.frozen (p := ⟨g,p * 6 + 4,none⟩) hgl).trans hF.2.2.2.2.1,(h.frozen (p := ⟨g,p * 6 + 5,none⟩) hgl).trans hF.2.2.2.2.2⟩,h⟩
 have hS := HS.out w1.drew (below_drew w1)
 clear hA hD hSix hF
 conv => arg 2; whnf
 refine wp_region_but (S := (fun w' => Box7 w' pm (.int .i64 ep) (.int .i64 sz) (.int .i64 mn) (.int .i64 gr) (.slice (some ⟨g,0,none⟩) lN cN) vT vR /\ Box7 w' pd (.int .i64 k) (.int .i64 id) (.int .i64 z) (.int .i64 r) (.int .i64 wt) (.int .i64 gd) (.slice ad ld cd) /\ NdAt w' g (p * 6) ⟨c1,c2,c3,c4,c5,c6⟩ /\ (w'.frozen? ⟨g,p * 6,none⟩ = false /\ w'.frozen? ⟨g,p * 6 + 1,none⟩ = false /\ w'.frozen? ⟨g,p * 6 + 2,none⟩ = false /\ w'.frozen? ⟨g,p * 6 + 3,none⟩ = false /\ w'.frozen? ⟨g,p * 6 + 4,none⟩ = false /\ w'.frozen? ⟨g,p * 6 + 5,none⟩ = false) /\ Below w1.heap.size w1 w')) (n := 15) mixed5 ?_
 refine but_take (i := 0) (v := .pointer (some ⟨pm,0,none⟩)) rfl (by kernel_rfl) (fun _ _ _ h => h) (.inl ⟨rfl,fun w hS => ?_⟩) hS ?_
 ·obtain ⟨⟨⟨s0,s1,s2,s3,s4,s5,s6⟩,-⟩,⟨⟨d0,d1,d2,d3,d4,d5,d6⟩,-⟩,⟨n0,n1,n2,n3,n4,n5⟩,⟨f0,f1,f2,f3,f4,f5⟩,hbS⟩ := hS
  go_simp
 simp only [Act.put,List.setIfInBounds_toArray,List.set_cons_zero,List.set_cons_succ]
 refine but_take (i := 1) (v := .pointer (some ⟨pm,0,none⟩)) rfl (by kernel_rfl) (fun _ _ _ h => h) (.inl ⟨rfl,fun w hS => ?_⟩) hS ?_
 ·obtain ⟨⟨⟨s0,s1,s2,s3,s4,s5,s6⟩,-⟩,⟨⟨d0,d1,d2,d3,d4,d5,d6⟩,-⟩,⟨n0,n1,n2,n3,n4,n5⟩,⟨f0,f1,f2,f3,f4,f5⟩,hbS⟩ := hS
  go_simp
 simp only [Act.put,List.setIfInBounds_toArray,List.set_cons_zero,List.set_cons_succ]
 refine but_take (i := 2) (v := .pointer (some ⟨pm,4,none⟩)) rfl (by kernel_rfl) (fun _ _ _ h => h) (.inl ⟨rfl,fun w hS => ?_⟩) hS ?_
 ·obtain ⟨⟨⟨s0,s1,s2,s3,s4,s5,s6⟩,-⟩,⟨⟨d0,d1,d2,d3,d4,d5,d6⟩,-⟩,⟨n0,n1,n2,n3,n4,n5⟩,⟨f0,f1,f2,f3,f4,f5⟩,hbS⟩ := hS
  go_simp
 simp only [Act.put,List.setIfInBounds_toArray,List.set_cons_zero,List.set_cons_succ]
 refine but_take (i := 3) (v := .slice (some ⟨g,0,none⟩) lN cN) rfl (by kernel_rfl) (fun _ _ _ h => h) (.inl ⟨rfl,fun w hS => ?_⟩) hS ?_
 ·obtain ⟨⟨⟨s0,s1,s2,s3,s4,s5,s6⟩,-⟩,⟨⟨d0,d1,d2,d3,d4,d5,d6⟩,-⟩,⟨n0,n1,n2,n3,n4,n5⟩,⟨f0,f1,f2,f3,f4,f5⟩,hbS⟩ := hS
  go_simp
 simp only [Act.put,List.setIfInBounds_toArray,List.set_cons_zero,List.set_cons_succ]
 refine but_take (i := 4) (v := .int .i64 (p : Int)) rfl (by kernel_rfl) (fun _ _ _ h => h) (.inl ⟨rfl,fun w hS => ?_⟩) hS ?_
 ·obtain ⟨⟨⟨s0,s1,s2,s3,s4,s5,s6⟩,-⟩,⟨⟨d0,d1,d2,d3,d4,d5,d6⟩,-⟩,⟨n0,n1,n2,n3,n4,n5⟩,⟨f0,f1,f2,f3,f4,f5⟩,hbS⟩ := hS
  go_simp
 simp only [Act.put,List.setIfInBounds_toArray,List.set_cons_zero,List.set_cons_succ]
 refine but_take (i := 5) (v := .pointer (some ⟨pm,0,none⟩)) rfl (by kernel_rfl) (fun _ _ _ h => h) (.inl ⟨rfl,fun w hS => ?_⟩) hS ?_
 ·obtain ⟨⟨⟨s0,s1,s2,s3,s4,s5,s6⟩,-⟩,⟨⟨d0,d1,d2,d3,d4,d5,d6⟩,-⟩,⟨n0,n1,n2,n3,n4,n5⟩,⟨f0,f1,f2,f3,f4,f5⟩,hbS⟩ := hS
  go_simp
 simp only [Act.put,List.setIfInBounds_toArray,List.set_cons_zero,List.set_cons_succ]
 refine but_take (i := 6) (v := .pointer (some ⟨pm,0,none⟩)) rfl (by kernel_rfl) (fun _ _ _ h => h) (.inl ⟨rfl,fun w hS => ?_⟩) hS ?_
 ·obtain ⟨⟨⟨s0,s1,s2,s3,s4,s5,s6⟩,-⟩,⟨⟨d0,d1,d2,d3,d4,d5,d6⟩,-⟩,⟨n0,n1,n2,n3,n4,n5⟩,⟨f0,f1,f2,f3,f4,f5⟩,hbS⟩ := hS
  go_simp
 simp only [Act.put,List.setIfInBounds_toArray,List.set_cons_zero,List.set_cons_succ]
 refine but_take (i := 7) (v := .pointer (some ⟨pm,4,none⟩)) rfl (by kernel_rfl) (fun _ _ _ h => h) (.inl ⟨rfl,fun w hS => ?_⟩) hS ?_
 ·obtain ⟨⟨⟨s0,s1,s2,s3,s4,s5,s6⟩,-⟩,⟨⟨d0,d1,d2,d3,d4,d5,d6⟩,-⟩,⟨n0,n1,n2,n3,n4,n5⟩,⟨f0,f1,f2,f3,f4,f5⟩,hbS⟩ := hS
  go_simp
 simp only [Act.put,List.setIfInBounds_toArray,List.set_cons_zero,List.set_cons_succ]
 refine but_take (i := 8) (v := .slice (some ⟨g,0,none⟩) lN cN) rfl (by kernel_rfl) (fun _ _ _ h => h) (.inl ⟨rfl,fun w hS => ?_⟩) hS ?_
 ·obtain ⟨⟨⟨s0,s1,s2,s3,s4,s5,s6⟩,-⟩,⟨⟨d0,d1,d2,d3,d4,d5,d6⟩,-⟩,⟨n0,n1,n2,n3,n4,n5⟩,⟨f0,f1,f2,f3,f4,f5⟩,hbS⟩ := hS
  go_simp
 simp only [Act.put,List.setIfInBounds_toArray,List.set_cons_zero,List.set_cons_succ]
 refine but_take (i := 9) (v := .int .i64 (p : Int)) rfl (by kernel_rfl) (fun _ _ _ h => h) (.inl ⟨rfl,fun w hS => ?_⟩) hS ?_
 ·obtain ⟨⟨⟨s0,s1,s2,s3,s4,s5,s6⟩,-⟩,⟨⟨d0,d1,d2,d3,d4,d5,d6⟩,-⟩,⟨n0,n1,n2,n3,n4,n5⟩,⟨f0,f1,f2,f3,f4,f5⟩,hbS⟩ := hS
  go_simp
 simp only [Act.put,List.setIfInBounds_toArray,List.set_cons_zero,List.set_cons_succ]
 refine but_take (i := 10) (v := .pointer (some ⟨g,p * 6,none⟩)) rfl (by kernel_rfl) (fun _ _ _ h => h) (.inl ⟨rfl,fun w hS => ?_⟩) hS ?_
 ·obtain ⟨⟨⟨s0,s1,s2,s3,s4,s5,s6⟩,-⟩,⟨⟨d0,d1,d2,d3,d4,d5,d6⟩,-⟩,⟨n0,n1,n2,n3,n4,n5⟩,⟨f0,f1,f2,f3,f4,f5⟩,hbS⟩ := hS
  go_simp
 simp only [Act.put,List.setIfInBounds_toArray,List.set_cons_zero,List.set_cons_succ]
 refine but_take (i := 11) (v := .agg #[.int .i64 c1,.int .i64 c2,.int .i64 c3,.int .i64 c4,.bool c5,.bool c6]) rfl (by kernel_rfl) (fun _ _ _ h => h) (.inl ⟨rfl,fun w hS => ?_⟩) hS ?_
 ·obtain ⟨⟨⟨s0,s1,s2,s3,s4,s5,s6⟩,-⟩,⟨⟨d0,d1,d2,d3,d4,d5,d6⟩,-⟩,⟨n0,n1,n2,n3,n4,n5⟩,⟨f0,f1,f2,f3,f4,f5⟩,hbS⟩ := hS
  go_simp
 simp only [Act.put,List.setIfInBounds_toArray,List.set_cons_zero,List.set_cons_succ]
 refine but_take (i := 12) (v := .agg #[.int .i64 k,.int .i64 id,.int .i64 z,.int .i64 r,.int .i64 wt,.int .i64 gd,.slice ad ld cd]) rfl (by kernel_rfl) (fun _ _ _ h => h) (.inl ⟨rfl,fun w hS => ?_⟩) hS ?_
 ·obtain ⟨⟨⟨s0,s1,s2,s3,s4,s5,s6⟩,-⟩,⟨⟨d0,d1,d2,d3,d4,d5,d6⟩,-⟩,⟨n0,n1,n2,n3,n4,n5⟩,⟨f0,f1,f2,f3,f4,f5⟩,hbS⟩ := hS
  go_simp
 simp only [Act.put,List.setIfInBounds_toArray,List.set_cons_zero,List.set_cons_succ]
 refine but_one (i := 13) (by kernel_rfl) rfl rfl ?_
 intro K hK
 go_simp
 go_at_call 93
 refine (HT.out _).mono ?_
 rintro en w3 ⟨rfl,hg3⟩
 have hb3 : Below w1.heap.size w1 w3 := below2 (below_drew w1) (grown_below hg3)
 clear hg3
 refine hK.out _ _ (fun _ => HS.out w3 hb3) ?_
 clear hK hS
 have hS := HS.out w3 hb3
 try simp only [Act.put,List.setIfInBounds_toArray,List.set_cons_zero,List.set_cons_succ]
 refine but_take (i := 14) (v := .pointer (some ⟨g,p * 6,none⟩)) rfl (by kernel_rfl) (fun _ _ _ h => h) (.inl ⟨rfl,fun w hS => ?_⟩) hS ?_
 ·obtain ⟨⟨⟨s0,s1,s2,s3,s4,s5,s6⟩,-⟩,⟨⟨d0,d1,d2,d3,d4,d5,d6⟩,-⟩,⟨n0,n1,n2,n3,n4,n5⟩,⟨f0,f1,f2,f3,f4,f5⟩,hbS⟩ := hS
  go_simp
 simp only [Act.put,List.setIfInBounds_toArray,List.set_cons_zero,List.set_cons_succ]
 refine but_one (i := 15) (by kernel_rfl) rfl rfl ?_
 intro K hK
 obtain ⟨⟨⟨s0,s1,s2,s3,s4,s5,s6⟩,-⟩,⟨⟨d0,d1,d2,d3,d4,d5,d6⟩,-⟩,⟨n0,n1,n2,n3,n4,n5⟩,⟨f0,f1,f2,f3,f4,f5⟩,hbS⟩ := hS
 go_simp
 refine hK.out _ _ (fun h => absurd rfl h) ?_
 clear hK
 try simp only [Act.put,List.setIfInBounds_toArray,List.set_cons_zero,List.set_cons_succ]
 refine AnyBut.done (by kernel_rfl) ?_ _
 refine NoPanic.normal ?_
 exact hQ.out _ _ _ _ _ _ _ _ _ _ _ _ _ _ _ w3 hb3
theorem Hid.mk9 {P : Prop} (h : P) : Hid P := h
set_option maxHeartbeats 2000000 in
set_option maxRecDepth 60000 in
theorem changeNode_add9 {pm N : Nat} {m : Mp} {s : MV} (hM : MayN m.nds) (k id z r wt gd : Int) (hk : k = 1) (hf : (findN m.nds id).isSome = false) (ad : Option Addr) (ld cd : Nat) (w : World) (hL : LiveM G w pm N m s) (hN : N <= w.heap.size) :
  Calls Tryz.prog 95 #[.pointer (some ⟨pm,0,none⟩),.agg #[.int .i64 k,.int .i64 id,.int .i64 z,.int .i64 r,.int .i64 wt,.int .i64 gd,.slice ad ld cd]] w fun e w' => ChgPost G w pm N { m with nds := m.nds.take (insPos (m.nds.map (·.id)) id) ++ ⟨id,z,r,wt,false,true⟩ :: m.nds.drop (insPos (m.nds.map (·.id)) id) } e w' := by
 have hI := srch_nodes hM id
 rw [hf] at hI
 have hb1 := below_alloc w (.cells #[.int .i64 k,.int .i64 id,.int .i64 z,.int .i64 r,.int .i64 wt,.int .i64 gd,.slice ad ld cd] 37)
 have HL1 : Hid (LiveM G (w.alloc (.cells #[.int .i64 k,.int .i64 id,.int .i64 z,.int .i64 r,.int .i64 wt,.int .i64 gd,.slice ad ld cd] 37)) pm N m s) := hL.below hb1
 have HBD : Hid (Box7 (w.alloc (.cells #[.int .i64 k,.int .i64 id,.int .i64 z,.int .i64 r,.int .i64 wt,.int .i64 gd,.slice ad ld cd] 37)) w.heap.size (.int .i64 k) (.int .i64 id) (.int .i64 z) (.int .i64 r) (.int .i64 wt) (.int .i64 gd) (.slice ad ld cd)) := Box7.new w _ _ _ _ _ _ _ _
 have HBT : Hid (BoxTy (w.alloc (.cells #[.int .i64 k,.int .i64 id,.int .i64 z,.int .i64 r,.int .i64 wt,.int .i64 gd,.slice ad ld cd] 37)) w.heap.size 37) := BoxTy.new _ _ _
 generalize hw1 : w.alloc (.cells #[.int .i64 k,.int .i64 id,.int .i64 z,.int .i64 r,.int .i64 wt,.int .i64 gd,.slice ad ld cd] 37) = w1 at *
 have HND : Hid (∀ W,Below w1.heap.size w1 W -> Calls Tryz.prog 68 #[.agg (mapCells m s).toArray,.int .i64 id] W fun e w' => e = .returned (.tuple #[.int .i64 (insPos (m.nds.map (·.id)) id : Int),.bool false]) /\ Grown W w') := fun W hb => (node_pos m s id W ((nds_own HL1.out.own.nds HL1.out.own.ndl).1.below hb) hM).mono fun e w' h => by
  rw [hf] at h
  exact h.1
 have hp1 := hI.1
 rw [List.length_map] at hp1
 have hlN := hL.own.ndl
 have h12 := hM.1
 generalize insPos (m.nds.map (·.id)) id = p at *
 have HFIN : Hid (∀ W,Below w1.heap.size w1 W -> Calls Tryz.prog 115 #[.slice s.aN s.lN s.cN,.int .i64 (p : Int),.slice (some ⟨W.heap.size,0,none⟩) 1 1] (W.alloc (.cells #[.int .i64 id,.int .i64 z,.int .i64 r,.int .i64 wt,.bool false,.bool true] 72)) fun e w' => Ins5 (fun w' => Box7 w' pm (.int .i64 m.ep) (.int .i64 m.size) (.int .i64 m.mn) (.int .i64 m.gr) (.slice s.aN s.lN s.cN) (.slice s.aT s.lT s.cT) (.slice s.aR s.lR s.cR) /\ Box7 w' w.heap.size (.int .i64 k) (.int .i64 id) (.int .i64 z) (.int .i64 r) (.int .i64 wt) (.int .i64 gd) (.slice ad ld cd)) (fun g c W => LiveM G (W.setCell ⟨pm,4,none⟩ (.slice (some ⟨g,0,none⟩) (s.lN + 1) c)) pm N { m with nds := (m.nds.take p ++ ⟨id,z,r,wt,false,true⟩ :: m.nds.drop p) } { s with aN := some ⟨g,0,none⟩,lN := s.lN + 1,cN := c } /\ Kq w (W.setCell ⟨pm,4,none⟩ (.slice (some ⟨g,0,none⟩) (s.lN + 1) c)) /\ Below N w (W.setCell ⟨pm,4,none⟩ (.slice (some ⟨g,0,none⟩) (s.lN + 1) c))) (s.lN + 1) e w') := fun W hb => by
  have hbA := below2 hb (below_alloc W (.cells #[.int .i64 id,.int .i64 z,.int .i64 r,.int .i64 wt,.bool false,.bool true] 72))
  have hbW := below2 hb1 hb
  have hl := HL1.out.below hbA
  have hNA : N <= (W.alloc (.cells #[.int .i64 id,.int .i64 z,.int .i64 r,.int .i64 wt,.bool false,.bool true] 72)).heap.size := Nat.le_trans hN (below2 hb1 hbA).size
  have hlt : ∀ q,(Value.slice s.aN s.lN s.cN).ownBlock = some q -> q < W.heap.size := fun q hq => ((HL1.out.below hb).own.nds.lt q hq).2
  refine (insNd_any (vb := W.heap.size) (vs := [.int .i64 id,.int .i64 z,.int .i64 r,.int .i64 wt,.bool false,.bool true]) _ hl.own.nds hNA p (by omega) (by omega) rfl (heap_alloc_new W _) (fun e => absurd (hlt _ e) (by omega)) (by intro u hu; simp at hu; rcases hu with rfl | rfl | rfl | rfl | rfl | rfl <;> rfl) (ndsCells_one _)).mono ?_
  rintro e w' ⟨g,c,rfl,ho,hg⟩
  have hbx := box_own hl.own.nds hg hl.box hl.ty (by decide)
  have hbd := box_own hl.own.nds hg (HBD.out.below hbA) (HBT.out.kp (kp_below hbA)) (by decide)
  rw [ndsCells_take,ndsCells_drop] at ho
  have ho' : w'.ownsRow N 72 6 (.slice (some ⟨g,0,none⟩) (s.lN + 1) c) (s.lN + 1) (ndsCells (m.nds.take p ++ ⟨id,z,r,wt,false,true⟩ :: m.nds.drop p)) := by
   rw [ndsCells_app,ndsCells_cons]
   exact ho
  obtain ⟨k1,k2,k3⟩ := hl.putN hNA hg ho' (by simp; omega)
  exact ⟨g,c,rfl,⟨hbx.1,hbd.1⟩,k1,(kq_below (below2 hb1 hbA)).trans k2,((below2 hb1 hbA).mono hN).trans k3⟩
 have HBM : Hid (∀ W,Below w1.heap.size w1 W -> Box7 W pm (.int .i64 m.ep) (.int .i64 m.size) (.int .i64 m.mn) (.int .i64 m.gr) (.slice s.aN s.lN s.cN) (.slice s.aT s.lT s.cT) (.slice s.aR s.lR s.cR)) := fun W hb => HL1.out.box.below hb
 have hpl := HL1.out.box.lt
 have hdl := HBD.out.lt
 obtain ⟨⟨c0,c1,c2,c3,c4,c5,c6⟩,-⟩ := HL1.out.box
 obtain ⟨⟨d0,d1,d2,d3,d4,d5,d6⟩,-⟩ := HBD.out
 rw [map_split] at HND
 obtain ⟨ep,sz,mn,gr,nds,tms,trs⟩ := m
 obtain ⟨aN,lN,cN,aT,lT,cT,aR,lR,cR⟩ := s
 simp only at *
 subst hk
 have x0 := cell_grown (w := w1) (a := ⟨pm,0,none⟩) hpl c0
 have x1 := cell_grown (w := w1) (a := ⟨pm,1,none⟩) hpl c1
 have x2 := cell_grown (w := w1) (a := ⟨pm,2,none⟩) hpl c2
 have x3 := cell_grown (w := w1) (a := ⟨pm,3,none⟩) hpl c3
 have x4 := cell_grown (w := w1) (a := ⟨pm,4,none⟩) hpl c4
 have x5 := cell_grown (w := w1) (a := ⟨pm,5,none⟩) hpl c5
 have x6 := cell_grown (w := w1) (a := ⟨pm,6,none⟩) hpl c6
 have y0 := cell_grown (w := w1) (a := ⟨w.heap.size,0,none⟩) hdl d0
 have y1 := cell_grown (w := w1) (a := ⟨w.heap.size,1,none⟩) hdl d1
 have y2 := cell_grown (w := w1) (a := ⟨w.heap.size,2,none⟩) hdl d2
 have y3 := cell_grown (w := w1) (a := ⟨w.heap.size,3,none⟩) hdl d3
 have y4 := cell_grown (w := w1) (a := ⟨w.heap.size,4,none⟩) hdl d4
 have y5 := cell_grown (w := w1) (a := ⟨w.heap.size,5,none⟩) hdl d5
 have y6 := cell_grown (w := w1) (a := ⟨w.heap.size,6,none⟩) hdl d6
 have HGB : Hid (∀ n os,Below w1.heap.size w1 (Go.Sort.grow (w1.drewN n) os)) := fun n os => below_grow _ _ _
 clear hL HL1 hb1 hI hf hM hN HBT
 go_enter Tryz.func95,Tryz.ntmps95
 go_upto_region 1 with fail
 clear hw1
 refine wp_region_QW mixed5 (by kernel_rfl) ?_
 repeat (refine QW_step (fun K hK => ?_); go_simp; first | (refine hK _ ?_; clear hK K) | (apply Exists.intro; refine ⟨fun _ => ?_,hK _ ?_⟩; (go_at_call 68; refine Calls.grown_of (HND.out _ (HGB.out _ _))); clear hK K))
 refine QW_nil ?_
 intro _ hw9
 obtain ⟨⟨nq,osq⟩,hw8⟩ := hw9
 subst hw8
 have hG5 := HGB.out nq osq
 have hpl5 : pm < (Go.Sort.grow (w1.drewN nq) osq).heap.size := Nat.lt_of_lt_of_le hpl hG5.size
 have hdl5 : w.heap.size < (Go.Sort.grow (w1.drewN nq) osq).heap.size := Nat.lt_of_lt_of_le hdl hG5.size
 have u0 := x0 nq osq
 have u1 := x1 nq osq
 have u2 := x2 nq osq
 have u3 := x3 nq osq
 have u4 := x4 nq osq
 have u5 := x5 nq osq
 have u6 := x6 nq osq
 have v0 := y0 nq osq
 have v1 := y1 nq osq
 have v2 := y2 nq osq
 have v3 := y3 nq osq
 have v4 := y4 nq osq
 have v5 := y5 nq osq
 have v6 := y6 nq osq
 clear x0 y0 c0 d0 x1 y1 c1 d1 x2 y2 c2 d2 x3 y3 c3 d3 x4 y4 c4 d4 x5 y5 c5 d5 x6 y6 c6 d6 HND HGB
 show Exit.then _ _ _ _ (Go.Sort.grow (w1.drewN nq) osq)
 generalize Go.Sort.grow (w1.drewN nq) osq = w5 at *
 go_upto_region 5 with fail
 refine cn_add9 _ _ _ _ _ _ _ _ _ _ _ _ _ _ _ _ _ _ _ _ _ _ _ _ _ _ _ _ _ _ _ _ _ _ _ _ _ _ _ _ _ _ _ _ _ _ _ _ _ _ _ _ _ _ _ _ pm w.heap.size p (lN + 1) id z r wt gd ep sz mn gr ad aN ld cd lN cN (.slice aT lT cT) (.slice aR lR cR) _ w5 _ (HBM.out _ hG5) (HBD.out.below hG5) (fun W hbW => HFIN.out W (below2 hG5 hbW)) (fun u34 u35 u36 u37 u38 u39 u40 u41 u42 u43 u44 u45 g c W hR => ?_)
 have HF1 := (Hid.mk9 hR.1)
 have HF2 := (Hid.mk9 hR.2.1)
 have HF3 := (Hid.mk9 hR.2.2)
 clear hR HFIN HBM HBD u0 v0 u1 v1 u2 v2 u3 v3 u4 v4 u5 v5 u6 v6
 generalize W.setCell ⟨pm,4,none⟩ (.slice (some ⟨g,0,none⟩) (lN + 1) c) = wz at *
 go_wp2_with fail
 go_returns
 exact ⟨rfl,⟨_,HF1.out⟩,HF2.out,HF3.out⟩
set_option maxHeartbeats 2000000 in
set_option maxRecDepth 60000 in
theorem changeNode_set9 {pm N : Nat} {m : Mp} {s : MV} (hM : MayN m.nds) (k id z r wt gd : Int) (hk : 2 <= k /\ k <= 6) (hf : (findN m.nds id).isSome = true) (ad : Option Addr) (ld cd : Nat) (w : World) (hL : LiveM G w pm N m s) (hN : N <= w.heap.size) :
  Calls Tryz.prog 95 #[.pointer (some ⟨pm,0,none⟩),.agg #[.int .i64 k,.int .i64 id,.int .i64 z,.int .i64 r,.int .i64 wt,.int .i64 gd,.slice ad ld cd]] w fun e w' => ChgPost G w pm N { m with nds := m.nds.set (insPos (m.nds.map (·.id)) id) (turnN (m.nds.getD (insPos (m.nds.map (·.id)) id) nd0) k wt) } e w' := by
 have hI := srch_nodes hM id
 rw [hf] at hI
 have hb1 := below_alloc w (.cells #[.int .i64 k,.int .i64 id,.int .i64 z,.int .i64 r,.int .i64 wt,.int .i64 gd,.slice ad ld cd] 37)
 have HL1 : Hid (LiveM G (w.alloc (.cells #[.int .i64 k,.int .i64 id,.int .i64 z,.int .i64 r,.int .i64 wt,.int .i64 gd,.slice ad ld cd] 37)) pm N m s) := hL.below hb1
 have HBD : Hid (Box7 (w.alloc (.cells #[.int .i64 k,.int .i64 id,.int .i64 z,.int .i64 r,.int .i64 wt,.int .i64 gd,.slice ad ld cd] 37)) w.heap.size (.int .i64 k) (.int .i64 id) (.int .i64 z) (.int .i64 r) (.int .i64 wt) (.int .i64 gd) (.slice ad ld cd)) := Box7.new w _ _ _ _ _ _ _ _
 have HBT : Hid (BoxTy (w.alloc (.cells #[.int .i64 k,.int .i64 id,.int .i64 z,.int .i64 r,.int .i64 wt,.int .i64 gd,.slice ad ld cd] 37)) w.heap.size 37) := BoxTy.new _ _ _
 generalize hw1 : w.alloc (.cells #[.int .i64 k,.int .i64 id,.int .i64 z,.int .i64 r,.int .i64 wt,.int .i64 gd,.slice ad ld cd] 37) = w1 at *
 have HND : Hid (∀ W,Below w1.heap.size w1 W -> Calls Tryz.prog 68 #[.agg (mapCells m s).toArray,.int .i64 id] W fun e w' => e = .returned (.tuple #[.int .i64 (insPos (m.nds.map (·.id)) id : Int),.bool true]) /\ Grown W w') := fun W hb => (node_pos m s id W ((nds_own HL1.out.own.nds HL1.out.own.ndl).1.below hb) hM).mono fun e w' h => by
  rw [hf] at h
  exact h.1
 have hp1 := hI.1
 rw [List.length_map] at hp1
 have hlN := hL.own.ndl
 have h12 := hM.1
 generalize insPos (m.nds.map (·.id)) id = p at *
 have hpn : p < m.nds.length := by
  have := hI.2.2.2.1 rfl
  simpa using this.1
 obtain ⟨g,cg,hv,-,-,-⟩ := own_some hL.own.nds (by omega)
 injection hv with hv1 hv2 hv3
 generalize hY : turnN (m.nds.getD p nd0) k wt = Y at *
 generalize hO : m.nds.getD p nd0 = O at *
 have HTU : Hid (∀ W,Calls Tryz.prog 93 #[.agg #[.int .i64 O.id,.int .i64 O.zone,.int .i64 O.rack,.int .i64 O.weight,.bool O.up,.bool O.inn],.agg #[.int .i64 k,.int .i64 id,.int .i64 z,.int .i64 r,.int .i64 wt,.int .i64 gd,.slice ad ld cd]] W fun e w' => e = .returned (.agg #[.int .i64 Y.id,.int .i64 Y.zone,.int .i64 Y.rack,.int .i64 Y.weight,.bool Y.up,.bool Y.inn]) /\ Grown W w') := fun W => by
  have h := turned_any O k id z r wt gd hk ad ld cd W
  rw [hY] at h
  exact h
 have HOW : Hid (∀ W,Below w1.heap.size w1 W -> NdAt W g (p * 6) O /\ (W.frozen? ⟨g,p * 6,none⟩ = false /\ W.frozen? ⟨g,p * 6 + 1,none⟩ = false /\ W.frozen? ⟨g,p * 6 + 2,none⟩ = false /\ W.frozen? ⟨g,p * 6 + 3,none⟩ = false /\ W.frozen? ⟨g,p * 6 + 4,none⟩ = false /\ W.frozen? ⟨g,p * 6 + 5,none⟩ = false)) := fun W hb => by
  have ho := (HL1.out.below hb).own.nds
  rw [hv1] at ho
  have hA := (nds_own ho HL1.out.own.ndl).1
  have hN4 := hA.2.2.2
  refine ⟨?_,ho.frozenAt _,ho.frozenAt _,ho.frozenAt _,ho.frozenAt _,ho.frozenAt _,ho.frozenAt _⟩
  rcases hN4 with h0 | ⟨b,off,e,h⟩
  ·omega
  ·injection e with e
   injection e with e1 e2
   subst e1 e2
   have := h p (by omega)
   rw [hO,Nat.zero_add] at this
   exact this
 have HFIN : Hid (∀ W,Below w1.heap.size w1 W -> LiveM G (set6o W g (p * 6) (.int .i64 Y.id) (.int .i64 Y.zone) (.int .i64 Y.rack) (.int .i64 Y.weight) (.bool Y.up) (.bool Y.inn)) pm N { m with nds := m.nds.set p Y } s /\ Kq w (set6o W g (p * 6) (.int .i64 Y.id) (.int .i64 Y.zone) (.int .i64 Y.rack) (.int .i64 Y.weight) (.bool Y.up) (.bool Y.inn)) /\ Below N w (set6o W g (p * 6) (.int .i64 Y.id) (.int .i64 Y.zone) (.int .i64 Y.rack) (.int .i64 Y.weight) (.bool Y.up) (.bool Y.inn))) := fun W hb => by
  have hbW := below2 hb1 hb
  obtain ⟨k1,k2,k3⟩ := (HL1.out.below hb).setN (Nat.le_trans hN hbW.size) hv1 rfl rfl hpn Y
  exact ⟨k1,(kq_below hbW).trans k2,(hbW.mono hN).trans k3⟩
 clear hY hO
 obtain ⟨o1,o2,o3,o4,o5,o6⟩ := O
 obtain ⟨q1,q2,q3,q4,q5,q6⟩ := Y
 have HPN : Hid ((p : Int) < (s.lN : Int)) := by show _ < _; omega
 have hk1 : ¬ k = 1 := by omega
 have hk7 : ¬ k = 7 := by omega
 have HBM : Hid (∀ W,Below w1.heap.size w1 W -> Box7 W pm (.int .i64 m.ep) (.int .i64 m.size) (.int .i64 m.mn) (.int .i64 m.gr) (.slice s.aN s.lN s.cN) (.slice s.aT s.lT s.cT) (.slice s.aR s.lR s.cR)) := fun W hb => HL1.out.box.below hb
 have hpl := HL1.out.box.lt
 have hdl := HBD.out.lt
 obtain ⟨⟨c0,c1,c2,c3,c4,c5,c6⟩,-⟩ := HL1.out.box
 obtain ⟨⟨d0,d1,d2,d3,d4,d5,d6⟩,-⟩ := HBD.out
 rw [map_split] at HND
 obtain ⟨ep,sz,mn,gr,nds,tms,trs⟩ := m
 obtain ⟨aN,lN,cN,aT,lT,cT,aR,lR,cR⟩ := s
 simp only at *
 clear hk hpn
 subst hv1
 clear hv2 hv3
 have x0 := cell_grown (w := w1) (a := ⟨pm,0,none⟩) hpl c0
 have x1 := cell_grown (w := w1) (a := ⟨pm,1,none⟩) hpl c1
 have x2 := cell_grown (w := w1) (a := ⟨pm,2,none⟩) hpl c2
 have x3 := cell_grown (w := w1) (a := ⟨pm,3,none⟩) hpl c3
 have x4 := cell_grown (w := w1) (a := ⟨pm,4,none⟩) hpl c4
 have x5 := cell_grown (w := w1) (a := ⟨pm,5,none⟩) hpl c5
 have x6 := cell_grown (w := w1) (a := ⟨pm,6,none⟩) hpl c6
 have y0 := cell_grown (w := w1) (a := ⟨w.heap.size,0,none⟩) hdl d0
 have y1 := cell_grown (w := w1) (a := ⟨w.heap.size,1,none⟩) hdl d1
 have y2 := cell_grown (w := w1) (a := ⟨w.heap.size,2,none⟩) hdl d2
 have y3 := cell_grown (w := w1) (a := ⟨w.heap.size,3,none⟩) hdl d3
 have y4 := cell_grown (w := w1) (a := ⟨w.heap.size,4,none⟩) hdl d4
 have y5 := cell_grown (w := w1) (a := ⟨w.heap.size,5,none⟩) hdl d5
 have y6 := cell_grown (w := w1) (a := ⟨w.heap.size,6,none⟩) hdl d6
 have HGB : Hid (∀ n os,Below w1.heap.size w1 (Go.Sort.grow (w1.drewN n) os)) := fun n os => below_grow _ _ _
 clear hL HL1 hb1 hI hf hM hN HBT
 go_enter Tryz.func95,Tryz.ntmps95
 go_upto_region 1 with fail
 clear hw1
 refine wp_region_QW mixed5 (by kernel_rfl) ?_
 repeat (refine QW_step (fun K hK => ?_); go_simp; first | (refine hK _ ?_; clear hK K) | (apply Exists.intro; refine ⟨fun _ => ?_,hK _ ?_⟩; (go_at_call 68; refine Calls.grown_of (HND.out _ (HGB.out _ _))); clear hK K))
 refine QW_nil ?_
 intro _ hw9
 obtain ⟨⟨nq,osq⟩,hw8⟩ := hw9
 subst hw8
 have hG5 := HGB.out nq osq
 have hpl5 : pm < (Go.Sort.grow (w1.drewN nq) osq).heap.size := Nat.lt_of_lt_of_le hpl hG5.size
 have hdl5 : w.heap.size < (Go.Sort.grow (w1.drewN nq) osq).heap.size := Nat.lt_of_lt_of_le hdl hG5.size
 have u0 := x0 nq osq
 have u1 := x1 nq osq
 have u2 := x2 nq osq
 have u3 := x3 nq osq
 have u4 := x4 nq osq
 have u5 := x5 nq osq
 have u6 := x6 nq osq
 have v0 := y0 nq osq
 have v1 := y1 nq osq
 have v2 := y2 nq osq
 have v3 := y3 nq osq
 have v4 := y4 nq osq
 have v5 := y5 nq osq
 have v6 := y6 nq osq
 clear x0 y0 c0 d0 x1 y1 c1 d1 x2 y2 c2 d2 x3 y3 c3 d3 x4 y4 c4 d4 x5 y5 c5 d5 x6 y6 c6 d6 HND HGB
 show Exit.then _ _ _ _ (Go.Sort.grow (w1.drewN nq) osq)
 generalize Go.Sort.grow (w1.drewN nq) osq = w5 at *
 go_upto_region 3 with fail
 have ho5 := HOW.out w5 hG5
 refine cn_set9 _ _ _ _ _ _ _ _ _ _ _ _ _ _ _ _ _ _ _ _ _ _ _ _ _ _ _ _ _ _ _ _ _ _ _ _ _ _ _ _ _ _ _ _ _ _ _ _ _ _ _ _ _ _ _ _ pm w.heap.size p g lN cN k id z r wt gd ep sz mn gr o1 o2 o3 o4 q1 q2 q3 q4 o5 o6 q5 q6 ad ld cd (.slice aT lT cT) (.slice aR lR cR) w5 _ HPN.out (HBM.out _ hG5) (HBD.out.below hG5) ho5.1 ho5.2 HTU (fun u17 u18 u19 u20 u21 u22 u23 u24 u25 u26 u27 u28 u29 u30 u31 W hbW => ?_)
 have hR := HFIN.out W (below2 hG5 hbW)
 have HF1 := (Hid.mk9 hR.1)
 have HF2 := (Hid.mk9 hR.2.1)
 have HF3 := (Hid.mk9 hR.2.2)
 clear hR ho5 HOW HTU HFIN HBM HBD u0 v0 u1 v1 u2 v2 u3 v3 u4 v4 u5 v5 u6 v6
 generalize set6o W g (p * 6) (.int .i64 q1) (.int .i64 q2) (.int .i64 q3) (.int .i64 q4) (.bool q5) (.bool q6) = wz at *
 go_wp2_with fail
 go_returns
 exact ⟨rfl,⟨_,HF1.out⟩,HF2.out,HF3.out⟩
def ChEnd (G : Nat -> Prop) (w : World) (pm N : Nat) (m : Mp) (w' : World) : Prop := (∃ s',LiveM G w' pm N m s') /\ Kq w w' /\ Below N w w'
set_option maxHeartbeats 2000000 in
set_option maxRecDepth 60000 in
theorem changeNode_rem9 {pm N : Nat} {m : Mp} {s : MV} (hM : MayN m.nds) (k id z r wt gd : Int) (hk : k = 7) (hf : (findN m.nds id).isSome = true) (ad : Option Addr) (ld cd : Nat) (w : World) (hL : LiveM G w pm N m s) (hN : N <= w.heap.size) :
  Calls Tryz.prog 95 #[.pointer (some ⟨pm,0,none⟩),.agg #[.int .i64 k,.int .i64 id,.int .i64 z,.int .i64 r,.int .i64 wt,.int .i64 gd,.slice ad ld cd]] w fun e w' => ChgPost G w pm N { m with nds := m.nds.take (insPos (m.nds.map (·.id)) id) ++ m.nds.drop (insPos (m.nds.map (·.id)) id + 1) } e w' := by
 have hI := srch_nodes hM id
 rw [hf] at hI
 have hb1 := below_alloc w (.cells #[.int .i64 k,.int .i64 id,.int .i64 z,.int .i64 r,.int .i64 wt,.int .i64 gd,.slice ad ld cd] 37)
 have HL1 : Hid (LiveM G (w.alloc (.cells #[.int .i64 k,.int .i64 id,.int .i64 z,.int .i64 r,.int .i64 wt,.int .i64 gd,.slice ad ld cd] 37)) pm N m s) := hL.below hb1
 have HBD : Hid (Box7 (w.alloc (.cells #[.int .i64 k,.int .i64 id,.int .i64 z,.int .i64 r,.int .i64 wt,.int .i64 gd,.slice ad ld cd] 37)) w.heap.size (.int .i64 k) (.int .i64 id) (.int .i64 z) (.int .i64 r) (.int .i64 wt) (.int .i64 gd) (.slice ad ld cd)) := Box7.new w _ _ _ _ _ _ _ _
 have HBT : Hid (BoxTy (w.alloc (.cells #[.int .i64 k,.int .i64 id,.int .i64 z,.int .i64 r,.int .i64 wt,.int .i64 gd,.slice ad ld cd] 37)) w.heap.size 37) := BoxTy.new _ _ _
 generalize hw1 : w.alloc (.cells #[.int .i64 k,.int .i64 id,.int .i64 z,.int .i64 r,.int .i64 wt,.int .i64 gd,.slice ad ld cd] 37) = w1 at *
 have HND : Hid (∀ W,Below w1.heap.size w1 W -> Calls Tryz.prog 68 #[.agg (mapCells m s).toArray,.int .i64 id] W fun e w' => e = .returned (.tuple #[.int .i64 (insPos (m.nds.map (·.id)) id : Int),.bool true]) /\ Grown W w') := fun W hb => (node_pos m s id W ((nds_own HL1.out.own.nds HL1.out.own.ndl).1.below hb) hM).mono fun e w' h => by
  rw [hf] at h
  exact h.1
 have hp1 := hI.1
 rw [List.length_map] at hp1
 have hlN := hL.own.ndl
 have h12 := hM.1
 generalize insPos (m.nds.map (·.id)) id = p at *
 have hpn : p < m.nds.length := by
  have := hI.2.2.2.1 rfl
  simpa using this.1
 obtain ⟨g,cg,hv,-,-,-⟩ := own_some hL.own.nds (by omega)
 injection hv with hv1 hv2 hv3
 obtain ⟨l,hl⟩ : ∃ l,m.nds.length = l + 1 := ⟨m.nds.length - 1,by omega⟩
 have hlN1 : s.lN = l + 1 := by omega
 have HFIN : Hid (∀ W,Below w1.heap.size w1 W -> Calls Tryz.prog 116 #[.slice (some ⟨g,0,none⟩) (l + 1) s.cN,.int .i64 (p : Int),.int .i64 ((p : Int) + 1)] W fun e w' => e = .returned (.slice (some ⟨g,0,none⟩) l s.cN) /\ Box7 w' pm (.int .i64 m.ep) (.int .i64 m.size) (.int .i64 m.mn) (.int .i64 m.gr) (.slice (some ⟨g,0,none⟩) (l + 1) s.cN) (.slice s.aT s.lT s.cT) (.slice s.aR s.lR s.cR) /\ ChEnd G w pm N { m with nds := m.nds.take p ++ m.nds.drop (p + 1) } (w'.setCell ⟨pm,4,none⟩ (.slice (some ⟨g,0,none⟩) l s.cN))) := fun W hb => by
  have hbW := below2 hb1 hb
  have hlv := HL1.out.below hb
  have hNA : N <= W.heap.size := Nat.le_trans hN hbW.size
  have ho := hlv.own.nds
  rw [hv1,hlN1] at ho
  have hc := delNd_any W ho p (p + 1) (by omega) rfl (by omega) (ndsCells_one _)
  rw [show (((p + 1 : Nat)) : Int) = (p : Int) + 1 by omega] at hc
  refine hc.mono ?_
  rintro e w' ⟨rfl,ho2,hg⟩
  have hg' : W.grownBy w' (Value.slice s.aN s.lN s.cN).ownBlock := by rw [hv1]; exact hg
  have hbx := (box_own hlv.own.nds hg' hlv.box hlv.ty (by decide)).1
  rw [hv1,hlN1] at hbx
  rw [ndsCells_take,ndsCells_drop,<- ndsCells_app] at ho2
  obtain ⟨k1,k2,k3⟩ := hlv.putN hNA hg' ho2 (by simp; omega)
  exact ⟨rfl,hbx,⟨_,k1⟩,(kq_below hbW).trans k2,(hbW.mono hN).trans k3⟩
 have hp12 : (p : Int) <= 12 := by omega
 have HBM : Hid (∀ W,Below w1.heap.size w1 W -> Box7 W pm (.int .i64 m.ep) (.int .i64 m.size) (.int .i64 m.mn) (.int .i64 m.gr) (.slice s.aN s.lN s.cN) (.slice s.aT s.lT s.cT) (.slice s.aR s.lR s.cR)) := fun W hb => HL1.out.box.below hb
 have hpl := HL1.out.box.lt
 have hdl := HBD.out.lt
 obtain ⟨⟨c0,c1,c2,c3,c4,c5,c6⟩,-⟩ := HL1.out.box
 obtain ⟨⟨d0,d1,d2,d3,d4,d5,d6⟩,-⟩ := HBD.out
 rw [map_split] at HND
 obtain ⟨ep,sz,mn,gr,nds,tms,trs⟩ := m
 obtain ⟨aN,lN,cN,aT,lT,cT,aR,lR,cR⟩ := s
 simp only at *
 subst hk
 clear hpn
 subst hv1 hlN1
 clear hv2 hv3 hl
 have x0 := cell_grown (w := w1) (a := ⟨pm,0,none⟩) hpl c0
 have x1 := cell_grown (w := w1) (a := ⟨pm,1,none⟩) hpl c1
 have x2 := cell_grown (w := w1) (a := ⟨pm,2,none⟩) hpl c2
 have x3 := cell_grown (w := w1) (a := ⟨pm,3,none⟩) hpl c3
 have x4 := cell_grown (w := w1) (a := ⟨pm,4,none⟩) hpl c4
 have x5 := cell_grown (w := w1) (a := ⟨pm,5,none⟩) hpl c5
 have x6 := cell_grown (w := w1) (a := ⟨pm,6,none⟩) hpl c6
 have y0 := cell_grown (w := w1) (a := ⟨w.heap.size,0,none⟩) hdl d0
 have y1 := cell_grown (w := w1) (a := ⟨w.heap.size,1,none⟩) hdl d1
 have y2 := cell_grown (w := w1) (a := ⟨w.heap.size,2,none⟩) hdl d2
 have y3 := cell_grown (w := w1) (a := ⟨w.heap.size,3,none⟩) hdl d3
 have y4 := cell_grown (w := w1) (a := ⟨w.heap.size,4,none⟩) hdl d4
 have y5 := cell_grown (w := w1) (a := ⟨w.heap.size,5,none⟩) hdl d5
 have y6 := cell_grown (w := w1) (a := ⟨w.heap.size,6,none⟩) hdl d6
 have HGB : Hid (∀ n os,Below w1.heap.size w1 (Go.Sort.grow (w1.drewN n) os)) := fun n os => below_grow _ _ _
 clear hL HL1 hb1 hI hf hM hN HBT
 go_enter Tryz.func95,Tryz.ntmps95
 go_upto_region 1 with fail
 clear hw1
 refine wp_region_QW mixed5 (by kernel_rfl) ?_
 repeat (refine QW_step (fun K hK => ?_); go_simp; first | (refine hK _ ?_; clear hK K) | (apply Exists.intro; refine ⟨fun _ => ?_,hK _ ?_⟩; (go_at_call 68; refine Calls.grown_of (HND.out _ (HGB.out _ _))); clear hK K))
 refine QW_nil ?_
 intro _ hw9
 obtain ⟨⟨nq,osq⟩,hw8⟩ := hw9
 subst hw8
 have hG5 := HGB.out nq osq
 have hpl5 : pm < (Go.Sort.grow (w1.drewN nq) osq).heap.size := Nat.lt_of_lt_of_le hpl hG5.size
 have hdl5 : w.heap.size < (Go.Sort.grow (w1.drewN nq) osq).heap.size := Nat.lt_of_lt_of_le hdl hG5.size
 have u0 := x0 nq osq
 have u1 := x1 nq osq
 have u2 := x2 nq osq
 have u3 := x3 nq osq
 have u4 := x4 nq osq
 have u5 := x5 nq osq
 have u6 := x6 nq osq
 have v0 := y0 nq osq
 have v1 := y1 nq osq
 have v2 := y2 nq osq
 have v3 := y3 nq osq
 have v4 := y4 nq osq
 have v5 := y5 nq osq
 have v6 := y6 nq osq
 clear x0 y0 c0 d0 x1 y1 c1 d1 x2 y2 c2 d2 x3 y3 c3 d3 x4 y4 c4 d4 x5 y5 c5 d5 x6 y6 c6 d6 HND HGB
 show Exit.then _ _ _ _ (Go.Sort.grow (w1.drewN nq) osq)
 generalize Go.Sort.grow (w1.drewN nq) osq = w5 at *
 have HBX := HBM.out _ hG5
 have HDE := Hid.mk9 (HFIN.out _ hG5)
 clear HBM HFIN
 go_wp2_with (go_at_call 116; refine (HDE.out).mono ?_; rintro en w7 ⟨rfl,⟨⟨s0,s1,s2,s3,s4,s5,s6⟩,⟨f0,f1,f2,f3,f4,f5,f6⟩⟩,hE⟩; have HE := Hid.mk9 hE; clear hE)
 go_returns
 exact ⟨rfl,HE.out.1,HE.out.2.1,HE.out.2.2⟩
end Go.Proofs.YtcncbjknfcjnmaaGreat.Tp
namespace Go.Proofs.YtcncbjknfcjnmaaGreat.Tp
open Go.ChangeShapes Go.WideShapes Go.ChangeAt Go.RowKit
variable {G : Nat -> Prop}
theorem pairCells_cons (x : Int × Value) (l : List (Int × Value)) : pairCells (x :: l) = [.int .i64 x.1,x.2] ++ pairCells l := rfl
theorem pairCells_app (a b : List (Int × Value)) : pairCells (a ++ b) = pairCells a ++ pairCells b := by simp [pairCells]
theorem pairCells_take : ∀ (l : List (Int × Value)) (k : Nat),(pairCells l).take (k * 2) = pairCells (l.take k)
 | l,0 => by simp [pairCells]
 | [],k + 1 => by simp [pairCells]
 | x :: l,k + 1 => by
  have ih := pairCells_take l k
  rw [pairCells_cons,List.take_succ_cons,pairCells_cons,<- ih,show (k + 1) * 2 = ([.int .i64 x.1,x.2] : List Value).length + k * 2 by simp; omega,List.take_length_add_append]
theorem pairCells_drop : ∀ (l : List (Int × Value)) (k : Nat),(pairCells l).drop (k * 2) = pairCells (l.drop k)
 | l,0 => by simp [pairCells]
 | [],k + 1 => by simp [pairCells]
 | x :: l,k + 1 => by
  have ih := pairCells_drop l k
  rw [pairCells_cons,List.drop_succ_cons,<- ih,show (k + 1) * 2 = ([.int .i64 x.1,x.2] : List Value).length + k * 2 by simp; omega,List.drop_length_add_append]
theorem irow_kept {w w' : World} {B s n N : Nat} {E : TypeId} {v u : Value} {xs : List Value} {l : List Int} (h : w.ownsRow B E s v n xs) (hg : w.grownBy w' v.ownBlock) (h3 : E ≠ 3) (hi : IRow w N u l) : IRow w' N u l := by
 rcases own_blk h with e | ⟨g,e,⟨cur,hc⟩,-⟩
 ·rw [e] at hg
  exact own_below hi (grownBy_none hg)
 ·rw [e] at hg
  exact own_type hi hg hc h3
theorem nds_kept {w w' : World} {B s n N len : Nat} {E F : TypeId} {v u : Value} {xs ys : List Value} {k : Nat} (h : w.ownsRow B E s v n xs) (hg : w.grownBy w' v.ownBlock) (hF : E ≠ F) (hi : w.ownsRow N F k u len ys) : w'.ownsRow N F k u len ys := by
 rcases own_blk h with e | ⟨g,e,⟨cur,hc⟩,-⟩
 ·rw [e] at hg
  exact own_below hi (grownBy_none hg)
 ·rw [e] at hg
  exact own_type hi hg hc hF
theorem LiveM.putT {w W : World} {pm N : Nat} {m : Mp} {s : MV} (h : LiveM G w pm N m s) (hN : N <= w.heap.size) (hg : w.grownBy W (Value.slice s.aT s.lT s.cT).ownBlock) {a : Option Addr} {l c : Nat} {tms' : List Tm} (ho : TmRowG G N 59 tms' (.slice a l c) W) (hl : tms'.length = l) :
  LiveM G (W.setCell ⟨pm,5,none⟩ (.slice a l c)) pm N { m with tms := tms' } { s with aT := a,lT := l,cT := c } /\ Kq w (W.setCell ⟨pm,5,none⟩ (.slice a l c)) /\ Below N w (W.setCell ⟨pm,5,none⟩ (.slice a l c)) := by
 obtain ⟨L,hr,-⟩ := TmRowG.all h.own.tms
 obtain ⟨hb,ht⟩ := box_own hr hg h.box h.ty (by decide)
 have hT := nds_kept hr hg (by decide) h.own.nds
 have hR := trs_kept hr hg h.own.trs (by decide) (by decide) (by decide)
 have hgr := set_grownBy W pm 5 (.slice a l c)
 have hkp := kp_set ht (.inl rfl) 5 (.slice a l c)
 obtain ⟨cm,hcm⟩ := ht
 refine ⟨⟨hb.put5 _,BoxTy.kp ⟨cm,hcm⟩ hkp,⟨own_type hT hgr hcm (by decide),h.own.ndl,TmRowG.type ho hgr hcm (by decide) (by decide),hl,TrRowG.type hR hgr hcm (by decide) (by decide) (by decide),h.own.trl⟩,h.ge⟩,(kq_own hr hg (.inr (.inr (.inl rfl)))).trans hkp.kq,(below_own hr hN hg).setCell (p := ⟨pm,5,none⟩) h.ge _⟩
def foundT (ts : List Tm) (g : Int) : Bool := decide (insPos (ts.map (·.g)) g < ts.length /\ (ts.getD (insPos (ts.map (·.g)) g) tm0).g = g)
theorem temp_pos (m : Mp) (s : MV) (id : Int) (w : World) (hN : TmsAt w s.aT s.lT s.cT m.tms) (hM : Rising (m.tms.map (·.g))) (h8 : m.tms.length <= 8) : Calls Tryz.prog 82 #[.agg (mapCells m s).toArray,.int .i64 id] w fun e w' => e = .returned (.tuple #[.int .i64 (insPos (m.tms.map (·.g)) id : Int),.bool (foundT m.tms id)]) /\ Below w.heap.size w w' := by
 refine (temp_any m s id w hN hM h8).mono fun e w' ⟨hb,p,t,he,hI⟩ => ?_
 have hp := srch_pos hI
 have ht : t = foundT m.tms id := by
  have h4 := hI.2.2.2
  rw [hp] at h4
  unfold foundT
  rw [Bool.eq_iff_iff,h4,decide_eq_true_eq,List.length_map]
  constructor
  ·rintro ⟨a,b⟩
   refine ⟨a,?_⟩
   simpa [a] using b
  ·rintro ⟨a,b⟩
   refine ⟨a,?_⟩
   simpa [a] using b
 rw [<- hp,<- ht]
 exact ⟨he,hb⟩
end Go.Proofs.YtcncbjknfcjnmaaGreat.Tp
