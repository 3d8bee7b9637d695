/-
  slices.IndexFunc and slices.DeleteFunc over Spans in a row of one's own.
  slices.Sort of ints: its closure, found in this program; its contract over a row of one's own.
  A Trail's since, a Trail's past; leave where those who acted are too few, of whatever map.
-/
import Derived.Test.YtcncbjknfcjnmaaGreatPr31
import Derived.Shelf.Sort.Plain
import Derived.Lib.SortBridge
namespace Go.Proofs.YtcncbjknfcjnmaaGreat.Tp
open Go.ChangeShapes Go.WideShapes Go.ChangeAt Go.RowKit
def FirstA {α : Type} (d : α) (p : α -> Bool) (l : List α) (e : Ending) : Prop := (∃ k : Nat,e = .returned (.int .i64 (k : Int)) /\ k < l.length /\ p (l.getD k d) = true /\ ∀ j,j < k -> p (l.getD j d) = false) ∨ (e = .returned (.int .i64 (-1)) /\ ∀ j,j < l.length -> p (l.getD j d) = false)
def KA {α : Type} (d : α) (p : α -> Bool) (l L : List α) (i j : Nat) : Prop := L.length = l.length /\ i < j /\ j <= l.length /\ L.take i = (l.take j).filter (fun x => !p x) /\ ∀ t,j <= t -> L.getD t d = l.getD t d
theorem KA.start {α : Type} {d : α} {p : α -> Bool} {l : List α} {k : Nat} (hk : k < l.length) (h1 : p (l.getD k d) = true) (h2 : ∀ j,j < k -> p (l.getD j d) = false) : KA d p l l k (k + 1) := by
 refine ⟨rfl,by omega,by omega,?_,fun t _ => rfl⟩
 have e : l.getD k d = l[k] := by simp [hk]
 rw [List.take_succ_eq_append_getElem hk,List.filter_append,List.filter_cons_of_neg (by rw [<- e,h1]; simp),List.filter_nil,List.append_nil]
 symm
 rw [List.filter_eq_self]
 intro x hx
 obtain ⟨j,hj,rfl⟩ := List.getElem_of_mem hx
 rw [List.length_take] at hj
 have := h2 j (by omega)
 rw [List.getElem_take]
 rw [show l.getD j d = l[j] by simp [show j < l.length by omega]] at this
 rw [this]
 rfl
theorem KA.skip {α : Type} {d : α} {p : α -> Bool} {l L : List α} {i j : Nat} (h : KA d p l L i j) (hj : j < l.length) (h1 : p (l.getD j d) = true) : KA d p l L i (j + 1) := by
 obtain ⟨a1,a2,a3,a4,a5⟩ := h
 refine ⟨a1,by omega,by omega,?_,fun t ht => a5 t (by omega)⟩
 have e : l.getD j d = l[j] := by simp [hj]
 rw [List.take_succ_eq_append_getElem hj,List.filter_append,List.filter_cons_of_neg (by rw [<- e,h1]; simp),List.filter_nil,List.append_nil]
 exact a4
theorem KA.keep {α : Type} {d : α} {p : α -> Bool} {l L : List α} {i j : Nat} (h : KA d p l L i j) (hj : j < l.length) (h1 : p (l.getD j d) = false) : KA d p l (L.set i (l.getD j d)) (i + 1) (j + 1) := by
 obtain ⟨a1,a2,a3,a4,a5⟩ := h
 refine ⟨by simp [a1],by omega,by omega,?_,fun t ht => ?_⟩
 ·have e : l.getD j d = l[j] := by simp [hj]
  rw [List.take_succ_eq_append_getElem hj,List.filter_append,List.filter_cons_of_pos (by rw [<- e,h1]; rfl),List.filter_nil,<- a4,e,List.take_succ_eq_append_getElem (by simp [a1]; omega),List.take_set_of_le (Nat.le_refl _)]
  simp
 ·have := a5 t (by omega)
  simp only [List.getD_eq_getElem?_getD] at *
  rw [List.getElem?_set_ne (by omega)]
  exact this
structure SpX where
 g : Int
 a : Option Addr
 n : Nat
 c : Nat
 ns : List Int
def sp0 : SpX := ⟨0,none,0,0,[]⟩
def spP (l : List SpX) : List (Int × Value) := l.map fun x => (x.g,.slice x.a x.n x.c)
theorem spP_len (l : List SpX) : (spP l).length = l.length := by simp [spP]
theorem spP_get (l : List SpX) (k : Nat) (h : k < l.length) : (pairCells (spP l))[k * 2]? = some (.int .i64 (l.getD k sp0).g) /\ (pairCells (spP l))[k * 2 + 1]? = some (.slice (l.getD k sp0).a (l.getD k sp0).n (l.getD k sp0).c) := by
 have hp := pairCells_get (spP l) k (by rw [spP_len]; exact h)
 have e : (spP l)[k]'(by rw [spP_len]; exact h) = ((l.getD k sp0).g,.slice (l.getD k sp0).a (l.getD k sp0).n (l.getD k sp0).c) := by simp [spP,h]
 rw [e] at hp
 exact hp
theorem spP_set (l : List SpX) (k : Nat) (x : SpX) (h : k < l.length) : ((pairCells (spP l)).set (k * 2) (.int .i64 x.g)).set (k * 2 + 1) (.slice x.a x.n x.c) = pairCells (spP (l.set k x)) := by
 have h1 : k < (spP l).length := by rw [spP_len]; exact h
 rw [pairCells_set0 (spP l) k h1 x.g,pairCells_set _ k (by simpa using h1) (.slice x.a x.n x.c)]
 congr 1
 simp [spP,List.map_set]
theorem grownBy_more {a b c : World} {g : Nat} (h : a.grownBy b (some g)) (hb : Below b.heap.size b c) : a.grownBy c (some g) := grownBy_trans h (below_grownBy hb _)
set_option maxHeartbeats 1000000 in
set_option maxRecDepth 60000 in
theorem idxSpan_any {b g n cap N : Nat} {w : World} {l : List SpX} {p : SpX -> Bool} (hp : ∀ W x,x ∈ l -> w.grownBy W (some g) -> Calls Tryz.prog 98 #[.agg #[.int .i64 x.g,.slice x.a x.n x.c],.pointer (some ⟨b,0,none⟩)] W fun e w' => e = .returned (.bool (p x)) /\ Below W.heap.size W w')
  (hO : w.ownsRow N 55 2 (.slice (some ⟨g,0,none⟩) n cap) n (pairCells (spP l))) (h64 : n <= 104) :
  Calls Tryz.prog 119 #[.slice (some ⟨g,0,none⟩) n cap,.func (.func 98) #[] #[.pointer (some ⟨b,0,none⟩)]] w fun e w' => FirstA sp0 p l e /\ Below w.heap.size w w' := by
 have HP : Hid (∀ W x,x ∈ l -> w.grownBy W (some g) -> Calls Tryz.prog 98 #[.agg #[.int .i64 x.g,.slice x.a x.n x.c],.pointer (some ⟨b,0,none⟩)] W fun e w' => e = .returned (.bool (p x)) /\ Below W.heap.size W w') := hp
 have HN : Hid (l.length = n) := by
  have := hO.1
  rw [pairCells_len,spP_len] at this
  show _ = _
  omega
 have HO : Hid (w.ownsRow N 55 2 (.slice (some ⟨g,0,none⟩) n cap) n (pairCells (spP l))) := hO
 have h64' : (n : Int) <= 104 := by omega
 clear hp hO h64
 go_enter Tryz.func119,Tryz.ntmps119
 go_wp2_with fail
 go_loopw [8] (fun i wr => ∃ k : Nat,k <= n /\ i = .int .i64 k /\ Below w.heap.size w wr /\ Hid (∀ j,j < k -> p (l.getD j sp0) = false)) (fun i _ => n - (intOf i).toNat)
 case atStart => exact ⟨0,Nat.zero_le _,rfl,Below.refl _ _,fun j hj => absurd hj (Nat.not_lt_zero _)⟩
 case round =>
  obtain ⟨k,hk,rfl,hbel,hT⟩ := hrel
  by_cases hlt : k < n
  ·have hk1 : (k : Int) < (n : Int) := by omega
   have hk0 : (0 : Int) <= (k : Int) := by omega
   have hkl : k < l.length := by have := HN.out; omega
   have hor := own_below HO.out hbel
   have hsp := spP_get l k hkl
   have x0 := (hor.cellAt (k * 2) (by omega)).trans hsp.1
   have x1 := (hor.cellAt (k * 2 + 1) (by omega)).trans hsp.2
   have hmem : l.getD k sp0 ∈ l := by
    rw [show l.getD k sp0 = l[k] by simp [hkl]]
    exact List.getElem_mem hkl
   have HC := HP.out wr (l.getD k sp0) hmem (below_grownBy hbel _)
   have HY : Hid (p (l.getD k sp0) = true -> FirstA sp0 p l (.returned (.int .i64 (k : Int)))) := fun h => .inl ⟨k,rfl,hkl,h,hT.out⟩
   have HNX : Hid (p (l.getD k sp0) = false -> ∀ j,j < k + 1 -> p (l.getD j sp0) = false) := fun h j hj => by
    by_cases e : j = k
    ·rw [e]; exact h
    ·exact hT.out j (by omega)
   clear hor hsp hmem hT
   generalize l.getD k sp0 = y at *
   obtain ⟨y1,ya,yn,yc,y3⟩ := y
   have HC' : Hid (Calls Tryz.prog 98 #[.agg #[.int .i64 y1,.slice ya yn yc],.pointer (some ⟨b,0,none⟩)] wr fun e w' => e = .returned (.bool (p ⟨y1,ya,yn,yc,y3⟩)) /\ Below wr.heap.size wr w') := HC
   clear HC
   simp only at x0 x1
   generalize hq : p (SpX.mk y1 ya yn yc y3) = q at *
   cases q with
   | true =>
    have HY' := HY.out rfl
    have HF : Hid (FirstA sp0 p l (.returned (.int .i64 (k : Int)))) := HY'
    clear HY HY' HNX hq
    go_wp2_with (go_at_call 98; refine HC'.out.mono ?_; rintro e w4 ⟨rfl,hb4⟩)
    go_ret
    exact ⟨HF.out,below2 hbel hb4⟩
   | false =>
    have HX : Hid (∀ j,j < k + 1 -> p (l.getD j sp0) = false) := HNX.out rfl
    clear HY HNX hq
    go_wp2_with (go_at_call 98; refine HC'.out.mono ?_; rintro e w4 ⟨rfl,hb4⟩)
    exact ⟨⟨k + 1,by omega,by go_num,below2 hbel hb4,HX⟩,by simp [intOf]; omega⟩
  ·obtain rfl : k = n := by omega
   have HF : Hid (FirstA sp0 p l (.returned (.int .i64 (-1)))) := .inr ⟨rfl,fun j hj => hT.out j (by have := HN.out; omega)⟩
   clear hT
   go_wp2_with fail
   go_ret
   exact ⟨HF.out,hbel⟩
theorem infoSp9 : (Tryz.prog.info? 55).map (fun i => (i.zero,i.size,i.bytes)) = some (some (.agg #[.int .i64 0,.slice none 0 0]),2,32) := by kernel_rfl
theorem zero2_one (k : Nat) : ∀ u ∈ (Builtin.zeroCells (Value.cells (.agg #[.int .i64 0,.slice none 0 0])) k).toList,u.oneCell' = true := by
 intro u hu
 have e : Value.cells (.agg #[.int .i64 0,.slice none 0 0]) = #[.int .i64 0,.slice none 0 0] := by kernel_rfl
 rw [e] at hu
 simp only [Builtin.zeroCells,Array.toList_map,List.mem_map] at hu
 obtain ⟨i,-,rfl⟩ := hu
 have h2 : i % (#[Value.int .i64 0,Value.slice none 0 0] : Array Value).size = 0 ∨ i % (#[Value.int .i64 0,Value.slice none 0 0] : Array Value).size = 1 := by
  show i % 2 = 0 ∨ i % 2 = 1
  omega
 rcases h2 with h | h
 ·rw [h]; rfl
 ·rw [h]; rfl
set_option maxHeartbeats 2000000 in
set_option maxRecDepth 60000 in
theorem delSpan_any {b g n cap N : Nat} {w : World} {l : List SpX} {p : SpX -> Bool} (hp : ∀ W x,x ∈ l -> w.grownBy W (some g) -> Calls Tryz.prog 98 #[.agg #[.int .i64 x.g,.slice x.a x.n x.c],.pointer (some ⟨b,0,none⟩)] W fun e w' => e = .returned (.bool (p x)) /\ Below W.heap.size W w')
  (hO : w.ownsRow N 55 2 (.slice (some ⟨g,0,none⟩) n cap) n (pairCells (spP l))) (h64 : n <= 104) :
  Calls Tryz.prog 97 #[.slice (some ⟨g,0,none⟩) n cap,.func (.func 98) #[] #[.pointer (some ⟨b,0,none⟩)]] w fun e w' => e = .returned (.slice (some ⟨g,0,none⟩) (l.filter fun x => !p x).length cap) /\ w'.ownsRow N 55 2 (.slice (some ⟨g,0,none⟩) (l.filter fun x => !p x).length cap) (l.filter fun x => !p x).length (pairCells (spP (l.filter fun x => !p x))) /\ w.grownBy w' (some g) := by
 have HI : Hid (Calls Tryz.prog 119 #[.slice (some ⟨g,0,none⟩) n cap,.func (.func 98) #[] #[.pointer (some ⟨b,0,none⟩)]] w fun e w' => FirstA sp0 p l e /\ Below w.heap.size w w') := idxSpan_any hp hO h64
 have HP : Hid (∀ W x,x ∈ l -> w.grownBy W (some g) -> Calls Tryz.prog 98 #[.agg #[.int .i64 x.g,.slice x.a x.n x.c],.pointer (some ⟨b,0,none⟩)] W fun e w' => e = .returned (.bool (p x)) /\ Below W.heap.size W w') := hp
 have HN : Hid (l.length = n) := by
  have := hO.1
  rw [pairCells_len,spP_len] at this
  show _ = _
  omega
 have HO : Hid (w.ownsRow N 55 2 (.slice (some ⟨g,0,none⟩) n cap) n (pairCells (spP l))) := hO
 have hcap := (own_caps hO).2.1
 have hncap := (own_caps hO).1
 have hcap' : (cap : Int) <= 9223372036854775807 := by unfold maxLen at hcap; omega
 have hnc' : (n : Int) <= (cap : Int) := by omega
 have HCM := Hid.mk9 hcap
 have h64' : (n : Int) <= 104 := by omega
 clear hp hO h64 hcap
 go_enter Tryz.func97,Tryz.ntmps97
 go_wp2_with fail
 refine HI.out.mono ?_
 rintro e w2 ⟨⟨k,rfl,hk,hy,hno⟩ | ⟨rfl,hno⟩,hb2⟩
 ·have HK : Hid (KA sp0 p l l k (k + 1)) := KA.start hk hy hno
  have hkn : k < n := by have := HN.out; omega
  have hk0 : (0 : Int) <= (k : Int) := by omega
  have hk1 : (k : Int) < (n : Int) := by omega
  have hke : ((k : Int) == -1) = false := beq_eq_false_iff_ne.2 (by omega)
  have HO2 : Hid (w2.ownsRow N 55 2 (.slice (some ⟨g,0,none⟩) n cap) n (pairCells (spP l))) := own_below HO.out hb2
  have hB2 : w.grownBy w2 (some g) := below_grownBy hb2 _
  clear hk hy hno HI HO hb2
  go_wp2_with fail
  go_loopw [5,6] (fun si sj wr => ∃ (i j : Nat) (L : List SpX),si = .int .i64 i /\ sj = .int .i64 j /\ i < j /\ j <= n /\ Hid (KA sp0 p l L i j) /\ Hid (wr.ownsRow N 55 2 (.slice (some ⟨g,0,none⟩) n cap) n (pairCells (spP L))) /\ Hid (w.grownBy wr (some g))) (fun _ sj _ => n - (intOf sj).toNat)
  case atStart => exact ⟨k,k + 1,l,rfl,by go_num,by omega,by omega,HK,HO2,hB2⟩
  case round =>
   obtain ⟨i,j,L,rfl,rfl,hij,hjn,hK,hO,hB⟩ := hrel
   have hi0 : (0 : Int) <= (i : Int) := by omega
   have hin : (i : Int) < (n : Int) := by omega
   have hj0 : (0 : Int) <= (j : Int) := by omega
   have hjn' : (j : Int) <= (n : Int) := by omega
   have hLl : L.length = n := by have := hK.out.1; have := HN.out; omega
   clear HK HO2 hB2
   by_cases hlt : j < n
   ·have hlt' : (j : Int) < (n : Int) := by omega
    have hjl : j < l.length := by have := HN.out; omega
    have HH := hK.out.2.2.2.2 j (Nat.le_refl _)
    have hsp := spP_get L j (by omega)
    have x0 := (hO.out.cellAt (j * 2) (by omega)).trans hsp.1
    have x1 := (hO.out.cellAt (j * 2 + 1) (by omega)).trans hsp.2
    rw [HH] at x0 x1
    have HS : Hid (p (l.getD j sp0) = true -> KA sp0 p l L i (j + 1)) := fun h => hK.out.skip hjl h
    have HKE : Hid (p (l.getD j sp0) = false -> KA sp0 p l (L.set i (l.getD j sp0)) (i + 1) (j + 1)) := fun h => hK.out.keep hjl h
    have hmem : l.getD j sp0 ∈ l := by
     rw [show l.getD j sp0 = l[j] by simp [hjl]]
     exact List.getElem_mem hjl
    have HCW : Hid (∀ W,w.grownBy W (some g) -> Calls Tryz.prog 98 #[.agg #[.int .i64 (l.getD j sp0).g,.slice (l.getD j sp0).a (l.getD j sp0).n (l.getD j sp0).c],.pointer (some ⟨b,0,none⟩)] W fun e w' => e = .returned (.bool (p (l.getD j sp0))) /\ Below W.heap.size W w') := fun W h => HP.out W _ hmem h
    clear HH hK hsp hmem hjl
    generalize l.getD j sp0 = y at *
    obtain ⟨y1,ya,yn,yc,y3⟩ := y
    simp only at x0 x1
    have HA1 : Hid (w.grownBy (wr.alloc (.cells #[.int .i64 y1,.slice ya yn yc] 55)) (some g)) := grownBy_more hB.out (below_alloc _ _)
    have HC : Hid (Calls Tryz.prog 98 #[.agg #[.int .i64 y1,.slice ya yn yc],.pointer (some ⟨b,0,none⟩)] (wr.alloc (.cells #[.int .i64 y1,.slice ya yn yc] 55)) fun e w' => e = .returned (.bool (p ⟨y1,ya,yn,yc,y3⟩)) /\ Below (wr.alloc (.cells #[.int .i64 y1,.slice ya yn yc] 55)).heap.size (wr.alloc (.cells #[.int .i64 y1,.slice ya yn yc] 55)) w') := HCW.out _ HA1.out
    have HOA : Hid ((wr.alloc (.cells #[.int .i64 y1,.slice ya yn yc] 55)).ownsRow N 55 2 (.slice (some ⟨g,0,none⟩) n cap) n (pairCells (spP L))) := own_alloc hO.out _
    have hgl : g < wr.heap.size := (hO.out.lt g rfl).2
    clear HCW hB hO
    generalize hq : p (SpX.mk y1 ya yn yc y3) = q at *
    cases q with
    | true =>
     have HS' : Hid (KA sp0 p l L i (j + 1)) := HS.out rfl
     clear HS HKE hq
     go_wp2_with (go_at_call 98; refine HC.out.mono ?_; rintro e w4 ⟨rfl,hb4⟩)
     exact ⟨⟨i,j + 1,L,rfl,by go_num,by omega,by omega,HS',own_below HOA.out hb4,grownBy_more HA1.out hb4⟩,by simp [intOf]; omega⟩
    | false =>
     have HS' : Hid (KA sp0 p l (L.set i ⟨y1,ya,yn,yc,y3⟩) (i + 1) (j + 1)) := HKE.out rfl
     have HBX : Hid (∀ W,Below (wr.alloc (.cells #[.int .i64 y1,.slice ya yn yc] 55)).heap.size (wr.alloc (.cells #[.int .i64 y1,.slice ya yn yc] 55)) W -> W.cell? ⟨wr.heap.size,0,none⟩ = some (.int .i64 y1) /\ W.cell? ⟨wr.heap.size,1,none⟩ = some (.slice ya yn yc)) := fun W hb => by
      have hs : wr.heap.size < (wr.alloc (.cells #[.int .i64 y1,.slice ya yn yc] 55)).heap.size := by simp
      exact ⟨(hb.cell (p := ⟨wr.heap.size,0,none⟩) hs).trans (by simp),(hb.cell (p := ⟨wr.heap.size,1,none⟩) hs).trans (by simp)⟩
     clear HS HKE hq
     go_upto_region 9 with (go_at_call 98; refine HC.out.mono ?_; rintro e w4 ⟨rfl,hb4⟩)
     have hO4 := own_below HOA.out hb4
     have hB4 := grownBy_more HA1.out hb4
     obtain ⟨z0,z1⟩ := HBX.out w4 hb4
     have hsl := spP_get L i (by omega)
     have xi := (hO4.cellAt (i * 2) (by omega)).trans hsl.1
     have xj := (hO4.cellAt (i * 2 + 1) (by omega)).trans hsl.2
     have fi := hO4.frozenAt (i * 2)
     have fj := hO4.frozenAt (i * 2 + 1)
     have HOS : Hid (((w4.setCell ⟨g,i * 2,none⟩ (.int .i64 y1)).setCell ⟨g,i * 2 + 1,none⟩ (.slice ya yn yc)).ownsRow N 55 2 (.slice (some ⟨g,0,none⟩) n cap) n (pairCells (spP (L.set i ⟨y1,ya,yn,yc,y3⟩)))) := by
      rw [<- spP_set L i ⟨y1,ya,yn,yc,y3⟩ (by omega)]
      exact ((hO4.stored (i * 2) (.int .i64 y1)).1.stored (i * 2 + 1) (.slice ya yn yc)).1
     have HBS : Hid (w.grownBy ((w4.setCell ⟨g,i * 2,none⟩ (.int .i64 y1)).setCell ⟨g,i * 2 + 1,none⟩ (.slice ya yn yc)) (some g)) := grownBy_trans hB4 (grownBy_trans (set_grownBy _ _ _ _) (set_grownBy _ _ _ _))
     clear hO4 HOA HC HA1 hB4 HBX hsl x0 x1
     generalize L.getD i sp0 = l1 at *
     obtain ⟨q1,q2,q3,q4,q5⟩ := l1
     simp only at xi xj
     go_wp2_with fail
     exact ⟨⟨i + 1,j + 1,L.set i ⟨y1,ya,yn,yc,y3⟩,by go_num,by go_num,by omega,by omega,HS',HOS,HBS⟩,by simp [intOf]; omega⟩
   ·obtain rfl : j = n := by omega
    obtain ⟨cur,hg,hcl,hct,hNg,-,hcm,-⟩ := own_whole hO.out
    have hsz : (Builtin.zeroCells (Value.cells (.agg #[.int .i64 0,.slice none 0 0])) (j - i)).toList.length = (j - i) * 2 := by
     rw [Array.length_toList,size_zeroCells]
     rfl
    have hz1 := zero2_one (j - i)
    generalize hzs : (Builtin.zeroCells (Value.cells (.agg #[.int .i64 0,.slice none 0 0])) (j - i)).toList = zs at *
    obtain ⟨w9,hw9⟩ : ∃ w9,w9 = wr.setRow g (splice cur (i * 2) zs).toArray := ⟨_,rfl⟩
    have hcle : ∀ ty,(Builtin.clear_ #[51] ty #[.slice (some ⟨g,i * 2,none⟩) (j - i) (cap - i)]).run Tryz.prog wr = .ok (.tuple #[]) w9 := fun ty => by
     rw [hw9]
     exact run_clear_row wr 51 55 ty (.agg #[.int .i64 0,.slice none 0 0]) Tryz.underlying51 Tryz.zeroValue55 g (i * 2) (j - i) (cap - i) (by omega) cur 55 hg zs hzs hz1 (by rw [hsz,hcl]; omega)
    have hTk := hK.out.2.2.2.1
    rw [show l.take j = l by rw [<- HN.out,List.take_length]] at hTk
    have hlen : (l.filter fun x => !p x).length = i := by rw [<- hTk,List.length_take]; omega
    have HOF : Hid (w9.ownsRow N 55 2 (.slice (some ⟨g,0,none⟩) i cap) i (pairCells (spP (l.filter fun x => !p x)))) := by
     refine whole_own (cur := splice cur (i * 2) zs) (by rw [hw9]; exact setRow_heap wr g _ _ _ _ hg) (by rw [length_splice _ _ _ (by rw [hsz,hcl]; omega)]; exact hcl) ?_ hNg (by omega) hcm (by rw [pairCells_len,spP_len,hlen])
     rw [take_splice _ _ _ _ (Nat.le_refl _) (by rw [hcl]; omega),<- hTk,show spP (L.take i) = (spP L).take i by simp [spP,List.map_take],<- pairCells_take,<- hct,List.take_take,Nat.min_eq_left (by omega)]
    have HBF : Hid (w.grownBy w9 (some g)) := by
     show w.grownBy w9 (some g)
     rw [hw9]
     exact grownBy_trans hB.out (setRow_grownBy _)
    have HLE : Hid ((l.filter fun x => !p x).length = i) := hlen
    have hci : ¬ (cap = i) := by omega
    have hic : (i : Int) <= (cap : Int) := by omega
    clear hTk hlen hO hK hB hg hcl hct hNg hcm hw9 hzs hz1 hsz
    go_wp2_with fail
    go_ret
    rw [HLE.out]
    exact ⟨rfl,HOF.out,HBF.out⟩
 ·have HFL : Hid ((l.filter fun x => !p x) = l) := by
   unfold Hid
   rw [List.filter_eq_self]
   intro x hx
   obtain ⟨j,hj,rfl⟩ := List.getElem_of_mem hx
   have := hno j hj
   rw [show l.getD j sp0 = l[j] by simp [hj]] at this
   rw [this]
   rfl
  have HO2 : Hid (w2.ownsRow N 55 2 (.slice (some ⟨g,0,none⟩) n cap) n (pairCells (spP l))) := own_below HO.out hb2
  have HB2 : Hid (w.grownBy w2 (some g)) := below_grownBy hb2 _
  clear hno HI HO hb2
  go_wp2_with fail
  go_ret
  rw [HFL.out,HN.out]
  exact ⟨rfl,HO2.out,HB2.out⟩
end Go.Proofs.YtcncbjknfcjnmaaGreat.Tp
namespace Go.Proofs.YtcncbjknfcjnmaaGreat.Tp
open Go.ChangeShapes Go.WideShapes Go.ChangeAt Go.RowKit
def sortI_ren : Go.Shelf.Ren := ⟨fun | 125 => 118 | 128 => 143 | 129 => 144 | 189 => 96 | 215 => 111 | 216 => 140 | 257 => 117 | 294 => 134 | 295 => 135 | 296 => 136 | 297 => 137 | 298 => 138 | 299 => 139 | 300 => 141 | 301 => 142 | 328 => 155 | 329 => 156 | 330 => 157 | 331 => 158 | 332 => 159 | 343 => 172 | n => n,fun | 0 => 0 | 3 => 3 | 4 => 4 | 5 => 5 | 9 => 9 | 28 => 35 | 46 => 131 | 51 => 166 | 53 => 127 | 131 => 87 | 182 => 158 | 183 => 159 | 218 => 174 | 222 => 178 | 228 => 191 | 229 => 192 | n => n,fun | n => n⟩
theorem sortI_lays : Go.Proofs.Lays.n189 Tryz.prog sortI_ren := {
 mixed := by kernel_rfl
 f125 := Tryz.func118.trans (congrArg some (by kernel_rfl))
 f128 := Tryz.func143.trans (congrArg some (by kernel_rfl))
 f129 := Tryz.func144.trans (congrArg some (by kernel_rfl))
 f189 := Tryz.func96.trans (congrArg some (by kernel_rfl))
 f215 := Tryz.func111.trans (congrArg some (by kernel_rfl))
 f216 := Tryz.func140.trans (congrArg some (by kernel_rfl))
 f257 := Tryz.func117.trans (congrArg some (by kernel_rfl))
 f294 := Tryz.func134.trans (congrArg some (by kernel_rfl))
 f295 := Tryz.func135.trans (congrArg some (by kernel_rfl))
 f296 := Tryz.func136.trans (congrArg some (by kernel_rfl))
 f297 := Tryz.func137.trans (congrArg some (by kernel_rfl))
 f298 := Tryz.func138.trans (congrArg some (by kernel_rfl))
 f299 := Tryz.func139.trans (congrArg some (by kernel_rfl))
 f300 := Tryz.func141.trans (congrArg some (by kernel_rfl))
 f301 := Tryz.func142.trans (congrArg some (by kernel_rfl))
 f328 := Tryz.func155.trans (congrArg some (by kernel_rfl))
 f329 := Tryz.func156.trans (congrArg some (by kernel_rfl))
 f330 := Tryz.func157.trans (congrArg some (by kernel_rfl))
 f331 := Tryz.func158.trans (congrArg some (by kernel_rfl))
 f332 := Tryz.func159.trans (congrArg some (by kernel_rfl))
 f343 := Tryz.func172.trans (congrArg some (by kernel_rfl))
 t0 := Tryz.underlying0
 a0 := Tryz.isAgg0
 z0 := Tryz.sizeOf0
 v0 := Tryz.zeroValue0
 t3 := Tryz.underlying3
 a3 := Tryz.isAgg3
 z3 := Tryz.sizeOf3
 v3 := Tryz.zeroValue3
 t4 := Tryz.underlying4
 a4 := Tryz.isAgg4
 z4 := Tryz.sizeOf4
 v4 := Tryz.zeroValue4
 t5 := Tryz.underlying5
 a5 := Tryz.isAgg5
 z5 := Tryz.sizeOf5
 v5 := Tryz.zeroValue5
 t9 := Tryz.underlying9
 a9 := Tryz.isAgg9
 z9 := Tryz.sizeOf9
 v9 := Tryz.zeroValue9
 t28 := Tryz.underlying35
 a28 := Tryz.isAgg35
 z28 := Tryz.sizeOf35
 v28 := Tryz.zeroValue35
 t46 := Tryz.underlying131
 a46 := Tryz.isAgg131
 z46 := Tryz.sizeOf131
 v46 := Tryz.zeroValue131
 t51 := Tryz.underlying166
 a51 := Tryz.isAgg166
 z51 := Tryz.sizeOf166
 v51 := Tryz.zeroValue166
 t53 := Tryz.underlying127
 a53 := Tryz.isAgg127
 z53 := Tryz.sizeOf127
 v53 := Tryz.zeroValue127
 t131 := Tryz.underlying87
 a131 := Tryz.isAgg87
 z131 := Tryz.sizeOf87
 v131 := Tryz.zeroValue87
 t182 := Tryz.underlying158
 a182 := Tryz.isAgg158
 z182 := Tryz.sizeOf158
 v182 := Tryz.zeroValue158
 t183 := Tryz.underlying159
 a183 := Tryz.isAgg159
 z183 := Tryz.sizeOf159
 v183 := Tryz.zeroValue159
 t218 := Tryz.underlying174
 a218 := Tryz.isAgg174
 z218 := Tryz.sizeOf174
 v218 := Tryz.zeroValue174
 t222 := Tryz.underlying178
 a222 := Tryz.isAgg178
 z222 := Tryz.sizeOf178
 v222 := Tryz.zeroValue178
 t228 := Tryz.underlying191
 a228 := Tryz.isAgg191
 z228 := Tryz.sizeOf191
 v228 := Tryz.zeroValue191
 t229 := Tryz.underlying192
 a229 := Tryz.isAgg192
 z229 := Tryz.sizeOf192
 v229 := Tryz.zeroValue192 }
def sortI (l : List Int) : List Int := l.mergeSort fun x y => decide (x <= y)
theorem sortI_len (l : List Int) : (sortI l).length = l.length := List.length_mergeSort l
theorem own_setCells2 {N E s n cap g : Nat} (vs : List Value) : ∀ (w : World) (o : Nat) (xs : List Value),w.ownsRow N E s (.slice (some ⟨g,0,none⟩) n cap) n xs -> o + vs.length <= xs.length -> (w.setCells g o vs).ownsRow N E s (.slice (some ⟨g,0,none⟩) n cap) n (xs.take o ++ vs ++ xs.drop (o + vs.length)) := by
 induction vs with
 | nil =>
  intro w o xs h _
  show w.ownsRow N E s _ n _
  rw [List.append_nil,List.length_nil,Nat.add_zero,List.take_append_drop]
  exact h
 | cons v r ih =>
  intro w o xs h hl
  have h2 := ih (w.setCell ⟨g,o,none⟩ v) (o + 1) (xs.set o v) (h.stored o v).1 (by simp at hl ⊢; omega)
  have e := list_seg_step xs o v r (by simp at hl; omega)
  have e2 : (xs.set o v).take (o + 1) ++ r ++ (xs.set o v).drop (o + 1 + r.length) = xs.take o ++ v :: r ++ xs.drop (o + (v :: r).length) := by simpa [Nat.add_assoc] using e
  rw [e2] at h2
  exact h2
theorem setCells_grownBy {g : Nat} (vs : List Value) : ∀ (w : World) (o : Nat),w.grownBy (w.setCells g o vs) (some g) := by
 induction vs with
 | nil => intro w o; exact ⟨rfl,rfl,rfl,Nat.le_refl _,fun _ _ _ => rfl⟩
 | cons v r ih => intro w o; exact grownBy_trans (set_grownBy w g o v) (ih _ _)
theorem sortI_any {N g n cap : Nat} {l : List Int} (w : World) (hO : w.ownsRow N 3 1 (.slice (some ⟨g,0,none⟩) n cap) n (intCells l)) (h64 : n <= 64) :
  Calls Tryz.prog 96 #[.slice (some ⟨g,0,none⟩) n cap] w fun e w' => e = .returned (.tuple #[]) /\ w'.ownsRow N 3 1 (.slice (some ⟨g,0,none⟩) n cap) n (intCells (sortI l)) /\ w.grownBy w' (some g) := by
 have hl : l.length = n := by have := hO.1; simpa [intCells] using this
 have hH := Lib.holds_of_ints (w := w) (b := g) (off := 0) (n := n) (zs := l) (by omega) (fun j hj => by
  rw [Nat.zero_add,hO.cellAt j (by omega)]
  simp [intCells,hj]) (fun j _ => hO.frozenAt _)
 rw [List.take_of_length_le (by omega)] at hH
 have hg := (hO.lt g rfl).2
 have hs := Any.slices_Sort_int sortI_lays g 0 cap l w hH hg (by omega)
 rw [hl] at hs
 refine hs.mono ?_
 rintro e w' ⟨he,q,os,hw⟩
 have hll : (sortI l).length = n := by rw [sortI_len]; exact hl
 rw [show (l.mergeSort fun x y => decide (x <= y)) = sortI l from rfl,Lib.sorted_world _ w g 0 q _ _ os hH (by simpa using hll.trans hl.symm)] at hw
 have h0 : w.grownBy (w.drewN q) (some g) := below_grownBy (below_drewN w q) _
 have o0 := own_below hO (below_drewN w q)
 have o1 := own_setCells2 ((sortI l).map (Value.int .i64)) _ 0 _ o0 (by simp [intCells,hll,hl])
 have e1 : (intCells l).take 0 ++ (sortI l).map (Value.int .i64) ++ (intCells l).drop (0 + ((sortI l).map (Value.int .i64)).length) = intCells (sortI l) := by
  rw [List.take_zero,List.nil_append,List.drop_of_length_le (by simp [intCells,hll,hl]),List.append_nil]
  rfl
 rw [e1] at o1
 have hb : Below ((w.drewN q).setCells g 0 ((sortI l).map (Value.int .i64))).heap.size ((w.drewN q).setCells g 0 ((sortI l).map (Value.int .i64))) (Go.Sort.grow ((w.drewN q).setCells g 0 ((sortI l).map (Value.int .i64))) os) := below_grow _ 0 os
 refine ⟨he,?_,?_⟩
 ·rw [hw]
  exact own_below o1 hb
 ·rw [hw]
  exact grownBy_more (grownBy_trans h0 (setCells_grownBy _ _ _)) hb
theorem leave1_any (x : SpX) (b : Nat) (a : Option Addr) (n c : Nat) (act : List Int) (w : World) (hx : RowI w x.a x.n x.c x.ns) (hb : w.cell? ⟨b,0,none⟩ = some (.slice a n c)) (hr : RowI w a n c act) :
  Calls Tryz.prog 98 #[.agg #[.int .i64 x.g,.slice x.a x.n x.c],.pointer (some ⟨b,0,none⟩)] w fun e w' => e = .returned (.bool (decide (x.ns = act))) /\ Below w.heap.size w w' := by
 obtain ⟨g,xa,xn,xc,ns⟩ := x
 simp only at hx ⊢
 have hbw : b < w.heap.size := World.block_lt_of_cell? w ⟨b,0,none⟩ hb
 have hb1 := below_alloc w (.cells #[.int .i64 g,.slice xa xn xc] 55)
 have HE : Hid (Calls Tryz.prog 72 #[.slice xa xn xc,.slice a n c] (w.alloc (.cells #[.int .i64 g,.slice xa xn xc] 55)) fun e w' => e = .returned (.bool (decide (ns = act))) /\ Grown (w.alloc (.cells #[.int .i64 g,.slice xa xn xc] 55)) w') := eqInts xa a xn xc n c ns act _ (hx.below hb1) (hr.below hb1)
 have HB := Hid.mk9 hb1
 clear hx hr hb1
 generalize decide (ns = act) = t at *
 go_enter Tryz.func98,Tryz.ntmps98
 go_wp2_with (go_at_call 72; refine (HE.out).mono ?_; rintro en w7 ⟨rfl,hE⟩; have HE7 := Hid.mk9 hE; clear hE)
 go_ret
 exact ⟨rfl,below2 HB.out (grown_below HE7.out)⟩
end Go.Proofs.YtcncbjknfcjnmaaGreat.Tp
namespace Go.Proofs.YtcncbjknfcjnmaaGreat.Tp
open Go.ChangeShapes Go.WideShapes Go.ChangeAt Go.RowKit
variable {G : Nat -> Prop}
def sinceT (ts : List Tr) (q : Nat) (z : Int) : List Tr := ts.set q ⟨z,(ts.getD q tr0).past⟩
def pastT (ts : List Tr) (q : Nat) (p : List Tm) : List Tr := ts.set q ⟨(ts.getD q tr0).since,p⟩
theorem TrRowG.since {B : Nat} {ts : List Tr} {g cap n q : Nat} {w : World} (h : TrRowG G B ts (.slice (some ⟨g,0,none⟩) n cap) w) (hn : ts.length = n) (hq : q < ts.length) (z : Int) : TrRowG G B (sinceT ts q z) (.slice (some ⟨g,0,none⟩) n cap) (w.setCell ⟨g,q * 2,none⟩ (.int .i64 z)) := by
 subst hn
 obtain ⟨L,h1,h2,h3,h4⟩ := h
 obtain ⟨s1,s2⟩ := h2.stored (q * 2) (.int .i64 z)
 obtain ⟨⟨cur,hh⟩,-⟩ := row_ty h2
 have hkp : ∀ (u : Value) (l : List Tm),TmRowG G B 55 l u w -> TmRowG G B 55 l u (w.setCell ⟨g,q * 2,none⟩ (.int .i64 z)) := fun u l hu => TmRowG.type hu s2 hh (by decide) (by decide)
 rw [pairCells_set0 L q (by omega)] at s1
 have hlen : (sinceT ts q z).length = ts.length := by simp [sinceT]
 have hsame : ∀ i,i < L.length -> ((L.set q (z,(L[q]).2)).getD i nilP).2 = (L.getD i nilP).2 := fun i hi => by
  by_cases e : i = q
  ·subst e
   rw [getD_set_eq _ _ _ (by omega),getD_lt (by omega)]
  ·rw [getD_set_ne _ _ _ _ e]
 rw [TrRowG,hlen]
 refine ⟨L.set q (z,(L[q]).2),by simpa using h1,s1,fun i hi => ?_,fun i j hij hjl b hb => ?_⟩
 ·skip
  rw [hsame i (by omega)]
  by_cases e : i = q
  ·subst e
   rw [getD_set_eq _ _ _ (by omega)]
   unfold sinceT
   rw [trGetD_eq _ _ _ hi]
   exact ⟨rfl,hkp _ _ (h3 i hi).2⟩
  ·rw [getD_set_ne _ _ _ _ e]
   unfold sinceT
   rw [trGetD_ne _ _ _ _ e]
   exact ⟨(h3 i hi).1,hkp _ _ (h3 i hi).2⟩
 ·skip
  rw [hsame i (by omega)] at hb
  rw [hsame j (by omega)]
  exact h4 i j hij hjl b hb
theorem LiveM.since9 {w : World} {pm N : Nat} {m : Mp} {s : MV} (h : LiveM G w pm N m s) {k : Nat} (hk : k < s.lR) {g : Nat} (ha : s.aR = some ⟨g,0,none⟩) (z : Int) : LiveM G (w.setCell ⟨g,k * 2,none⟩ (.int .i64 z)) pm N { m with trs := sinceT m.trs k z } s /\ Kq w (w.setCell ⟨g,k * 2,none⟩ (.int .i64 z)) /\ N <= g := by
 have hr := h.own.trs
 rw [ha] at hr
 have hr2 := TrRowG.since hr h.own.trl (by have := h.own.trl; omega) z (q := k)
 obtain ⟨L,h1,h2,-,-⟩ := hr
 rw [h.own.trl] at h2
 obtain ⟨ht,hNg⟩ := row_ty h2
 have hg0 := set_grownBy w g (k * 2) (.int .i64 z)
 have hne : pm ≠ g := boxTy_ne h.ty ht (by decide)
 have hkp := kp_set ht (.inr (.inr (.inr (.inl rfl)))) (k * 2) (.int .i64 z)
 obtain ⟨cur,hc⟩ := ht
 refine ⟨⟨h.box.else hg0 hne,h.ty.kp hkp,⟨own_type h.own.nds hg0 hc (by decide),h.own.ndl,TmRowG.type h.own.tms hg0 hc (by decide) (by decide),h.own.tml,?_,by simpa [sinceT] using h.own.trl⟩,h.ge⟩,hkp.kq,hNg⟩
 rw [ha]
 exact hr2
set_option maxHeartbeats 1000000 in
set_option maxRecDepth 60000 in
theorem leave_short9 {pm N : Nat} {m : Mp} {s : MV} {k : Nat} (hk : k < s.lR) (h8 : s.lR <= 8) (a : Option Addr) (len cap : Nat) (hlen : (len : Int) < m.mn) (hmn : m.mn <= 3) (w : World) (hL : LiveM G w pm N m s) (hN : N <= w.heap.size) :
  Calls Tryz.prog 73 #[.pointer (some ⟨pm,0,none⟩),.int .i64 (k : Int),.slice a len cap] w fun e w' => e = .returned (.tuple #[]) /\ LiveM G w' pm N ({ m with trs := sinceT m.trs k m.ep }) s /\ Kq w w' /\ Below N w w' := by
 obtain ⟨L0,hL0,hr,-,-⟩ := hL.own.trs
 rw [hL.own.trl] at hr
 obtain ⟨g,cg,hv,hgB,hgs,hgc⟩ := own_some hr (by omega)
 injection hv with hv1 hv2 hv3
 have hb1 := below_alloc w (.cells #[.slice a len cap] 35)
 have HL1 : Hid (LiveM G (w.alloc (.cells #[.slice a len cap] 35)) pm N m s) := hL.below hb1
 have c0 : (w.alloc (.cells #[.slice a len cap] 35)).cell? ⟨w.heap.size,0,none⟩ = some (.slice a len cap) := by simp
 have hls : w.heap.size < (w.alloc (.cells #[.slice a len cap] 35)).heap.size := by simp
 have hkp1 := kq_below hb1
 generalize hw1 : w.alloc (.cells #[.slice a len cap] 35) = w1 at *
 have hgw := HL1.out.box.lt
 have HG : Hid (∀ n os,Grown w1 (Go.Sort.grow (w1.drewN n) os)) := fun n os => ⟨n,os,rfl⟩
 have HF : Hid (∀ W,Grown w1 W -> LiveM G (W.setCell ⟨g,k * 2,none⟩ (.int .i64 m.ep)) pm N ({ m with trs := sinceT m.trs k m.ep }) s /\ Kq w (W.setCell ⟨g,k * 2,none⟩ (.int .i64 m.ep)) /\ Below N w (W.setCell ⟨g,k * 2,none⟩ (.int .i64 m.ep))) := fun W hW => by
  have hbW := grown_below hW
  have hl := HL1.out.below hbW
  obtain ⟨q1,q2,q3⟩ := hl.since9 hk hv1 m.ep
  exact ⟨q1,hkp1.trans ((kq_below hbW).trans q2),((below2 hb1 hbW).mono hN).setCell (p := ⟨g,k * 2,none⟩) q3 _⟩
 have HC : Hid (∀ W,Grown w1 W -> W.cell? ⟨g,k * 2,none⟩ = some (.int .i64 (m.trs.getD k tr0).since) /\ W.frozen? ⟨g,k * 2,none⟩ = false) := fun W hW => by
  obtain ⟨L1,hL1,hl,hx,-⟩ := (HL1.out.below (grown_below hW)).own.trs
  have htl := HL1.out.own.trl
  rw [htl,hv1] at hl
  have hp := pairCells_get L1 k (by omega)
  have hx1 := (hx k (by omega)).1
  rw [getD_lt (by omega)] at hx1
  exact ⟨((hl.cellAt (k * 2) (by omega)).trans hp.1).trans (by rw [hx1]),hl.frozenAt (k * 2)⟩
 obtain ⟨⟨d0,d1,d2,d3,d4,d5,d6⟩,-⟩ := HL1.out.box
 obtain ⟨ep,sz,mn,gr,nds,tms,trs⟩ := m
 obtain ⟨aN,lN,cN,aT,lT,cT,aR,lR,cR⟩ := s
 simp only at *
 subst hv1
 have hk0 : (0 : Int) <= (k : Int) := by omega
 have hk1 : (k : Int) < (lR : Int) := by omega
 have h8' : (lR : Int) <= 8 := by omega
 have hd : decide (mn <= (len : Int)) = false := by simp; omega
 generalize (trs.getD k tr0).since = sn at *
 have x0 := cell_grown (w := w1) (a := ⟨pm,0,none⟩) hgw d0
 have x1 := cell_grown (w := w1) (a := ⟨pm,1,none⟩) hgw d1
 have x2 := cell_grown (w := w1) (a := ⟨pm,2,none⟩) hgw d2
 have x3 := cell_grown (w := w1) (a := ⟨pm,3,none⟩) hgw d3
 have x4 := cell_grown (w := w1) (a := ⟨pm,4,none⟩) hgw d4
 have x5 := cell_grown (w := w1) (a := ⟨pm,5,none⟩) hgw d5
 have x6 := cell_grown (w := w1) (a := ⟨pm,6,none⟩) hgw d6
 have y0 := cell_grown (w := w1) (a := ⟨w.heap.size,0,none⟩) hls c0
 clear hr hL0 hL HL1 hkp1 hv2 hv3 h8 hlen
 go_enter Tryz.func73,Tryz.ntmps73
 go_upto_region 1 with fail
 clear hw1
 go_wp2_with fail
 refine wp_region_QW mixed5 (by kernel_rfl) ?_
 repeat (refine QW_step (fun K hK => ?_); go_simp; first | (refine hK _ ?_; clear hK K) | (apply Exists.intro; refine ⟨fun _ => ?_,hK _ ?_⟩; fail; clear hK K))
 refine QW_nil ?_
 intro _ hw9
 obtain ⟨⟨nq,osq⟩,hw8⟩ := hw9
 subst hw8
 have hGW := HG.out nq osq
 obtain ⟨f1,f2,f3⟩ := HF.out _ hGW
 have HF1 : Hid (LiveM G ((Go.Sort.grow (w1.drewN nq) osq).setCell ⟨g,k * 2,none⟩ (.int .i64 ep)) pm N (⟨ep,sz,mn,gr,nds,tms,sinceT trs k ep⟩) ⟨aN,lN,cN,aT,lT,cT,some ⟨g,0,none⟩,lR,cR⟩) := f1
 obtain ⟨q1,q2⟩ := HC.out _ hGW
 have z0 := x0 nq osq
 have z6 := x6 nq osq
 clear x0 x1 x2 x3 x4 x5 x6 y0 HC HF HG hGW f1
 go_wp2_with fail
 go_returns
 exact ⟨rfl,HF1.out,f2,f3⟩
end Go.Proofs.YtcncbjknfcjnmaaGreat.Tp
