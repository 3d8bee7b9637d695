/-
  The closure of the sort, found in this program.
  The contract of the sort over lots: the same lots, the better ones first.
  The contract of Order: all that have weight, the best one first.
-/
import Derived.Shelf.SlSortCmp.WholeK
import Derived.Test.YtcncbjknfcjnmaaGreatProg
import Derived.Test.YtcncbjknfcjnmaaGreatPr10
import Derived.Lib.Builder
namespace Go.Proofs.YtcncbjknfcjnmaaGreat.Dr
open Go.Shelf
def Lay.sort_ren : Go.Shelf.Ren := ⟨fun | 6 => 163 | 15 => 118 | 14 => 175 | 28 => 143 | 29 => 144 | 20 => 185 | 21 => 186 | 22 => 187 | 23 => 188 | 24 => 189 | 25 => 190 | 26 => 191 | 27 => 192 | 46 => 200 | 47 => 156 | 48 => 157 | 49 => 201 | 50 => 202 | 57 => 207 | n => n,fun | 22 => 181 | 24 => 185 | 25 => 186 | 3 => 3 | 39 => 131 | 0 => 0 | 53 => 166 | 55 => 127 | 4 => 4 | 46 => 159 | 45 => 158 | 50 => 87 | 5 => 5 | 9 => 9 | 66 => 174 | 70 => 178 | 76 => 191 | 77 => 192 | n => n,fun | n => n⟩
theorem Lay.sort : Go.Proofs.SlLaysF0.n6 Tryz.prog Lay.sort_ren := {
 mixed := by kernel_rfl
 f6 := ⟨Tryz.f163.name,by decide,Tryz.func163.trans (congrArg some (by kernel_rfl))⟩
 f14 := ⟨Tryz.f175.name,by decide,Tryz.func175.trans (congrArg some (by kernel_rfl))⟩
 f15 := Tryz.func118.trans (congrArg some (by kernel_rfl))
 f20 := ⟨Tryz.f185.name,by decide,Tryz.func185.trans (congrArg some (by kernel_rfl))⟩
 f21 := ⟨Tryz.f186.name,by decide,Tryz.func186.trans (congrArg some (by kernel_rfl))⟩
 f22 := ⟨Tryz.f187.name,by decide,Tryz.func187.trans (congrArg some (by kernel_rfl))⟩
 f23 := ⟨Tryz.f188.name,by decide,Tryz.func188.trans (congrArg some (by kernel_rfl))⟩
 f24 := ⟨Tryz.f189.name,by decide,Tryz.func189.trans (congrArg some (by kernel_rfl))⟩
 f25 := ⟨Tryz.f190.name,by decide,Tryz.func190.trans (congrArg some (by kernel_rfl))⟩
 f26 := ⟨Tryz.f191.name,by decide,Tryz.func191.trans (congrArg some (by kernel_rfl))⟩
 f27 := ⟨Tryz.f192.name,by decide,Tryz.func192.trans (congrArg some (by kernel_rfl))⟩
 f28 := Tryz.func143.trans (congrArg some (by kernel_rfl))
 f29 := Tryz.func144.trans (congrArg some (by kernel_rfl))
 f46 := ⟨Tryz.f200.name,by decide,Tryz.func200.trans (congrArg some (by kernel_rfl))⟩
 f47 := Tryz.func156.trans (congrArg some (by kernel_rfl))
 f48 := Tryz.func157.trans (congrArg some (by kernel_rfl))
 f49 := ⟨Tryz.f201.name,by decide,Tryz.func201.trans (congrArg some (by kernel_rfl))⟩
 f50 := ⟨Tryz.f202.name,by decide,Tryz.func202.trans (congrArg some (by kernel_rfl))⟩
 f57 := ⟨Tryz.f207.name,by decide,Tryz.func207.trans (congrArg some (by kernel_rfl))⟩
 t0 := Tryz.underlying0
 a0 := Tryz.isAgg0
 z0 := Tryz.sizeOf0
 v0 := Tryz.zeroValue0
 t3 := Tryz.underlying3
 a3 := Tryz.isAgg3
 z3 := Tryz.sizeOf3
 v3 := Tryz.zeroValue3
 t4 := Tryz.underlying4
 a4 := Tryz.isAgg4
 z4 := Tryz.sizeOf4
 v4 := Tryz.zeroValue4
 t5 := Tryz.underlying5
 a5 := Tryz.isAgg5
 z5 := Tryz.sizeOf5
 v5 := Tryz.zeroValue5
 t9 := Tryz.underlying9
 a9 := Tryz.isAgg9
 z9 := Tryz.sizeOf9
 v9 := Tryz.zeroValue9
 t22 := Tryz.underlying181
 a22 := Tryz.isAgg181
 z22 := Tryz.sizeOf181
 v22 := Tryz.zeroValue181
 t25 := Tryz.underlying186
 a25 := Tryz.isAgg186
 z25 := Tryz.sizeOf186
 v25 := Tryz.zeroValue186
 t39 := Tryz.underlying131
 a39 := Tryz.isAgg131
 z39 := Tryz.sizeOf131
 v39 := Tryz.zeroValue131
 t45 := Tryz.underlying158
 a45 := Tryz.isAgg158
 z45 := Tryz.sizeOf158
 v45 := Tryz.zeroValue158
 t46 := Tryz.underlying159
 a46 := Tryz.isAgg159
 z46 := Tryz.sizeOf159
 v46 := Tryz.zeroValue159
 t50 := Tryz.underlying87
 a50 := Tryz.isAgg87
 z50 := Tryz.sizeOf87
 v50 := Tryz.zeroValue87
 t53 := Tryz.underlying166
 a53 := Tryz.isAgg166
 z53 := Tryz.sizeOf166
 v53 := Tryz.zeroValue166
 t55 := Tryz.underlying127
 a55 := Tryz.isAgg127
 z55 := Tryz.sizeOf127
 v55 := Tryz.zeroValue127
 t66 := Tryz.underlying174
 a66 := Tryz.isAgg174
 z66 := Tryz.sizeOf174
 v66 := Tryz.zeroValue174
 t70 := Tryz.underlying178
 a70 := Tryz.isAgg178
 z70 := Tryz.sizeOf178
 v70 := Tryz.zeroValue178
 t76 := Tryz.underlying191
 a76 := Tryz.isAgg191
 z76 := Tryz.sizeOf191
 v76 := Tryz.zeroValue191
 t77 := Tryz.underlying192
 a77 := Tryz.isAgg192
 z77 := Tryz.sizeOf192
 v77 := Tryz.zeroValue192 }
end Go.Proofs.YtcncbjknfcjnmaaGreat.Dr
namespace Go.Proofs.YtcncbjknfcjnmaaGreat.Dr
open Go.ChangeShapes Go.WideShapes Go.ChangeAt Go.RowKit
open Go.Sort (SWO PermIn SortedIn)
abbrev Wc := { c : Ch // 1 <= c.2 /\ c.2 <= 65536 }
def encW (key : Nat) (x : Wc) : List Value := lotCells key x.1
def cfW (key : Nat) (x y : Wc) : Int := cfC key x.1 y.1
theorem ltOf_cf (key : Nat) (x y : Wc) : ltOf (cfW key) x y = true ↔ ltC (costOf key) x.1 y.1 := by
 unfold ltOf cfW
 rw [decide_eq_true_eq]
 exact cfC_lt key x.2 y.2
theorem ltOf_no (key : Nat) (x y : Wc) : ltOf (cfW key) x y = false ↔ ¬ ltC (costOf key) x.1 y.1 := by
 rw [<- ltOf_cf]
 simp
def leC (cost : Int -> Int) (a b : Ch) : Prop := cost a.1 * b.2 < cost b.1 * a.2 ∨ (cost a.1 * b.2 = cost b.1 * a.2 /\ a.1 <= b.1)
theorem not_ltC (cost : Int -> Int) (a b : Ch) : ¬ ltC cost a b ↔ leC cost b a := by
 unfold ltC leC
 generalize cost a.1 * b.2 = x
 generalize cost b.1 * a.2 = y
 omega
theorem leC_trans (cost : Int -> Int) {a b c : Ch} (ha : 0 < a.2) (hb : 0 < b.2) (hc : 0 < c.2) (h1 : leC cost a b) (h2 : leC cost b c) : leC cost a c := by
 unfold leC at *
 have e1 : cost a.1 * b.2 * c.2 = cost a.1 * c.2 * b.2 := Int.mul_right_comm _ _ _
 have e2 : cost b.1 * a.2 * c.2 = cost b.1 * c.2 * a.2 := Int.mul_right_comm _ _ _
 have e3 : cost c.1 * b.2 * a.2 = cost c.1 * a.2 * b.2 := Int.mul_right_comm _ _ _
 have key : cost a.1 * c.2 * b.2 <= cost c.1 * a.2 * b.2 := by
  have p1 : cost a.1 * b.2 * c.2 <= cost b.1 * a.2 * c.2 := Int.mul_le_mul_of_nonneg_right (by omega) (by omega)
  have p2 : cost b.1 * c.2 * a.2 <= cost c.1 * b.2 * a.2 := Int.mul_le_mul_of_nonneg_right (by omega) (by omega)
  omega
 have le : cost a.1 * c.2 <= cost c.1 * a.2 := Int.le_of_mul_le_mul_right key hb
 rcases Int.lt_or_eq_of_le le with h | h
 ·exact .inl h
 ·refine .inr ⟨h,?_⟩
  rw [h] at e1
  rcases h1 with h1 | ⟨q,h1⟩
  ·have p1 : cost a.1 * b.2 * c.2 < cost b.1 * a.2 * c.2 := Int.mul_lt_mul_of_pos_right h1 hc
   have p2 : cost b.1 * c.2 * a.2 <= cost c.1 * b.2 * a.2 := Int.mul_le_mul_of_nonneg_right (by omega) (by omega)
   omega
  ·rcases h2 with h2 | ⟨_,h2⟩
   ·have p1 : cost a.1 * b.2 * c.2 = cost b.1 * a.2 * c.2 := by rw [q]
    have p2 : cost b.1 * c.2 * a.2 < cost c.1 * b.2 * a.2 := Int.mul_lt_mul_of_pos_right h2 ha
    omega
   ·omega
theorem swo (key : Nat) : SWO (ltOf (cfW key)) := {
 irrefl := fun x => by rw [ltOf_no]; exact ltC_irrefl _ _
 trans := fun x y z h1 h2 => by
  rw [ltOf_cf] at *
  exact ltC_trans _ (by have := x.2; omega) (by have := y.2; omega) (by have := z.2; omega) h1 h2
 ntrans := fun x y z h1 h2 => by
  rw [ltOf_no,not_ltC] at *
  exact leC_trans _ (by have := z.2; omega) (by have := y.2; omega) (by have := x.2; omega) h2 h1 }
variable [Inhabited Wc]
theorem flat_eq (key : Nat) (d : Array Wc) : (Go.Sort.flatK (encW key) 3 d).toList = cellsLot key (d.toList.map (·.1)) := by
 apply List.ext_getElem?
 intro t
 by_cases ht : t < d.size * 3
 ·have h1 := Go.Sort.get_flatK (encW key) 3 d t ht
  have h2 : (Go.Sort.flatK (encW key) 3 d).toList[t]? = some (Go.Sort.flatK (encW key) 3 d)[t]! := by
   rw [Array.getElem?_toList,getElem!_pos _ t (by simpa using ht),Array.getElem?_eq_getElem (by simpa using ht)]
  rw [h2,h1]
  have hi : t / 3 < d.size := by omega
  have hg := cellsLot_get key (d.toList.map (·.1)) (t / 3) (by simpa using hi)
  have eg : (d.toList.map (·.1)).getD (t / 3) ch0 = d[t / 3].1 := by simp [hi]
  rw [eg] at hg
  rw [getElem!_pos d (t / 3) hi]
  have hm : t % 3 = 0 ∨ t % 3 = 1 ∨ t % 3 = 2 := by omega
  rcases hm with hm | hm | hm
  ·have e : t = t / 3 * 3 := by omega
   rw [hm]
   rw [<- e] at hg
   rw [hg.1]
   rfl
  ·have e : t = t / 3 * 3 + 1 := by omega
   rw [hm]
   rw [<- e] at hg
   rw [hg.2.1]
   rfl
  ·have e : t = t / 3 * 3 + 2 := by omega
   rw [hm]
   rw [<- e] at hg
   rw [hg.2.2]
   rfl
 ·rw [List.getElem?_eq_none (by simpa using ht),List.getElem?_eq_none (by rw [cellsLot_length]; simpa using ht)]
def SortedC (key : Nat) (L : List Ch) : Prop := ∀ i j,i < j -> j < L.length -> ¬ ltC (costOf key) (L.getD j ch0) (L.getD i ch0)
def SortPost (B g cap key : Nat) (L : List Ch) (w w' : World) : Prop := (∃ L',L'.Perm L /\ SortedC key L' /\ w'.ownsRow B 185 3 (.slice (some ⟨g,0,none⟩) L.length cap) L.length (cellsLot key L')) /\ w.grownBy w' (some g)
theorem sorted_of {key : Nat} {d d' : Array Wc} (hp : PermIn 0 d.size d d') (hs : SortedIn (ltOf (cfW key)) 0 d.size d') : (d'.toList.map (·.1)).Perm (d.toList.map (·.1)) /\ SortedC key (d'.toList.map (·.1)) := by
 obtain ⟨h1,_,h3⟩ := hp
 refine ⟨?_,fun i j hij hj => ?_⟩
 ·have e1 : d'.extract 0 d.size = d' := by rw [<- h1]; simp
  have e2 : d.extract 0 d.size = d := by simp
  rw [e1,e2] at h3
  exact h3.map _
 ·have hj' : j < d'.size := by simpa using hj
  have h := hs i j (Nat.zero_le _) hij (by omega)
  rw [ltOf_no,getElem!_pos d' j hj',getElem!_pos d' i (by omega)] at h
  have e1 : (d'.toList.map (·.1)).getD j ch0 = d'[j].1 := by simp [hj']
  have e2 : (d'.toList.map (·.1)).getD i ch0 = (d'[i]'(by omega)).1 := by simp [show i < d'.size by omega]
  rw [e1,e2]
  exact h
theorem sort_lots (key g cap : Nat) (ds : List Wc) (w : World) {B : Nat} (h : w.ownsRow B 185 3 (.slice (some ⟨g,0,none⟩) ds.length cap) ds.length (cellsLot key (ds.map (·.1)))) (h64 : ds.length <= 64) :
  Calls Tryz.prog 163 #[.slice (some ⟨g,0,none⟩) ds.length cap,.func (.func 164) #[] #[]] w fun e w' => e = .returned (.tuple #[]) /\ SortPost B g cap key (ds.map (·.1)) w w' := by
 have eg : ∀ args w,(callFunc 164 args).run Tryz.prog w = .ok (.enter 164 args) w := enters_of Tryz.func164 (by kernel_rfl) rfl
 have hown := h
 obtain ⟨hl,⟨hv,_⟩ | ⟨g',cap',cur,hv,hB,hh,hc,hcm,hcs,ht⟩⟩ := h
 ·cases hv
 injection hv with ha _ hcap
 injection ha with ha
 injection ha with hgg _ _
 subst hgg
 subst hcap
 have hgl : g < w.heap.size := (Array.getElem?_eq_some_iff.1 hh).1
 have hH : Go.Sort.HoldsK (encW key) 3 w g 0 ds.toArray := by
  intro j hj
  rw [Go.Sort.size_flatK] at hj
  have hj' : j < ds.length * 3 := by simpa using hj
  have e := flat_eq key ds.toArray
  have hx : (cellsLot key (ds.map (·.1)))[j]? = some (Go.Sort.flatK (encW key) 3 ds.toArray)[j]! := by
   have e2 : ds.map (·.1) = ds.toArray.toList.map (·.1) := by simp
   rw [e2,<- e,Array.getElem?_toList,Array.getElem?_eq_getElem (by simpa using hj'),getElem!_pos _ j (by simpa using hj')]
  refine ⟨?_,?_⟩
  ·rw [Nat.zero_add,hown.cellAt j (by omega),hx]
   rfl
  ·rw [Nat.zero_add]
   exact Lib.frozen_of_heap hh j
 have hcon := AnyQ.slices_SortFunc Lay.sort 3 Tryz.isAgg185 Tryz.sizeOf185 (encW key) (fun _ => rfl) (fun x v hv => by simp [encW,lotCells] at hv; rcases hv with rfl | rfl | rfl <;> rfl) (cfW key) (swo key) 164 #[] g 0 cap ds.toArray w eg (fun _ _ _ _ x y => compare_any key x.1 y.1 _) hH hgl (by simp; omega)
 have hsz : ds.toArray.size = ds.length := by simp
 rw [hsz] at hcon
 refine Calls.mono hcon ?_
 rintro e w' ⟨he,d',n,os,hp,hs,rfl⟩
 have hp' : PermIn 0 ds.toArray.size ds.toArray d' := by rw [hsz]; exact hp
 have hs' : SortedIn (ltOf (cfW key)) 0 ds.toArray.size d' := by rw [hsz]; exact hs
 obtain ⟨hperm,hsort⟩ := sorted_of hp' hs'
 have hds : d'.size = ds.length := by have := hp.1; simpa using this
 have hheap : ∀ k,k < w.heap.size -> (Go.Proofs.sortWorldK (encW key) 3 w g 0 n d' os).heap[k]? = if k = g then some (.cells (Go.Sort.putCells id 0 (Go.Sort.flatK (encW key) 3 d') cur) 185 (0,0)) else w.heap[k]? := by
  intro k hk
  show ((w.heap.modify g (Go.Sort.onCells (Go.Sort.putCells id 0 (Go.Sort.flatK (encW key) 3 d')))) ++ os)[k]? = _
  rw [Array.getElem?_append_left (by simpa using hk),Array.getElem?_modify]
  by_cases hkg : k = g
  ·subst hkg
   rw [if_pos rfl,if_pos rfl,hh]
   rfl
  ·rw [if_neg (fun e => hkg e.symm),if_neg hkg]
 refine ⟨he,⟨d'.toList.map (·.1),by simpa using hperm,hsort,?_,.inr ⟨g,cap,Go.Sort.putCells id 0 (Go.Sort.flatK (encW key) 3 d') cur,rfl,hB,?_,by simpa using hc,hcm,?_,?_⟩⟩,?_⟩
 ·rw [cellsLot_length]; simp [hds]
 ·rw [hheap g hgl,if_pos rfl]
 ·simp [Go.Sort.putCells,hcs]
 ·rw [<- flat_eq key d']
  apply List.ext_getElem?
  intro t
  have hfs : (Go.Sort.flatK (encW key) 3 d').size = ds.length * 3 := by simp [hds]
  have hml : (ds.map (·.1)).length = ds.length := by simp
  rw [hml]
  by_cases htl : t < ds.length * 3
  ·rw [List.getElem?_take_of_lt htl,Array.getElem?_toList,Array.getElem?_toList]
   unfold Go.Sort.putCells
   have hcl : ds.length * 3 <= cur.size := by rw [hcs]; exact Nat.mul_le_mul_right _ hc
   rw [Array.getElem?_mapIdx,Array.getElem?_eq_getElem (by omega),Array.getElem?_eq_getElem (by omega)]
   simp only [Option.map_some]
   rw [if_pos ⟨Nat.zero_le _,by omega⟩,Nat.sub_zero,getElem!_pos _ t (by omega)]
   rfl
  ·rw [List.getElem?_eq_none (by simp; omega),List.getElem?_eq_none (by simp; omega)]
 ·refine ⟨rfl,rfl,rfl,?_,fun k hk hne => ?_⟩
  ·show w.heap.size <= ((w.heap.modify g _) ++ os).size
   simp
  ·rw [hheap k hk,if_neg (fun e => hne (by rw [e]))]
end Go.Proofs.YtcncbjknfcjnmaaGreat.Dr
namespace Go.Proofs.YtcncbjknfcjnmaaGreat.Dr
open Go.ChangeShapes Go.WideShapes Go.ChangeAt Go.RowKit
theorem bits_zero (W : World) : Calls Tryz.prog 118 #[.int .u64 0] W fun e w' => (∃ l : Int,e = .returned (.int .i64 l)) /\ w' = W :=
 (Any.bits_Len (SlLaysF0.n15.bits (P := Tryz.prog) (ρ := Lay.sort_ren) { Lay.sort with }) 0 W (by omega) (by omega)).mono fun _ _ ⟨he,hw⟩ => ⟨⟨_,he⟩,hw⟩
set_option maxHeartbeats 2000000 in
theorem insert_none (p : Option Addr) (cap : Nat) (fv : Value) (w : World) : Calls Tryz.prog 185 #[.slice p 0 cap,.int .i64 0,.int .i64 0,fv] w fun e w' => e = .returned (.tuple #[]) /\ w' = w := by
 go_enter Tryz.func185,Tryz.ntmps185
 go_wp2
 refine wp_loop_rounds 1 ?_
 rw [rounds_succ]
 go_wp2
 go_end0
 exact ⟨rfl,rfl⟩
set_option maxHeartbeats 2000000 in
theorem pdq_none (p : Option Addr) (cap : Nat) (lim : Int) (fv : Value) (w : World) : Calls Tryz.prog 175 #[.slice p 0 cap,.int .i64 0,.int .i64 0,.int .i64 lim,fv] w fun e w' => e = .returned (.tuple #[]) /\ w' = w := by
 go_enter Tryz.func175,Tryz.ntmps175
 go_wp2
 refine wp_loop_rounds 1 ?_
 rw [rounds_succ]
 go_wp2_with (go_at_call 185; refine (insert_none _ _ _ _).mono ?_; rintro e w' ⟨rfl,rfl⟩)
 (try simp only [Exit.inBlock,Exit.then]); refine bodyPost_ret (results_none rfl _ _ _) rfl ?_
 exact ⟨rfl,rfl⟩
set_option maxHeartbeats 2000000 in
theorem sort_none (p : Option Addr) (cap : Nat) (fv : Value) (w : World) : Calls Tryz.prog 163 #[.slice p 0 cap,fv] w fun e w' => e = .returned (.tuple #[]) /\ w' = w := by
 have hl : ∀ W,Calls Tryz.prog 118 #[.int .u64 0] W fun e w' => (∃ l : Int,e = .returned (.int .i64 l)) /\ w' = W := bits_zero
 go_enter Tryz.func163,Tryz.ntmps163
 go_wp2_with (first | (go_at_call 118; refine (hl _).mono ?_; rintro e w' ⟨⟨l,rfl⟩,rfl⟩) | (go_at_call 175; refine (pdq_none _ _ _ _ _).mono ?_; rintro e w' ⟨rfl,rfl⟩))
 go_end0
 exact ⟨rfl,rfl⟩
def SortedPost (B key : Nat) (lv : Value) (L : List Ch) (w w' : World) : Prop := (∃ L' : List Ch,L'.Perm L /\ SortedC key L' /\ w'.ownsRow B 185 3 lv L.length (cellsLot key L')) /\ w.grownBy w' lv.ownBlock
theorem sort_any {B key : Nat} (lv : Value) (L : List Ch) (w : World) (h : w.ownsRow B 185 3 lv L.length (cellsLot key L)) (hW : ∀ c ∈ L,1 <= c.2 /\ c.2 <= 65536) (h64 : L.length <= 64) :
  Calls Tryz.prog 163 #[lv,.func (.func 164) #[] #[]] w fun e w' => e = .returned (.tuple #[]) /\ SortedPost B key lv L w w' := by
 cases L with
 | nil =>
  obtain ⟨a,cap,rfl,-⟩ := own_slice h
  refine (sort_none a cap _ w).mono ?_
  rintro e w' ⟨rfl,rfl⟩
  exact ⟨rfl,⟨[],List.Perm.refl _,fun i j _ hj => absurd hj (by simp),h⟩,below_grownBy (Below.refl _ _) _⟩
 | cons c s =>
  obtain ⟨g,cap,rfl,-⟩ := own_some h (by simp)
  have : Inhabited Wc := ⟨⟨c,hW c (by simp)⟩⟩
  have e1 : ((c :: s).pmap (fun c h => (⟨c,h⟩ : Wc)) hW).map (·.1) = c :: s := by
   rw [List.map_pmap]
   simp
  have e2 : ((c :: s).pmap (fun c h => (⟨c,h⟩ : Wc)) hW).length = (c :: s).length := by simp
  generalize (c :: s).pmap (fun c h => (⟨c,h⟩ : Wc)) hW = ds at *
  have hcon := sort_lots key g cap ds w (B := B) (by rw [e1,e2]; exact h) (by omega)
  rw [e1,e2] at hcon
  refine Calls.mono hcon ?_
  rintro e w' ⟨rfl,hP,hg⟩
  exact ⟨rfl,hP,hg⟩
def intCells (l : List Int) : List Value := l.map (Value.int .i64)
def IntsAt (w : World) (a : Option Addr) (l : List Int) : Prop := l = [] ∨ ∃ b,a = some ⟨b,0,none⟩ /\ b < w.heap.size /\ ∀ i,i < l.length -> w.cell? ⟨b,i,none⟩ = some (.int .i64 (l.getD i 0))
theorem ints_own {w : World} {B n cap : Nat} {a : Option Addr} {l : List Int} (h : w.ownsRow B 3 1 (.slice a n cap) n (intCells l)) (hn : n = l.length) : IntsAt w a l := by
 have hlt := h.lt
 rcases h.2 with ⟨_,h0⟩ | ⟨g,cap',cur,hv,hB,hh,_⟩
 ·left
  exact List.length_eq_zero_iff.1 (by omega)
 ·injection hv with ha hn' hc
  subst ha
  right
  refine ⟨g,rfl,(hlt g rfl).2,fun i hi => ?_⟩
  rw [h.cellAt i (by omega)]
  simp [intCells,hi]
theorem IntsAt.below {w w' : World} {a : Option Addr} {l : List Int} (h : IntsAt w a l) (hb : Below w.heap.size w w') : IntsAt w' a l := by
 rcases h with h | ⟨b,e,hl,hc⟩
 ·exact .inl h
 ·exact .inr ⟨b,e,Nat.lt_of_lt_of_le hl hb.size,fun i hi => (hb.cell (p := ⟨b,i,none⟩) hl).trans (hc i hi)⟩
def OrdC (key : Nat) (ls : List Ch) (ids : List Int) : Prop :=
 (MayC ls /\ ∃ s : List Ch,s.Perm (heavy ls) /\ s.Pairwise (ltC (costOf key)) /\ ids = s.map (·.1)) ∨ (¬ MayC ls /\ ids = [])
def OrderPost (key : Nat) (ls : List Ch) (w : World) (e : Ending) (w' : World) : Prop :=
 Below w.heap.size w w' /\ ∃ p cap ids,e = .returned (.slice (some ⟨p,0,none⟩) ids.length cap) /\ w.heap.size <= p /\ IntsAt w' (some ⟨p,0,none⟩) ids /\ ids.length <= 64 /\ ids.length <= cap /\ cap <= 64 /\ OrdC key ls ids
theorem sorted_pair {key : Nat} {L s : List Ch} (hp : s.Perm L) (hr : Rise L) (hs : SortedC key s) : s.Pairwise (ltC (costOf key)) := by
 have hd : s.Pairwise (fun a b => a.1 ≠ b.1) := by
  have h1 : L.Pairwise (fun a b => a.1 ≠ b.1) := by
   unfold Rise at hr
   rw [List.pairwise_iff_getElem] at hr ⊢
   intro i j hi hj hij
   have := hr i j hi hj hij
   omega
  exact h1.perm hp.symm (fun h e => h e.symm)
 rw [List.pairwise_iff_getElem] at hd ⊢
 intro i j hi hj hij
 have h1 := hs i j hij hj
 rw [getD_get hi,getD_get hj] at h1
 exact (ltC_total _ (hd i j hi hj hij)).resolve_right h1
theorem set_next (ids : List Int) (n k : Nat) (hn : ids.length = n) (hk : k < n) : (intCells (ids.take k) ++ List.replicate (n - k) (Value.int .i64 0)).set k (Value.int .i64 (ids.getD k 0)) = intCells (ids.take (k + 1)) ++ List.replicate (n - (k + 1)) (Value.int .i64 0) := by
 have hl : (intCells (ids.take k)).length = k := by simp [intCells]; omega
 obtain ⟨m,hm⟩ : ∃ m,n - k = m + 1 := ⟨n - k - 1,by omega⟩
 have hg : ids.getD k 0 = ids[k]'(by omega) := by simp [show k < ids.length by omega]
 rw [List.set_append_right _ _ (by omega),hl,Nat.sub_self,hm,List.replicate_succ,List.set_cons_zero,show n - (k + 1) = m by omega,List.take_succ_eq_append_getElem (by omega),hg]
 unfold intCells
 rw [List.map_append,List.append_assoc]
 rfl
end Go.Proofs.YtcncbjknfcjnmaaGreat.Dr
