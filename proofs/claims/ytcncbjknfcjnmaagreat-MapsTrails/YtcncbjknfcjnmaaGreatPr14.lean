/-
  The contracts of key, children, child, slices.Contains and emit.
-/
import Derived.Test.YtcncbjknfcjnmaaGreatPr07
import Derived.Test.YtcncbjknfcjnmaaGreatPr00
import Derived.Test.YtcncbjknfcjnmaaGreatPr11
import Derived.Test.YtcncbjknfcjnmaaGreatPr13
namespace Go.Proofs.YtcncbjknfcjnmaaGreat.Tp
open Go.ChangeShapes Go.WideShapes Go.ChangeAt Go.RowKit
set_option maxRecDepth 20000 in
theorem key_any (g lev z r n : Int) (w : World) : Calls Tryz.prog 148 #[.int .i64 g,.int .i64 lev,.agg #[.int .i64 z,.int .i64 r,.int .i64 n]] w fun e w' => e = .returned (.int .u64 ((keyOf g lev z r : Nat) : Int)) /\ Below w.heap.size w w' := by
 have f1 := Dr.bitsOf_form g
 have f2 := Dr.bitsOf_form lev
 have f3 := Dr.bitsOf_form z
 have f4 := Dr.bitsOf_form r
 have l1 := Dr.bitsOf_lt g
 have l2 := Dr.bitsOf_lt lev
 have l3 := Dr.bitsOf_lt z
 have l4 := Dr.bitsOf_lt r
 have HK : Hid (keyOf g lev z r = Dr.foldN (Dr.bitsOf g) [Dr.bitsOf lev,Dr.bitsOf z,Dr.bitsOf r]) := rfl
 generalize keyOf g lev z r = q at *
 generalize Dr.bitsOf g = b1 at *
 generalize Dr.bitsOf lev = b2 at *
 generalize Dr.bitsOf z = b3 at *
 generalize Dr.bitsOf r = b4 at *
 have HF : Hid (∀ (b : Nat) (W : World),W.cell? ⟨b,0,none⟩ = some (.int .u64 (b2 : Int)) -> W.cell? ⟨b,1,none⟩ = some (.int .u64 (b3 : Int)) -> W.cell? ⟨b,2,none⟩ = some (.int .u64 (b4 : Int)) -> Calls Tryz.prog 165 #[.int .u64 (b1 : Int),.slice (some ⟨b,0,none⟩) 3 3] W fun e w' => e = .returned (.int .u64 (q : Int)) /\ w' = W) := fun b W h0 h1 h2 => by
  rw [HK.out]
  refine Dr.fold_some b1 b 0 3 [b2,b3,b4] W l1 (by simp [maxLen]) (by intro n hn; simp at hn; rcases hn with rfl | rfl | rfl <;> assumption) (fun i hi => ?_)
  have : i = 0 ∨ i = 1 ∨ i = 2 := by simp at hi; omega
  rcases this with rfl | rfl | rfl
  ·exact h0
  ·exact h1
  ·exact h2
 have HB : Hid (Below w.heap.size w ((w.alloc (.cells #[.int .i64 z,.int .i64 r,.int .i64 n] 143)).alloc (.cells #[.int .u64 (b2 : Int),.int .u64 (b3 : Int),.int .u64 (b4 : Int)] 127))) := below2 (below_alloc _ _) (below_alloc _ _)
 clear HK l1 l2 l3 l4
 go_enter Tryz.func148,Tryz.ntmps148
 go_wp2_with (go_at_call 165; refine (HF.out _ _ (by simp) (by simp) (by simp)).mono ?_; rintro e w' ⟨rfl,rfl⟩)
 go_ret
 exact ⟨rfl,HB.out⟩
def ChPost (out : List Ch) (w : World) (e : Ending) (w' : World) : Prop := Below w.heap.size w w' /\ ∃ a cap,e = .returned (.slice a out.length cap) /\ ChsAt w' a out.length cap out
theorem zones_ch {a : Option Addr} {len cap : Nat} {ls : List Nd} (hM : MayN ls) (w : World) (h : NdsAt w a len cap ls) : Calls Tryz.prog 166 #[.slice a len cap] w fun e w' => ChPost (zonesOf ls) w e w' :=
 (zones_any a len cap ls w h).mono fun _ _ ⟨hb,a',cap',out,he,hc,_,hW⟩ => by
  obtain rfl := zones_is hM hW
  exact ⟨hb,a',cap',he,hc⟩
theorem racks_ch {a : Option Addr} {len cap : Nat} {ls : List Nd} (hM : MayN ls) {z : Int} (hz : z ≠ 0) (w : World) (h : NdsAt w a len cap ls) : Calls Tryz.prog 167 #[.slice a len cap,.int .i64 z] w fun e w' => ChPost (racksOf ls z) w e w' :=
 (racks_any a len cap ls z w h).mono fun _ _ ⟨hb,a',cap',out,he,hc,_,hW⟩ => by
  obtain rfl := racks_is hM hz hW
  exact ⟨hb,a',cap',he,hc⟩
theorem leaves_ch {a : Option Addr} {len cap : Nat} {ls : List Nd} (hM : MayN ls) (z r : Int) (w : World) (h : NdsAt w a len cap ls) : Calls Tryz.prog 168 #[.slice a len cap,.int .i64 z,.int .i64 r] w fun e w' => ChPost (leavesOf ls z r) w e w' :=
 (leaves_any a len cap ls z r w h).mono fun _ _ ⟨hb,a',cap',out,he,hc,_,hW⟩ => by
  obtain rfl := leaves_is hM hW
  exact ⟨hb,a',cap',he,hc⟩
set_option maxRecDepth 20000 in
theorem children_any {a : Option Addr} {len cap : Nat} {ls : List Nd} (hM : MayN ls) {lev z r : Int} (n : Int) (hz : lev = 2 -> z ≠ 0) (w : World) (h : NdsAt w a len cap ls) : Calls Tryz.prog 149 #[.slice a len cap,.int .i64 lev,.agg #[.int .i64 z,.int .i64 r,.int .i64 n]] w fun e w' => ChPost (childrenOf ls lev z r) w e w' := by
 have hb1 : Below w.heap.size w (w.alloc (.cells #[.int .i64 z,.int .i64 r,.int .i64 n] 143)) := below_alloc _ _
 by_cases h1 : lev = 1
 ·have HZ : Hid (Calls Tryz.prog 166 #[.slice a len cap] (w.alloc (.cells #[.int .i64 z,.int .i64 r,.int .i64 n] 143)) fun e w' => ChPost (zonesOf ls) (w.alloc (.cells #[.int .i64 z,.int .i64 r,.int .i64 n] 143)) e w') := zones_ch hM _ (h.below hb1)
  have hc : childrenOf ls lev z r = zonesOf ls := if_pos h1
  rw [hc]
  subst h1
  clear h hc hz
  go_enter Tryz.func149,Tryz.ntmps149
  go_wp2_with (go_at_call 166; refine HZ.out.mono ?_; rintro e w2 ⟨hb2,a2,cap2,rfl,hc2⟩; have HP : Hid (ChsAt w2 a2 (zonesOf ls).length cap2 (zonesOf ls)) := hc2; clear hc2)
  go_ret
  exact ⟨below2 hb1 hb2,a2,cap2,rfl,HP.out⟩
 ·have d1 : (lev == 1) = false := by simpa using h1
  by_cases h2 : lev = 2
  ·have HZ : Hid (Calls Tryz.prog 167 #[.slice a len cap,.int .i64 z] (w.alloc (.cells #[.int .i64 z,.int .i64 r,.int .i64 n] 143)) fun e w' => ChPost (racksOf ls z) (w.alloc (.cells #[.int .i64 z,.int .i64 r,.int .i64 n] 143)) e w') := racks_ch hM (hz h2) _ (h.below hb1)
   have hc : childrenOf ls lev z r = racksOf ls z := (if_neg h1).trans (if_pos h2)
   rw [hc]
   subst h2
   clear h hc hz
   go_enter Tryz.func149,Tryz.ntmps149
   go_wp2_with (go_at_call 167; refine HZ.out.mono ?_; rintro e w2 ⟨hb2,a2,cap2,rfl,hc2⟩; have HP : Hid (ChsAt w2 a2 (racksOf ls z).length cap2 (racksOf ls z)) := hc2; clear hc2)
   go_ret
   exact ⟨below2 hb1 hb2,a2,cap2,rfl,HP.out⟩
  ·have d2 : (lev == 2) = false := by simpa using h2
   have HZ : Hid (Calls Tryz.prog 168 #[.slice a len cap,.int .i64 z,.int .i64 r] (w.alloc (.cells #[.int .i64 z,.int .i64 r,.int .i64 n] 143)) fun e w' => ChPost (leavesOf ls z r) (w.alloc (.cells #[.int .i64 z,.int .i64 r,.int .i64 n] 143)) e w') := leaves_ch hM z r _ (h.below hb1)
   have hc : childrenOf ls lev z r = leavesOf ls z r := (if_neg h1).trans (if_neg h2)
   rw [hc]
   clear h hc hz h1 h2
   go_enter Tryz.func149,Tryz.ntmps149
   go_wp2_with (go_at_call 168; refine HZ.out.mono ?_; rintro e w2 ⟨hb2,a2,cap2,rfl,hc2⟩; have HP : Hid (ChsAt w2 a2 (leavesOf ls z r).length cap2 (leavesOf ls z r)) := hc2; clear hc2)
   go_ret
   exact ⟨below2 hb1 hb2,a2,cap2,rfl,HP.out⟩
theorem ret_sp {fn : Func} {p : Tmp} (h : fn.results = #[.cell p 143]) (tmps : Array Value) (w : World) (b : Nat) (x y z : Value) (hp : tmps.getD p undef = .pointer (some ⟨b,0,none⟩))
  (h0 : w.cell? ⟨b,0,none⟩ = some x) (h1 : w.cell? ⟨b,1,none⟩ = some y) (h2 : w.cell? ⟨b,2,none⟩ = some z) : (results fn tmps).run Tryz.prog w = .ok (.agg #[x,y,z]) w := by
 simp only [Array.getD_eq_getD_getElem?] at hp
 simp only [results,h]
 simp [go_sem,hp,h0,h1,h2]
set_option maxRecDepth 60000 in
theorem child_any (z r n lev id : Int) (w : World) : Calls Tryz.prog 150 #[.agg #[.int .i64 z,.int .i64 r,.int .i64 n],.int .i64 lev,.int .i64 id] w fun e w' => e = .returned (.agg (ldCells (childOf (z,r,n) lev id)).toArray) /\ Below w.heap.size w w' := by
 by_cases h1 : lev = 1
 ·have HB : Hid (Below w.heap.size w ((w.alloc (.cells #[.int .i64 id,.int .i64 r,.int .i64 n] 143)).alloc (.cells #[.int .i64 id,.int .i64 r,.int .i64 n] 143))) := below2 (below_alloc _ _) (below_alloc _ _)
  have hc : childOf (z,r,n) lev id = (id,r,n) := if_pos h1
  rw [hc]
  subst h1
  clear hc
  go_enter Tryz.func150,Tryz.ntmps150
  go_wp2
  try simp only [Exit.inBlock,Exit.then]
  refine bodyPost_ret (ret_sp rfl _ _ (w.heap.size + 1) (.int .i64 id) (.int .i64 r) (.int .i64 n) rfl (by simp) (by simp) (by simp)) rfl ?_
  exact ⟨rfl,HB.out⟩
 ·have d1 : (lev == 1) = false := by simpa using h1
  by_cases h2 : lev = 2
  ·have HB : Hid (Below w.heap.size w ((w.alloc (.cells #[.int .i64 z,.int .i64 id,.int .i64 n] 143)).alloc (.cells #[.int .i64 z,.int .i64 id,.int .i64 n] 143))) := below2 (below_alloc _ _) (below_alloc _ _)
   have hc : childOf (z,r,n) lev id = (z,id,n) := (if_neg h1).trans (if_pos h2)
   rw [hc]
   subst h2
   clear hc
   go_enter Tryz.func150,Tryz.ntmps150
   go_wp2
   try simp only [Exit.inBlock,Exit.then]
   refine bodyPost_ret (ret_sp rfl _ _ (w.heap.size + 1) (.int .i64 z) (.int .i64 id) (.int .i64 n) rfl (by simp) (by simp) (by simp)) rfl ?_
   exact ⟨rfl,HB.out⟩
  ·have d2 : (lev == 2) = false := by simpa using h2
   have HB : Hid (Below w.heap.size w ((w.alloc (.cells #[.int .i64 z,.int .i64 r,.int .i64 id] 143)).alloc (.cells #[.int .i64 z,.int .i64 r,.int .i64 id] 143))) := below2 (below_alloc _ _) (below_alloc _ _)
   have hc : childOf (z,r,n) lev id = (z,r,id) := (if_neg h1).trans (if_neg h2)
   rw [hc]
   clear hc h1 h2
   go_enter Tryz.func150,Tryz.ntmps150
   go_wp2
   try simp only [Exit.inBlock,Exit.then]
   refine bodyPost_ret (ret_sp rfl _ _ (w.heap.size + 1) (.int .i64 z) (.int .i64 r) (.int .i64 id) rfl (by simp) (by simp) (by simp)) rfl ?_
   exact ⟨rfl,HB.out⟩
def IdxPost (l : List Int) (id : Int) (w : World) (e : Ending) (w' : World) : Prop := w' = w /\ ((∃ k : Nat,e = .returned (.int .i64 k) /\ id ∈ l) ∨ (e = .returned (.int .i64 (-1)) /\ id ∉ l))
theorem index_any (a : Option Addr) (l : List Int) (cap : Nat) (id : Int) (w : World) (h : IntsAt w a l) (h64 : l.length <= 64) : Calls Tryz.prog 129 #[.slice a l.length cap,.int .i64 id] w fun e w' => IdxPost l id w e w' := by
 have HL : Hid (IntsAt w a l) := h
 have h64' : (l.length : Int) <= 64 := by omega
 have HY : Hid (∀ k,k < l.length -> l.getD k 0 = id -> id ∈ l) := fun k hk e => by
  rw [<- e,show l.getD k 0 = l[k] by simp [hk]]
  exact List.getElem_mem hk
 have HNO : Hid ((∀ j,j < l.length -> l.getD j 0 ≠ id) -> id ∉ l) := fun h hm => by
  obtain ⟨j,hj,e⟩ := List.getElem_of_mem hm
  exact h j hj (by simp [hj,e])
 have HGT : Hid (∀ k,k < l.length -> l ≠ []) := fun k hk e => by rw [e] at hk; simp at hk
 clear h h64
 generalize hn : l.length = m at *
 have HN : Hid (l.length = m) := hn
 clear hn
 go_enter Tryz.func129,Tryz.ntmps129
 go_wp2_with fail
 go_loopw [8] (fun i wr => ∃ k : Nat,k <= m /\ i = .int .i64 k /\ wr = w /\ Hid (∀ j,j < k -> l.getD j 0 ≠ id)) (fun i _ => m - (intOf i).toNat)
 case atStart => exact ⟨0,Nat.zero_le _,rfl,rfl,fun j hj => absurd hj (Nat.not_lt_zero _)⟩
 case round =>
  obtain ⟨k,hk,rfl,rfl,hT⟩ := hrel
  by_cases hlt : k < m
  ·have hk1 : (k : Int) < (m : Int) := by omega
   have hk0 : (0 : Int) <= (k : Int) := by omega
   rcases HL.out with h0 | ⟨p,rfl,hp,hcp⟩
   ·exact absurd h0 (HGT.out k hlt)
   have x0 := hcp k (by have := HN.out; omega)
   have HT2 : Hid (l.getD k 0 ≠ id -> ∀ j,j < k + 1 -> l.getD j 0 ≠ id) := fun h j hj => by
    rcases Nat.lt_succ_iff_lt_or_eq.1 hj with h' | rfl
    ·exact hT.out j h'
    ·exact h
   have HY2 : Hid (l.getD k 0 = id -> id ∈ l) := HY.out k hlt
   clear hcp hT HY HNO
   generalize l.getD k 0 = y at *
   by_cases hy : y = id
   ·have HI : Hid (id ∈ l) := HY2.out hy
    have hd : (id == y) = true := by simp [hy]
    clear HY2 HT2
    go_wp2_with fail
    go_ret
    exact ⟨rfl,.inl ⟨k,rfl,HI.out⟩⟩
   ·have HI : Hid (∀ j,j < k + 1 -> l.getD j 0 ≠ id) := HT2.out hy
    have hd : (id == y) = false := by simpa using fun e : id = y => hy e.symm
    clear HY2 HT2
    go_wp2_with fail
    exact ⟨⟨k + 1,by omega,by go_num,trivial,HI⟩,by simp [intOf]; omega⟩
  ·obtain rfl : k = m := by omega
   have HI : Hid (id ∉ l) := HNO.out hT.out
   clear hT HNO HY
   go_wp2_with fail
   go_ret
   exact ⟨rfl,.inr ⟨rfl,HI.out⟩⟩
theorem contains_yes {a : Option Addr} {l : List Int} (cap : Nat) {id : Int} (w : World) (h : IntsAt w a l) (h64 : l.length <= 64) (hm : id ∈ l) : Calls Tryz.prog 112 #[.slice a l.length cap,.int .i64 id] w fun e w' => e = .returned (.bool true) /\ w' = w := by
 have HI : Hid (Calls Tryz.prog 129 #[.slice a l.length cap,.int .i64 id] w fun e w' => (∃ k : Nat,e = .returned (.int .i64 k)) /\ w' = w) := (index_any a l cap id w h h64).mono fun _ _ ⟨hw,hh⟩ => by
  rcases hh with ⟨k,he,_⟩ | ⟨_,hn⟩
  ·exact ⟨⟨k,he⟩,hw⟩
  ·exact absurd hm hn
 clear h h64 hm
 generalize l.length = m at *
 go_enter Tryz.func112,Tryz.ntmps112
 go_wp2_with (go_at_call 129; refine HI.out.mono ?_; rintro e w2 ⟨⟨k,rfl⟩,rfl⟩; have hk : decide ((0 : Int) <= (k : Int)) = true := by simp)
 go_ret
 exact ⟨rfl,rfl⟩
theorem contains_no {a : Option Addr} {l : List Int} (cap : Nat) {id : Int} (w : World) (h : IntsAt w a l) (h64 : l.length <= 64) (hm : id ∉ l) : Calls Tryz.prog 112 #[.slice a l.length cap,.int .i64 id] w fun e w' => e = .returned (.bool false) /\ w' = w := by
 have HI : Hid (Calls Tryz.prog 129 #[.slice a l.length cap,.int .i64 id] w fun e w' => e = .returned (.int .i64 (-1)) /\ w' = w) := (index_any a l cap id w h h64).mono fun _ _ ⟨hw,hh⟩ => by
  rcases hh with ⟨k,_,hn⟩ | ⟨he,_⟩
  ·exact absurd hn hm
  ·exact ⟨he,hw⟩
 clear h h64 hm
 generalize l.length = m at *
 go_enter Tryz.func112,Tryz.ntmps112
 go_wp2_with (go_at_call 129; refine HI.out.mono ?_; rintro e w2 ⟨rfl,rfl⟩)
 go_ret
 exact ⟨rfl,rfl⟩
def HandAt (w : World) (a : Option Addr) (H : List Sp) : Prop := H = [] ∨ ∃ b,a = some ⟨b,0,none⟩ /\ b < w.heap.size /\ LdsAt w b H
theorem HandAt.below {w w' : World} {a : Option Addr} {H : List Sp} (h : HandAt w a H) (hb : Below w.heap.size w w') : HandAt w' a H := by
 rcases h with h | ⟨b,e,hl,hc⟩
 ·exact .inl h
 ·exact .inr ⟨b,e,Nat.lt_of_lt_of_le hl hb.size,hc.below hl hb⟩
theorem HandAt.get {w : World} {a : Option Addr} {H : List Sp} (h : HandAt w a H) {k : Nat} (hk : k < H.length) : ∃ b,a = some ⟨b,0,none⟩ /\ b < w.heap.size /\ w.cell? ⟨b,k * 3,none⟩ = some (.int .i64 (H.getD k ld0).1) /\ w.cell? ⟨b,k * 3 + 1,none⟩ = some (.int .i64 (H.getD k ld0).2.1) /\ w.cell? ⟨b,k * 3 + 2,none⟩ = some (.int .i64 (H.getD k ld0).2.2) := by
 rcases h with h | ⟨b,e,hl,hc⟩
 ·rw [h] at hk; simp at hk
 ·exact ⟨b,e,hl,hc k hk⟩
theorem hand_own {w : World} {B n cap : Nat} {a : Option Addr} {T : TypeId} {H : List Sp} (h : w.ownsRow B T 3 (.slice a n cap) n (cellsLd H)) (hn : n = H.length) : HandAt w a H := by
 have hlt := h.lt
 rcases h.2 with ⟨_,h0⟩ | ⟨g,cap',cur,hv,hB,hh,_⟩
 ·left
  exact List.length_eq_zero_iff.1 (by omega)
 ·injection hv with ha hn' hc
  subst ha
  right
  refine ⟨g,rfl,(hlt g rfl).2,fun i hi => ?_⟩
  obtain ⟨h0,h1,h2⟩ := cellsLd_get H i hi
  exact ⟨(h.cellAt (i * 3) (by omega)).trans h0,(h.cellAt (i * 3 + 1) (by omega)).trans h1,(h.cellAt (i * 3 + 2) (by omega)).trans h2⟩
theorem info3 : (Tryz.prog.info? 3).map (fun i => (i.zero,i.size,i.bytes)) = some (some (.int .i64 0),1,8) := by kernel_rfl
theorem intCells_snoc (l : List Int) (x : Int) : intCells (l ++ [x]) = intCells l ++ [.int .i64 x] := by
 unfold intCells; simp
theorem emit_take (size : Nat) {H : List Sp} {k : Nat} (h : k < H.length) : emitP size [] (H.take (k + 1)) = emit1 size (emitP size [] (H.take k)) (H.getD k ld0) := by
 unfold emitP
 rw [List.take_succ_eq_append_getElem h,List.foldl_append,show H.getD k ld0 = H[k] by simp [h]]
 rfl
def IntsOwn (B : Nat) (w : World) (a : Option Addr) (cap : Nat) (l : List Int) : Prop := IntsAt w a l /\ w.ownsRow B 3 1 (.slice a l.length cap) l.length (intCells l)
theorem IntsOwn.base {w : World} {B B' : Nat} {a : Option Addr} {cap : Nat} {l : List Int} (h : IntsOwn B' w a cap l) (hB : B <= B') : IntsOwn B w a cap l := ⟨h.1,own_base h.2 hB⟩
theorem IntsOwn.nil (B : Nat) (w : World) : IntsOwn B w none 0 [] := ⟨.inl rfl,rfl,.inl ⟨rfl,rfl⟩⟩
def IntsPost (out : List Int) (w : World) (e : Ending) (w' : World) : Prop := Below w.heap.size w w' /\ ∃ a cap,e = .returned (.slice a out.length cap) /\ IntsOwn w.heap.size w' a cap out
set_option maxHeartbeats 2000000 in
set_option maxRecDepth 60000 in
theorem emit_any (a : Option Addr) (cap : Nat) (H : List Sp) (size : Nat) (w : World) (hH : HandAt w a H) (h12 : H.length <= 64) : Calls Tryz.prog 123 #[.slice none 0 0,.slice a H.length cap,.int .i64 (size : Int)] w fun e w' => IntsPost (emitP size [] H) w e w' := by
 have HH : Hid (HandAt w a H) := hH
 obtain ⟨i0,hi,hz0,hz1,hz2⟩ := info_parts info3
 have h12' : (H.length : Int) <= 64 := by omega
 clear hH
 have H0 : Hid (w.ownsRow w.heap.size 3 1 (.slice none 0 0) ([] : List Int).length (intCells [])) := ⟨rfl,.inl ⟨rfl,rfl⟩⟩
 have HEND : Hid (emitP size [] (H.take H.length) = emitP size [] H) := by unfold Hid; rw [List.take_length]
 have HST : Hid (∀ k,k < H.length -> emitP size [] (H.take (k + 1)) = emit1 size (emitP size [] (H.take k)) (H.getD k ld0)) := fun k hk => emit_take size hk
 generalize hm : H.length = m at *
 have HM : Hid (H.length = m) := hm
 clear hm
 go_enter Tryz.func123,Tryz.ntmps123
 go_wp2_with fail
 go_loopw [0,11] (fun o i wr => ∃ (k : Nat) (out : List Int),k <= m /\ i = .int .i64 k /\ Hid (out = emitP size [] (H.take k)) /\ out.length <= k /\ Hid (wr.ownsRow w.heap.size 3 1 o out.length (intCells out)) /\ Below w.heap.size w wr) (fun _ i _ => m - (intOf i).toNat)
 case atStart => exact ⟨0,[],Nat.zero_le _,rfl,rfl,Nat.le_refl _,H0,Below.refl _ _⟩
 case round =>
  obtain ⟨k,out,hk,rfl,hT,hok,hown,hbel⟩ := hrel
  obtain ⟨ao,co,rfl,hco⟩ := own_slice hown.out
  by_cases hlt : k < m
  ·have hk1 : (k : Int) < (m : Int) := by omega
   have hk0 : (0 : Int) <= (k : Int) := by omega
   obtain ⟨b,rfl,hbs,e0,e1,e2⟩ := (HH.out.below hbel).get (k := k) (by have := HM.out; omega)
   have HN : Hid (emitP size [] (H.take (k + 1)) = emit1 size out (H.getD k ld0)) := by have := HST.out k hlt; rw [<- hT.out] at this; exact this
   generalize H.getD k ld0 = x at *
   obtain ⟨x1,x2,x3⟩ := x
   simp only at e0 e1 e2
   have hb1 := below2 hbel (below_alloc wr (.cells #[.int .i64 x1,.int .i64 x2,.int .i64 x3] 143))
   have hown1 := own_alloc hown.out (.cells #[.int .i64 x1,.int .i64 x2,.int .i64 x3] 143)
   have hsz := hbel.size
   clear hown hT
   have HIN : Hid (IntsAt (wr.alloc (.cells #[.int .i64 x1,.int .i64 x2,.int .i64 x3] 143)) ao out) := ints_own hown1 rfl
   have HO : Hid ((wr.alloc (.cells #[.int .i64 x1,.int .i64 x2,.int .i64 x3] 143)).ownsRow w.heap.size 3 1 (.slice ao out.length co) out.length (intCells out)) := hown1
   by_cases hs : out.length < size
   ·have hs' : (out.length : Int) < (size : Int) := by omega
    by_cases hm : x3 ∈ out
    ·have HC : Hid (Calls Tryz.prog 112 #[.slice ao out.length co,.int .i64 x3] (wr.alloc (.cells #[.int .i64 x1,.int .i64 x2,.int .i64 x3] 143)) fun e w' => e = .returned (.bool true) /\ w' = wr.alloc (.cells #[.int .i64 x1,.int .i64 x2,.int .i64 x3] 143)) := contains_yes co _ HIN.out (by omega) hm
     have HE : Hid (out = emitP size [] (H.take (k + 1))) := by
      unfold Hid
      rw [HN.out]
      exact (if_neg (fun h => h.2 hm)).symm
     clear HN hown1 hm HIN
     go_wp2_with (go_at_call 112; refine HC.out.mono ?_; rintro e w2 ⟨rfl,rfl⟩)
     exact ⟨⟨k + 1,out,by omega,by go_num,HE,by omega,HO,hb1⟩,by simp [intOf]; omega⟩
    ·have HC : Hid (Calls Tryz.prog 112 #[.slice ao out.length co,.int .i64 x3] (wr.alloc (.cells #[.int .i64 x1,.int .i64 x2,.int .i64 x3] 143)) fun e w' => e = .returned (.bool false) /\ w' = wr.alloc (.cells #[.int .i64 x1,.int .i64 x2,.int .i64 x3] 143)) := contains_no co _ HIN.out (by omega) hm
     have HE : Hid (out ++ [x3] = emitP size [] (H.take (k + 1))) := by
      unfold Hid
      rw [HN.out]
      exact (if_pos ⟨hs,hm⟩).symm
     clear HN hm HIN
     have hownB := own_alloc HO.out (.cells #[.int .i64 x3] 3)
     have hnews := cells_lit (wr.alloc (.cells #[.int .i64 x1,.int .i64 x2,.int .i64 x3] 143)) [.int .i64 x3] 3
     have hszw : w.heap.size <= (wr.alloc (.cells #[.int .i64 x1,.int .i64 x2,.int .i64 x3] 143)).heap.size := hb1.size
     have e1 : (wr.alloc (.cells #[.int .i64 x1,.int .i64 x2,.int .i64 x3] 143)).heap.size = wr.heap.size + 1 := by simp
     rw [e1] at hnews
     have HBB : Hid (Below w.heap.size w ((wr.alloc (.cells #[.int .i64 x1,.int .i64 x2,.int .i64 x3] 143)).alloc (.cells #[.int .i64 x3] 3))) := below2 hb1 (below_alloc _ _)
     have HSZ : Hid (w.heap.size <= ((wr.alloc (.cells #[.int .i64 x1,.int .i64 x2,.int .i64 x3] 143)).alloc (.cells #[.int .i64 x3] 3)).heap.size) := HBB.out.size
     clear hown1 e1
     go_wp2_with (first
      | (go_at_call 112; refine HC.out.mono ?_; rintro e w2 ⟨rfl,rfl⟩)
      | (at_builtin; refine wpList_append_own _ rfl _ _ 35 rfl w.heap.size 3 i0 (.int .i64 0) 1 8 Tryz.underlying35 hi hz0 hz1 hz2 rfl (by decide) _ _ _ rfl hownB ⟨wr.heap.size + 1,0,none⟩ 1 1 [.int .i64 x3] rfl rfl hnews (by intro u hu; simp at hu; subst hu; rfl) (by unfold maxLen; omega) (by omega) (by simp; omega) ?_))
     intro v7 w7 hown7' hg7 _
     have HO7 : Hid (w7.ownsRow w.heap.size 3 1 v7 (out ++ [x3]).length (intCells (out ++ [x3]))) := by
      rw [intCells_snoc,List.length_append]
      exact hown7'
     have hb7 : Below w.heap.size w w7 := HBB.out.grown hg7 HSZ.out (fun k hk => (hownB.lt k hk).1)
     clear hown7' hg7 hownB hnews HO HSZ HBB HC
     go_wp2_with fail
     exact ⟨⟨k + 1,out ++ [x3],by omega,by go_num,HE,by simp; omega,HO7,hb7⟩,by simp [intOf]; omega⟩
   ·have hs' : decide ((out.length : Int) < (size : Int)) = false := by simp; omega
    have hs2 : decide (out.length < size) = false := by simp; omega
    have HE : Hid (out = emitP size [] (H.take (k + 1))) := by
     unfold Hid
     rw [HN.out]
     exact (if_neg (fun h => hs h.1)).symm
    clear HN hown1 hs HIN
    go_wp2_with fail
    exact ⟨⟨k + 1,out,by omega,by go_num,HE,by omega,HO,hb1⟩,by simp [intOf]; omega⟩
  ·obtain rfl : k = m := by omega
   have HE : Hid (out = emitP size [] H) := by unfold Hid; rw [hT.out,HEND.out]
   have HI : Hid (IntsOwn w.heap.size wr ao co out) := ⟨ints_own hown.out rfl,hown.out⟩
   clear hown hT
   go_wp2_with fail
   go_ret
   rw [<- HE.out]
   exact ⟨hbel,ao,co,rfl,HI.out⟩
end Go.Proofs.YtcncbjknfcjnmaaGreat.Tp
