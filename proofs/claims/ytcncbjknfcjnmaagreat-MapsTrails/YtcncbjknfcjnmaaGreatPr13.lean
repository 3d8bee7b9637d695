/-
  The contract of Order: all that have weight, the best one first (the walk).
-/
import Derived.Test.YtcncbjknfcjnmaaGreatPr12
namespace Go.Proofs.YtcncbjknfcjnmaaGreat.Dr
open Go.ChangeShapes Go.WideShapes Go.ChangeAt Go.RowKit
theorem cell_next (ids : List Int) (n k : Nat) (hn : ids.length = n) (hk : k < n) : (intCells (ids.take k) ++ List.replicate (n - k) (Value.int .i64 0))[k]? = some (Value.int .i64 0) := by
 have hl : (intCells (ids.take k)).length = k := by simp [intCells]; omega
 rw [List.getElem?_append_right (by omega),hl,Nat.sub_self,List.getElem?_replicate,if_pos (by omega)]
set_option maxHeartbeats 1000000 in
set_option maxRecDepth 60000 in
theorem order_any (key : Nat) (a : Option Addr) (len cap : Nat) (ls : List Ch) (w : World) (hkey : key < 18446744073709551616) (h : ChsAt w a len cap ls) :
  Calls Tryz.prog 147 #[.int .u64 (key : Int),.slice a len cap] w fun e w' => OrderPost key ls w e w' := by
 have HC : Hid (Calls Tryz.prog 162 #[.int .u64 (key : Int),.slice a len cap] w fun e w' => LotsPost key ls w e w') := lots_any key a len cap ls w hkey h
 clear h hkey
 obtain ⟨i0,hi,hz0,hz1,hz2⟩ := info_parts info3
 go_enter Tryz.func147,Tryz.ntmps147
 go_wp2_with fail
 refine HC.out.mono ?_
 rintro e w2 ⟨lv,L,rfl,hown,hb2,hL⟩
 clear HC
 have h64 : L.length <= 64 := by
  rcases hL with ⟨hM,rfl⟩ | ⟨_,rfl⟩
  ·exact Nat.le_trans (heavy_len ls) hM.1
  ·simp
 have HS : Hid (Calls Tryz.prog 163 #[lv,.func (.func 164) #[] #[]] w2 fun e w' => e = .returned (.tuple #[]) /\ SortedPost w.heap.size key lv L w2 w') := sort_any lv L w2 hown (by
  rcases hL with ⟨hM,rfl⟩ | ⟨_,rfl⟩
  ·exact may_heavy hM
  ·simp) h64
 have HLT : Hid (∀ k,lv.ownBlock = some k -> w.heap.size <= k /\ k < w2.heap.size) := hown.lt
 clear hown
 go_wp2_with fail
 refine HS.out.mono ?_
 rintro e w3 ⟨rfl,⟨L',hp,hs,hown⟩,hg⟩
 clear HS
 have hb3 : Below w.heap.size w w3 := hb2.grown hg hb2.size (fun j hj => (HLT.out j hj).1)
 clear hg HLT
 have HO : Hid (OrdC key ls (L'.map (·.1))) := by
  rcases hL with ⟨hM,rfl⟩ | ⟨hN,rfl⟩
  ·exact .inl ⟨hM,L',hp,sorted_pair hp (rise_filter (may_rise hM) _) hs,rfl⟩
  ·refine .inr ⟨hN,?_⟩
   rw [List.perm_nil.1 hp]
   rfl
 have hll : L'.length = L.length := hp.length_eq
 clear hL hp hs
 generalize L.length = n at *
 obtain ⟨al,capl,rfl,hcl⟩ := own_slice hown
 have HLA : Hid (0 < n -> ∃ g,al = some ⟨g,0,none⟩ /\ g < w3.heap.size /\ LotsAt key w3 g L') := fun h0 => by
  obtain ⟨g,c',hv,-,hg,-⟩ := own_some hown h0
  injection hv with ha hn hc
  subst ha
  exact ⟨g,rfl,hg,lots_own hown hll.symm⟩
 clear hown
 have h64' : (n : Int) <= 64 := by omega
 obtain ⟨wM,hmk,hownM,hgM⟩ := run_make_full (P := Tryz.prog) w3 w3.heap.size 35 3 i0 (.int .i64 0) 1 Tryz.underlying35 hi hz0 hz1 .i64 .i64 n (by rw [hz2]; omega) (by unfold maxLen; omega) (Nat.le_refl _)
 have hbM : Below w3.heap.size w3 wM := ⟨hgM.os,hgM.tape,hgM.output,hgM.size,fun k hk => hgM.block k hk (by simp)⟩
 have hxs : (madeCells (Value.int .i64 0).cells (n * 1)).toList = intCells ((L'.map (·.1)).take 0) ++ List.replicate (n - 0) (Value.int .i64 0) := by
  rw [Nat.mul_one]
  exact toList_madeCells_one _ _
 have HOM : Hid (wM.ownsRow w3.heap.size 3 1 (.slice (some ⟨w3.heap.size,0,none⟩) n n) n (intCells ((L'.map (·.1)).take 0) ++ List.replicate (n - 0) (Value.int .i64 0))) := by rw [<- hxs]; exact hownM
 clear hownM hgM hxs hi hz0 hz1 hz2
 go_wp2_with fail
 clear hmk
 go_loopw [19] (fun i wr => ∃ k : Nat,k <= n /\ i = .int .i64 k /\ Hid (wr.ownsRow w3.heap.size 3 1 (.slice (some ⟨w3.heap.size,0,none⟩) n n) n (intCells ((L'.map (·.1)).take k) ++ List.replicate (n - k) (Value.int .i64 0))) /\ Below w3.heap.size w3 wr) (fun i _ => n - (intOf i).toNat)
 case atStart => exact ⟨0,Nat.zero_le _,rfl,HOM,hbM⟩
 case round =>
  obtain ⟨k,hk,rfl,hT,hbel⟩ := hrel
  by_cases hlt : k < n
  ·obtain ⟨g,rfl,hg,hat⟩ := HLA.out (by omega)
   obtain ⟨e0,e1,e2⟩ := (hat.below hg hbel) k (by omega)
   have hk1 : (k : Int) < (n : Int) := by omega
   have hk0 : (0 : Int) <= (k : Int) := by omega
   have HNX := set_next (L'.map (·.1)) n k (by simp [hll]) hlt
   have hcx := cell_next (L'.map (·.1)) n k (by simp [hll]) hlt
   have hgx : (L'.map (·.1)).getD k 0 = (L'.getD k ch0).1 := by simp [show k < L'.length by omega]
   rw [hgx] at HNX
   clear hgx
   generalize L'.getD k ch0 = x at *
   obtain ⟨x1,x2⟩ := x
   generalize costOf key x1 = p at *
   have hown4 := own_alloc hT.out (.cells #[.int .i64 x1,.int .i64 x2,.int .i64 p] 185)
   have c4 := (hown4.cellAt k (by omega)).trans hcx
   have f4 := hown4.frozenAt k
   have HO5 : Hid _ := (hown4.stored k (.int .i64 x1)).1
   rw [HNX] at HO5
   have hb5 : Below w3.heap.size w3 ((wr.alloc (.cells #[.int .i64 x1,.int .i64 x2,.int .i64 p] 185)).setCell ⟨w3.heap.size,k,none⟩ (.int .i64 x1)) := (below2 hbel (below_alloc _ _)).setCell (p := ⟨w3.heap.size,k,none⟩) (Nat.le_refl _) _
   have hsz := hbel.size
   clear HNX hcx hown4 hT hat
   go_wp2_with fail
   exact ⟨⟨k + 1,by omega,by go_num,HO5,hb5⟩,by simp [intOf]; omega⟩
  ·obtain rfl : k = n := by omega
   have HI : Hid (IntsAt wr (some ⟨w3.heap.size,0,none⟩) (L'.map (·.1))) := by
    have := hT.out
    rw [Nat.sub_self,List.replicate_zero,List.append_nil,List.take_of_length_le (by simp [hll])] at this
    exact ints_own this (by simp [hll])
   clear hT
   go_wp2_with fail
   go_ret
   exact ⟨hb3.trans (hbel.mono hb3.size),w3.heap.size,k,L'.map (·.1),by simp [hll],hb3.size,HI.out,by simp; omega,by simp [hll],by omega,HO.out⟩
end Go.Proofs.YtcncbjknfcjnmaaGreat.Dr
