/-
  The contract of Check: why nodes may not be.
  The contracts of maps.within, mayCount, New; Check of maps that have no Temps and empty Pasts.
  Check of maps that have no Temps and empty Pasts: they may be.
  The contracts of copied: a row of one's own.
  Bare maps (no Temps, no Pasts) as they lie; clone of them.
  The contracts of covers, weight, where a node stands, and compare.
-/
import Derived.Test.YtcncbjknfcjnmaaGreatPr00
import Derived.Maps.Own
import Derived.Laws.AppendOwnNone
namespace Go.Proofs.YtcncbjknfcjnmaaGreat.Tp
open Go.ChangeShapes Go.WideShapes Go.ChangeAt Go.RowKit
set_option maxHeartbeats 1000000 in
set_option maxRecDepth 60000 in
theorem check_any (a : Option Addr) (len cap : Nat) (ls : List Nd) (w : World) (h : NdsAt w a len cap ls) :
  Calls Tryz.prog 40 #[.slice a len cap] w fun e w' => ErrPost (MayN ls) w e w' := by
 have hl : ls.length = len := h.1
 have hm : len <= maxLen := Nat.le_trans h.2.1 h.2.2.1
 unfold maxLen at hm
 have HL : Hid (NdsAt w a len cap ls) := h
 clear h
 by_cases h12 : 12 < len
 ·have HN : Hid (¬ MayN ls) := fun h => by have := h.1; omega
  go_enter Tryz.func40,Tryz.ntmps40
  go_wp2_with fail
  go_ret
  exact ⟨Below.refl _ _,.inr ⟨rfl,HN.out⟩⟩
 go_enter Tryz.func40,Tryz.ntmps40
 go_wp2_with fail
 go_loopw [10] (fun i wr => ∃ k : Nat,k <= len /\ i = .int .i64 k /\ Hid (∀ j,j < k -> OkN ls j) /\ Below w.heap.size w wr) (fun i _ => len - (intOf i).toNat)
 case atStart => exact ⟨0,Nat.zero_le _,rfl,(fun j hj => absurd hj (Nat.not_lt_zero _)),Below.refl _ _⟩
 case round =>
  obtain ⟨k,hk,rfl,hT,hbel⟩ := hrel
  by_cases hlt : k < len
  ·obtain ⟨b,off,rfl,hbs,hcell⟩ := (HL.out.below hbel).some (by omega)
   obtain ⟨e0,e1,e2,e3,e4,e5⟩ := hcell k hlt
   have hk1 : (k : Int) < (len : Int) := by omega
   have hk0' : (0 : Int) <= (k : Int) := by omega
   have HPV : Hid (0 < k -> wr.cell? ⟨b,off + (k - 1) * 6,none⟩ = some (.int .i64 (ls.getD (k - 1) nd0).id)) := fun h => (hcell (k - 1) (by omega)).1
   clear hcell
   have HOK : Hid (OkN ls k ↔ InN (ls.getD k nd0) /\ (0 < k -> (ls.getD (k - 1) nd0).id < (ls.getD k nd0).id)) := Iff.rfl
   have HNO : Hid (¬ OkN ls k -> ¬ MayN ls) := fun hn hM => hn (hM.2 k (by omega))
   have HYES : Hid (OkN ls k -> ∀ j,j < k + 1 -> OkN ls j) := fun h j hj => by
    rcases Nat.lt_succ_iff_lt_or_eq.1 hj with h' | rfl
    ·exact hT.out j h'
    ·exact h
   generalize ls.getD k nd0 = x at *
   obtain ⟨c1,c2,c3,c4,c5,c6⟩ := x
   simp only at e0 e1 e2 e3 e4 e5
   have HB1 : Hid (∀ n os,Below w.heap.size w (Go.Sort.grow ((wr.alloc (.cells #[.int .i64 c1,.int .i64 c2,.int .i64 c3,.int .i64 c4,.bool c5,.bool c6] 72)).drewN n) os)) := fun n os => below2 (below2 hbel (below_alloc _ _)) (below_grow _ _ _)
   have x0 := cell_grown (w := wr.alloc (.cells #[.int .i64 c1,.int .i64 c2,.int .i64 c3,.int .i64 c4,.bool c5,.bool c6] 72)) (a := ⟨wr.heap.size,0,none⟩) (v := .int .i64 c1) (by simp) (by simp)
   have x1 := cell_grown (w := wr.alloc (.cells #[.int .i64 c1,.int .i64 c2,.int .i64 c3,.int .i64 c4,.bool c5,.bool c6] 72)) (a := ⟨wr.heap.size,1,none⟩) (v := .int .i64 c2) (by simp) (by simp)
   have x2 := cell_grown (w := wr.alloc (.cells #[.int .i64 c1,.int .i64 c2,.int .i64 c3,.int .i64 c4,.bool c5,.bool c6] 72)) (a := ⟨wr.heap.size,2,none⟩) (v := .int .i64 c3) (by simp) (by simp)
   have x3 := cell_grown (w := wr.alloc (.cells #[.int .i64 c1,.int .i64 c2,.int .i64 c3,.int .i64 c4,.bool c5,.bool c6] 72)) (a := ⟨wr.heap.size,3,none⟩) (v := .int .i64 c4) (by simp) (by simp)
   have x4 := cell_grown (w := wr.alloc (.cells #[.int .i64 c1,.int .i64 c2,.int .i64 c3,.int .i64 c4,.bool c5,.bool c6] 72)) (a := ⟨wr.heap.size,4,none⟩) (v := .bool c5) (by simp) (by simp)
   have x5 := cell_grown (w := wr.alloc (.cells #[.int .i64 c1,.int .i64 c2,.int .i64 c3,.int .i64 c4,.bool c5,.bool c6] 72)) (a := ⟨wr.heap.size,5,none⟩) (v := .bool c6) (by simp) (by simp)
   by_cases hin : InN ⟨c1,c2,c3,c4,c5,c6⟩
   ·have HC : Hid (∀ W,Calls Tryz.prog 74 #[.agg #[.int .i64 c1,.int .i64 c2,.int .i64 c3,.int .i64 c4,.bool c5,.bool c6]] W fun e w' => e = .returned (.bool true) /\ Grown W w') := fun W => mayBe_yes hin W
    have HIN : Hid (InN ⟨c1,c2,c3,c4,c5,c6⟩) := hin
    clear hin
    by_cases hk0 : k = 0
    ·have HY : Hid (∀ j,j < k + 1 -> OkN ls j) := HYES.out (HOK.out.2 ⟨HIN.out,fun h => absurd h (by omega)⟩)
     have hkz : decide (0 < k) = false := by simp; omega
     clear hk0 HNO HOK HYES HPV HIN hT
     go_wp2_with fail
     generalize hw1 : wr.alloc (.cells #[.int .i64 c1,.int .i64 c2,.int .i64 c3,.int .i64 c4,.bool c5,.bool c6] 72) = w1 at *
     clear hw1
     refine wp_region_QW mixed5 (by kernel_rfl) ?_
     repeat (refine QW_step (fun K hK => ?_); go_simp; first | (refine hK _ ?_; clear hK K) | (apply Exists.intro; refine ⟨fun _ => ?_,hK _ ?_⟩; (go_at_call 74; refine Calls.grown_of (HC.out _)); clear hK K))
     refine QW_nil ?_
     intro _ hw9
     obtain ⟨⟨nq,osq⟩,hw8⟩ := hw9
     subst hw8
     have hb := HB1.out nq osq
     go_wp2_with fail
     exact ⟨⟨k + 1,by omega,by go_num,HY,hb⟩,by simp [intOf]; omega⟩
    ·obtain ⟨m,hmk⟩ : ∃ m,k = m + 1 := ⟨k - 1,by omega⟩
     have ep : wr.cell? ⟨b,off + m * 6,none⟩ = some (.int .i64 (ls.getD m nd0).id) := by have := HPV.out (by omega); rw [hmk] at this; exact this
     have em : IntKind.i64.wrap ((k : Int) - 1) = (m : Int) := by
      rw [show (k : Int) - 1 = (m : Int) from by omega]; simp [IntKind.wrap,IntKind.bits,IntKind.signed]; omega
     have em0 : (0 : Int) <= (m : Int) := by omega
     have em1 : (m : Int) < (len : Int) := by omega
     have ek0 : decide (0 < k) = true := by simp; omega
     have HOK2 : Hid (OkN ls k ↔ (ls.getD m nd0).id < c1) := by
      have em2 : k - 1 = m := by omega
      have := HOK.out
      rw [em2] at this
      exact ⟨fun h => (this.1 h).2 (by omega),fun h => this.2 ⟨HIN.out,fun _ => h⟩⟩
     have x6 := cell_grown (w := wr.alloc (.cells #[.int .i64 c1,.int .i64 c2,.int .i64 c3,.int .i64 c4,.bool c5,.bool c6] 72)) (a := ⟨b,off + m * 6,none⟩) (by simp; omega) (((below_alloc wr _).cell (p := ⟨b,off + m * 6,none⟩) hbs).trans ep)
     clear HOK HPV hmk hk0 ep HIN
     generalize (ls.getD m nd0).id = y at *
     by_cases hy : y < c1
     ·have HY : Hid (∀ j,j < k + 1 -> OkN ls j) := HYES.out (HOK2.out.2 hy)
      have hd : decide (c1 <= y) = false := by simp; omega
      clear HNO HOK2 HYES hT
      go_wp2_with fail
      generalize hw1 : wr.alloc (.cells #[.int .i64 c1,.int .i64 c2,.int .i64 c3,.int .i64 c4,.bool c5,.bool c6] 72) = w1 at *
      clear hw1
      refine wp_region_QW mixed5 (by kernel_rfl) ?_
      repeat (refine QW_step (fun K hK => ?_); go_simp; first | (refine hK _ ?_; clear hK K) | (apply Exists.intro; refine ⟨fun _ => ?_,hK _ ?_⟩; (go_at_call 74; refine Calls.grown_of (HC.out _)); clear hK K))
      refine QW_nil ?_
      intro _ hw9
      obtain ⟨⟨nq,osq⟩,hw8⟩ := hw9
      subst hw8
      have hb := HB1.out nq osq
      go_wp2_with fail
      exact ⟨⟨k + 1,by omega,by go_num,HY,hb⟩,by simp [intOf]; omega⟩
     ·have HN : Hid (¬ MayN ls) := HNO.out fun h => hy (HOK2.out.1 h)
      have hd : decide (c1 <= y) = true := by simp; omega
      clear HNO HOK2 HYES hT
      go_wp2_with fail
      generalize hw1 : wr.alloc (.cells #[.int .i64 c1,.int .i64 c2,.int .i64 c3,.int .i64 c4,.bool c5,.bool c6] 72) = w1 at *
      clear hw1
      refine wp_region_QW mixed5 (by kernel_rfl) ?_
      repeat (refine QW_step (fun K hK => ?_); go_simp; first | (refine hK _ ?_; clear hK K) | (apply Exists.intro; refine ⟨fun _ => ?_,hK _ ?_⟩; (go_at_call 74; refine Calls.grown_of (HC.out _)); clear hK K))
      refine QW_nil ?_
      intro _ hw9
      obtain ⟨⟨nq,osq⟩,hw8⟩ := hw9
      subst hw8
      have hb := HB1.out nq osq
      go_wp2_with fail
      go_ret
      exact ⟨hb,.inr ⟨rfl,HN.out⟩⟩
   ·have HN : Hid (¬ MayN ls) := HNO.out fun h => hin (HOK.out.1 h).1
    have HC : Hid (∀ W,Calls Tryz.prog 74 #[.agg #[.int .i64 c1,.int .i64 c2,.int .i64 c3,.int .i64 c4,.bool c5,.bool c6]] W fun e w' => e = .returned (.bool false) /\ Grown W w') := fun W => mayBe_no hin W
    clear HNO HOK HYES HPV hin hT
    go_wp2_with fail
    generalize hw1 : wr.alloc (.cells #[.int .i64 c1,.int .i64 c2,.int .i64 c3,.int .i64 c4,.bool c5,.bool c6] 72) = w1 at *
    clear hw1
    refine wp_region_QW mixed5 (by kernel_rfl) ?_
    repeat (refine QW_step (fun K hK => ?_); go_simp; first | (refine hK _ ?_; clear hK K) | (apply Exists.intro; refine ⟨fun _ => ?_,hK _ ?_⟩; (go_at_call 74; refine Calls.grown_of (HC.out _)); clear hK K))
    refine QW_nil ?_
    intro _ hw9
    obtain ⟨⟨nq,osq⟩,hw8⟩ := hw9
    subst hw8
    have hb := HB1.out nq osq
    go_wp2_with fail
    go_ret
    exact ⟨hb,.inr ⟨rfl,HN.out⟩⟩
  ·obtain rfl : k = len := by omega
   have HM : Hid (MayN ls) := ⟨by omega,fun i hi => hT.out i (by omega)⟩
   clear hT HL
   go_wp2_with fail
   go_ret
   exact ⟨hbel,.inl ⟨rfl,HM.out⟩⟩
end Go.Proofs.YtcncbjknfcjnmaaGreat.Tp
namespace Go.Proofs.YtcncbjknfcjnmaaGreat.Tp
open Go.ChangeShapes Go.WideShapes Go.ChangeAt Go.RowKit
theorem mwithin_any (x lo hi : Int) (w : World) : Calls Tryz.prog 39 #[.int .i64 x,.int .i64 lo,.int .i64 hi] w fun e w' => e = .returned (.bool (inB x lo hi)) /\ w' = w := by
 by_cases h1 : lo <= x
 ·by_cases h2 : x <= hi
  ·have hr : inB x lo hi = true := by simp [inB,h1,h2]
   rw [hr]
   go_enter Tryz.func39,Tryz.ntmps39
   go_wp2
   go_ret
   exact ⟨rfl,rfl⟩
  ·have hr : inB x lo hi = false := by simp [inB,h2]
   have d : decide (x <= hi) = false := decide_eq_false h2
   rw [hr]
   go_enter Tryz.func39,Tryz.ntmps39
   go_wp2
   go_ret
   exact ⟨rfl,rfl⟩
 ·have hr : inB x lo hi = false := by simp [inB,h1]
  have d : decide (lo <= x) = false := decide_eq_false h1
  rw [hr]
  go_enter Tryz.func39,Tryz.ntmps39
  go_wp2
  go_ret
  exact ⟨rfl,rfl⟩
theorem mwithin_yes {x lo hi : Int} (h1 : lo <= x) (h2 : x <= hi) (w : World) : Calls Tryz.prog 39 #[.int .i64 x,.int .i64 lo,.int .i64 hi] w fun e w' => e = .returned (.bool true) /\ w' = w :=
 (mwithin_any x lo hi w).mono fun _ _ ⟨he,hw⟩ => ⟨by rw [he,(inB_iff x lo hi).2 ⟨h1,h2⟩],hw⟩
theorem mwithin_no {x lo hi : Int} (h : ¬ (lo <= x /\ x <= hi)) (w : World) : Calls Tryz.prog 39 #[.int .i64 x,.int .i64 lo,.int .i64 hi] w fun e w' => e = .returned (.bool false) /\ w' = w :=
 (mwithin_any x lo hi w).mono fun _ _ ⟨he,hw⟩ => ⟨by
  rw [he]
  cases hq : inB x lo hi with
  | false => rfl
  | true => exact absurd ((inB_iff x lo hi).1 hq) h,hw⟩
def CountOk (s l g : Int) : Prop := (1 <= s /\ s <= 3) /\ (1 <= l /\ l <= s) /\ 1 <= g /\ g <= 8
def countB (s l g : Int) : Bool := inB s 1 3 && inB l 1 s && inB g 1 8
theorem countB_iff (s l g : Int) : countB s l g = true ↔ CountOk s l g := by
 unfold countB CountOk
 simp only [Bool.and_eq_true,inB_iff]
 exact ⟨fun ⟨⟨h1,h2⟩,h3⟩ => ⟨h1,h2,h3⟩,fun ⟨h1,h2,h3⟩ => ⟨⟨h1,h2⟩,h3⟩⟩
theorem countB_no {s l g : Int} (h : ¬ CountOk s l g) : countB s l g = false := by
 cases hq : countB s l g with
 | false => rfl
 | true => exact absurd ((countB_iff s l g).1 hq) h
theorem mayCount_any (s l g : Int) (w : World) : Calls Tryz.prog 30 #[.int .i64 s,.int .i64 l,.int .i64 g] w fun e w' => e = .returned (.bool (countB s l g)) /\ w' = w := by
 have H1 : Hid (∀ w : World,Calls Tryz.prog 39 #[.int .i64 s,.int .i64 1,.int .i64 3] w fun e w' => e = .returned (.bool (inB s 1 3)) /\ w' = w) := mwithin_any s 1 3
 have H2 : Hid (∀ w : World,Calls Tryz.prog 39 #[.int .i64 l,.int .i64 1,.int .i64 s] w fun e w' => e = .returned (.bool (inB l 1 s)) /\ w' = w) := mwithin_any l 1 s
 have H3 : Hid (∀ w : World,Calls Tryz.prog 39 #[.int .i64 g,.int .i64 1,.int .i64 8] w fun e w' => e = .returned (.bool (inB g 1 8)) /\ w' = w) := mwithin_any g 1 8
 unfold countB
 generalize inB s 1 3 = b1 at *
 generalize inB l 1 s = b2 at *
 generalize inB g 1 8 = b3 at *
 cases b1 with
 | false =>
  go_enter Tryz.func30,Tryz.ntmps30
  go_wp2_with (go_at_call_of 39 s; refine (H1.out _).mono ?_; rintro e w' ⟨rfl,rfl⟩)
  go_ret
  exact ⟨rfl,rfl⟩
 | true =>
  cases b2 with
  | false =>
   go_enter Tryz.func30,Tryz.ntmps30
   go_wp2_with (first | (go_at_call_of 39 l; refine (H2.out _).mono ?_; rintro e w' ⟨rfl,rfl⟩) | (go_at_call_of 39 s; refine (H1.out _).mono ?_; rintro e w' ⟨rfl,rfl⟩))
   go_ret
   exact ⟨rfl,rfl⟩
  | true =>
   cases b3 with
   | false =>
    go_enter Tryz.func30,Tryz.ntmps30
    go_wp2_with (first | (go_at_call_of 39 l; refine (H2.out _).mono ?_; rintro e w' ⟨rfl,rfl⟩) | (go_at_call_of 39 s; refine (H1.out _).mono ?_; rintro e w' ⟨rfl,rfl⟩) | (go_at_call_of 39 g; refine (H3.out _).mono ?_; rintro e w' ⟨rfl,rfl⟩))
    go_ret
    exact ⟨rfl,rfl⟩
   | true =>
    go_enter Tryz.func30,Tryz.ntmps30
    go_wp2_with (first | (go_at_call_of 39 l; refine (H2.out _).mono ?_; rintro e w' ⟨rfl,rfl⟩) | (go_at_call_of 39 s; refine (H1.out _).mono ?_; rintro e w' ⟨rfl,rfl⟩) | (go_at_call_of 39 g; refine (H3.out _).mono ?_; rintro e w' ⟨rfl,rfl⟩))
    go_ret
    exact ⟨rfl,rfl⟩
def newM (s l g : Int) : Mp := ⟨0,s,l,g,[],[],List.replicate g.toNat tr0⟩
theorem ret_maperr {fn : Func} {p q : Tmp} (h : fn.results = #[.cell p 26,.tmp q]) (tmps : Array Value) (w : World) (b : Nat) (m : Mp) (s : MV) (v : Value) (hp : tmps.getD p undef = .pointer (some ⟨b,0,none⟩)) (hq : tmps.getD q undef = v)
  (h0 : w.cell? ⟨b,0,none⟩ = some (.int .i64 m.ep)) (h1 : w.cell? ⟨b,1,none⟩ = some (.int .i64 m.size)) (h2 : w.cell? ⟨b,2,none⟩ = some (.int .i64 m.mn)) (h3 : w.cell? ⟨b,3,none⟩ = some (.int .i64 m.gr))
  (h4 : w.cell? ⟨b,4,none⟩ = some (.slice s.aN s.lN s.cN)) (h5 : w.cell? ⟨b,5,none⟩ = some (.slice s.aT s.lT s.cT)) (h6 : w.cell? ⟨b,6,none⟩ = some (.slice s.aR s.lR s.cR)) :
  (results fn tmps).run Tryz.prog w = .ok (.tuple #[.agg (mapCells m s).toArray,v]) w := by
 simp only [Array.getD_eq_getD_getElem?] at hp hq
 simp only [results,h]
 simp [go_sem,hp,hq,h0,h1,h2,h3,h4,h5,h6,mapCells]
def pairCells (L : List (Int × Value)) : List Value := L.flatMap fun x => [.int .i64 x.1,x.2]
theorem pairCells_len (L : List (Int × Value)) : (pairCells L).length = L.length * 2 := by
 induction L with
 | nil => rfl
 | cons x L ih => have e : pairCells (x :: L) = .int .i64 x.1 :: x.2 :: pairCells L := rfl; rw [e,List.length_cons,List.length_cons,List.length_cons,ih]; omega
theorem pairCells_get (L : List (Int × Value)) (k : Nat) (h : k < L.length) : (pairCells L)[k * 2]? = some (.int .i64 (L[k]).1) /\ (pairCells L)[k * 2 + 1]? = some (L[k]).2 := by
 induction L generalizing k with
 | nil => simp at h
 | cons x L ih =>
  cases k with
  | zero => exact ⟨rfl,rfl⟩
  | succ k =>
   have := ih k (by simpa using h)
   rw [show (k + 1) * 2 = k * 2 + 1 + 1 by omega]
   exact this
theorem pairCells_set (L : List (Int × Value)) (k : Nat) (h : k < L.length) (v : Value) : (pairCells L).set (k * 2 + 1) v = pairCells (L.set k ((L[k]).1,v)) := by
 induction L generalizing k with
 | nil => simp at h
 | cons x L ih =>
  cases k with
  | zero => rfl
  | succ k =>
   have := ih k (by simpa using h)
   rw [show (k + 1) * 2 + 1 = (k * 2 + 1) + 1 + 1 by omega]
   show Value.int .i64 x.1 :: x.2 :: (pairCells L).set (k * 2 + 1) v = _
   rw [this]
   rfl
theorem pairCells_set0 (L : List (Int × Value)) (k : Nat) (h : k < L.length) (z : Int) : (pairCells L).set (k * 2) (.int .i64 z) = pairCells (L.set k (z,(L[k]).2)) := by
 induction L generalizing k with
 | nil => simp at h
 | cons x L ih =>
  cases k with
  | zero => rfl
  | succ k =>
   have := ih k (by simpa using h)
   rw [show (k + 1) * 2 = (k * 2) + 1 + 1 by omega]
   show Value.int .i64 x.1 :: x.2 :: (pairCells L).set (k * 2) (.int .i64 z) = _
   rw [this]
   rfl
theorem pairCells_one (z : Value) (n : Nat) (x : Int) : (madeCells (Value.agg #[.int .i64 x,z]).cells (n * 2)).toList = pairCells (List.replicate n (x,z)) ∨ (Value.agg #[.int .i64 x,z]).cells ≠ #[.int .i64 x,z] := by
 by_cases hc : (Value.agg #[.int .i64 x,z]).cells = #[.int .i64 x,z]
 ·left
  rw [hc]
  apply List.ext_getElem?
  intro i
  by_cases hi : i < n * 2
  ·rw [Array.getElem?_toList]
   have hg := pairCells_get (List.replicate n (x,z)) (i / 2) (by simp; omega)
   have h2 : i % 2 = 0 ∨ i % 2 = 1 := by omega
   unfold madeCells
   rcases h2 with h | h
   ·rw [show i / 2 * 2 = i by omega] at hg
    rw [hg.1]
    simp [hi,h]
   ·rw [show i / 2 * 2 + 1 = i by omega] at hg
    rw [hg.2]
    simp [hi,h]
  ·rw [List.getElem?_eq_none (by simp [size_madeCells]; omega),List.getElem?_eq_none (by rw [pairCells_len]; simp; omega)]
 ·exact .inr hc
theorem trs_own {w : World} {B n : Nat} {a : Option Addr} {cap : Nat} {L : List (Int × Value)} {ls : List Tr} (h : w.ownsRow B 53 2 (.slice a n cap) n (pairCells L)) (hl : ls.length = n) (hL : L.length = n)
  (hx : ∀ i (h1 : i < L.length) (h2 : i < ls.length),(L[i]).1 = (ls[i]).since /\ ∃ b m c,(L[i]).2 = .slice b m c /\ TmsAt w b m c (ls[i]).past) : TrsAt w a n cap ls := by
 rcases h.2 with ⟨e,h0⟩ | ⟨g,cap',cur,hv,hB,hh,hcc,hcm,-⟩
 ·injection e with e1 e2 e3
  subst e1 e2 e3
  exact ⟨hl,Nat.le_refl _,Nat.zero_le _,fun _ => rfl,.inl rfl⟩
 ·injection hv with ha hn hc'
  subst ha
  refine ⟨hl,by omega,by omega,fun h => by simp at h,.inr ⟨g,0,rfl,fun i hi => ?_⟩⟩
  obtain ⟨g0,g1⟩ := pairCells_get L i (by omega)
  obtain ⟨x0,b,m,c,x1,hT⟩ := hx i (by omega) (by omega)
  have c0 := h.cellAt (i * 2) (by omega)
  have c1 := h.cellAt (i * 2 + 1) (by omega)
  rw [show ls.getD i tr0 = ls[i] by simp [show i < ls.length by omega],Nat.zero_add]
  exact ⟨by rw [c0,g0,x0],b,m,c,by rw [c1,g1,x1],hT⟩
theorem infoTrail : (Tryz.prog.info? 53).map (fun i => (i.zero,i.size,i.bytes)) = some (some (.agg #[.int .i64 0,.slice none 0 0]),2,32) := by kernel_rfl
def NewPost (s l : Int) (n : Nat) (w : World) (e : Ending) (w' : World) : Prop := Below w.heap.size w w' /\ ∃ p,e = .returned (.tuple #[.agg (mapCells (newM s l n) ⟨none,0,0,none,0,0,some ⟨p,0,none⟩,n,n⟩).toArray,.int .i64 0]) /\ w'.ownsRow 0 53 2 (.slice (some ⟨p,0,none⟩) n n) n (pairCells (List.replicate n (0,.slice none 0 0)))
set_option maxRecDepth 60000 in
theorem new_yes {s l : Int} {n : Nat} (h : CountOk s l n) (w : World) : Calls Tryz.prog 9 #[.int .i64 s,.int .i64 l,.int .i64 (n : Int)] w fun e w' => NewPost s l n w e w' := by
 have HC : Hid (∀ w : World,Calls Tryz.prog 30 #[.int .i64 s,.int .i64 l,.int .i64 (n : Int)] w fun e w' => e = .returned (.bool true) /\ w' = w) := fun w => (mayCount_any s l n w).mono fun _ _ ⟨he,hw⟩ => ⟨by rw [he,(countB_iff s l n).2 h],hw⟩
 have h8 : (n : Int) <= 8 := h.2.2.2
 obtain ⟨i0,hi,hz0,hz1,hz2⟩ := info_parts infoTrail
 have hb1 := below_alloc w (.cells #[.int .i64 0,.int .i64 0,.int .i64 0,.int .i64 0,.slice none 0 0,.slice none 0 0,.slice none 0 0] 26)
 obtain ⟨wM,hmk,hownM,hgM⟩ := run_make_full (P := Tryz.prog) (w.alloc (.cells #[.int .i64 0,.int .i64 0,.int .i64 0,.int .i64 0,.slice none 0 0,.slice none 0 0,.slice none 0 0] 26)) (w.alloc (.cells #[.int .i64 0,.int .i64 0,.int .i64 0,.int .i64 0,.slice none 0 0,.slice none 0 0,.slice none 0 0] 26)).heap.size 24 53 i0 (.agg #[.int .i64 0,.slice none 0 0]) 2 Tryz.underlying24 hi hz0 hz1 .i64 .i64 n (by rw [hz2]; omega) (by unfold maxLen; omega) (Nat.le_refl _)
 have hbM : Below (w.alloc (.cells #[.int .i64 0,.int .i64 0,.int .i64 0,.int .i64 0,.slice none 0 0,.slice none 0 0,.slice none 0 0] 26)).heap.size (w.alloc (.cells #[.int .i64 0,.int .i64 0,.int .i64 0,.int .i64 0,.slice none 0 0,.slice none 0 0,.slice none 0 0] 26)) wM := ⟨hgM.os,hgM.tape,hgM.output,hgM.size,fun k hk => hgM.block k hk (by simp)⟩
 rcases pairCells_one (.slice none 0 0) n 0 with hp | hp
 case inr => exact absurd rfl hp
 rw [hp] at hownM
 have HBX : Hid (Box7 wM w.heap.size (.int .i64 0) (.int .i64 0) (.int .i64 0) (.int .i64 0) (.slice none 0 0) (.slice none 0 0) (.slice none 0 0)) := (Box7.new w _ _ _ _ _ _ _ _).below hbM
 have hbw : Below w.heap.size w wM := below2 hb1 hbM
 have hlt : w.heap.size < wM.heap.size := HBX.out.lt
 have HBL : Hid (Below w.heap.size w (set7 wM w.heap.size (.int .i64 0) (.int .i64 s) (.int .i64 l) (.int .i64 (n : Int)) (.slice none 0 0) (.slice none 0 0) (.slice (some ⟨w.heap.size + 1,0,none⟩) n n))) := set7_below hbw (Nat.le_refl _) _ _ _ _ _ _ _
 have hne : (wM.ownsRow (w.heap.size + 1) 53 2 (.slice (some ⟨w.heap.size + 1,0,none⟩) n n) n (pairCells (List.replicate n (0,.slice none 0 0)))) := by
  have := hownM
  rwa [show (w.alloc (.cells #[.int .i64 0,.int .i64 0,.int .i64 0,.int .i64 0,.slice none 0 0,.slice none 0 0,.slice none 0 0] 26)).heap.size = w.heap.size + 1 by simp] at this
 have HTT : Hid ((set7 wM w.heap.size (.int .i64 0) (.int .i64 s) (.int .i64 l) (.int .i64 (n : Int)) (.slice none 0 0) (.slice none 0 0) (.slice (some ⟨w.heap.size + 1,0,none⟩) n n)).ownsRow 0 53 2 (.slice (some ⟨w.heap.size + 1,0,none⟩) n n) n (pairCells (List.replicate n (0,.slice none 0 0)))) := own_base (hne.kept (set7_grownBy _ _ _ _ _ _ _ _ _) (.inr (by simp [Value.ownBlock]))) (Nat.zero_le _)
 obtain ⟨⟨c0,c1,c2,c3,c4,c5,c6⟩,⟨f0,f1,f2,f3,f4,f5,f6⟩⟩ := HBX.out
 clear hp hgM hownM hbM hb1 hne
 go_enter Tryz.func9,Tryz.ntmps9
 go_wp2_with (go_at_call 30; refine (HC.out _).mono ?_; rintro e w' ⟨rfl,hw'⟩; obtain rfl := hw'.symm)
 refine bodyPost_ret (ret_maperr rfl _ _ w.heap.size (newM s l n) ⟨none,0,0,none,0,0,some ⟨w.heap.size + 1,0,none⟩,n,n⟩ _ rfl rfl (HBX.out.set _ _ _ _ _ _ _).1.1 (HBX.out.set _ _ _ _ _ _ _).1.2.1 (HBX.out.set _ _ _ _ _ _ _).1.2.2.1 (HBX.out.set _ _ _ _ _ _ _).1.2.2.2.1 (HBX.out.set _ _ _ _ _ _ _).1.2.2.2.2.1 (HBX.out.set _ _ _ _ _ _ _).1.2.2.2.2.2.1 (HBX.out.set _ _ _ _ _ _ _).1.2.2.2.2.2.2) rfl ?_
 exact ⟨HBL.out,_,rfl,HTT.out⟩
end Go.Proofs.YtcncbjknfcjnmaaGreat.Tp
namespace Go.Proofs.YtcncbjknfcjnmaaGreat.Tp
open Go.ChangeShapes Go.WideShapes Go.ChangeAt Go.RowKit
theorem map_split (m : Mp) (s : MV) : Value.agg (mapCells m s).toArray = .agg #[.int .i64 m.ep,.int .i64 m.size,.int .i64 m.mn,.int .i64 m.gr,.slice s.aN s.lN s.cN,.slice s.aT s.lT s.cT,.slice s.aR s.lR s.cR] := rfl
end Go.Proofs.YtcncbjknfcjnmaaGreat.Tp
namespace Go.Proofs.YtcncbjknfcjnmaaGreat.Tp
open Go.ChangeShapes Go.WideShapes Go.ChangeAt Go.RowKit
def CopyPost (E : TypeId) (size len : Nat) (xs : List Value) (w : World) (e : Ending) (w' : World) : Prop := Below w.heap.size w w' /\ ∃ v,e = .returned v /\ w'.ownsRow w.heap.size E size v len xs /\ (v = .slice none 0 0 ↔ len = 0)
def Lies (w : World) (a : Option Addr) (len : Nat) (xs : List Value) : Prop := len = 0 ∨ ∃ b off,a = some ⟨b,off,none⟩ /\ ∀ j u,xs[j]? = some u -> w.cell? ⟨b,off + j,none⟩ = some u
theorem own_nothing (w : World) (B E size : Nat) : w.ownsRow B E size (.slice none 0 0) 0 [] := ⟨by simp,.inl ⟨rfl,rfl⟩⟩
theorem infoNode8 : (Tryz.prog.info? 72).map (fun i => (i.zero,i.size,i.bytes)) = some (some (.agg #[.int .i64 0,.int .i64 0,.int .i64 0,.int .i64 0,.bool false,.bool false]),6,40) := by kernel_rfl
theorem copiedNode (a : Option Addr) (len cap : Nat) (xs : List Value) (w : World) (hl : xs.length = len * 6) (hm : len <= 1000) (hx : Lies w a len xs) (ha : a = none -> cap = 0) (h1 : ∀ u ∈ xs,u.oneCell' = true) :
  Calls Tryz.prog 59 #[.slice a len cap] w fun e w' => CopyPost 72 6 len xs w e w' := by
 have HM : Hid (len <= 1000) := hm
 clear hm
 have HX : Hid (∀ ad,a = some ad -> ∀ j u,xs[j]? = some u -> w.cell? (ad.add j) = some u) := fun ad had j u hj => by
  rcases hx with h0 | ⟨b,off,rfl,h⟩
  ·have hl0 : xs = [] := List.length_eq_zero_iff.1 (by rw [hl,h0,Nat.zero_mul])
   rw [hl0] at hj
   simp at hj
  ·obtain rfl := Option.some.inj had
   rw [addr_add]
   exact h j u hj
 have HN : Hid (a = none -> len = 0) := fun h => by
  rcases hx with h0 | ⟨b,off,e,_⟩
  ·exact h0
  ·rw [h] at e; simp at e
 have H1 : Hid (∀ u ∈ xs,u.oneCell' = true) := h1
 clear hx h1
 have HL : Hid (xs.length = len * 6) := hl
 clear hl
 obtain ⟨i0,hi,hz0,hz1,hz2⟩ := info_parts infoNode8
 have H0 := own_nothing w w.heap.size 72 6
 cases a with
 | none =>
  obtain rfl := HN.out rfl
  obtain rfl := ha rfl
  have hx0 : xs = [] := List.length_eq_zero_iff.1 (by have := HL.out; omega)
  subst hx0
  go_enter Tryz.func59,Tryz.ntmps59
  go_wp2_with (at_builtin; refine wpList_append_own_none rfl _ _ 22 rfl w.heap.size 72 i0 6 Tryz.underlying22 hi _ _ _ rfl H0 rfl ?_)
  go_ret
  exact ⟨Below.refl _ _,_,rfl,H0,by simp⟩
 | some ad =>
  have HA := HX.out ad rfl
  go_enter Tryz.func59,Tryz.ntmps59
  go_wp2_with (at_builtin; refine wpList_append_own _ rfl _ _ 22 rfl w.heap.size 72 i0 (.agg #[.int .i64 0,.int .i64 0,.int .i64 0,.int .i64 0,.bool false,.bool false]) 6 40 Tryz.underlying22 hi hz0 hz1 hz2 rfl (by decide) _ _ _ rfl H0 ad len cap xs rfl HL.out HA H1.out (by have := HM.out; unfold maxLen; omega) (by have := HM.out; omega) (Nat.le_refl _) ?_)
  intro v7 w7 hown7 hg7 hiff
  have HO : Hid (w7.ownsRow w.heap.size 72 6 v7 len xs) := by unfold Hid; simpa using hown7
  have HI : Hid (v7 = .slice none 0 0 ↔ len = 0) := by unfold Hid; simpa using hiff
  have hb7 : Below w.heap.size w w7 := ⟨hg7.os,hg7.tape,hg7.output,hg7.size,fun k hk => hg7.block k hk (by simp [Value.ownBlock])⟩
  clear hown7 hg7 hiff HA H0
  go_wp2_with fail
  go_ret
  exact ⟨hb7,v7,rfl,HO.out,HI.out⟩
theorem infoTemp8 : (Tryz.prog.info? 59).map (fun i => (i.zero,i.size,i.bytes)) = some (some (.agg #[.int .i64 0,.slice none 0 0]),2,32) := by kernel_rfl
theorem copiedTemp (a : Option Addr) (len cap : Nat) (xs : List Value) (w : World) (hl : xs.length = len * 2) (hm : len <= 1000) (hx : Lies w a len xs) (ha : a = none -> cap = 0) (h1 : ∀ u ∈ xs,u.oneCell' = true) :
  Calls Tryz.prog 60 #[.slice a len cap] w fun e w' => CopyPost 59 2 len xs w e w' := by
 have HM : Hid (len <= 1000) := hm
 clear hm
 have HX : Hid (∀ ad,a = some ad -> ∀ j u,xs[j]? = some u -> w.cell? (ad.add j) = some u) := fun ad had j u hj => by
  rcases hx with h0 | ⟨b,off,rfl,h⟩
  ·have hl0 : xs = [] := List.length_eq_zero_iff.1 (by rw [hl,h0,Nat.zero_mul])
   rw [hl0] at hj
   simp at hj
  ·obtain rfl := Option.some.inj had
   rw [addr_add]
   exact h j u hj
 have HN : Hid (a = none -> len = 0) := fun h => by
  rcases hx with h0 | ⟨b,off,e,_⟩
  ·exact h0
  ·rw [h] at e; simp at e
 have H1 : Hid (∀ u ∈ xs,u.oneCell' = true) := h1
 clear hx h1
 have HL : Hid (xs.length = len * 2) := hl
 clear hl
 obtain ⟨i0,hi,hz0,hz1,hz2⟩ := info_parts infoTemp8
 have H0 := own_nothing w w.heap.size 59 2
 cases a with
 | none =>
  obtain rfl := HN.out rfl
  obtain rfl := ha rfl
  have hx0 : xs = [] := List.length_eq_zero_iff.1 (by have := HL.out; omega)
  subst hx0
  go_enter Tryz.func60,Tryz.ntmps60
  go_wp2_with (at_builtin; refine wpList_append_own_none rfl _ _ 23 rfl w.heap.size 59 i0 2 Tryz.underlying23 hi _ _ _ rfl H0 rfl ?_)
  go_ret
  exact ⟨Below.refl _ _,_,rfl,H0,by simp⟩
 | some ad =>
  have HA := HX.out ad rfl
  go_enter Tryz.func60,Tryz.ntmps60
  go_wp2_with (at_builtin; refine wpList_append_own _ rfl _ _ 23 rfl w.heap.size 59 i0 (.agg #[.int .i64 0,.slice none 0 0]) 2 32 Tryz.underlying23 hi hz0 hz1 hz2 rfl (by decide) _ _ _ rfl H0 ad len cap xs rfl HL.out HA H1.out (by have := HM.out; unfold maxLen; omega) (by have := HM.out; omega) (Nat.le_refl _) ?_)
  intro v7 w7 hown7 hg7 hiff
  have HO : Hid (w7.ownsRow w.heap.size 59 2 v7 len xs) := by unfold Hid; simpa using hown7
  have HI : Hid (v7 = .slice none 0 0 ↔ len = 0) := by unfold Hid; simpa using hiff
  have hb7 : Below w.heap.size w w7 := ⟨hg7.os,hg7.tape,hg7.output,hg7.size,fun k hk => hg7.block k hk (by simp [Value.ownBlock])⟩
  clear hown7 hg7 hiff HA H0
  go_wp2_with fail
  go_ret
  exact ⟨hb7,v7,rfl,HO.out,HI.out⟩
theorem infoInt8 : (Tryz.prog.info? 3).map (fun i => (i.zero,i.size,i.bytes)) = some (some (.int .i64 0),1,8) := by kernel_rfl
theorem copiedInt (a : Option Addr) (len cap : Nat) (xs : List Value) (w : World) (hl : xs.length = len * 1) (hm : len <= 1000) (hx : Lies w a len xs) (ha : a = none -> cap = 0) (h1 : ∀ u ∈ xs,u.oneCell' = true) :
  Calls Tryz.prog 61 #[.slice a len cap] w fun e w' => CopyPost 3 1 len xs w e w' := by
 have HM : Hid (len <= 1000) := hm
 clear hm
 have HX : Hid (∀ ad,a = some ad -> ∀ j u,xs[j]? = some u -> w.cell? (ad.add j) = some u) := fun ad had j u hj => by
  rcases hx with h0 | ⟨b,off,rfl,h⟩
  ·have hl0 : xs = [] := List.length_eq_zero_iff.1 (by rw [hl,h0,Nat.zero_mul])
   rw [hl0] at hj
   simp at hj
  ·obtain rfl := Option.some.inj had
   rw [addr_add]
   exact h j u hj
 have HN : Hid (a = none -> len = 0) := fun h => by
  rcases hx with h0 | ⟨b,off,e,_⟩
  ·exact h0
  ·rw [h] at e; simp at e
 have H1 : Hid (∀ u ∈ xs,u.oneCell' = true) := h1
 clear hx h1
 have HL : Hid (xs.length = len * 1) := hl
 clear hl
 obtain ⟨i0,hi,hz0,hz1,hz2⟩ := info_parts infoInt8
 have H0 := own_nothing w w.heap.size 3 1
 cases a with
 | none =>
  obtain rfl := HN.out rfl
  obtain rfl := ha rfl
  have hx0 : xs = [] := List.length_eq_zero_iff.1 (by have := HL.out; omega)
  subst hx0
  go_enter Tryz.func61,Tryz.ntmps61
  go_wp2_with (at_builtin; refine wpList_append_own_none rfl _ _ 35 rfl w.heap.size 3 i0 1 Tryz.underlying35 hi _ _ _ rfl H0 rfl ?_)
  go_ret
  exact ⟨Below.refl _ _,_,rfl,H0,by simp⟩
 | some ad =>
  have HA := HX.out ad rfl
  go_enter Tryz.func61,Tryz.ntmps61
  go_wp2_with (at_builtin; refine wpList_append_own _ rfl _ _ 35 rfl w.heap.size 3 i0 (.int .i64 0) 1 8 Tryz.underlying35 hi hz0 hz1 hz2 rfl (by decide) _ _ _ rfl H0 ad len cap xs rfl HL.out HA H1.out (by have := HM.out; unfold maxLen; omega) (by have := HM.out; omega) (Nat.le_refl _) ?_)
  intro v7 w7 hown7 hg7 hiff
  have HO : Hid (w7.ownsRow w.heap.size 3 1 v7 len xs) := by unfold Hid; simpa using hown7
  have HI : Hid (v7 = .slice none 0 0 ↔ len = 0) := by unfold Hid; simpa using hiff
  have hb7 : Below w.heap.size w w7 := ⟨hg7.os,hg7.tape,hg7.output,hg7.size,fun k hk => hg7.block k hk (by simp [Value.ownBlock])⟩
  clear hown7 hg7 hiff HA H0
  go_wp2_with fail
  go_ret
  exact ⟨hb7,v7,rfl,HO.out,HI.out⟩
theorem infoTrail8 : (Tryz.prog.info? 53).map (fun i => (i.zero,i.size,i.bytes)) = some (some (.agg #[.int .i64 0,.slice none 0 0]),2,32) := by kernel_rfl
theorem copiedTrail (a : Option Addr) (len cap : Nat) (xs : List Value) (w : World) (hl : xs.length = len * 2) (hm : len <= 1000) (hx : Lies w a len xs) (ha : a = none -> cap = 0) (h1 : ∀ u ∈ xs,u.oneCell' = true) :
  Calls Tryz.prog 62 #[.slice a len cap] w fun e w' => CopyPost 53 2 len xs w e w' := by
 have HM : Hid (len <= 1000) := hm
 clear hm
 have HX : Hid (∀ ad,a = some ad -> ∀ j u,xs[j]? = some u -> w.cell? (ad.add j) = some u) := fun ad had j u hj => by
  rcases hx with h0 | ⟨b,off,rfl,h⟩
  ·have hl0 : xs = [] := List.length_eq_zero_iff.1 (by rw [hl,h0,Nat.zero_mul])
   rw [hl0] at hj
   simp at hj
  ·obtain rfl := Option.some.inj had
   rw [addr_add]
   exact h j u hj
 have HN : Hid (a = none -> len = 0) := fun h => by
  rcases hx with h0 | ⟨b,off,e,_⟩
  ·exact h0
  ·rw [h] at e; simp at e
 have H1 : Hid (∀ u ∈ xs,u.oneCell' = true) := h1
 clear hx h1
 have HL : Hid (xs.length = len * 2) := hl
 clear hl
 obtain ⟨i0,hi,hz0,hz1,hz2⟩ := info_parts infoTrail8
 have H0 := own_nothing w w.heap.size 53 2
 cases a with
 | none =>
  obtain rfl := HN.out rfl
  obtain rfl := ha rfl
  have hx0 : xs = [] := List.length_eq_zero_iff.1 (by have := HL.out; omega)
  subst hx0
  go_enter Tryz.func62,Tryz.ntmps62
  go_wp2_with (at_builtin; refine wpList_append_own_none rfl _ _ 24 rfl w.heap.size 53 i0 2 Tryz.underlying24 hi _ _ _ rfl H0 rfl ?_)
  go_ret
  exact ⟨Below.refl _ _,_,rfl,H0,by simp⟩
 | some ad =>
  have HA := HX.out ad rfl
  go_enter Tryz.func62,Tryz.ntmps62
  go_wp2_with (at_builtin; refine wpList_append_own _ rfl _ _ 24 rfl w.heap.size 53 i0 (.agg #[.int .i64 0,.slice none 0 0]) 2 32 Tryz.underlying24 hi hz0 hz1 hz2 rfl (by decide) _ _ _ rfl H0 ad len cap xs rfl HL.out HA H1.out (by have := HM.out; unfold maxLen; omega) (by have := HM.out; omega) (Nat.le_refl _) ?_)
  intro v7 w7 hown7 hg7 hiff
  have HO : Hid (w7.ownsRow w.heap.size 53 2 v7 len xs) := by unfold Hid; simpa using hown7
  have HI : Hid (v7 = .slice none 0 0 ↔ len = 0) := by unfold Hid; simpa using hiff
  have hb7 : Below w.heap.size w w7 := ⟨hg7.os,hg7.tape,hg7.output,hg7.size,fun k hk => hg7.block k hk (by simp [Value.ownBlock])⟩
  clear hown7 hg7 hiff HA H0
  go_wp2_with fail
  go_ret
  exact ⟨hb7,v7,rfl,HO.out,HI.out⟩
theorem infoSpan8 : (Tryz.prog.info? 55).map (fun i => (i.zero,i.size,i.bytes)) = some (some (.agg #[.int .i64 0,.slice none 0 0]),2,32) := by kernel_rfl
theorem copiedSpan (a : Option Addr) (len cap : Nat) (xs : List Value) (w : World) (hl : xs.length = len * 2) (hm : len <= 1000) (hx : Lies w a len xs) (ha : a = none -> cap = 0) (h1 : ∀ u ∈ xs,u.oneCell' = true) :
  Calls Tryz.prog 63 #[.slice a len cap] w fun e w' => CopyPost 55 2 len xs w e w' := by
 have HM : Hid (len <= 1000) := hm
 clear hm
 have HX : Hid (∀ ad,a = some ad -> ∀ j u,xs[j]? = some u -> w.cell? (ad.add j) = some u) := fun ad had j u hj => by
  rcases hx with h0 | ⟨b,off,rfl,h⟩
  ·have hl0 : xs = [] := List.length_eq_zero_iff.1 (by rw [hl,h0,Nat.zero_mul])
   rw [hl0] at hj
   simp at hj
  ·obtain rfl := Option.some.inj had
   rw [addr_add]
   exact h j u hj
 have HN : Hid (a = none -> len = 0) := fun h => by
  rcases hx with h0 | ⟨b,off,e,_⟩
  ·exact h0
  ·rw [h] at e; simp at e
 have H1 : Hid (∀ u ∈ xs,u.oneCell' = true) := h1
 clear hx h1
 have HL : Hid (xs.length = len * 2) := hl
 clear hl
 obtain ⟨i0,hi,hz0,hz1,hz2⟩ := info_parts infoSpan8
 have H0 := own_nothing w w.heap.size 55 2
 cases a with
 | none =>
  obtain rfl := HN.out rfl
  obtain rfl := ha rfl
  have hx0 : xs = [] := List.length_eq_zero_iff.1 (by have := HL.out; omega)
  subst hx0
  go_enter Tryz.func63,Tryz.ntmps63
  go_wp2_with (at_builtin; refine wpList_append_own_none rfl _ _ 51 rfl w.heap.size 55 i0 2 Tryz.underlying51 hi _ _ _ rfl H0 rfl ?_)
  go_ret
  exact ⟨Below.refl _ _,_,rfl,H0,by simp⟩
 | some ad =>
  have HA := HX.out ad rfl
  go_enter Tryz.func63,Tryz.ntmps63
  go_wp2_with (at_builtin; refine wpList_append_own _ rfl _ _ 51 rfl w.heap.size 55 i0 (.agg #[.int .i64 0,.slice none 0 0]) 2 32 Tryz.underlying51 hi hz0 hz1 hz2 rfl (by decide) _ _ _ rfl H0 ad len cap xs rfl HL.out HA H1.out (by have := HM.out; unfold maxLen; omega) (by have := HM.out; omega) (Nat.le_refl _) ?_)
  intro v7 w7 hown7 hg7 hiff
  have HO : Hid (w7.ownsRow w.heap.size 55 2 v7 len xs) := by unfold Hid; simpa using hown7
  have HI : Hid (v7 = .slice none 0 0 ↔ len = 0) := by unfold Hid; simpa using hiff
  have hb7 : Below w.heap.size w w7 := ⟨hg7.os,hg7.tape,hg7.output,hg7.size,fun k hk => hg7.block k hk (by simp [Value.ownBlock])⟩
  clear hown7 hg7 hiff HA H0
  go_wp2_with fail
  go_ret
  exact ⟨hb7,v7,rfl,HO.out,HI.out⟩
end Go.Proofs.YtcncbjknfcjnmaaGreat.Tp
namespace Go.Proofs.YtcncbjknfcjnmaaGreat.Tp
open Go.ChangeShapes Go.WideShapes Go.ChangeAt Go.RowKit
def ndsCells (l : List Nd) : List Value := l.flatMap ndCells
theorem ndsCells_len (l : List Nd) : (ndsCells l).length = l.length * 6 := by
 induction l with
 | nil => rfl
 | cons x l ih =>
  have e : ndsCells (x :: l) = ndCells x ++ ndsCells l := rfl
  rw [e,List.length_append,ih,List.length_cons]
  show 6 + _ = _
  omega
theorem ndsCells_get (l : List Nd) (k j : Nat) (h : k < l.length) (hj : j < 6) : (ndsCells l)[k * 6 + j]? = (ndCells (l.getD k nd0))[j]? := by
 induction l generalizing k with
 | nil => simp at h
 | cons x l ih =>
  have e : ndsCells (x :: l) = ndCells x ++ ndsCells l := rfl
  have e6 : (ndCells x).length = 6 := rfl
  rw [e]
  cases k with
  | zero =>
   rw [List.getElem?_append_left (by omega),Nat.zero_mul,Nat.zero_add]
   rfl
  | succ k =>
   rw [List.getElem?_append_right (by omega),e6,show (k + 1) * 6 + j - 6 = k * 6 + j by omega,ih k (by simpa using h)]
   rfl
theorem nds_lies {w : World} {a : Option Addr} {len cap : Nat} {ls : List Nd} (h : NdsAt w a len cap ls) : Lies w a len (ndsCells ls) := by
 rcases h.2.2.2 with h0 | ⟨b,off,e,hc⟩
 ·exact .inl h0
 ·refine .inr ⟨b,off,e,fun j u hj => ?_⟩
  have hl := h.1
  have hlt : j < (ndsCells ls).length := (List.getElem?_eq_some_iff.1 hj).1
  rw [ndsCells_len] at hlt
  have hg := ndsCells_get ls (j / 6) (j % 6) (by omega) (by omega)
  rw [show j / 6 * 6 + j % 6 = j by omega,hj] at hg
  obtain ⟨n0,n1,n2,n3,n4,n5⟩ := hc (j / 6) (by omega)
  have hj6 : off + j = off + j / 6 * 6 + j % 6 := by omega
  have hr : j % 6 < 6 := by omega
  rw [hj6]
  generalize j % 6 = r at *
  have hcase : r = 0 ∨ r = 1 ∨ r = 2 ∨ r = 3 ∨ r = 4 ∨ r = 5 := by omega
  rcases hcase with rfl | rfl | rfl | rfl | rfl | rfl
  ·exact n0.trans hg.symm
  ·exact n1.trans hg.symm
  ·exact n2.trans hg.symm
  ·exact n3.trans hg.symm
  ·exact n4.trans hg.symm
  ·exact n5.trans hg.symm
theorem nds_own {w : World} {B n : Nat} {a : Option Addr} {cap : Nat} {ls : List Nd} (h : w.ownsRow B 72 6 (.slice a n cap) n (ndsCells ls)) (hl : ls.length = n) : NdsAt w a n cap ls /\ (a = none -> cap = 0) := by
 rcases h.2 with ⟨e,h0⟩ | ⟨g,cap',cur,hv,hB,hh,hcc,hcm,-⟩
 ·injection e with e1 e2 e3
  subst e1 e2 e3
  exact ⟨⟨hl,Nat.le_refl _,Nat.zero_le _,.inl rfl⟩,fun _ => rfl⟩
 ·injection hv with ha hn hc'
  subst ha
  refine ⟨⟨hl,by omega,by omega,.inr ⟨g,0,rfl,fun i hi => ?_⟩⟩,fun h => by simp at h⟩
  have key : ∀ j,j < 6 -> w.cell? ⟨g,i * 6 + j,none⟩ = (ndCells (ls.getD i nd0))[j]? := fun j hj => by
   rw [h.cellAt (i * 6 + j) (by omega),ndsCells_get ls i j (by omega) hj]
  rw [Nat.zero_add]
  exact ⟨key 0 (by omega),key 1 (by omega),key 2 (by omega),key 3 (by omega),key 4 (by omega),key 5 (by omega)⟩
theorem ndsCells_one (l : List Nd) : ∀ u ∈ ndsCells l,u.oneCell' = true := fun u hu => by
 obtain ⟨x,_,hx⟩ := List.mem_flatMap.1 hu
 simp [ndCells] at hx
 rcases hx with rfl | rfl | rfl | rfl | rfl | rfl <;> rfl
def barePairs (l : List Tr) : List (Int × Value) := l.map fun t => (t.since,.slice none 0 0)
structure BareAt (w : World) (m : Mp) (s : MV) : Prop where
 nds : NdsAt w s.aN s.lN s.cN m.nds
 nilN : s.aN = none -> s.cN = 0
 aT : s.aT = none
 lT : s.lT = 0
 cT : s.cT = 0
 tms : m.tms = []
 past : ∀ t ∈ m.trs,t.past = []
 trl : m.trs.length = s.lR
 cap : s.lR <= s.cR /\ s.cR <= maxLen
 nilR : s.aR = none -> s.cR = 0
 trs : Lies w s.aR s.lR (pairCells (barePairs m.trs))
theorem Lies.below {w w' : World} {a : Option Addr} {len : Nat} {xs : List Value} (h : Lies w a len xs) (hb : Below w.heap.size w w') : Lies w' a len xs := by
 rcases h with h | ⟨b,off,e,h⟩
 ·exact .inl h
 ·refine .inr ⟨b,off,e,fun j u hj => ?_⟩
  have h0 := h j u hj
  exact (hb.cell (p := ⟨b,off + j,none⟩) (World.block_lt_of_cell? w _ h0)).trans h0
theorem own_caps {w : World} {B T sz n : Nat} {a : Option Addr} {cap : Nat} {xs : List Value} (h : w.ownsRow B T sz (.slice a n cap) n xs) : n <= cap /\ cap <= maxLen /\ (a = none -> cap = 0) := by
 rcases h.2 with ⟨e,h0⟩ | ⟨g,cap',cur,hv,hB,hh,hcc,hcm,-⟩
 ·injection e with e1 e2 e3
  subst e1 e2 e3
  exact ⟨Nat.le_refl _,Nat.zero_le _,fun _ => rfl⟩
 ·injection hv with ha hn hc'
  subst ha
  exact ⟨by omega,by omega,fun h => by simp at h⟩
theorem own_lies {w : World} {B T sz n : Nat} {a : Option Addr} {cap : Nat} {xs : List Value} (h : w.ownsRow B T sz (.slice a n cap) n xs) : Lies w a n xs := by
 rcases h.2 with ⟨e,h0⟩ | ⟨g,cap',cur,hv,hB,hh,hcc,hcm,-⟩
 ·exact .inl h0
 ·injection hv with ha hn hc'
  subst ha
  refine .inr ⟨g,0,rfl,fun j u hj => ?_⟩
  have hlt : j < xs.length := (List.getElem?_eq_some_iff.1 hj).1
  rw [Nat.zero_add,h.cellAt j (by rw [<- h.1]; exact hlt)]
  exact hj
theorem BareAt.map {w : World} {m : Mp} {s : MV} (h : BareAt w m s) : MapAt w m s := by
 refine ⟨h.nds,h.nilN,?_,?_⟩
 ·rw [h.aT,h.lT,h.cT,h.tms]
  exact TmsAt.nil w
 ·refine ⟨h.trl,h.cap.1,h.cap.2,h.nilR,?_⟩
  rcases h.trs with h0 | ⟨b,off,e,hc⟩
  ·exact .inl h0
  ·refine .inr ⟨b,off,e,fun i hi => ?_⟩
   have hl := h.trl
   have hb : i < (barePairs m.trs).length := by unfold barePairs; rw [List.length_map]; omega
   obtain ⟨g0,g1⟩ := pairCells_get (barePairs m.trs) i hb
   have hx : m.trs.getD i tr0 = m.trs[i]'(by omega) := by simp [show i < m.trs.length by omega]
   have hp : (m.trs.getD i tr0).past = [] := by rw [hx]; exact h.past _ (List.getElem_mem _)
   have e0 : (barePairs m.trs)[i] = ((m.trs.getD i tr0).since,.slice none 0 0) := by rw [hx]; simp [barePairs]
   rw [e0] at g0 g1
   exact ⟨hc _ _ g0,none,0,0,by rw [Nat.add_assoc]; exact hc _ _ g1,by rw [hp]; exact TmsAt.nil w⟩
theorem bare_new {w : World} {p n : Nat} (s l : Int) (h8 : n <= 8) (h : w.ownsRow 0 53 2 (.slice (some ⟨p,0,none⟩) n n) n (pairCells (List.replicate n (0,.slice none 0 0)))) : BareAt w (newM s l n) ⟨none,0,0,none,0,0,some ⟨p,0,none⟩,n,n⟩ := by
 have et : (newM s l n).trs = List.replicate n tr0 := by simp [newM]
 have eb : barePairs (newM s l n).trs = List.replicate n (0,.slice none 0 0) := by rw [et]; simp [barePairs,tr0]
 refine ⟨NdsAt.nil _,fun _ => rfl,rfl,rfl,rfl,rfl,?_,?_,⟨Nat.le_refl _,by unfold maxLen; show n <= _; omega⟩,fun h => by simp at h,?_⟩
 ·intro t ht
  rw [et] at ht
  rw [(List.mem_replicate.1 ht).2]
  rfl
 ·rw [et]; simp
 ·rw [eb]
  exact own_lies h
end Go.Proofs.YtcncbjknfcjnmaaGreat.Tp
namespace Go.Proofs.YtcncbjknfcjnmaaGreat.Tp
open Go.ChangeShapes Go.WideShapes Go.ChangeAt Go.RowKit
def coversB (z n : Int) : Bool := z == 0 || z == n
theorem covers_any (z n : Int) (w : World) : Calls Tryz.prog 203 #[.int .i64 z,.int .i64 n] w fun e w' => e = .returned (.bool (coversB z n)) /\ w' = w := by
 by_cases h1 : z = 0
 ·have hr : coversB z n = true := by simp [coversB,h1]
  rw [hr]
  subst h1
  go_enter Tryz.func203,Tryz.ntmps203
  go_wp2
  go_ret
  exact ⟨rfl,rfl⟩
 ·have d1 : (z == 0) = false := by simpa using h1
  by_cases h2 : z = n
  ·have hr : coversB z n = true := by simp [coversB,h2]
   rw [hr]
   subst h2
   go_enter Tryz.func203,Tryz.ntmps203
   go_wp2
   go_ret
   exact ⟨rfl,rfl⟩
  ·have hr : coversB z n = false := by simp [coversB,h1,h2]
   have d2 : (z == n) = false := by simpa using h2
   rw [hr]
   go_enter Tryz.func203,Tryz.ntmps203
   go_wp2
   go_ret
   exact ⟨rfl,rfl⟩
def wtN (x : Nd) : Int := if x.inn then x.weight else 0
theorem weight_any (c1 c2 c3 c4 : Int) (c5 c6 : Bool) (w : World) : Calls Tryz.prog 204 #[.agg #[.int .i64 c1,.int .i64 c2,.int .i64 c3,.int .i64 c4,.bool c5,.bool c6]] w fun e w' => e = .returned (.int .i64 (wtN ⟨c1,c2,c3,c4,c5,c6⟩)) /\ Grown w w' := by
 have HB : Hid (Grown w (w.alloc (.cells #[.int .i64 c1,.int .i64 c2,.int .i64 c3,.int .i64 c4,.bool c5,.bool c6] 72))) := grown_alloc _ _
 cases c6 with
 | true =>
  go_enter Tryz.func204,Tryz.ntmps204
  go_wp2
  go_ret
  exact ⟨rfl,HB.out⟩
 | false =>
  go_enter Tryz.func204,Tryz.ntmps204
  go_wp2
  go_ret
  exact ⟨rfl,HB.out⟩
theorem ret_spot {fn : Func} {p : Tmp} (h : fn.results = #[.cell p 200]) (tmps : Array Value) (w : World) (b : Nat) (x y : Value) (hp : tmps.getD p undef = .pointer (some ⟨b,0,none⟩))
  (h0 : w.cell? ⟨b,0,none⟩ = some x) (h1 : w.cell? ⟨b,1,none⟩ = some y) : (results fn tmps).run Tryz.prog w = .ok (.agg #[x,y]) w := by
 simp only [Array.getD_eq_getD_getElem?] at hp
 simp only [results,h]
 simp [go_sem,hp,h0,h1]
set_option maxRecDepth 60000 in
theorem zoneOf_any (c1 c2 c3 c4 : Int) (c5 c6 : Bool) (w : World) : Calls Tryz.prog 180 #[.agg #[.int .i64 c1,.int .i64 c2,.int .i64 c3,.int .i64 c4,.bool c5,.bool c6]] w fun e w' => e = .returned (.agg #[.int .i64 c2,.int .i64 c2]) /\ Grown w w' := by
 have HB : Hid (Grown w ((w.alloc (.cells #[.int .i64 c1,.int .i64 c2,.int .i64 c3,.int .i64 c4,.bool c5,.bool c6] 72)).alloc (.cells #[.int .i64 c2,.int .i64 c2] 200))) := grown2 (grown_alloc _ _) (grown_alloc _ _)
 go_enter Tryz.func180,Tryz.ntmps180
 go_wp2
 try simp only [Exit.inBlock,Exit.then]
 refine bodyPost_ret (ret_spot rfl _ _ (w.heap.size + 1) (.int .i64 c2) (.int .i64 c2) rfl (by simp) (by simp)) rfl ?_
 exact ⟨rfl,HB.out⟩
set_option maxRecDepth 60000 in
theorem leafOf_any (c1 c2 c3 c4 : Int) (c5 c6 : Bool) (w : World) : Calls Tryz.prog 182 #[.agg #[.int .i64 c1,.int .i64 c2,.int .i64 c3,.int .i64 c4,.bool c5,.bool c6]] w fun e w' => e = .returned (.agg #[.int .i64 c1,.int .i64 c2]) /\ Grown w w' := by
 have HB : Hid (Grown w ((w.alloc (.cells #[.int .i64 c1,.int .i64 c2,.int .i64 c3,.int .i64 c4,.bool c5,.bool c6] 72)).alloc (.cells #[.int .i64 c1,.int .i64 c2] 200))) := grown2 (grown_alloc _ _) (grown_alloc _ _)
 go_enter Tryz.func182,Tryz.ntmps182
 go_wp2
 try simp only [Exit.inBlock,Exit.then]
 refine bodyPost_ret (ret_spot rfl _ _ (w.heap.size + 1) (.int .i64 c1) (.int .i64 c2) rfl (by simp) (by simp)) rfl ?_
 exact ⟨rfl,HB.out⟩
set_option maxRecDepth 60000 in
theorem rackOf_any (c1 c2 c3 c4 : Int) (c5 c6 : Bool) (w : World) : Calls Tryz.prog 181 #[.agg #[.int .i64 c1,.int .i64 c2,.int .i64 c3,.int .i64 c4,.bool c5,.bool c6]] w fun e w' => e = .returned (.agg #[.int .i64 c3,.int .i64 c2]) /\ Grown w w' := by
 have HB : Hid (Grown w ((w.alloc (.cells #[.int .i64 c1,.int .i64 c2,.int .i64 c3,.int .i64 c4,.bool c5,.bool c6] 72)).alloc (.cells #[.int .i64 c3,.int .i64 c2] 200))) := grown2 (grown_alloc _ _) (grown_alloc _ _)
 go_enter Tryz.func181,Tryz.ntmps181
 go_wp2
 try simp only [Exit.inBlock,Exit.then]
 refine bodyPost_ret (ret_spot rfl _ _ (w.heap.size + 1) (.int .i64 c3) (.int .i64 c2) rfl (by simp) (by simp)) rfl ?_
 exact ⟨rfl,HB.out⟩
def cmpI (x y : Int) : Int := if x < y then -1 else if y < x then 1 else 0
theorem isNaN_any (x : Int) (w : World) : Calls Tryz.prog 111 #[.int .i64 x] w fun e w' => e = .returned (.bool false) /\ w' = w := by
 go_enter Tryz.func111,Tryz.ntmps111
 go_wp2
 go_ret
 exact ⟨rfl,rfl⟩
set_option maxHeartbeats 1000000 in
theorem cmpInt_any (x y : Int) (w : World) : Calls Tryz.prog 91 #[.int .i64 x,.int .i64 y] w fun e w' => e = .returned (.int .i64 (cmpI x y)) /\ w' = w := by
 by_cases h1 : x < y
 ·have hc : cmpI x y = -1 := by unfold cmpI; rw [if_pos h1]
  rw [hc]
  go_enter Tryz.func91,Tryz.ntmps91
  go_wp2_with (go_at_call 111; refine (isNaN_any _ _).mono ?_; rintro e w' ⟨rfl,rfl⟩)
  go_ret
  exact ⟨rfl,rfl⟩
 ·have d1 : decide (x < y) = false := decide_eq_false h1
  by_cases h2 : y < x
  ·have hc : cmpI x y = 1 := by unfold cmpI; rw [if_neg h1,if_pos h2]
   rw [hc]
   go_enter Tryz.func91,Tryz.ntmps91
   go_wp2_with (go_at_call 111; refine (isNaN_any _ _).mono ?_; rintro e w' ⟨rfl,rfl⟩)
   go_ret
   exact ⟨rfl,rfl⟩
  ·have d2 : decide (y < x) = false := decide_eq_false h2
   have hc : cmpI x y = 0 := by unfold cmpI; rw [if_neg h1,if_neg h2]
   rw [hc]
   go_enter Tryz.func91,Tryz.ntmps91
   go_wp2_with (go_at_call 111; refine (isNaN_any _ _).mono ?_; rintro e w' ⟨rfl,rfl⟩)
   go_ret
   exact ⟨rfl,rfl⟩
def orI (x y : Int) : Int := if x = 0 then y else x
set_option maxHeartbeats 1000000 in
theorem or_any (g : Nat) (x y : Int) (w : World) (h0 : w.cell? ⟨g,0,none⟩ = some (.int .i64 x)) (h1 : w.cell? ⟨g,1,none⟩ = some (.int .i64 y)) : Calls Tryz.prog 206 #[.slice (some ⟨g,0,none⟩) 2 2] w fun e w' => e = .returned (.int .i64 (orI x y)) /\ w' = w := by
 have HO : Hid (orI x y = if x = 0 then y else x) := rfl
 generalize orI x y = r at *
 go_enter Tryz.func206,Tryz.ntmps206
 go_wp2_with fail
 go_loopw [8] (fun i wr => ∃ k : Nat,k <= 2 /\ i = .int .i64 k /\ wr = w /\ (1 <= k -> x = 0) /\ (2 <= k -> y = 0)) (fun i _ => 2 - (intOf i).toNat)
 case atStart => exact ⟨0,by omega,rfl,rfl,by omega,by omega⟩
 case round =>
  obtain ⟨k,hk,rfl,rfl,hx,hy⟩ := hrel
  have hk3 : k = 0 ∨ k = 1 ∨ k = 2 := by omega
  rcases hk3 with rfl | rfl | rfl
  ·clear hx hy
   by_cases hx0 : x = 0
   ·subst hx0
    go_wp2_with fail
    exact ⟨⟨1,by omega,by go_num,by simp,by simp,by omega⟩,by simp [intOf]⟩
   ·have hd : (x == 0) = false := by simpa using hx0
    have HR : Hid (x = r) := by show _ = _; rw [HO.out,if_neg hx0]
    go_wp2_with fail
    go_ret
    exact ⟨ret_int HR.out,rfl⟩
  ·obtain rfl := hx (by omega)
   clear hx hy
   by_cases hy0 : y = 0
   ·subst hy0
    go_wp2_with fail
    exact ⟨⟨2,by omega,by go_num,by simp,by simp,by simp⟩,by simp [intOf]⟩
   ·have hd : (y == 0) = false := by simpa using hy0
    have HR : Hid (y = r) := by show _ = _; rw [HO.out,if_pos rfl]
    go_wp2_with fail
    go_ret
    exact ⟨ret_int HR.out,rfl⟩
  ·obtain rfl := hx (by omega)
   obtain rfl := hy (by omega)
   have HR : Hid (0 = r) := by show _ = _; rw [HO.out,if_pos rfl]
   clear hx hy
   go_wp2_with fail
   go_ret
   exact ⟨ret_int HR.out,rfl⟩
abbrev Ld := Int × Int × Int
def ld0 : Ld := (0,0,0)
def ldCells (x : Ld) : List Value := [.int .i64 x.1,.int .i64 x.2.1,.int .i64 x.2.2]
def cfL (a b : Ld) : Int := orI (cmpI a.1 b.1) (cmpI a.2.1 b.2.1)
set_option maxHeartbeats 1000000 in
set_option maxRecDepth 60000 in
theorem compare_any (a b : Ld) (W : World) : Calls Tryz.prog 198 #[.agg (ldCells a).toArray,.agg (ldCells b).toArray] W fun e w' => e = .returned (.int .i64 (cfL a b)) /\ Grown W w' := by
 obtain ⟨a1,a2,a3⟩ := a
 obtain ⟨b1,b2,b3⟩ := b
 show Calls Tryz.prog 198 #[.agg #[.int .i64 a1,.int .i64 a2,.int .i64 a3],.agg #[.int .i64 b1,.int .i64 b2,.int .i64 b3]] W _
 have HC : Hid (cfL (a1,a2,a3) (b1,b2,b3) = orI (cmpI a1 b1) (cmpI a2 b2)) := rfl
 have H1 : Hid (∀ w : World,Calls Tryz.prog 91 #[.int .i64 a1,.int .i64 b1] w fun e w' => e = .returned (.int .i64 (cmpI a1 b1)) /\ w' = w) := cmpInt_any a1 b1
 have H2 : Hid (∀ w : World,Calls Tryz.prog 91 #[.int .i64 a2,.int .i64 b2] w fun e w' => e = .returned (.int .i64 (cmpI a2 b2)) /\ w' = w) := cmpInt_any a2 b2
 generalize cfL (a1,a2,a3) (b1,b2,b3) = r at *
 generalize cmpI a1 b1 = p at *
 generalize cmpI a2 b2 = q at *
 have HG : Hid (Grown W ((W.alloc (.cells #[.int .i64 a1,.int .i64 a2,.int .i64 a3] 212)).alloc (.cells #[.int .i64 b1,.int .i64 b2,.int .i64 b3] 212))) := grown2 (grown_alloc _ _) (grown_alloc _ _)
 go_enter Tryz.func198,Tryz.ntmps198
 go_wp2_with fail
 generalize hw1 : (W.alloc (.cells #[.int .i64 a1,.int .i64 a2,.int .i64 a3] 212)).alloc (.cells #[.int .i64 b1,.int .i64 b2,.int .i64 b3] 212) = w1 at *
 have y0 : w1.cell? ⟨W.heap.size,0,none⟩ = some (.int .i64 a1) := by rw [<- hw1]; simp
 have y1 : w1.cell? ⟨W.heap.size,1,none⟩ = some (.int .i64 a2) := by rw [<- hw1]; simp
 have y2 : w1.cell? ⟨W.heap.size + 1,0,none⟩ = some (.int .i64 b1) := by rw [<- hw1]; simp
 have y3 : w1.cell? ⟨W.heap.size + 1,1,none⟩ = some (.int .i64 b2) := by rw [<- hw1]; simp
 have hs : W.heap.size + 1 < w1.heap.size := by rw [<- hw1]; simp
 clear hw1
 have HK : Hid (∀ w',Below w1.heap.size w1 w' -> ((w'.cell? ⟨W.heap.size,0,none⟩ = some (.int .i64 a1) /\ w'.cell? ⟨W.heap.size,1,none⟩ = some (.int .i64 a2)) /\ (w'.cell? ⟨W.heap.size + 1,0,none⟩ = some (.int .i64 b1) /\ w'.cell? ⟨W.heap.size + 1,1,none⟩ = some (.int .i64 b2)) /\ Below w1.heap.size w1 w')) := fun w' hb =>
  ⟨⟨(hb.cell (p := ⟨W.heap.size,0,none⟩) (by show W.heap.size < _; omega)).trans y0,(hb.cell (p := ⟨W.heap.size,1,none⟩) (by show W.heap.size < _; omega)).trans y1⟩,⟨(hb.cell (p := ⟨W.heap.size + 1,0,none⟩) hs).trans y2,(hb.cell (p := ⟨W.heap.size + 1,1,none⟩) hs).trans y3⟩,hb⟩
 have HOR : Hid (Calls Tryz.prog 206 #[.slice (some ⟨w1.heap.size,0,none⟩) 2 2] (w1.drew.alloc (.cells #[.int .i64 p,.int .i64 q] 3)) fun e w' => e = .returned (.int .i64 (orI p q)) /\ w' = w1.drew.alloc (.cells #[.int .i64 p,.int .i64 q] 3)) := or_any _ p q _ (by have := cells_lit w1.drew [.int .i64 p,.int .i64 q] 3 0 _ rfl; rw [addr_add] at this; exact this) (by have := cells_lit w1.drew [.int .i64 p,.int .i64 q] 3 1 _ rfl; rw [addr_add] at this; exact this)
 generalize orI p q = z at *
 clear y0 y1 y2 y3
 go_region_held3 (fun w' => (w'.cell? ⟨W.heap.size,0,none⟩ = some (.int .i64 a1) /\ w'.cell? ⟨W.heap.size,1,none⟩ = some (.int .i64 a2)) /\ (w'.cell? ⟨W.heap.size + 1,0,none⟩ = some (.int .i64 b1) /\ w'.cell? ⟨W.heap.size + 1,1,none⟩ = some (.int .i64 b2)) /\ Below w1.heap.size w1 w')
  (first | exact HK.out _ (below_drew _) | (go_split_ands; exact HK.out _ (by assumption)) | (go_split_ands; exact HK.out _ (below2 (by assumption) (below_alloc _ _))))
  ((first
   | (go_at_call 206; refine HOR.out.mono ?_; rintro en w6 ⟨rfl,rfl⟩)
   | (go_at_call_of 91 a1; refine (H1.out _).mono ?_; rintro en w6 ⟨rfl,rfl⟩)
   | (go_at_call_of 91 a2; refine (H2.out _).mono ?_; rintro en w6 ⟨rfl,rfl⟩)))
 all_goals
  have HG2 : Hid (Grown W (w1.drew.alloc (.cells #[.int .i64 p,.int .i64 q] 3))) := grown2 HG.out (grown2 ⟨1,#[],by rw [Go.Sort.grow_empty]; rfl⟩ (grown_alloc _ _))
  clear HK H1 H2 HOR HG
  go_wp2
  go_ret
  exact ⟨ret_int HC.out.symm,HG2.out⟩
end Go.Proofs.YtcncbjknfcjnmaaGreat.Tp
