/-
  The contract of compare: which of two lots is the better one.
  The contract of slices.MinFunc over lots.
  The contract of Best: who is drawn.
-/
import Derived.Test.YtcncbjknfcjnmaaGreatPr09
import Derived.Handy
namespace Go.Proofs.YtcncbjknfcjnmaaGreat.Dr
open Go.ChangeShapes Go.WideShapes Go.ChangeAt Go.RowKit
def cmpI (x y : Int) : Int := if x < y then -1 else if y < x then 1 else 0
theorem isNaN_any (x : Int) (w : World) : Calls Tryz.prog 111 #[.int .i64 x] w fun e w' => e = .returned (.bool false) /\ w' = w := by
 go_enter Tryz.func111,Tryz.ntmps111
 go_wp2
 go_ret
 exact ⟨rfl,rfl⟩
set_option maxHeartbeats 1000000 in
theorem cmpInt_any (x y : Int) (w : World) : Calls Tryz.prog 91 #[.int .i64 x,.int .i64 y] w fun e w' => e = .returned (.int .i64 (cmpI x y)) /\ w' = w := by
 by_cases h1 : x < y
 ·have hc : cmpI x y = -1 := by unfold cmpI; rw [if_pos h1]
  rw [hc]
  go_enter Tryz.func91,Tryz.ntmps91
  go_wp2_with (go_at_call 111; refine (isNaN_any _ _).mono ?_; rintro e w' ⟨rfl,rfl⟩)
  go_ret
  exact ⟨rfl,rfl⟩
 ·have d1 : decide (x < y) = false := decide_eq_false h1
  by_cases h2 : y < x
  ·have hc : cmpI x y = 1 := by unfold cmpI; rw [if_neg h1,if_pos h2]
   rw [hc]
   go_enter Tryz.func91,Tryz.ntmps91
   go_wp2_with (go_at_call 111; refine (isNaN_any _ _).mono ?_; rintro e w' ⟨rfl,rfl⟩)
   go_ret
   exact ⟨rfl,rfl⟩
  ·have d2 : decide (y < x) = false := decide_eq_false h2
   have hc : cmpI x y = 0 := by unfold cmpI; rw [if_neg h1,if_neg h2]
   rw [hc]
   go_enter Tryz.func91,Tryz.ntmps91
   go_wp2_with (go_at_call 111; refine (isNaN_any _ _).mono ?_; rintro e w' ⟨rfl,rfl⟩)
   go_ret
   exact ⟨rfl,rfl⟩
def cfC (key : Nat) (a b : Ch) : Int :=
 if betterB (costOf key a.1) a.2 (costOf key b.1) b.2 then -1 else if betterB (costOf key b.1) b.2 (costOf key a.1) a.2 then 1 else cmpI a.1 b.1
theorem betterB_in {p q x y : Int} (h1 : 0 <= p /\ p < 1114112) (h2 : 0 <= q /\ q < 1114112) (hx : 1 <= x /\ x <= 65536) (hy : 1 <= y /\ y <= 65536) : betterB p x q y = decide (p * y < q * x) := by
 have e1 := (costB_iff p).2 ⟨h1.1,by omega⟩
 have e2 := (costB_iff q).2 ⟨h2.1,by omega⟩
 have e3 := (weightB_iff x).2 ⟨hx.1,by omega⟩
 have e4 := (weightB_iff y).2 ⟨hy.1,by omega⟩
 unfold betterB
 rw [e1,e2,e3,e4]
 simp only [Bool.true_and]
theorem betterB_lots (key : Nat) {a b : Ch} (ha : 1 <= a.2 /\ a.2 <= 65536) (hb : 1 <= b.2 /\ b.2 <= 65536) : betterB (costOf key a.1) a.2 (costOf key b.1) b.2 = decide (costOf key a.1 * b.2 < costOf key b.1 * a.2) :=
 betterB_in (costOf_bound key a.1) (costOf_bound key b.1) ha hb
theorem cfC_lt (key : Nat) {a b : Ch} (ha : 1 <= a.2 /\ a.2 <= 65536) (hb : 1 <= b.2 /\ b.2 <= 65536) : cfC key a b < 0 ↔ ltC (costOf key) a b := by
 unfold cfC ltC cmpI
 rw [betterB_lots key ha hb,betterB_lots key hb ha]
 generalize costOf key a.1 * b.2 = x
 generalize costOf key b.1 * a.2 = y
 by_cases h1 : x < y
 ·simp [h1]
 ·by_cases h2 : y < x
  ·have : ¬ x = y := by omega
   simp [h1,h2,this]
  ·have : x = y := by omega
   simp only [decide_eq_true_eq,if_neg h1,if_neg h2]
   split
   ·rename_i h
    simp [this,h]
   ·rename_i h
    split <;> (simp [h]; omega)
set_option maxHeartbeats 1000000 in
set_option maxRecDepth 60000 in
theorem compare_any (key : Nat) (a b : Ch) (W : World) : Calls Tryz.prog 164 #[.agg (lotCells key a).toArray,.agg (lotCells key b).toArray] W fun e w' => e = .returned (.int .i64 (cfC key a b)) /\ Grown W w' := by
 obtain ⟨a1,a2⟩ := a
 obtain ⟨b1,b2⟩ := b
 show Calls Tryz.prog 164 #[.agg #[.int .i64 a1,.int .i64 a2,.int .i64 (costOf key a1)],.agg #[.int .i64 b1,.int .i64 b2,.int .i64 (costOf key b1)]] W _
 have HC : Hid (cfC key (a1,a2) (b1,b2) = if betterB (costOf key a1) a2 (costOf key b1) b2 then -1 else if betterB (costOf key b1) b2 (costOf key a1) a2 then 1 else cmpI a1 b1) := rfl
 generalize costOf key a1 = p at *
 generalize costOf key b1 = q at *
 generalize cfC key (a1,a2) (b1,b2) = r at *
 have HG : Hid (Grown W ((W.alloc (.cells #[.int .i64 a1,.int .i64 a2,.int .i64 p] 185)).alloc (.cells #[.int .i64 b1,.int .i64 b2,.int .i64 q] 185))) := grown2 (grown_alloc _ _) (grown_alloc _ _)
 have hI := fun w => cmpInt_any a1 b1 w
 generalize cmpI a1 b1 = m at *
 have HI : Hid (∀ w : World,Calls Tryz.prog 91 #[.int .i64 a1,.int .i64 b1] w fun e w' => e = .returned (.int .i64 m) /\ w' = w) := hI
 clear hI
 cases h1 : betterB p a2 q b2 with
 | true =>
  have HR : Hid (r = -1) := by show _ = _; rw [HC.out,h1]; rfl
  clear HC
  go_enter Tryz.func164,Tryz.ntmps164
  go_wp2_with (go_at_call 176; refine (better_any _ _ _ _ _).mono ?_; rintro e w' ⟨rfl,rfl⟩)
  go_ret
  exact ⟨ret_int HR.out.symm,HG.out⟩
 | false =>
  cases h2 : betterB q b2 p a2 with
  | true =>
   have HR : Hid (r = 1) := by show _ = _; rw [HC.out,h1,h2]; rfl
   clear HC
   go_enter Tryz.func164,Tryz.ntmps164
   go_wp2_with (go_at_call 176; refine (better_any _ _ _ _ _).mono ?_; rintro e w' ⟨rfl,rfl⟩)
   go_ret
   exact ⟨ret_int HR.out.symm,HG.out⟩
  | false =>
   have HR : Hid (r = m) := by show _ = _; rw [HC.out,h1,h2]; rfl
   clear HC
   go_enter Tryz.func164,Tryz.ntmps164
   go_wp2_with (first | (go_at_call 91; refine (HI.out _).mono ?_; rintro e w' ⟨rfl,rfl⟩) | (go_at_call 176; refine (better_any _ _ _ _ _).mono ?_; rintro e w' ⟨rfl,rfl⟩))
   go_ret
   exact ⟨ret_int HR.out.symm,HG.out⟩
end Go.Proofs.YtcncbjknfcjnmaaGreat.Dr
namespace Go.Proofs.YtcncbjknfcjnmaaGreat.Dr
open Go.ChangeShapes Go.WideShapes Go.ChangeAt Go.RowKit
def LotsAt (key : Nat) (w : World) (g : Nat) (L : List Ch) : Prop := ∀ i,i < L.length -> w.cell? ⟨g,i * 3,none⟩ = some (.int .i64 (L.getD i ch0).1) /\ w.cell? ⟨g,i * 3 + 1,none⟩ = some (.int .i64 (L.getD i ch0).2) /\ w.cell? ⟨g,i * 3 + 2,none⟩ = some (.int .i64 (costOf key (L.getD i ch0).1))
theorem LotsAt.below {key : Nat} {w w' : World} {g : Nat} {L : List Ch} (h : LotsAt key w g L) (hg : g < w.heap.size) (hb : Below w.heap.size w w') : LotsAt key w' g L := fun i hi => by
 obtain ⟨h0,h1,h2⟩ := h i hi
 exact ⟨(hb.cell (p := ⟨g,i * 3,none⟩) hg).trans h0,(hb.cell (p := ⟨g,i * 3 + 1,none⟩) hg).trans h1,(hb.cell (p := ⟨g,i * 3 + 2,none⟩) hg).trans h2⟩
theorem cellsLot_get (key : Nat) (L : List Ch) : ∀ i,i < L.length -> (cellsLot key L)[i * 3]? = some (.int .i64 (L.getD i ch0).1) /\ (cellsLot key L)[i * 3 + 1]? = some (.int .i64 (L.getD i ch0).2) /\ (cellsLot key L)[i * 3 + 2]? = some (.int .i64 (costOf key (L.getD i ch0).1)) := by
 induction L with
 | nil => intro i h; simp at h
 | cons c L ih =>
  intro i h
  cases i with
  | zero => exact ⟨rfl,rfl,rfl⟩
  | succ i =>
   have h1 := ih i (by simpa using h)
   have e : ∀ j,(cellsLot key (c :: L))[(i + 1) * 3 + j]? = (cellsLot key L)[i * 3 + j]? := fun j => by
    unfold cellsLot
    rw [List.flatMap_cons,show (i + 1) * 3 + j = (lotCells key c).length + (i * 3 + j) from by simp [lotCells]; omega,List.getElem?_append_right (by omega),Nat.add_sub_cancel_left]
   exact ⟨(e 0).trans h1.1,(e 1).trans h1.2.1,(e 2).trans h1.2.2⟩
theorem lots_own {key : Nat} {w : World} {B g n cap : Nat} {L : List Ch} (h : w.ownsRow B 185 3 (.slice (some ⟨g,0,none⟩) n cap) n (cellsLot key L)) (hn : n = L.length) : LotsAt key w g L := fun i hi => by
 obtain ⟨h0,h1,h2⟩ := cellsLot_get key L i hi
 exact ⟨(h.cellAt (i * 3) (by omega)).trans h0,(h.cellAt (i * 3 + 1) (by omega)).trans h1,(h.cellAt (i * 3 + 2) (by omega)).trans h2⟩
end Go.Proofs.YtcncbjknfcjnmaaGreat.Dr
namespace Go.Proofs.YtcncbjknfcjnmaaGreat.Dr
open Go.ChangeShapes Go.WideShapes Go.ChangeAt Go.RowKit
theorem own_some {w : World} {B T m : Nat} {v : Value} {n : Nat} {xs : List Value} (h : w.ownsRow B T m v n xs) (h0 : 0 < n) : ∃ g cap,v = .slice (some ⟨g,0,none⟩) n cap /\ B <= g /\ g < w.heap.size /\ n <= cap := by
 have hlt := h.lt
 rcases h.2 with ⟨_,h1⟩ | ⟨g,cap,cur,rfl,hg,hh,hc,_⟩
 ·omega
 ·exact ⟨g,cap,rfl,hg,(hlt g rfl).2,hc⟩
theorem own_slice {w : World} {B T m : Nat} {v : Value} {n : Nat} {xs : List Value} (h : w.ownsRow B T m v n xs) : ∃ a cap,v = .slice a n cap /\ n <= cap := by
 rcases h.2 with ⟨rfl,rfl⟩ | ⟨g,cap,cur,rfl,hg,hh,hc,_⟩
 ·exact ⟨none,0,rfl,Nat.le_refl _⟩
 ·exact ⟨_,cap,rfl,hc⟩
theorem may_heavy {ls : List Ch} (h : MayC ls) : ∀ c ∈ heavy ls,1 <= c.2 /\ c.2 <= 65536 := fun c hc => by
 have h1 := heavy_mem.1 hc
 have := ((may_iff ls).1 h).2.1 c h1.1
 exact ⟨by omega,this.2.2.2⟩
theorem may_w {ls : List Ch} (h : MayC ls) : ∀ c ∈ ls,0 <= c.2 := fun c hc => (((may_iff ls).1 h).2.1 c hc).2.2.1
theorem may_rise {ls : List Ch} (h : MayC ls) : Rise ls := ((may_iff ls).1 h).2.2
end Go.Proofs.YtcncbjknfcjnmaaGreat.Dr
