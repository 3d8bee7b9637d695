/-
  The contracts of the costs, of the answer that they are held against, and of Better.
  Choices as they lie in memory; the contracts of a choice's cost, of mayBe, Check and of the answer's May: which choices may be.
  Choices and draws, plainly: which may be, who is the best one, the order; what follows if one weighs otherwise: no Go in sight.
-/
import Derived.Test.YtcncbjknfcjnmaaGreatRows
import Derived.Test.YtcncbjknfcjnmaaGreatPr07
import Derived.WalkKit
import Derived.ProofKit
import Derived.OpenShut
import Derived.Below
import Derived.Sort.Walk0
import Derived.Deep.QuietTactic
import Derived.Deep.RegionHeld3
import Derived.BigQuiet
import Derived.Laws.Cover1
import Derived.Shelf.SlSortCmp.QuietGrown
namespace Go.Proofs.YtcncbjknfcjnmaaGreat.Dr
open Go.ChangeShapes Go.WideShapes Go.ChangeAt Go.RowKit
theorem sq_wrap (z : Nat) (h : z <= 2147483648) : IntKind.u64.wrap ((z : Int) * z) = ((z * z : Nat) : Int) := by
 have := sq_le h
 rw [show ((z : Int) * z) = ((z * z : Nat) : Int) from rfl,IntKind.wrap_u64]
 omega
theorem sq_form (z : Nat) (h : z <= 2147483648) : IntKind.u64.wrap ((z : Int) * z) / 2147483648 = ((sqN z : Nat) : Int) := by
 rw [sq_wrap z h]
 rfl
theorem behind_any (z : Nat) (w : World) (hz : z <= 2147483648) :
  Calls Tryz.prog 199 #[.int .u64 (z : Int)] w fun e w' => e = .returned (.int .i64 ((fAt z 16 : Nat) : Int)) /\ w' = w := by
 go_enter Tryz.func199,Tryz.ntmps199
 go_wp2
 go_loop [0,3,4] (fun x f i => ∃ k : Nat,k <= 16 /\ i = .int .i64 k /\ x = .int .u64 ((zAt z k : Nat) : Int) /\ f = .int .i64 ((fAt z k : Nat) : Int)) (fun _ _ i => 16 - (intOf i).toNat)
 case atStart => exact ⟨0,Nat.zero_le _,rfl,rfl,rfl⟩
 case round =>
  obtain ⟨k,hk,rfl,rfl,rfl⟩ := hrel
  have h1 := zAt_le hz k
  have h2 := fAt_lt16 z k hk
  have h3 := sq_form _ h1
  have h4 := sqN_le h1
  have HZ : Hid (zAt z (k + 1) = zS (zAt z k)) := zAt_succ z k
  have HF : Hid (fAt z (k + 1) = fS (zAt z k) (fAt z k)) := fAt_succ z k
  have HE : Hid (k = 16 -> fAt z 16 = fAt z k) := fun e => by rw [e]
  generalize zAt z k = x at h1 h3 h4 HZ HF
  generalize fAt z k = f at h2 HF HE
  have HQ : Hid (sqN x = sqN x) := rfl
  generalize hq : sqN x = q at h3 h4 HQ
  have HQ' : Hid (sqN x = q) := hq
  clear hq HQ
  by_cases hlt : k < 16
  ·by_cases hlow : q <= 1073741824
   ·go_wp2
    go_round
    case rel => exact ⟨k + 1,by omega,by go_num,by rw [HZ.out,zS_low x (by rw [HQ'.out]; exact hlow),HQ'.out]; go_num,by rw [HF.out,fS_low x f (by rw [HQ'.out]; exact hlow)]; go_num⟩
    case measure => simp [intOf]; omega
   ·go_wp2
    go_round
    case rel => exact ⟨k + 1,by omega,by go_num,by rw [HZ.out,zS_high x (by rw [HQ'.out]; omega),HQ'.out],by rw [HF.out,fS_high x f (by rw [HQ'.out]; omega)]; go_num⟩
    case measure => simp [intOf]; omega
  ·go_wp2
   go_ret
   exact ⟨ret_int (by rw [HE.out (by omega)]),rfl⟩
set_option maxRecDepth 60000 in
theorem cost_any (u : Int) (w : World) (hb : -9223372036854775808 <= u /\ u <= 9223372036854775807) :
  Calls Tryz.prog 184 #[.int .i64 u] w fun e w' => e = .returned (.int .i64 (costI u)) /\ w' = w := by
 by_cases h1 : u < 1
 ·go_enter Tryz.func184,Tryz.ntmps184
  go_wp2_with fail
  go_ret
  exact ⟨ret_int (costI_out u (.inl h1)).symm,rfl⟩
 ·by_cases h2 : 65536 < u
  ·go_enter Tryz.func184,Tryz.ntmps184
   go_wp2_with fail
   go_ret
   exact ⟨ret_int (costI_out u (.inr h2)).symm,rfl⟩
  ·obtain ⟨m,rfl⟩ : ∃ k : Nat,u = k := ⟨u.toNat,by omega⟩
   have hc := costI_of m (by omega) (by omega)
   have hlt := costN_lt m
   go_enter Tryz.func184,Tryz.ntmps184
   go_wp2_with fail
   go_loop [0,3] (fun x d => ∃ a j : Nat,1 <= a /\ a <= 65536 /\ x = .int .i64 (a : Int) /\ d = .int .i64 (j : Int) /\ 65536 * j + costN a = costN m) (fun x _ => 65536 - (intOf x).toNat)
   case atStart => exact ⟨m,0,by omega,by omega,rfl,rfl,by omega⟩
   case round =>
    obtain ⟨a,j,ha,hA,rfl,rfl,he⟩ := hrel
    have HE : Hid (65536 * j + costN a = costN m) := he
    have hj : j <= 17 := by omega
    clear he
    by_cases hl : a <= 32768
    ·have HL : Hid (costN a = 65536 + costN (2 * a)) := costN_low a ha hl
     go_wp2_with fail
     go_round
     case rel => exact ⟨2 * a,j + 1,by omega,by omega,by go_num,by go_num,by have := HE.out; have := HL.out; omega⟩
     case measure => simp [intOf]; omega
    ·have HH : Hid (costN a = fAt (a * 32768) 16) := costN_high a hl
     obtain ⟨y,hy⟩ : ∃ y,y = a * 32768 := ⟨_,rfl⟩
     rw [<- hy] at HH
     have HY : Hid (y = a * 32768) := hy
     have hyl : (y : Int) <= 2147483648 := by omega
     have hf : ((fAt y 16 : Nat) : Int) < 65536 := by have := fAt_lt16 y 16 (by decide); omega
     clear hlt
     generalize hg : fAt y 16 = g at hf HH
     have HG : Hid (fAt y 16 = g) := hg
     have e1 : ((a : Int) * 32768) = (y : Int) := by omega
     have hl' : ¬ (a : Int) <= 32768 := by omega
     have hA' : (a : Int) <= 65536 := by omega
     have HYL : Hid (y <= 2147483648) := by have : y <= 2147483648 := by omega
                                            exact this
     clear hg hy hl hA h2 h1 hb
     go_wp2_with (go_at_call 199; refine (behind_any y _ HYL.out).mono ?_; rw [HG.out]; rintro e w' ⟨rfl,rfl⟩)
     go_ret
     exact ⟨ret_int (by have := HE.out; have := HH.out; rw [hc]; omega),rfl⟩
def costB (n : Int) : Bool := decide (0 <= n) && decide (n <= 2147483647)
def weightB (n : Int) : Bool := decide (1 <= n) && decide (n <= 2147483647)
def betterB (c w o t : Int) : Bool := costB c && weightB w && costB o && weightB t && decide (c * t < o * w)
theorem costB_iff (n : Int) : costB n = true ↔ 0 <= n /\ n <= 2147483647 := by simp [costB]
theorem weightB_iff (n : Int) : weightB n = true ↔ 1 <= n /\ n <= 2147483647 := by simp [weightB]
theorem prod_bound {a b : Int} (h1 : 0 <= a) (h2 : a <= 2147483647) (h3 : 0 <= b) (h4 : b <= 2147483647) : 0 <= a * b /\ a * b <= 4611686014132420609 :=
 ⟨Int.mul_nonneg h1 h3,Int.le_trans (Int.mul_le_mul h2 h4 h3 (by omega)) (by decide)⟩
theorem prod_u64 {a b : Int} (h : 0 <= a * b /\ a * b <= 4611686014132420609) : IntKind.u64.wrap (a * b) = a * b := by
 rw [IntKind.wrap_u64]; omega
theorem ret_bool {a b : Bool} (h : a = b) : Ending.returned (.bool a) = .returned (.bool b) := by rw [h]
theorem mayCost_any (n : Int) (w : World) : Calls Tryz.prog 193 #[.int .i64 n] w fun e w' => e = .returned (.bool (costB n)) /\ w' = w := by
 by_cases h1 : 0 <= n
 ·by_cases h2 : n <= 2147483647
  ·go_enter Tryz.func193,Tryz.ntmps193
   go_wp2_with fail
   go_ret
   exact ⟨ret_bool ((costB_iff n).2 ⟨h1,h2⟩).symm,rfl⟩
  ·go_enter Tryz.func193,Tryz.ntmps193
   go_wp2_with fail
   go_ret
   exact ⟨ret_bool (by unfold costB; simp; omega),rfl⟩
 ·go_enter Tryz.func193,Tryz.ntmps193
  go_wp2_with fail
  go_ret
  exact ⟨ret_bool (by unfold costB; simp; omega),rfl⟩
theorem mayWeight_any (n : Int) (w : World) : Calls Tryz.prog 194 #[.int .i64 n] w fun e w' => e = .returned (.bool (weightB n)) /\ w' = w := by
 by_cases h1 : 1 <= n
 ·by_cases h2 : n <= 2147483647
  ·go_enter Tryz.func194,Tryz.ntmps194
   go_wp2_with fail
   go_ret
   exact ⟨ret_bool ((weightB_iff n).2 ⟨h1,h2⟩).symm,rfl⟩
  ·go_enter Tryz.func194,Tryz.ntmps194
   go_wp2_with fail
   go_ret
   exact ⟨ret_bool (by unfold weightB; simp; omega),rfl⟩
 ·go_enter Tryz.func194,Tryz.ntmps194
  go_wp2_with fail
  go_ret
  exact ⟨ret_bool (by unfold weightB; simp; omega),rfl⟩
theorem better_out (c w o t : Int) (h : costB c = false ∨ weightB w = false ∨ costB o = false ∨ weightB t = false) : betterB c w o t = false := by
 unfold betterB
 rcases h with h | h | h | h <;> simp [h]
theorem better_any (c x o t : Int) (w : World) :
  Calls Tryz.prog 176 #[.int .i64 c,.int .i64 x,.int .i64 o,.int .i64 t] w fun e w' => e = .returned (.bool (betterB c x o t)) /\ w' = w := by
 cases h1 : costB c with
 | false =>
  have HB : Hid (betterB c x o t = false) := better_out c x o t (.inl h1)
  go_enter Tryz.func176,Tryz.ntmps176
  go_wp2_with (first
   | (go_at_call 193; refine (mayCost_any _ _).mono ?_; rintro e w' ⟨rfl,rfl⟩)
   | (go_at_call 194; refine (mayWeight_any _ _).mono ?_; rintro e w' ⟨rfl,rfl⟩))
  go_ret
  exact ⟨ret_bool HB.out.symm,rfl⟩
 | true => cases h2 : weightB x with
  | false =>
   have HB : Hid (betterB c x o t = false) := better_out c x o t (.inr (.inl h2))
   go_enter Tryz.func176,Tryz.ntmps176
   go_wp2_with (first
    | (go_at_call 193; refine (mayCost_any _ _).mono ?_; rintro e w' ⟨rfl,rfl⟩)
    | (go_at_call 194; refine (mayWeight_any _ _).mono ?_; rintro e w' ⟨rfl,rfl⟩))
   go_ret
   exact ⟨ret_bool HB.out.symm,rfl⟩
  | true => cases h3 : costB o with
   | false =>
    have HB : Hid (betterB c x o t = false) := better_out c x o t (.inr (.inr (.inl h3)))
    go_enter Tryz.func176,Tryz.ntmps176
    go_wp2_with (first
     | (go_at_call 193; refine (mayCost_any _ _).mono ?_; rintro e w' ⟨rfl,rfl⟩)
     | (go_at_call 194; refine (mayWeight_any _ _).mono ?_; rintro e w' ⟨rfl,rfl⟩))
    go_ret
    exact ⟨ret_bool HB.out.symm,rfl⟩
   | true => cases h4 : weightB t with
    | false =>
     have HB : Hid (betterB c x o t = false) := better_out c x o t (.inr (.inr (.inr h4)))
     go_enter Tryz.func176,Tryz.ntmps176
     go_wp2_with (first
      | (go_at_call 193; refine (mayCost_any _ _).mono ?_; rintro e w' ⟨rfl,rfl⟩)
      | (go_at_call 194; refine (mayWeight_any _ _).mono ?_; rintro e w' ⟨rfl,rfl⟩))
     go_ret
     exact ⟨ret_bool HB.out.symm,rfl⟩
    | true =>
     have HB : Hid (betterB c x o t = decide (c * t < o * x)) := by
      have h : betterB c x o t = decide (c * t < o * x) := by unfold betterB; simp [h1,h2,h3,h4]
      exact h
     obtain ⟨c1,c2⟩ := (costB_iff c).1 h1
     obtain ⟨x1,x2⟩ := (weightB_iff x).1 h2
     obtain ⟨o1,o2⟩ := (costB_iff o).1 h3
     obtain ⟨t1,t2⟩ := (weightB_iff t).1 h4
     have p1 := prod_bound c1 c2 (by omega : 0 <= t) t2
     have p2 := prod_bound o1 o2 (by omega : 0 <= x) x2
     have q1 := prod_u64 p1
     have q2 := prod_u64 p2
     go_enter Tryz.func176,Tryz.ntmps176
     go_wp2_with (first
      | (go_at_call 193; refine (mayCost_any _ _).mono ?_; rintro e w' ⟨rfl,rfl⟩)
      | (go_at_call 194; refine (mayWeight_any _ _).mono ?_; rintro e w' ⟨rfl,rfl⟩))
     go_ret
     exact ⟨ret_bool HB.out.symm,rfl⟩
end Go.Proofs.YtcncbjknfcjnmaaGreat.Dr
namespace Go.Proofs.YtcncbjknfcjnmaaGreat.Dr
open Go.ChangeShapes Go.WideShapes Go.ChangeAt Go.RowKit
theorem below2 {a b c : World} (h : Below a.heap.size a b) (k : Below b.heap.size b c) : Below a.heap.size a c := h.trans (k.mono h.size)
theorem below_drewN (w : World) (n : Nat) : Below w.heap.size w (w.drewN n) := ⟨rfl,rfl,rfl,Nat.le_refl _,fun _ _ => rfl⟩
theorem below_drew (w : World) : Below w.heap.size w w.drew := ⟨rfl,rfl,rfl,Nat.le_refl _,fun _ _ => rfl⟩
theorem below_alloc (w : World) (o : Obj) : Below w.heap.size w (w.alloc o) := (Below.refl _ _).alloc (Nat.le_refl _) _
structure QW (P : Program) (ops : Array Oper) (C : World -> Prop) (Q : Act -> Prop) (l : List Oper) (a : Act) : Prop where
 out : wpQuiet P ops C Q l a
theorem QW_step {P : Program} {ops : Array Oper} {C : World -> Prop} {Q : Act -> Prop} {a : Act} {o : Oper} {rest : List Oper}
  (h : ∀ K : Act -> Prop,(∀ a,QW P ops C Q rest a -> K a) -> if Region.wanted o (yielded ops a.tmps) then o.quiet P a C K else K (a.put o.dst undef)) : QW P ops C Q (o :: rest) a :=
 ⟨wpQuiet_step fun K hK => h K fun a q => hK a q.out⟩
theorem QW_nil {P : Program} {ops : Array Oper} {C : World -> Prop} {Q : Act -> Prop} {a : Act} (h : Q a) : QW P ops C Q [] a := ⟨wpQuiet_nil h⟩
theorem wp_region_QW {P : Program} {id : Nat} {Q : Exit -> Act -> World -> Prop} {a : Act} {w : World} {l : List Oper} (hm : P.follows .mixedOrders = true) (hB : Region.lexB .any l.toArray = true)
  (h : QW P l.toArray (fun w' => ∃ p : GrownBy,w' = Go.Sort.grow (w.drewN p.n) p.os) (fun a' => ∀ w',(∃ p : GrownBy,w' = Go.Sort.grow (w.drewN p.n) p.os) -> Q .normal a' w') l a) : (Code.region id l.toArray true).wp P Q a w :=
 wp_region_quiet_grown hm hB h.out
def bitsOf (id : Int) : Nat := (id % 18446744073709551616).toNat
theorem bitsOf_lt (id : Int) : bitsOf id < 18446744073709551616 := by unfold bitsOf; omega
theorem bitsOf_form (id : Int) : IntKind.u64.wrap id = ((bitsOf id : Nat) : Int) := by
 rw [IntKind.wrap_u64]; unfold bitsOf; omega
def uOf (key : Nat) (id : Int) : Nat := 1 + foldN key [bitsOf id] / 281474976710656
def costOf (key : Nat) (id : Int) : Int := costI (uOf key id : Nat)
theorem costOf_bound (key : Nat) (id : Int) : 0 <= costOf key id /\ costOf key id < 1114112 := costI_bound _
theorem mixed5 : Tryz.prog.follows .mixedOrders = true := by kernel_rfl
abbrev Grown (w w' : World) : Prop := ∃ q os',w' = Go.Sort.grow (w.drewN q) os'
theorem grown_alloc (w : World) (o : Obj) : Grown w (w.alloc o) := ⟨0,_,by rw [Go.Sort.alloc_eq_grow]; rfl⟩
theorem below_grow (w : World) (n : Nat) (os : Array Obj) : Below w.heap.size w (Go.Sort.grow (w.drewN n) os) := by
 refine ⟨rfl,rfl,rfl,?_,fun k hk => ?_⟩
 ·show w.heap.size <= (w.heap ++ os).size
  simp
 ·show (w.heap ++ os)[k]? = w.heap[k]?
  exact Array.getElem?_append_left hk
theorem grown_below {w w' : World} (h : Grown w w') : Below w.heap.size w w' := by
 obtain ⟨q,os,rfl⟩ := h
 exact below_grow _ _ _
theorem grown2 {a b c : World} (h : Grown a b) (k : Grown b c) : Grown a c := by
 obtain ⟨n,os,rfl⟩ := h
 obtain ⟨q,os',rfl⟩ := k
 exact ⟨n + q,os ++ os',by show Go.Sort.grow (Go.Sort.grow ((a.drewN n).drewN q) os) os' = _; rw [Go.Sort.grow_grow,World.drewN_drewN]⟩
theorem grown_refl (w : World) : Grown w w := ⟨0,#[],by rw [Go.Sort.grow_empty]; rfl⟩
def CostPost (c : Int) (w : World) (e : Ending) (w' : World) : Prop := e = .returned (.int .i64 c) /\ Grown w w'
set_option maxRecDepth 20000 in
theorem cost5_any (key : Nat) (id : Int) (w : World) (hk : key < 18446744073709551616) :
  Calls Tryz.prog 174 #[.int .u64 (key : Int),.int .i64 id] w fun e w' => CostPost (costOf key id) w e w' := by
 have hn := bitsOf_form id
 have hnl := bitsOf_lt id
 have HU : Hid (uOf key id = 1 + foldN key [bitsOf id] / 281474976710656) := rfl
 have HC : Hid (costOf key id = costI ((uOf key id : Nat) : Int)) := rfl
 have HF := fun (W : World) (h : W.cell? ⟨w.heap.size,0,none⟩ = some (.int .u64 ((bitsOf id : Nat) : Int))) => fold_some key w.heap.size 0 1 [bitsOf id] W hk (by simp [maxLen]) (by simpa using hnl) (fun i hi => by
  have : i = 0 := by simp at hi; omega
  subst this; exact h)
 have hlt := foldN_lt key [bitsOf id]
 generalize foldN key [bitsOf id] = f at *
 generalize bitsOf id = n at *
 have HF' : Hid (∀ W : World,W.cell? ⟨w.heap.size,0,none⟩ = some (.int .u64 ((n : Nat) : Int)) -> Calls Tryz.prog 165 #[.int .u64 (key : Int),.slice (some ⟨w.heap.size,0,none⟩) 1 1] W fun e w' => e = .returned (.int .u64 (f : Int)) /\ w' = W) := HF
 obtain ⟨q,hq⟩ : ∃ q : Nat,q = f / 281474976710656 := ⟨_,rfl⟩
 have e1 : (f : Int) / 281474976710656 = (q : Int) := by omega
 have hq2 : (q : Int) < 65536 := by omega
 have HU' : Hid (uOf key id = 1 + q) := by have := HU.out; rw [<- hq] at this; exact this
 clear HF HU hq
 go_enter Tryz.func174,Tryz.ntmps174
 go_wp2_with (first
  | (go_at_call 165; refine (HF'.out _ (by simp)).mono ?_; rintro e w' ⟨rfl,rfl⟩)
  | (go_at_call 184; refine (cost_any _ _ ?_).mono ?_; (omega); rintro e w' ⟨rfl,rfl⟩))
 go_ret
 refine ⟨ret_int ?_,grown_alloc _ _⟩
 rw [HC.out,HU'.out]
 rfl
end Go.Proofs.YtcncbjknfcjnmaaGreat.Dr
namespace Go.Proofs.YtcncbjknfcjnmaaGreat.Dr
abbrev Ch := Int × Int
def ch0 : Ch := (0,0)
def InC (c : Ch) : Prop := 0 <= c.1 /\ c.1 <= 2147483647 /\ 0 <= c.2 /\ c.2 <= 65536
def OkC (ls : List Ch) (i : Nat) : Prop := InC (ls.getD i ch0) /\ (0 < i -> (ls.getD (i - 1) ch0).1 < (ls.getD i ch0).1)
def MayC (ls : List Ch) : Prop := ls.length <= 64 /\ ∀ i,i < ls.length -> OkC ls i
def Rise (ls : List Ch) : Prop := ls.Pairwise fun a b => a.1 < b.1
theorem getD_get {ls : List Ch} {i : Nat} (h : i < ls.length) : ls.getD i ch0 = ls[i] := by simp [h]
theorem may_iff (ls : List Ch) : MayC ls ↔ ls.length <= 64 /\ (∀ c ∈ ls,InC c) /\ Rise ls := by
 constructor
 ·rintro ⟨h1,h2⟩
  refine ⟨h1,fun c hc => ?_,?_⟩
  ·obtain ⟨i,hi,rfl⟩ := List.mem_iff_getElem.1 hc
   have := (h2 i hi).1
   rwa [getD_get hi] at this
  ·unfold Rise
   rw [List.pairwise_iff_getElem]
   intro i j hi hj hij
   obtain ⟨d,rfl⟩ : ∃ d,j = i + 1 + d := ⟨j - (i + 1),by omega⟩
   clear hij
   induction d with
   | zero =>
    have := (h2 (i + 1) hj).2 (by omega)
    rw [Nat.add_sub_cancel,getD_get hi,getD_get (i := i + 1) (by omega)] at this
    exact this
   | succ d ih =>
    have h3 := ih (by omega)
    have := (h2 (i + 1 + (d + 1)) hj).2 (by omega)
    rw [show i + 1 + (d + 1) - 1 = i + 1 + d from by omega,getD_get (i := i + 1 + d) (by omega),getD_get hj] at this
    exact Int.lt_trans h3 this
 ·rintro ⟨h1,h2,h3⟩
  refine ⟨h1,fun i hi => ⟨?_,fun h0 => ?_⟩⟩
  ·rw [getD_get hi]; exact h2 _ (List.getElem_mem hi)
  ·rw [getD_get hi,getD_get (i := i - 1) (by omega)]
   unfold Rise at h3
   rw [List.pairwise_iff_getElem] at h3
   exact h3 (i - 1) i (by omega) hi (by omega)
variable (cost : Int -> Int)
def ltC (a b : Ch) : Prop := cost a.1 * b.2 < cost b.1 * a.2 ∨ (cost a.1 * b.2 = cost b.1 * a.2 /\ a.1 < b.1)
theorem ltC_asymm {a b : Ch} (h : ltC cost a b) (h' : ltC cost b a) : False := by
 unfold ltC at *
 generalize cost a.1 * b.2 = x at *
 generalize cost b.1 * a.2 = y at *
 omega
theorem ltC_irrefl (a : Ch) : ¬ ltC cost a a := fun h => ltC_asymm cost h h
theorem ltC_total {a b : Ch} (h : a.1 ≠ b.1) : ltC cost a b ∨ ltC cost b a := by
 unfold ltC
 generalize cost a.1 * b.2 = x
 generalize cost b.1 * a.2 = y
 omega
theorem ltC_trans {a b c : Ch} (ha : 0 < a.2) (hb : 0 < b.2) (hc : 0 < c.2) (h1 : ltC cost a b) (h2 : ltC cost b c) : ltC cost a c := by
 unfold ltC at *
 have e1 : cost a.1 * b.2 * c.2 = cost a.1 * c.2 * b.2 := Int.mul_right_comm _ _ _
 have e2 : cost b.1 * a.2 * c.2 = cost b.1 * c.2 * a.2 := Int.mul_right_comm _ _ _
 have e3 : cost c.1 * b.2 * a.2 = cost c.1 * a.2 * b.2 := Int.mul_right_comm _ _ _
 have key : cost a.1 * c.2 * b.2 <= cost c.1 * a.2 * b.2 := by
  have p1 : cost a.1 * b.2 * c.2 <= cost b.1 * a.2 * c.2 := Int.mul_le_mul_of_nonneg_right (by omega) (by omega)
  have p2 : cost b.1 * c.2 * a.2 <= cost c.1 * b.2 * a.2 := Int.mul_le_mul_of_nonneg_right (by omega) (by omega)
  omega
 have le : cost a.1 * c.2 <= cost c.1 * a.2 := Int.le_of_mul_le_mul_right key hb
 rcases Int.lt_or_eq_of_le le with h | h
 ·exact .inl h
 ·refine .inr ⟨h,?_⟩
  rw [h] at e1
  rcases h1 with h1 | ⟨q,h1⟩
  ·have p1 : cost a.1 * b.2 * c.2 < cost b.1 * a.2 * c.2 := Int.mul_lt_mul_of_pos_right h1 hc
   have p2 : cost b.1 * c.2 * a.2 <= cost c.1 * b.2 * a.2 := Int.mul_le_mul_of_nonneg_right (by omega) (by omega)
   omega
  ·rcases h2 with h2 | ⟨_,h2⟩
   ·have p1 : cost a.1 * b.2 * c.2 = cost b.1 * a.2 * c.2 := by rw [q]
    have p2 : cost b.1 * c.2 * a.2 < cost c.1 * b.2 * a.2 := Int.mul_lt_mul_of_pos_right h2 ha
    omega
   ·omega
def IsBest (l : List Ch) : Option Ch -> Prop
 | none => ∀ c ∈ l,c.2 = 0
 | some a => a ∈ l /\ 0 < a.2 /\ ∀ c ∈ l,0 < c.2 -> c = a ∨ ltC cost a c
theorem isBest_one {l : List Ch} {a b : Ch} (h : IsBest cost l (some a)) (h' : IsBest cost l (some b)) : a = b := by
 obtain ⟨h1,h2,h3⟩ := h
 obtain ⟨g1,g2,g3⟩ := h'
 rcases h3 b g1 g2 with e | e
 ·exact e.symm
 ·rcases g3 a h1 h2 with e' | e'
  ·exact e'
  ·exact (ltC_asymm cost e e').elim
theorem isBest_det {l : List Ch} {r r' : Option Ch} (h : IsBest cost l r) (h' : IsBest cost l r') : r = r' := by
 cases r with
 | none =>
  cases r' with
  | none => rfl
  | some b => have := h b h'.1; have := h'.2.1; omega
 | some a =>
  cases r' with
  | none => have := h' a h.1; have := h.2.1; omega
  | some b => rw [isBest_one cost h h']
def stepC (acc : Option Ch) (c : Ch) : Option Ch :=
 if c.2 = 0 then acc else match acc with
  | none => some c
  | some a => if cost c.1 * a.2 < cost a.1 * c.2 then some c else some a
theorem stepC_zero {acc : Option Ch} {c : Ch} (h : c.2 = 0) : stepC cost acc c = acc := if_pos h
theorem stepC_none {c : Ch} (h : ¬ c.2 = 0) : stepC cost none c = some c := if_neg h
theorem stepC_yes {a c : Ch} (h : ¬ c.2 = 0) (h' : cost c.1 * a.2 < cost a.1 * c.2) : stepC cost (some a) c = some c := by
 unfold stepC; rw [if_neg h]; exact if_pos h'
theorem stepC_no {a c : Ch} (h : ¬ c.2 = 0) (h' : ¬ cost c.1 * a.2 < cost a.1 * c.2) : stepC cost (some a) c = some a := by
 unfold stepC; rw [if_neg h]; exact if_neg h'
def bestC (l : List Ch) : Option Ch := l.foldl (stepC cost) none
theorem isBest_step {l : List Ch} {r : Option Ch} {c : Ch} (h : IsBest cost l r) (hr : ∀ x ∈ l,x.1 < c.1) (hc : 0 <= c.2) : IsBest cost (l ++ [c]) (stepC cost r c) := by
 by_cases h0 : c.2 = 0
 ·rw [stepC_zero cost h0]
  cases r with
  | none =>
   intro x hx
   rcases List.mem_append.1 hx with hx | hx
   ·exact h x hx
   ·simp at hx; subst hx; exact h0
  | some a =>
   refine ⟨List.mem_append_left _ h.1,h.2.1,fun x hx hp => ?_⟩
   rcases List.mem_append.1 hx with hx | hx
   ·exact h.2.2 x hx hp
   ·simp at hx; subst hx; omega
 ·cases r with
  | none =>
   rw [stepC_none cost h0]
   refine ⟨by simp,by omega,fun x hx hp => ?_⟩
   rcases List.mem_append.1 hx with hx | hx
   ·have := h x hx; omega
   ·simp at hx; exact .inl hx
  | some a =>
   obtain ⟨h1,h2,h3⟩ := h
   have hac := hr a h1
   by_cases hl : cost c.1 * a.2 < cost a.1 * c.2
   ·rw [stepC_yes cost h0 hl]
    refine ⟨by simp,by omega,fun x hx hp => ?_⟩
    rcases List.mem_append.1 hx with hx | hx
    ·right
     rcases h3 x hx hp with e | e
     ·subst e; exact .inl hl
     ·exact ltC_trans cost (by omega) h2 hp (.inl hl) e
    ·simp at hx; exact .inl hx
   ·rw [stepC_no cost h0 hl]
    refine ⟨List.mem_append_left _ h1,h2,fun x hx hp => ?_⟩
    rcases List.mem_append.1 hx with hx | hx
    ·exact h3 x hx hp
    ·simp at hx; subst hx
     right
     unfold ltC
     omega
theorem isBest_fold (l2 : List Ch) : ∀ (l1 : List Ch) (r : Option Ch),IsBest cost l1 r -> Rise (l1 ++ l2) -> (∀ c ∈ l2,0 <= c.2) -> IsBest cost (l1 ++ l2) (l2.foldl (stepC cost) r) := by
 induction l2 with
 | nil => intro l1 r h _ _; simpa using h
 | cons c l2 ih =>
  intro l1 r h hr hw
  have e : l1 ++ c :: l2 = (l1 ++ [c]) ++ l2 := by simp
  rw [List.foldl_cons,e]
  have hr' := hr
  unfold Rise at hr
  rw [List.pairwise_append] at hr
  refine ih (l1 ++ [c]) _ (isBest_step cost h (fun x hx => hr.2.2 x hx c (by simp)) (hw c (by simp))) ?_ (fun x hx => hw x (by simp [hx]))
  rw [<- e]
  exact hr'
theorem bestC_is {l : List Ch} (hr : Rise l) (hw : ∀ c ∈ l,0 <= c.2) : IsBest cost l (bestC cost l) := by
 have := isBest_fold cost l [] none (fun c hc => by simp at hc) (by simpa using hr) hw
 rwa [List.nil_append] at this
theorem bestC_eq {l : List Ch} (hr : Rise l) (hw : ∀ c ∈ l,0 <= c.2) {r : Option Ch} (h : IsBest cost l r) : bestC cost l = r := isBest_det cost (bestC_is cost hr hw) h
def heavy (l : List Ch) : List Ch := l.filter fun c => decide (0 < c.2)
theorem heavy_mem {l : List Ch} {c : Ch} : c ∈ heavy l ↔ c ∈ l /\ 0 < c.2 := by simp [heavy]
theorem isBest_heavy {l : List Ch} {a : Ch} : IsBest cost l (some a) ↔ a ∈ heavy l /\ ∀ c ∈ heavy l,c = a ∨ ltC cost a c := by
 constructor
 ·rintro ⟨h1,h2,h3⟩
  exact ⟨heavy_mem.2 ⟨h1,h2⟩,fun c hc => h3 c (heavy_mem.1 hc).1 (heavy_mem.1 hc).2⟩
 ·rintro ⟨h1,h2⟩
  exact ⟨(heavy_mem.1 h1).1,(heavy_mem.1 h1).2,fun c hc hp => h2 c (heavy_mem.2 ⟨hc,hp⟩)⟩
theorem isBest_nobody {l : List Ch} (hw : ∀ c ∈ l,0 <= c.2) : IsBest cost l none ↔ heavy l = [] := by
 constructor
 ·intro h
  rw [List.eq_nil_iff_forall_not_mem]
  intro c hc
  have h1 := heavy_mem.1 hc
  have := h c h1.1
  omega
 ·intro h c hc
  have h1 := hw c hc
  by_cases h0 : c.2 = 0
  ·exact h0
  ·have : c ∈ heavy l := heavy_mem.2 ⟨hc,by omega⟩
   rw [h] at this
   simp at this
def selC : Nat -> List Ch -> List Int
 | 0,_ => []
 | n + 1,l => match bestC cost l with
  | none => []
  | some a => a.1 :: selC n (l.filter fun c => decide (c.1 ≠ a.1))
theorem selC_zero (l : List Ch) : selC cost 0 l = [] := rfl
theorem selC_none {n : Nat} {l : List Ch} (h : bestC cost l = none) : selC cost (n + 1) l = [] := by
 rw [selC,h]
theorem selC_some {n : Nat} {l : List Ch} {a : Ch} (h : bestC cost l = some a) : selC cost (n + 1) l = a.1 :: selC cost n (l.filter fun c => decide (c.1 ≠ a.1)) := by
 rw [selC,h]
theorem rise_inj {l : List Ch} (hr : Rise l) {a b : Ch} (ha : a ∈ l) (hb : b ∈ l) (h : a.1 = b.1) : a = b := by
 unfold Rise at hr
 rw [List.pairwise_iff_getElem] at hr
 obtain ⟨i,hi,rfl⟩ := List.mem_iff_getElem.1 ha
 obtain ⟨j,hj,rfl⟩ := List.mem_iff_getElem.1 hb
 rcases Nat.lt_trichotomy i j with h' | h' | h'
 ·have := hr i j hi hj h'; omega
 ·subst h'; rfl
 ·have := hr j i hj hi h'; omega
theorem rise_filter {l : List Ch} (hr : Rise l) (p : Ch -> Bool) : Rise (l.filter p) := List.Pairwise.filter p hr
theorem sel_eq (s : List Ch) : ∀ (l : List Ch) (n : Nat),Rise l -> (∀ c ∈ l,0 <= c.2) -> (heavy l).Perm s -> s.Pairwise (ltC cost) -> s.length <= n -> selC cost n l = s.map (·.1) := by
 induction s with
 | nil =>
  intro l n hr hw hp _ _
  have h0 : heavy l = [] := List.perm_nil.1 hp
  have hb := bestC_eq cost hr hw ((isBest_nobody cost hw).2 h0)
  cases n with
  | zero => rfl
  | succ n => rw [selC_none cost hb]; rfl
 | cons a s ih =>
  intro l n hr hw hp hs hn
  obtain ⟨n,rfl⟩ : ∃ m,n = m + 1 := ⟨n - 1,by simp at hn; omega⟩
  have ha : a ∈ heavy l := hp.mem_iff.2 (by simp)
  have hs' := List.pairwise_cons.1 hs
  have hb : IsBest cost l (some a) := (isBest_heavy cost).2 ⟨ha,fun c hc => by
   have := hp.mem_iff.1 hc
   rcases List.mem_cons.1 this with e | e
   ·exact .inl e
   ·exact .inr (hs'.1 c e)⟩
  rw [selC_some cost (bestC_eq cost hr hw hb),List.map_cons]
  congr 1
  refine ih _ n (rise_filter hr _) (fun c hc => hw c (List.mem_filter.1 hc).1) ?_ hs'.2 (by simp at hn; omega)
  have e : heavy (l.filter fun c => decide (c.1 ≠ a.1)) = (heavy l).filter fun c => decide (c.1 ≠ a.1) := by
   unfold heavy
   rw [List.filter_filter,List.filter_filter]
   congr 1
   funext c
   exact Bool.and_comm _ _
  rw [e]
  have h1 := hp.filter fun c => decide (c.1 ≠ a.1)
  rw [List.filter_cons_of_neg (by simp)] at h1
  have h2 : s.filter (fun c => decide (c.1 ≠ a.1)) = s := by
   rw [List.filter_eq_self]
   intro c hc
   have hcl : c ∈ l := (heavy_mem.1 (hp.mem_iff.2 (by simp [hc]))).1
   by_cases e : c.1 = a.1
   ·have := rise_inj hr hcl (heavy_mem.1 ha).1 e
    subst this
    exact (ltC_irrefl cost _ (hs'.1 _ hc)).elim
   ·simpa using e
  rw [h2] at h1
  exact h1
def minC : List Ch -> Ch -> Ch
 | [],m => m
 | c :: l,m => minC l (if cost c.1 * m.2 < cost m.1 * c.2 ∨ (cost c.1 * m.2 = cost m.1 * c.2 /\ c.1 < m.1) then c else m)
theorem minC_is (l2 : List Ch) : ∀ (l1 : List Ch) (m : Ch),(m ∈ l1 /\ ∀ c ∈ l1,c = m ∨ ltC cost m c) -> (l1 ++ l2).Pairwise (fun a b => a.1 ≠ b.1) -> (∀ c ∈ l1 ++ l2,0 < c.2) ->
  minC cost l2 m ∈ l1 ++ l2 /\ ∀ c ∈ l1 ++ l2,c = minC cost l2 m ∨ ltC cost (minC cost l2 m) c := by
 induction l2 with
 | nil => intro l1 m h _ _; simpa [minC] using h
 | cons x l2 ih =>
  intro l1 m h hr hw
  have e : l1 ++ x :: l2 = (l1 ++ [x]) ++ l2 := by simp
  have hr' := List.pairwise_append.1 hr
  have hmx : m.1 ≠ x.1 := hr'.2.2 m h.1 x (by simp)
  have hm := hw m (List.mem_append_left _ h.1)
  have hx := hw x (by simp)
  rw [e] at hr hw ⊢
  rw [minC]
  refine ih (l1 ++ [x]) _ ?_ hr hw
  split
  ·rename_i hl
   have hl' : ltC cost x m := hl
   refine ⟨by simp,fun c hc => ?_⟩
   rcases List.mem_append.1 hc with hc1 | hc1
   ·right
    rcases h.2 c hc1 with e | e
    ·rw [e]; exact hl'
    ·exact ltC_trans cost hx hm (hw c (by simp [hc1])) hl' e
   ·simp at hc1; exact .inl hc1
  ·rename_i hl
   have hl' : ¬ ltC cost x m := hl
   refine ⟨List.mem_append_left _ h.1,fun c hc => ?_⟩
   rcases List.mem_append.1 hc with hc1 | hc1
   ·exact h.2 c hc1
   ·simp at hc1; subst hc1
    exact .inr ((ltC_total cost hmx).resolve_right hl')
theorem minC_best {l : List Ch} (hr : Rise l) (hw : ∀ c ∈ l,0 <= c.2) {a : Ch} {s : List Ch} (h : heavy l = a :: s) : bestC cost l = some (minC cost s a) := by
 have h1 : Rise (heavy l) := rise_filter hr _
 have h2 : (heavy l).Pairwise (fun a b => a.1 ≠ b.1) := by
  unfold Rise at h1
  rw [List.pairwise_iff_getElem] at h1 ⊢
  intro i j hi hj hij
  have := h1 i j hi hj hij
  omega
 have h3 : ∀ c ∈ heavy l,0 < c.2 := fun c hc => (heavy_mem.1 hc).2
 rw [h] at h2 h3
 have := minC_is cost s [a] a ⟨by simp,fun c hc => by simp at hc; exact .inl hc⟩ h2 h3
 refine bestC_eq cost hr hw ((isBest_heavy cost).2 ?_)
 rw [h]
 exact this
/-! one that weighs otherwise, or is there anew -/
end Go.Proofs.YtcncbjknfcjnmaaGreat.Dr
