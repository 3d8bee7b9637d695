/-
  Nothing of the program: worlds that grow, rows of one's own, regions that only read.
  Nodes as they lie in memory; the contracts of within, mayBe and Check: which nodes may be.
  Maps as they lie in memory.
-/
import Derived.Test.YtcncbjknfcjnmaaGreatRows
import Derived.WalkKit
import Derived.ProofKit
import Derived.OpenShut
import Derived.Below
import Derived.Sort.Walk0
import Derived.Deep.QuietTactic
import Derived.Deep.RegionHeld3
import Derived.BigQuiet
import Derived.Laws.Cover1
import Derived.Laws.OwnMore
import Derived.Laws.ResultCell
import Derived.StillTail
import Derived.Handy
import Derived.Shelf.SlSortCmp.QuietGrown
namespace Go.Proofs.YtcncbjknfcjnmaaGreat.Tp
open Go.ChangeShapes Go.WideShapes Go.ChangeAt Go.RowKit
theorem below2 {a b c : World} (h : Below a.heap.size a b) (k : Below b.heap.size b c) : Below a.heap.size a c := h.trans (k.mono h.size)
theorem below_drewN (w : World) (n : Nat) : Below w.heap.size w (w.drewN n) := ⟨rfl,rfl,rfl,Nat.le_refl _,fun _ _ => rfl⟩
theorem below_drew (w : World) : Below w.heap.size w w.drew := ⟨rfl,rfl,rfl,Nat.le_refl _,fun _ _ => rfl⟩
theorem below_alloc (w : World) (o : Obj) : Below w.heap.size w (w.alloc o) := (Below.refl _ _).alloc (Nat.le_refl _) _
structure QW (P : Program) (ops : Array Oper) (C : World -> Prop) (Q : Act -> Prop) (l : List Oper) (a : Act) : Prop where
 out : wpQuiet P ops C Q l a
theorem QW_step {P : Program} {ops : Array Oper} {C : World -> Prop} {Q : Act -> Prop} {a : Act} {o : Oper} {rest : List Oper}
  (h : ∀ K : Act -> Prop,(∀ a,QW P ops C Q rest a -> K a) -> if Region.wanted o (yielded ops a.tmps) then o.quiet P a C K else K (a.put o.dst undef)) : QW P ops C Q (o :: rest) a :=
 ⟨wpQuiet_step fun K hK => h K fun a q => hK a q.out⟩
theorem QW_nil {P : Program} {ops : Array Oper} {C : World -> Prop} {Q : Act -> Prop} {a : Act} (h : Q a) : QW P ops C Q [] a := ⟨wpQuiet_nil h⟩
theorem wp_region_QW {P : Program} {id : Nat} {Q : Exit -> Act -> World -> Prop} {a : Act} {w : World} {l : List Oper} (hm : P.follows .mixedOrders = true) (hB : Region.lexB .any l.toArray = true)
  (h : QW P l.toArray (fun w' => ∃ p : GrownBy,w' = Go.Sort.grow (w.drewN p.n) p.os) (fun a' => ∀ w',(∃ p : GrownBy,w' = Go.Sort.grow (w.drewN p.n) p.os) -> Q .normal a' w') l a) : (Code.region id l.toArray true).wp P Q a w :=
 wp_region_quiet_grown hm hB h.out
theorem mixed5 : Tryz.prog.follows .mixedOrders = true := by kernel_rfl
abbrev Grown (w w' : World) : Prop := ∃ q os',w' = Go.Sort.grow (w.drewN q) os'
theorem grown_alloc (w : World) (o : Obj) : Grown w (w.alloc o) := ⟨0,_,by rw [Go.Sort.alloc_eq_grow]; rfl⟩
theorem below_grow (w : World) (n : Nat) (os : Array Obj) : Below w.heap.size w (Go.Sort.grow (w.drewN n) os) := by
 refine ⟨rfl,rfl,rfl,?_,fun k hk => ?_⟩
 ·show w.heap.size <= (w.heap ++ os).size
  simp
 ·show (w.heap ++ os)[k]? = w.heap[k]?
  exact Array.getElem?_append_left hk
theorem grown_below {w w' : World} (h : Grown w w') : Below w.heap.size w w' := by
 obtain ⟨q,os,rfl⟩ := h
 exact below_grow _ _ _
theorem grown2 {a b c : World} (h : Grown a b) (k : Grown b c) : Grown a c := by
 obtain ⟨n,os,rfl⟩ := h
 obtain ⟨q,os',rfl⟩ := k
 exact ⟨n + q,os ++ os',by show Go.Sort.grow (Go.Sort.grow ((a.drewN n).drewN q) os) os' = _; rw [Go.Sort.grow_grow,World.drewN_drewN]⟩
theorem grown_refl (w : World) : Grown w w := ⟨0,#[],by rw [Go.Sort.grow_empty]; rfl⟩
theorem ret_int {k : IntKind} {a b : Int} (h : a = b) : Ending.returned (.int k a) = .returned (.int k b) := by rw [h]
def BoolGrown (P : Prop) (w : World) (e : Ending) (w' : World) : Prop := Grown w w' /\ ∃ q : Bool,e = .returned (.bool q) /\ (q = true ↔ P)
theorem boolG_yes {P : Prop} {w w' : World} (hb : Grown w w') (h : P) : BoolGrown P w (.returned (.bool true)) w' := ⟨hb,true,rfl,by simp [h]⟩
theorem boolG_no {P : Prop} {w w' : World} (hb : Grown w w') (h : ¬ P) : BoolGrown P w (.returned (.bool false)) w' := ⟨hb,false,rfl,by simp [h]⟩
def BoolPost (P : Prop) (w : World) (e : Ending) (w' : World) : Prop := Below w.heap.size w w' /\ ∃ q : Bool,e = .returned (.bool q) /\ (q = true ↔ P)
theorem bool_yes {P : Prop} {w w' : World} (hb : Below w.heap.size w w') (h : P) : BoolPost P w (.returned (.bool true)) w' := ⟨hb,true,rfl,by simp [h]⟩
theorem bool_no {P : Prop} {w w' : World} (hb : Below w.heap.size w w') (h : ¬ P) : BoolPost P w (.returned (.bool false)) w' := ⟨hb,false,rfl,by simp [h]⟩
def ErrPost (P : Prop) (w : World) (e : Ending) (w' : World) : Prop := Below w.heap.size w w' /\ ((e = .returned (.int .i64 0) /\ P) ∨ (e = .returned (.int .i64 1) /\ ¬ P))
theorem held_one {P : Program} {ops : Array Oper} {Q : Exit -> Act -> World -> Prop} {md : Region.Mode} {S : World -> Prop} {i : Nat} {o : Oper} {fuel : Nat} {listed : Array Bool} {a : Act} {w : World} (hr : Region.ready md ops listed = [i]) (ho' : ops.toList[i]? = some o) (hg : Region.wanted o (yielded ops a.tmps) = true)
  (h : ∀ K : Act -> World -> Prop,Hid (∀ a' w',S w' -> wpAnyH P md ops Q S fuel (listed.setIfInBounds i true) a' w' -> K a' w') -> o.wp P a w K Q) : wpAnyH P md ops Q S (fuel + 1) listed a w := by
 have ho : ops[i]? = some o := by simpa using ho'
 refine wpAnyH_all hr (by simp) (fun j hj => ?_)
 obtain rfl : j = i := by simpa using hj
 unfold wpOp
 simp only [ho]
 rw [if_pos hg]
 exact .inl (h _ (fun _ _ h1 h2 => ⟨h1,h2⟩))
theorem held_take {P : Program} {ops : Array Oper} {Q : Exit -> Act -> World -> Prop} {md : Region.Mode} {S : World -> Prop} {i : Nat} {oi : Oper} {v : Value} {fuel : Nat} {listed : Array Bool} {a : Act} {w : World} (hi : ops.toList[i]? = some oi)
  (hB : (Region.noSelect ops && Region.free md ops listed i && (Region.ready md ops listed).contains i) = true)
  (hQ : ∀ c a w,Q (.panic c) (a.put oi.dst v) w -> Q (.panic c) a w) (hy : YieldsIf P ops S oi v a) (hS : S w)
  (h : wpAnyH P md ops Q S fuel (listed.setIfInBounds i true) (a.put oi.dst v) w) : wpAnyH P md ops Q S (fuel + 1) listed a w := by
 simp only [Bool.and_eq_true] at hB
 exact wpAnyH_take (by simpa using hi) hB.1.1 hB.1.2 hB.2 hQ hy hS h
theorem held_start {P : Program} {ops : Array Oper} {Q : Exit -> Act -> World -> Prop} {S : World -> Prop} {id : Nat} {a : Act} {w : World} (hm : P.follows .mixedOrders = true) (h : wpAnyH P .any ops (NoPanic Q) S ops.size (Array.replicate ops.size false) a w.drew) : (Code.region id ops true).wp P Q a w :=
 wp_region_noPanic (wp_region_held hm h)
def regionOf (n : Nat) : Code -> Option Code
 | .region id ops d => if id = n then some (.region id ops d) else none
 | .loop c => regionOf n c
 | .seq a b => match regionOf n a with
  | some c => some c
  | none => regionOf n b
 | .block _ c => regionOf n c
 | .scope c => regionOf n c
 | .cond _ a b => match regionOf n a with
  | some c => some c
  | none => regionOf n b
 | _ => none
theorem addr_add (b off i : Nat) : (⟨b,off,none⟩ : Addr).add i = ⟨b,off + i,none⟩ := by
 by_cases h : i = 0
 ·subst h; simp [Addr.add]
 ·simp [Addr.add,h]
theorem below_grownBy {a b : World} (h : Below a.heap.size a b) (row : Option Nat) : a.grownBy b row := by
 obtain ⟨h1,h2,h3,h4,h5⟩ := h
 exact ⟨by first | exact h1 | exact h2 | exact h3,by first | exact h1 | exact h2 | exact h3,by first | exact h1 | exact h2 | exact h3,h4,fun k hk _ => h5 k hk⟩
theorem own_below {a b : World} {B T n : Nat} {v : Value} {m : Nat} {xs : List Value} (h : a.ownsRow B T n v m xs) (hb : Below a.heap.size a b) : b.ownsRow B T n v m xs := by
 refine h.kept (below_grownBy hb none) ?_
 cases hv : v.ownBlock <;> simp
theorem own_alloc {w : World} {B T m : Nat} {v : Value} {n : Nat} {xs : List Value} (h : w.ownsRow B T m v n xs) (o : Obj) : (w.alloc o).ownsRow B T m v n xs := own_below h (below_alloc w o)
theorem cells_lit (w : World) (cs : List Value) (t : TypeId) : ∀ j u,cs[j]? = some u -> (w.alloc (.cells cs.toArray t)).cell? ((⟨w.heap.size,0,none⟩ : Addr).add j) = some u := by
 intro j u hj
 rw [addr_add,Nat.zero_add]
 unfold World.cell?
 rw [heap_alloc_new]
 simpa using hj
theorem grownBy_cell {a b : World} {row : Option Nat} (h : a.grownBy b row) {p : Addr} (hp : p.block < a.heap.size) (hne : some p.block ≠ row) : b.cell? p = a.cell? p := World.cell?_of_block (h.block p.block hp hne)
theorem grownBy_trans {a b c : World} {r : Option Nat} (h : a.grownBy b r) (k : b.grownBy c r) : a.grownBy c r := ⟨k.os.trans h.os,k.tape.trans h.tape,k.output.trans h.output,Nat.le_trans h.size k.size,fun j hj hne => (k.block j (Nat.lt_of_lt_of_le hj h.size) hne).trans (h.block j hj hne)⟩
theorem set_same {w : World} {b i : Nat} {u : Value} (h : w.cell? ⟨b,i,none⟩ = some u) (x : Value) : (w.setCell ⟨b,i,none⟩ x).cell? ⟨b,i,none⟩ = some x := World.cell?_setCell_same _ _ _ h
theorem set_else {w : World} {b i c j : Nat} (h : ¬ (c = b /\ j = i)) (x : Value) : (w.setCell ⟨b,i,none⟩ x).cell? ⟨c,j,none⟩ = w.cell? ⟨c,j,none⟩ :=
 World.cell?_setCell_other _ _ _ _ (by intro e; exact h ⟨(congrArg Addr.block e).symm,(congrArg Addr.off e).symm⟩)
theorem own_some {w : World} {B T m : Nat} {v : Value} {n : Nat} {xs : List Value} (h : w.ownsRow B T m v n xs) (h0 : 0 < n) : ∃ g cap,v = .slice (some ⟨g,0,none⟩) n cap /\ B <= g /\ g < w.heap.size /\ n <= cap := by
 have hlt := h.lt
 rcases h.2 with ⟨_,h1⟩ | ⟨g,cap,cur,rfl,hg,hh,hc,_⟩
 ·omega
 ·exact ⟨g,cap,rfl,hg,(hlt g rfl).2,hc⟩
theorem own_slice {w : World} {B T m : Nat} {v : Value} {n : Nat} {xs : List Value} (h : w.ownsRow B T m v n xs) : ∃ a cap,v = .slice a n cap /\ n <= cap := by
 rcases h.2 with ⟨rfl,rfl⟩ | ⟨g,cap,cur,rfl,hg,hh,hc,_⟩
 ·exact ⟨none,0,rfl,Nat.le_refl _⟩
 ·exact ⟨_,cap,rfl,hc⟩
def intCells (l : List Int) : List Value := l.map (Value.int .i64)
def IntsAt (w : World) (a : Option Addr) (l : List Int) : Prop := l = [] ∨ ∃ b,a = some ⟨b,0,none⟩ /\ b < w.heap.size /\ ∀ i,i < l.length -> w.cell? ⟨b,i,none⟩ = some (.int .i64 (l.getD i 0))
theorem ints_own {w : World} {B n cap : Nat} {a : Option Addr} {l : List Int} (h : w.ownsRow B 3 1 (.slice a n cap) n (intCells l)) (hn : n = l.length) : IntsAt w a l := by
 have hlt := h.lt
 rcases h.2 with ⟨_,h0⟩ | ⟨g,cap',cur,hv,hB,hh,_⟩
 ·left
  exact List.length_eq_zero_iff.1 (by omega)
 ·injection hv with ha hn' hc
  subst ha
  right
  refine ⟨g,rfl,(hlt g rfl).2,fun i hi => ?_⟩
  rw [h.cellAt i (by omega)]
  simp [intCells,hi]
theorem IntsAt.below {w w' : World} {a : Option Addr} {l : List Int} (h : IntsAt w a l) (hb : Below w.heap.size w w') : IntsAt w' a l := by
 rcases h with h | ⟨b,e,hl,hc⟩
 ·exact .inl h
 ·exact .inr ⟨b,e,Nat.lt_of_lt_of_le hl hb.size,fun i hi => (hb.cell (p := ⟨b,i,none⟩) hl).trans (hc i hi)⟩
def TruePost (w : World) (e : Ending) (w' : World) : Prop := e = .returned (.bool true) /\ Below w.heap.size w w'
end Go.Proofs.YtcncbjknfcjnmaaGreat.Tp
namespace Go.Proofs.YtcncbjknfcjnmaaGreat.Tp
open Go.ChangeShapes Go.WideShapes Go.ChangeAt Go.RowKit
structure Nd where
 id : Int
 zone : Int
 rack : Int
 weight : Int
 up : Bool
 inn : Bool
def nd0 : Nd := ⟨0,0,0,0,false,false⟩
def ndCells (x : Nd) : List Value := [.int .i64 x.id,.int .i64 x.zone,.int .i64 x.rack,.int .i64 x.weight,.bool x.up,.bool x.inn]
def InN (x : Nd) : Prop := (1 <= x.id /\ x.id <= 999) /\ (1 <= x.zone /\ x.zone <= 9) /\ (1 <= x.rack /\ x.rack <= 9) /\ 0 <= x.weight /\ x.weight <= 65536
def OkN (ls : List Nd) (i : Nat) : Prop := InN (ls.getD i nd0) /\ (0 < i -> (ls.getD (i - 1) nd0).id < (ls.getD i nd0).id)
def MayN (ls : List Nd) : Prop := ls.length <= 12 /\ ∀ i,i < ls.length -> OkN ls i
def NdAt (w : World) (b o : Nat) (x : Nd) : Prop := w.cell? ⟨b,o,none⟩ = some (.int .i64 x.id) /\ w.cell? ⟨b,o + 1,none⟩ = some (.int .i64 x.zone) /\ w.cell? ⟨b,o + 2,none⟩ = some (.int .i64 x.rack) /\ w.cell? ⟨b,o + 3,none⟩ = some (.int .i64 x.weight) /\ w.cell? ⟨b,o + 4,none⟩ = some (.bool x.up) /\ w.cell? ⟨b,o + 5,none⟩ = some (.bool x.inn)
theorem NdAt.below {w w' : World} {b o : Nat} {x : Nd} (h : NdAt w b o x) (hb : Below w.heap.size w w') : NdAt w' b o x := by
 obtain ⟨h0,h1,h2,h3,h4,h5⟩ := h
 have hlt : b < w.heap.size := World.block_lt_of_cell? w ⟨b,o,none⟩ h0
 exact ⟨(hb.cell (p := ⟨b,o,none⟩) hlt).trans h0,(hb.cell (p := ⟨b,o + 1,none⟩) hlt).trans h1,(hb.cell (p := ⟨b,o + 2,none⟩) hlt).trans h2,(hb.cell (p := ⟨b,o + 3,none⟩) hlt).trans h3,(hb.cell (p := ⟨b,o + 4,none⟩) hlt).trans h4,(hb.cell (p := ⟨b,o + 5,none⟩) hlt).trans h5⟩
def NdsAt (w : World) (a : Option Addr) (len cap : Nat) (ls : List Nd) : Prop :=
 ls.length = len /\ len <= cap /\ cap <= maxLen /\ (len = 0 ∨ ∃ b off,a = some ⟨b,off,none⟩ /\ ∀ i,i < len -> NdAt w b (off + i * 6) (ls.getD i nd0))
theorem NdsAt.below {w w' : World} {a : Option Addr} {len cap : Nat} {ls : List Nd} (h : NdsAt w a len cap ls) (hb : Below w.heap.size w w') : NdsAt w' a len cap ls := by
 refine ⟨h.1,h.2.1,h.2.2.1,?_⟩
 rcases h.2.2.2 with h0 | ⟨b,off,e,hc⟩
 ·exact .inl h0
 ·exact .inr ⟨b,off,e,fun i hi => (hc i hi).below hb⟩
theorem NdsAt.some {w : World} {a : Option Addr} {len cap : Nat} {ls : List Nd} (h : NdsAt w a len cap ls) (h0 : 0 < len) :
  ∃ b off,a = Option.some ⟨b,off,none⟩ /\ b < w.heap.size /\ ∀ i,i < len -> NdAt w b (off + i * 6) (ls.getD i nd0) := by
 rcases h.2.2.2 with h | ⟨b,off,e,h⟩
 ·omega
 ·exact ⟨b,off,e,World.block_lt_of_cell? w ⟨b,off + 0 * 6,none⟩ (h 0 h0).1,h⟩
def inB (x lo hi : Int) : Bool := decide (lo <= x) && decide (x <= hi)
theorem within_any (x lo hi : Int) (w : World) : Calls Tryz.prog 99 #[.int .i64 x,.int .i64 lo,.int .i64 hi] w fun e w' => e = .returned (.bool (inB x lo hi)) /\ w' = w := by
 by_cases h1 : lo <= x
 ·by_cases h2 : x <= hi
  ·have hr : inB x lo hi = true := by simp [inB,h1,h2]
   rw [hr]
   go_enter Tryz.func99,Tryz.ntmps99
   go_wp2
   go_ret
   exact ⟨rfl,rfl⟩
  ·have hr : inB x lo hi = false := by simp [inB,h2]
   have d : decide (x <= hi) = false := decide_eq_false h2
   rw [hr]
   go_enter Tryz.func99,Tryz.ntmps99
   go_wp2
   go_ret
   exact ⟨rfl,rfl⟩
 ·have hr : inB x lo hi = false := by simp [inB,h1]
  have d : decide (lo <= x) = false := decide_eq_false h1
  rw [hr]
  go_enter Tryz.func99,Tryz.ntmps99
  go_wp2
  go_ret
  exact ⟨rfl,rfl⟩
theorem inB_iff (x lo hi : Int) : inB x lo hi = true ↔ lo <= x /\ x <= hi := by simp [inB]
def mayNB (x : Nd) : Bool := inB x.id 1 999 && inB x.zone 1 9 && inB x.rack 1 9 && inB x.weight 0 65536
theorem mayNB_iff (x : Nd) : mayNB x = true ↔ InN x := by
 simp only [mayNB,Bool.and_eq_true,inB_iff]
 unfold InN
 exact ⟨fun ⟨⟨⟨h1,h2⟩,h3⟩,h4⟩ => ⟨h1,h2,h3,h4⟩,fun ⟨h1,h2,h3,h4⟩ => ⟨⟨⟨h1,h2⟩,h3⟩,h4⟩⟩
set_option maxRecDepth 60000 in
theorem mayBe_b (c1 c2 c3 c4 : Int) (c5 c6 : Bool) (w : World) : Calls Tryz.prog 74 #[.agg #[.int .i64 c1,.int .i64 c2,.int .i64 c3,.int .i64 c4,.bool c5,.bool c6]] w fun e w' => e = .returned (.bool (inB c1 1 999 && inB c2 1 9 && inB c3 1 9 && inB c4 0 65536)) /\ Grown w w' := by
 have HB : Hid (Grown w (w.alloc (.cells #[.int .i64 c1,.int .i64 c2,.int .i64 c3,.int .i64 c4,.bool c5,.bool c6] 72))) := grown_alloc _ _
 have H1 : Hid (∀ w : World,Calls Tryz.prog 99 #[.int .i64 c1,.int .i64 1,.int .i64 999] w fun e w' => e = .returned (.bool (inB c1 1 999)) /\ w' = w) := within_any c1 1 999
 have H2 : Hid (∀ w : World,Calls Tryz.prog 99 #[.int .i64 c2,.int .i64 1,.int .i64 9] w fun e w' => e = .returned (.bool (inB c2 1 9)) /\ w' = w) := within_any c2 1 9
 have H3 : Hid (∀ w : World,Calls Tryz.prog 99 #[.int .i64 c3,.int .i64 1,.int .i64 9] w fun e w' => e = .returned (.bool (inB c3 1 9)) /\ w' = w) := within_any c3 1 9
 have H4 : Hid (∀ w : World,Calls Tryz.prog 99 #[.int .i64 c4,.int .i64 0,.int .i64 65536] w fun e w' => e = .returned (.bool (inB c4 0 65536)) /\ w' = w) := within_any c4 0 65536
 generalize inB c1 1 999 = b1 at *
 generalize inB c2 1 9 = b2 at *
 generalize inB c3 1 9 = b3 at *
 generalize inB c4 0 65536 = b4 at *
 cases b1 with
 | false =>
  go_enter Tryz.func74,Tryz.ntmps74
  go_wp2_with (first | (go_at_call_of 99 c1; refine (H1.out _).mono ?_; rintro e w' ⟨rfl,rfl⟩) | (go_at_call_of 99 c2; refine (H2.out _).mono ?_; rintro e w' ⟨rfl,rfl⟩) | (go_at_call_of 99 c3; refine (H3.out _).mono ?_; rintro e w' ⟨rfl,rfl⟩) | (go_at_call_of 99 c4; refine (H4.out _).mono ?_; rintro e w' ⟨rfl,rfl⟩))
  go_ret
  exact ⟨rfl,HB.out⟩
 | true =>
  cases b2 with
  | false =>
   go_enter Tryz.func74,Tryz.ntmps74
   go_wp2_with (first | (go_at_call_of 99 c1; refine (H1.out _).mono ?_; rintro e w' ⟨rfl,rfl⟩) | (go_at_call_of 99 c2; refine (H2.out _).mono ?_; rintro e w' ⟨rfl,rfl⟩) | (go_at_call_of 99 c3; refine (H3.out _).mono ?_; rintro e w' ⟨rfl,rfl⟩) | (go_at_call_of 99 c4; refine (H4.out _).mono ?_; rintro e w' ⟨rfl,rfl⟩))
   go_ret
   exact ⟨rfl,HB.out⟩
  | true =>
   cases b3 with
   | false =>
    go_enter Tryz.func74,Tryz.ntmps74
    go_wp2_with (first | (go_at_call_of 99 c1; refine (H1.out _).mono ?_; rintro e w' ⟨rfl,rfl⟩) | (go_at_call_of 99 c2; refine (H2.out _).mono ?_; rintro e w' ⟨rfl,rfl⟩) | (go_at_call_of 99 c3; refine (H3.out _).mono ?_; rintro e w' ⟨rfl,rfl⟩) | (go_at_call_of 99 c4; refine (H4.out _).mono ?_; rintro e w' ⟨rfl,rfl⟩))
    go_ret
    exact ⟨rfl,HB.out⟩
   | true =>
    cases b4 with
    | false =>
     go_enter Tryz.func74,Tryz.ntmps74
     go_wp2_with (first | (go_at_call_of 99 c1; refine (H1.out _).mono ?_; rintro e w' ⟨rfl,rfl⟩) | (go_at_call_of 99 c2; refine (H2.out _).mono ?_; rintro e w' ⟨rfl,rfl⟩) | (go_at_call_of 99 c3; refine (H3.out _).mono ?_; rintro e w' ⟨rfl,rfl⟩) | (go_at_call_of 99 c4; refine (H4.out _).mono ?_; rintro e w' ⟨rfl,rfl⟩))
     go_ret
     exact ⟨rfl,HB.out⟩
    | true =>
     go_enter Tryz.func74,Tryz.ntmps74
     go_wp2_with (first | (go_at_call_of 99 c1; refine (H1.out _).mono ?_; rintro e w' ⟨rfl,rfl⟩) | (go_at_call_of 99 c2; refine (H2.out _).mono ?_; rintro e w' ⟨rfl,rfl⟩) | (go_at_call_of 99 c3; refine (H3.out _).mono ?_; rintro e w' ⟨rfl,rfl⟩) | (go_at_call_of 99 c4; refine (H4.out _).mono ?_; rintro e w' ⟨rfl,rfl⟩))
     go_ret
     exact ⟨rfl,HB.out⟩
theorem mayBe_yes {x : Nd} (h : InN x) (w : World) : Calls Tryz.prog 74 #[.agg (ndCells x).toArray] w fun e w' => e = .returned (.bool true) /\ Grown w w' :=
 (mayBe_b x.id x.zone x.rack x.weight x.up x.inn w).mono fun _ _ ⟨he,hb⟩ => ⟨by rw [he]; have := (mayNB_iff x).2 h; unfold mayNB at this; rw [this],hb⟩
theorem mayBe_no {x : Nd} (h : ¬ InN x) (w : World) : Calls Tryz.prog 74 #[.agg (ndCells x).toArray] w fun e w' => e = .returned (.bool false) /\ Grown w w' :=
 (mayBe_b x.id x.zone x.rack x.weight x.up x.inn w).mono fun _ _ ⟨he,hb⟩ => ⟨by
  rw [he]
  have h2 : mayNB x = false := by
   cases hq : mayNB x with
   | false => rfl
   | true => exact absurd ((mayNB_iff x).1 hq) h
  unfold mayNB at h2
  rw [h2],hb⟩
end Go.Proofs.YtcncbjknfcjnmaaGreat.Tp
namespace Go.Proofs.YtcncbjknfcjnmaaGreat.Tp
open Go.ChangeShapes Go.WideShapes Go.ChangeAt Go.RowKit
structure Tm where
 g : Int
 ns : List Int
def tm0 : Tm := ⟨0,[]⟩
structure Tr where
 since : Int
 past : List Tm
def tr0 : Tr := ⟨0,[]⟩
structure Mp where
 ep : Int
 size : Int
 mn : Int
 gr : Int
 nds : List Nd
 tms : List Tm
 trs : List Tr
structure MV where
 aN : Option Addr
 lN : Nat
 cN : Nat
 aT : Option Addr
 lT : Nat
 cT : Nat
 aR : Option Addr
 lR : Nat
 cR : Nat
def RowI (w : World) (a : Option Addr) (len cap : Nat) (l : List Int) : Prop :=
 l.length = len /\ len <= cap /\ cap <= maxLen /\ (a = none -> cap = 0) /\ (len = 0 ∨ ∃ b off,a = some ⟨b,off,none⟩ /\ ∀ i,i < len -> w.cell? ⟨b,off + i,none⟩ = some (.int .i64 (l.getD i 0)))
theorem RowI.some {w : World} {a : Option Addr} {len cap : Nat} {l : List Int} (h : RowI w a len cap l) (h0 : 0 < len) :
  ∃ b off,a = Option.some ⟨b,off,none⟩ /\ b < w.heap.size /\ ∀ i,i < len -> w.cell? ⟨b,off + i,none⟩ = Option.some (.int .i64 (l.getD i 0)) := by
 rcases h.2.2.2.2 with h | ⟨b,off,e,h⟩
 ·omega
 ·exact ⟨b,off,e,World.block_lt_of_cell? w ⟨b,off + 0,none⟩ (h 0 h0),h⟩
theorem RowI.below {w w' : World} {a : Option Addr} {len cap : Nat} {l : List Int} (h : RowI w a len cap l) (hb : Below w.heap.size w w') : RowI w' a len cap l := by
 refine ⟨h.1,h.2.1,h.2.2.1,h.2.2.2.1,?_⟩
 rcases h.2.2.2.2 with h0 | ⟨b,off,e,hc⟩
 ·exact .inl h0
 ·refine .inr ⟨b,off,e,fun i hi => ?_⟩
  have hlt : b < w.heap.size := World.block_lt_of_cell? w ⟨b,off + i,none⟩ (hc i hi)
  exact (hb.cell (p := ⟨b,off + i,none⟩) hlt).trans (hc i hi)
theorem RowI.nil (w : World) : RowI w none 0 0 [] := ⟨rfl,Nat.le_refl _,Nat.zero_le _,fun _ => rfl,.inl rfl⟩
def TmAt (w : World) (b o : Nat) (x : Tm) : Prop := w.cell? ⟨b,o,none⟩ = some (.int .i64 x.g) /\ ∃ a len cap,w.cell? ⟨b,o + 1,none⟩ = some (.slice a len cap) /\ RowI w a len cap x.ns
theorem TmAt.below {w w' : World} {b o : Nat} {x : Tm} (h : TmAt w b o x) (hb : Below w.heap.size w w') : TmAt w' b o x := by
 obtain ⟨h0,a,len,cap,h1,hr⟩ := h
 have hlt : b < w.heap.size := World.block_lt_of_cell? w ⟨b,o,none⟩ h0
 exact ⟨(hb.cell (p := ⟨b,o,none⟩) hlt).trans h0,a,len,cap,(hb.cell (p := ⟨b,o + 1,none⟩) hlt).trans h1,hr.below hb⟩
def TmsAt (w : World) (a : Option Addr) (len cap : Nat) (ls : List Tm) : Prop :=
 ls.length = len /\ len <= cap /\ cap <= maxLen /\ (a = none -> cap = 0) /\ (len = 0 ∨ ∃ b off,a = some ⟨b,off,none⟩ /\ ∀ i,i < len -> TmAt w b (off + i * 2) (ls.getD i tm0))
theorem TmsAt.below {w w' : World} {a : Option Addr} {len cap : Nat} {ls : List Tm} (h : TmsAt w a len cap ls) (hb : Below w.heap.size w w') : TmsAt w' a len cap ls := by
 refine ⟨h.1,h.2.1,h.2.2.1,h.2.2.2.1,?_⟩
 rcases h.2.2.2.2 with h0 | ⟨b,off,e,hc⟩
 ·exact .inl h0
 ·exact .inr ⟨b,off,e,fun i hi => (hc i hi).below hb⟩
theorem TmsAt.some {w : World} {a : Option Addr} {len cap : Nat} {ls : List Tm} (h : TmsAt w a len cap ls) (h0 : 0 < len) :
  ∃ b off,a = Option.some ⟨b,off,none⟩ /\ b < w.heap.size /\ ∀ i,i < len -> TmAt w b (off + i * 2) (ls.getD i tm0) := by
 rcases h.2.2.2.2 with h | ⟨b,off,e,h⟩
 ·omega
 ·exact ⟨b,off,e,World.block_lt_of_cell? w ⟨b,off + 0 * 2,none⟩ (h 0 h0).1,h⟩
theorem TmsAt.nil (w : World) : TmsAt w none 0 0 [] := ⟨rfl,Nat.le_refl _,Nat.zero_le _,fun _ => rfl,.inl rfl⟩
def TrAt (w : World) (b o : Nat) (x : Tr) : Prop := w.cell? ⟨b,o,none⟩ = some (.int .i64 x.since) /\ ∃ a len cap,w.cell? ⟨b,o + 1,none⟩ = some (.slice a len cap) /\ TmsAt w a len cap x.past
theorem TrAt.below {w w' : World} {b o : Nat} {x : Tr} (h : TrAt w b o x) (hb : Below w.heap.size w w') : TrAt w' b o x := by
 obtain ⟨h0,a,len,cap,h1,hr⟩ := h
 have hlt : b < w.heap.size := World.block_lt_of_cell? w ⟨b,o,none⟩ h0
 exact ⟨(hb.cell (p := ⟨b,o,none⟩) hlt).trans h0,a,len,cap,(hb.cell (p := ⟨b,o + 1,none⟩) hlt).trans h1,hr.below hb⟩
def TrsAt (w : World) (a : Option Addr) (len cap : Nat) (ls : List Tr) : Prop :=
 ls.length = len /\ len <= cap /\ cap <= maxLen /\ (a = none -> cap = 0) /\ (len = 0 ∨ ∃ b off,a = some ⟨b,off,none⟩ /\ ∀ i,i < len -> TrAt w b (off + i * 2) (ls.getD i tr0))
theorem TrsAt.below {w w' : World} {a : Option Addr} {len cap : Nat} {ls : List Tr} (h : TrsAt w a len cap ls) (hb : Below w.heap.size w w') : TrsAt w' a len cap ls := by
 refine ⟨h.1,h.2.1,h.2.2.1,h.2.2.2.1,?_⟩
 rcases h.2.2.2.2 with h0 | ⟨b,off,e,hc⟩
 ·exact .inl h0
 ·exact .inr ⟨b,off,e,fun i hi => (hc i hi).below hb⟩
theorem TrsAt.some {w : World} {a : Option Addr} {len cap : Nat} {ls : List Tr} (h : TrsAt w a len cap ls) (h0 : 0 < len) :
  ∃ b off,a = Option.some ⟨b,off,none⟩ /\ b < w.heap.size /\ ∀ i,i < len -> TrAt w b (off + i * 2) (ls.getD i tr0) := by
 rcases h.2.2.2.2 with h | ⟨b,off,e,h⟩
 ·omega
 ·exact ⟨b,off,e,World.block_lt_of_cell? w ⟨b,off + 0 * 2,none⟩ (h 0 h0).1,h⟩
theorem TrsAt.nil (w : World) : TrsAt w none 0 0 [] := ⟨rfl,Nat.le_refl _,Nat.zero_le _,fun _ => rfl,.inl rfl⟩
def mapCells (m : Mp) (s : MV) : List Value := [.int .i64 m.ep,.int .i64 m.size,.int .i64 m.mn,.int .i64 m.gr,.slice s.aN s.lN s.cN,.slice s.aT s.lT s.cT,.slice s.aR s.lR s.cR]
structure MapAt (w : World) (m : Mp) (s : MV) : Prop where
 nds : NdsAt w s.aN s.lN s.cN m.nds
 nilN : s.aN = none -> s.cN = 0
 tms : TmsAt w s.aT s.lT s.cT m.tms
 trs : TrsAt w s.aR s.lR s.cR m.trs
theorem MapAt.below {w w' : World} {m : Mp} {s : MV} (h : MapAt w m s) (hb : Below w.heap.size w w') : MapAt w' m s := ⟨h.nds.below hb,h.nilN,h.tms.below hb,h.trs.below hb⟩
theorem NdsAt.nil (w : World) : NdsAt w none 0 0 [] := ⟨rfl,Nat.le_refl _,Nat.zero_le _,.inl rfl⟩
def mp0 : Mp := ⟨0,0,0,0,[],[],[]⟩
def Box7 (w : World) (b : Nat) (v0 v1 v2 v3 v4 v5 v6 : Value) : Prop := (w.cell? ⟨b,0,none⟩ = some v0 /\ w.cell? ⟨b,1,none⟩ = some v1 /\ w.cell? ⟨b,2,none⟩ = some v2 /\ w.cell? ⟨b,3,none⟩ = some v3 /\ w.cell? ⟨b,4,none⟩ = some v4 /\ w.cell? ⟨b,5,none⟩ = some v5 /\ w.cell? ⟨b,6,none⟩ = some v6) /\ (w.frozen? ⟨b,0,none⟩ = false /\ w.frozen? ⟨b,1,none⟩ = false /\ w.frozen? ⟨b,2,none⟩ = false /\ w.frozen? ⟨b,3,none⟩ = false /\ w.frozen? ⟨b,4,none⟩ = false /\ w.frozen? ⟨b,5,none⟩ = false /\ w.frozen? ⟨b,6,none⟩ = false)
def set7 (w : World) (b : Nat) (v0 v1 v2 v3 v4 v5 v6 : Value) : World := ((((((w.setCell ⟨b,0,none⟩ v0).setCell ⟨b,1,none⟩ v1).setCell ⟨b,2,none⟩ v2).setCell ⟨b,3,none⟩ v3).setCell ⟨b,4,none⟩ v4).setCell ⟨b,5,none⟩ v5).setCell ⟨b,6,none⟩ v6
theorem Box7.lt {w : World} {b : Nat} {v0 v1 v2 v3 v4 v5 v6 : Value} (h : Box7 w b v0 v1 v2 v3 v4 v5 v6) : b < w.heap.size := World.block_lt_of_cell? w ⟨b,0,none⟩ h.1.1
theorem Box7.set {w : World} {b : Nat} {u0 u1 u2 u3 u4 u5 u6 : Value} (h : Box7 w b u0 u1 u2 u3 u4 u5 u6) (v0 v1 v2 v3 v4 v5 v6 : Value) : Box7 (set7 w b v0 v1 v2 v3 v4 v5 v6) b v0 v1 v2 v3 v4 v5 v6 := by
 obtain ⟨⟨h0,h1,h2,h3,h4,h5,h6⟩,⟨f0,f1,f2,f3,f4,f5,f6⟩⟩ := h
 unfold set7
 refine ⟨⟨?_,?_,?_,?_,?_,?_,?_⟩,⟨by simpa using f0,by simpa using f1,by simpa using f2,by simpa using f3,by simpa using f4,by simpa using f5,by simpa using f6⟩⟩
 ·rw [set_else (by omega),set_else (by omega),set_else (by omega),set_else (by omega),set_else (by omega),set_else (by omega)]
  exact set_same h0 _
 ·rw [set_else (by omega),set_else (by omega),set_else (by omega),set_else (by omega),set_else (by omega)]
  exact set_same ((set_else (by omega) _).trans h1) _
 ·rw [set_else (by omega),set_else (by omega),set_else (by omega),set_else (by omega)]
  exact set_same ((set_else (by omega) _).trans ((set_else (by omega) _).trans h2)) _
 ·rw [set_else (by omega),set_else (by omega),set_else (by omega)]
  exact set_same ((set_else (by omega) _).trans ((set_else (by omega) _).trans ((set_else (by omega) _).trans h3))) _
 ·rw [set_else (by omega),set_else (by omega)]
  exact set_same ((set_else (by omega) _).trans ((set_else (by omega) _).trans ((set_else (by omega) _).trans ((set_else (by omega) _).trans h4)))) _
 ·rw [set_else (by omega)]
  exact set_same ((set_else (by omega) _).trans ((set_else (by omega) _).trans ((set_else (by omega) _).trans ((set_else (by omega) _).trans ((set_else (by omega) _).trans h5))))) _
 ·exact set_same ((set_else (by omega) _).trans ((set_else (by omega) _).trans ((set_else (by omega) _).trans ((set_else (by omega) _).trans ((set_else (by omega) _).trans ((set_else (by omega) _).trans h6)))))) _
theorem Box7.below {w w' : World} {b : Nat} {v0 v1 v2 v3 v4 v5 v6 : Value} (h : Box7 w b v0 v1 v2 v3 v4 v5 v6) (hb : Below w.heap.size w w') : Box7 w' b v0 v1 v2 v3 v4 v5 v6 := by
 have hl := h.lt
 obtain ⟨⟨h0,h1,h2,h3,h4,h5,h6⟩,⟨f0,f1,f2,f3,f4,f5,f6⟩⟩ := h
 exact ⟨⟨(hb.cell (p := ⟨b,0,none⟩) hl).trans h0,(hb.cell (p := ⟨b,1,none⟩) hl).trans h1,(hb.cell (p := ⟨b,2,none⟩) hl).trans h2,(hb.cell (p := ⟨b,3,none⟩) hl).trans h3,(hb.cell (p := ⟨b,4,none⟩) hl).trans h4,(hb.cell (p := ⟨b,5,none⟩) hl).trans h5,(hb.cell (p := ⟨b,6,none⟩) hl).trans h6⟩,⟨(hb.frozen (p := ⟨b,0,none⟩) hl).trans f0,(hb.frozen (p := ⟨b,1,none⟩) hl).trans f1,(hb.frozen (p := ⟨b,2,none⟩) hl).trans f2,(hb.frozen (p := ⟨b,3,none⟩) hl).trans f3,(hb.frozen (p := ⟨b,4,none⟩) hl).trans f4,(hb.frozen (p := ⟨b,5,none⟩) hl).trans f5,(hb.frozen (p := ⟨b,6,none⟩) hl).trans f6⟩⟩
theorem set7_below {N : Nat} {w0 w : World} {b : Nat} (h : Below N w0 w) (hb : N <= b) (v0 v1 v2 v3 v4 v5 v6 : Value) : Below N w0 (set7 w b v0 v1 v2 v3 v4 v5 v6) := ((((((h.setCell (p := ⟨b,0,none⟩) hb _).setCell (p := ⟨b,1,none⟩) hb _).setCell (p := ⟨b,2,none⟩) hb _).setCell (p := ⟨b,3,none⟩) hb _).setCell (p := ⟨b,4,none⟩) hb _).setCell (p := ⟨b,5,none⟩) hb _).setCell (p := ⟨b,6,none⟩) hb _
theorem Box7.new (w : World) (v0 v1 v2 v3 v4 v5 v6 : Value) (t : TypeId) : Box7 (w.alloc (.cells #[v0,v1,v2,v3,v4,v5,v6] t)) w.heap.size v0 v1 v2 v3 v4 v5 v6 := by unfold Box7; simp
theorem set_grownBy (w : World) (b i : Nat) (v : Value) : w.grownBy (w.setCell ⟨b,i,none⟩ v) (some b) := by
 refine ⟨rfl,rfl,rfl,by simp,fun k hk hne => ?_⟩
 have hkb : k ≠ b := fun h => hne (by rw [h])
 simp [World.setCell,Array.getElem?_modify,Ne.symm hkb]
theorem set7_grownBy (w : World) (b : Nat) (v0 v1 v2 v3 v4 v5 v6 : Value) : w.grownBy (set7 w b v0 v1 v2 v3 v4 v5 v6) (some b) :=
 grownBy_trans (grownBy_trans (grownBy_trans (grownBy_trans (grownBy_trans (grownBy_trans (set_grownBy _ _ 0 _) (set_grownBy _ _ 1 _)) (set_grownBy _ _ 2 _)) (set_grownBy _ _ 3 _)) (set_grownBy _ _ 4 _)) (set_grownBy _ _ 5 _)) (set_grownBy _ _ 6 _)
theorem own_type {w w' : World} {B s n : Nat} {e : TypeId} {v : Value} {xs : List Value} {b : Nat} {cb : Array Value} {tb : TypeId} {fz : Nat × Nat} (h : w.ownsRow B e s v n xs) (hg : w.grownBy w' (some b)) (hb : w.heap[b]? = some (.cells cb tb fz)) (ht : tb ≠ e) : w'.ownsRow B e s v n xs := by
 refine h.kept hg ?_
 rcases h.2 with ⟨rfl,_⟩ | ⟨g,cap,cur,rfl,_,hh,_⟩
 ·exact .inl rfl
 ·right
  intro e0
  simp [Value.ownBlock] at e0
  subst e0
  rw [hh] at hb
  simp at hb
  exact ht hb.2.1.symm
theorem own_base {w : World} {B B' T m : Nat} {v : Value} {n : Nat} {xs : List Value} (h : w.ownsRow B' T m v n xs) (hB : B <= B') : w.ownsRow B T m v n xs := by
 refine ⟨h.1,?_⟩
 rcases h.2 with h | ⟨g,cap,cur,hv,hg,r⟩
 ·exact .inl h
 ·exact .inr ⟨g,cap,cur,hv,Nat.le_trans hB hg,r⟩
theorem Box7.put0 {w : World} {b : Nat} {v0 v1 v2 v3 v4 v5 v6 : Value} (h : Box7 w b v0 v1 v2 v3 v4 v5 v6) (v : Value) : Box7 (w.setCell ⟨b,0,none⟩ v) b v v1 v2 v3 v4 v5 v6 := by
 obtain ⟨⟨h0,h1,h2,h3,h4,h5,h6⟩,⟨f0,f1,f2,f3,f4,f5,f6⟩⟩ := h
 exact ⟨⟨set_same h0 _,(set_else (by omega) _).trans h1,(set_else (by omega) _).trans h2,(set_else (by omega) _).trans h3,(set_else (by omega) _).trans h4,(set_else (by omega) _).trans h5,(set_else (by omega) _).trans h6⟩,⟨by simpa using f0,by simpa using f1,by simpa using f2,by simpa using f3,by simpa using f4,by simpa using f5,by simpa using f6⟩⟩
theorem Box7.put4 {w : World} {b : Nat} {v0 v1 v2 v3 v4 v5 v6 : Value} (h : Box7 w b v0 v1 v2 v3 v4 v5 v6) (v : Value) : Box7 (w.setCell ⟨b,4,none⟩ v) b v0 v1 v2 v3 v v5 v6 := by
 obtain ⟨⟨h0,h1,h2,h3,h4,h5,h6⟩,⟨f0,f1,f2,f3,f4,f5,f6⟩⟩ := h
 exact ⟨⟨(set_else (by omega) _).trans h0,(set_else (by omega) _).trans h1,(set_else (by omega) _).trans h2,(set_else (by omega) _).trans h3,set_same h4 _,(set_else (by omega) _).trans h5,(set_else (by omega) _).trans h6⟩,⟨by simpa using f0,by simpa using f1,by simpa using f2,by simpa using f3,by simpa using f4,by simpa using f5,by simpa using f6⟩⟩
theorem Box7.put5 {w : World} {b : Nat} {v0 v1 v2 v3 v4 v5 v6 : Value} (h : Box7 w b v0 v1 v2 v3 v4 v5 v6) (v : Value) : Box7 (w.setCell ⟨b,5,none⟩ v) b v0 v1 v2 v3 v4 v v6 := by
 obtain ⟨⟨h0,h1,h2,h3,h4,h5,h6⟩,⟨f0,f1,f2,f3,f4,f5,f6⟩⟩ := h
 exact ⟨⟨(set_else (by omega) _).trans h0,(set_else (by omega) _).trans h1,(set_else (by omega) _).trans h2,(set_else (by omega) _).trans h3,(set_else (by omega) _).trans h4,set_same h5 _,(set_else (by omega) _).trans h6⟩,⟨by simpa using f0,by simpa using f1,by simpa using f2,by simpa using f3,by simpa using f4,by simpa using f5,by simpa using f6⟩⟩
theorem Box7.put6 {w : World} {b : Nat} {v0 v1 v2 v3 v4 v5 v6 : Value} (h : Box7 w b v0 v1 v2 v3 v4 v5 v6) (v : Value) : Box7 (w.setCell ⟨b,6,none⟩ v) b v0 v1 v2 v3 v4 v5 v := by
 obtain ⟨⟨h0,h1,h2,h3,h4,h5,h6⟩,⟨f0,f1,f2,f3,f4,f5,f6⟩⟩ := h
 exact ⟨⟨(set_else (by omega) _).trans h0,(set_else (by omega) _).trans h1,(set_else (by omega) _).trans h2,(set_else (by omega) _).trans h3,(set_else (by omega) _).trans h4,(set_else (by omega) _).trans h5,set_same h6 _⟩,⟨by simpa using f0,by simpa using f1,by simpa using f2,by simpa using f3,by simpa using f4,by simpa using f5,by simpa using f6⟩⟩
theorem Box7.else {w w' : World} {b c : Nat} {v0 v1 v2 v3 v4 v5 v6 : Value} (h : Box7 w b v0 v1 v2 v3 v4 v5 v6) (hg : w.grownBy w' (some c)) (hne : b ≠ c) : Box7 w' b v0 v1 v2 v3 v4 v5 v6 := by
 have hl := h.lt
 have hbk : w'.heap[b]? = w.heap[b]? := hg.block b hl (by simpa using hne)
 obtain ⟨⟨h0,h1,h2,h3,h4,h5,h6⟩,⟨f0,f1,f2,f3,f4,f5,f6⟩⟩ := h
 exact ⟨⟨(World.cell?_of_block (a := ⟨b,0,none⟩) hbk).trans h0,(World.cell?_of_block (a := ⟨b,1,none⟩) hbk).trans h1,(World.cell?_of_block (a := ⟨b,2,none⟩) hbk).trans h2,(World.cell?_of_block (a := ⟨b,3,none⟩) hbk).trans h3,(World.cell?_of_block (a := ⟨b,4,none⟩) hbk).trans h4,(World.cell?_of_block (a := ⟨b,5,none⟩) hbk).trans h5,(World.cell?_of_block (a := ⟨b,6,none⟩) hbk).trans h6⟩,⟨(World.frozen?_of_block (a := ⟨b,0,none⟩) hbk).trans f0,(World.frozen?_of_block (a := ⟨b,1,none⟩) hbk).trans f1,(World.frozen?_of_block (a := ⟨b,2,none⟩) hbk).trans f2,(World.frozen?_of_block (a := ⟨b,3,none⟩) hbk).trans f3,(World.frozen?_of_block (a := ⟨b,4,none⟩) hbk).trans f4,(World.frozen?_of_block (a := ⟨b,5,none⟩) hbk).trans f5,(World.frozen?_of_block (a := ⟨b,6,none⟩) hbk).trans f6⟩⟩
end Go.Proofs.YtcncbjknfcjnmaaGreat.Tp
