/-
  Choices as they lie in memory; the contracts of mayBe, of Check and of the answer's May: which choices may be.
  Rows of one's own; lots in memory; the region in which one more lot is put behind the others.
  The contract of lots: those of the choices that have weight, with their costs; none, if the choices may not be.
-/
import Derived.Test.YtcncbjknfcjnmaaGreatPr08
import Derived.Laws.OwnMore
import Derived.StillTail
namespace Go.Proofs.YtcncbjknfcjnmaaGreat.Dr
open Go.ChangeShapes Go.WideShapes Go.ChangeAt Go.RowKit
def ChsAt (w : World) (a : Option Addr) (len cap : Nat) (ls : List Ch) : Prop :=
 ls.length = len /\ len <= cap /\ cap <= maxLen /\ (len = 0 ∨ ∃ b off,a = some ⟨b,off,none⟩ /\ ∀ i,i < len -> w.cell? ⟨b,off + i * 2,none⟩ = some (.int .i64 (ls.getD i ch0).1) /\ w.cell? ⟨b,off + i * 2 + 1,none⟩ = some (.int .i64 (ls.getD i ch0).2))
theorem ChsAt.below {w w' : World} {a : Option Addr} {len cap : Nat} {ls : List Ch} (h : ChsAt w a len cap ls) (hb : Below w.heap.size w w') : ChsAt w' a len cap ls := by
 refine ⟨h.1,h.2.1,h.2.2.1,?_⟩
 rcases h.2.2.2 with h0 | ⟨b,off,e,hc⟩
 ·exact .inl h0
 ·refine .inr ⟨b,off,e,fun i hi => ?_⟩
  obtain ⟨c0,c1⟩ := hc i hi
  have hlt : b < w.heap.size := World.block_lt_of_cell? w ⟨b,off + i * 2,none⟩ c0
  exact ⟨(hb.cell (p := ⟨b,off + i * 2,none⟩) hlt).trans c0,(hb.cell (p := ⟨b,off + i * 2 + 1,none⟩) hlt).trans c1⟩
theorem ChsAt.some {w : World} {a : Option Addr} {len cap : Nat} {ls : List Ch} (h : ChsAt w a len cap ls) (h0 : 0 < len) :
  ∃ b off,a = Option.some ⟨b,off,none⟩ /\ b < w.heap.size /\ ∀ i,i < len -> w.cell? ⟨b,off + i * 2,none⟩ = Option.some (.int .i64 (ls.getD i ch0).1) /\ w.cell? ⟨b,off + i * 2 + 1,none⟩ = Option.some (.int .i64 (ls.getD i ch0).2) := by
 rcases h.2.2.2 with h | ⟨b,off,e,h⟩
 ·omega
 ·exact ⟨b,off,e,World.block_lt_of_cell? w ⟨b,off + 0 * 2,none⟩ (h 0 h0).1,h⟩
def BoolGrown (P : Prop) (w : World) (e : Ending) (w' : World) : Prop := Grown w w' /\ ∃ q : Bool,e = .returned (.bool q) /\ (q = true ↔ P)
theorem boolG_yes {P : Prop} {w w' : World} (hb : Grown w w') (h : P) : BoolGrown P w (.returned (.bool true)) w' := ⟨hb,true,rfl,by simp [h]⟩
theorem boolG_no {P : Prop} {w w' : World} (hb : Grown w w') (h : ¬ P) : BoolGrown P w (.returned (.bool false)) w' := ⟨hb,false,rfl,by simp [h]⟩
def BoolPost (P : Prop) (w : World) (e : Ending) (w' : World) : Prop := Below w.heap.size w w' /\ ∃ q : Bool,e = .returned (.bool q) /\ (q = true ↔ P)
theorem bool_yes {P : Prop} {w w' : World} (hb : Below w.heap.size w w') (h : P) : BoolPost P w (.returned (.bool true)) w' := ⟨hb,true,rfl,by simp [h]⟩
theorem bool_no {P : Prop} {w w' : World} (hb : Below w.heap.size w w') (h : ¬ P) : BoolPost P w (.returned (.bool false)) w' := ⟨hb,false,rfl,by simp [h]⟩
set_option maxRecDepth 60000 in
theorem mayBe_any (x y : Int) (w : World) : Calls Tryz.prog 183 #[.agg #[.int .i64 x,.int .i64 y]] w fun e w' => BoolGrown (InC (x,y)) w e w' := by
 have HB : Hid (Grown w (w.alloc (.cells #[.int .i64 x,.int .i64 y] 148))) := grown_alloc _ _
 by_cases h1 : 0 <= x
 ·by_cases h2 : x <= 2147483647
  ·by_cases h3 : 0 <= y
   ·by_cases h4 : y <= 65536
    ·go_enter Tryz.func183,Tryz.ntmps183
     go_wp2
     go_ret
     exact boolG_yes HB.out ⟨h1,h2,h3,h4⟩
    ·have d : decide (y <= 65536) = false := decide_eq_false h4
     go_enter Tryz.func183,Tryz.ntmps183
     go_wp2
     go_ret
     exact boolG_no HB.out fun h => by have : _ := h.2.2.2; simp only at this; omega
   ·have d : decide (0 <= y) = false := decide_eq_false h3
    go_enter Tryz.func183,Tryz.ntmps183
    go_wp2
    go_ret
    exact boolG_no HB.out fun h => by have : _ := h.2.2.1; simp only at this; omega
  ·have d : decide (x <= 2147483647) = false := decide_eq_false h2
   go_enter Tryz.func183,Tryz.ntmps183
   go_wp2
   go_ret
   exact boolG_no HB.out fun h => by have : _ := h.2.1; simp only at this; omega
 ·have d : decide (0 <= x) = false := decide_eq_false h1
  go_enter Tryz.func183,Tryz.ntmps183
  go_wp2
  go_ret
  exact boolG_no HB.out fun h => by have : _ := h.1; simp only at this; omega
theorem mayBe_yes {x y : Int} (h : InC (x,y)) (w : World) : Calls Tryz.prog 183 #[.agg #[.int .i64 x,.int .i64 y]] w fun e w' => e = .returned (.bool true) /\ Grown w w' :=
 (mayBe_any x y w).mono fun _ _ ⟨hb,q,he,hq⟩ => ⟨by rw [he,hq.2 h],hb⟩
theorem mayBe_no {x y : Int} (h : ¬ InC (x,y)) (w : World) : Calls Tryz.prog 183 #[.agg #[.int .i64 x,.int .i64 y]] w fun e w' => e = .returned (.bool false) /\ Grown w w' :=
 (mayBe_any x y w).mono fun _ _ ⟨hb,q,he,hq⟩ => ⟨by rw [he]; cases q with | false => rfl | true => exact absurd (hq.1 rfl) h,hb⟩
def ErrPost (P : Prop) (w : World) (e : Ending) (w' : World) : Prop := Below w.heap.size w w' /\ ((e = .returned (.int .i64 0) /\ P) ∨ (e = .returned (.int .i64 1) /\ ¬ P))
set_option maxHeartbeats 1000000 in
set_option maxRecDepth 60000 in
theorem check_any (a : Option Addr) (len cap : Nat) (ls : List Ch) (w : World) (h : ChsAt w a len cap ls) :
  Calls Tryz.prog 173 #[.slice a len cap] w fun e w' => ErrPost (MayC ls) w e w' := by
 have hl : ls.length = len := h.1
 have hm : len <= maxLen := Nat.le_trans h.2.1 h.2.2.1
 unfold maxLen at hm
 have HL : Hid (ChsAt w a len cap ls) := h
 clear h
 by_cases h64 : 64 < len
 ·have HN : Hid (¬ MayC ls) := fun h => by have := h.1; omega
  go_enter Tryz.func173,Tryz.ntmps173
  go_wp2_with fail
  go_ret
  exact ⟨Below.refl _ _,.inr ⟨rfl,HN.out⟩⟩
 go_enter Tryz.func173,Tryz.ntmps173
 go_wp2_with fail
 go_loopw [10] (fun i wr => ∃ k : Nat,k <= len /\ i = .int .i64 k /\ Hid (∀ j,j < k -> OkC ls j) /\ Below w.heap.size w wr) (fun i _ => len - (intOf i).toNat)
 case atStart => exact ⟨0,Nat.zero_le _,rfl,(fun j hj => absurd hj (Nat.not_lt_zero _)),Below.refl _ _⟩
 case round =>
  obtain ⟨k,hk,rfl,hT,hbel⟩ := hrel
  by_cases hlt : k < len
  ·obtain ⟨b,off,rfl,hbs,hcell⟩ := (HL.out.below hbel).some (by omega)
   obtain ⟨e0,e1⟩ := hcell k hlt
   have hk1 : (k : Int) < (len : Int) := by omega
   have HPV : Hid (0 < k -> wr.cell? ⟨b,off + (k - 1) * 2,none⟩ = some (.int .i64 (ls.getD (k - 1) ch0).1)) := fun h => (hcell (k - 1) (by omega)).1
   clear hcell
   have HOK : Hid (OkC ls k ↔ InC (ls.getD k ch0) /\ (0 < k -> (ls.getD (k - 1) ch0).1 < (ls.getD k ch0).1)) := Iff.rfl
   have HNO : Hid (¬ OkC ls k -> ¬ MayC ls) := fun hn hM => hn (hM.2 k (by omega))
   have HYES : Hid (OkC ls k -> ∀ j,j < k + 1 -> OkC ls j) := fun h j hj => by
    rcases Nat.lt_succ_iff_lt_or_eq.1 hj with h' | rfl
    ·exact hT.out j h'
    ·exact h
   generalize ls.getD k ch0 = x at *
   obtain ⟨c1,c2⟩ := x
   have HB1 : Hid (∀ n os,Below w.heap.size w (Go.Sort.grow ((wr.alloc (.cells #[.int .i64 c1,.int .i64 c2] 148)).drewN n) os)) := fun n os => below2 (below2 hbel (below_alloc _ _)) (below_grow _ _ _)
   have x0 := cell_grown (w := wr.alloc (.cells #[.int .i64 c1,.int .i64 c2] 148)) (a := ⟨wr.heap.size,0,none⟩) (v := .int .i64 c1) (by simp) (by simp)
   have x1 := cell_grown (w := wr.alloc (.cells #[.int .i64 c1,.int .i64 c2] 148)) (a := ⟨wr.heap.size,1,none⟩) (v := .int .i64 c2) (by simp) (by simp)
   by_cases hin : InC (c1,c2)
   ·have HC : Hid (∀ W,Calls Tryz.prog 183 #[.agg #[.int .i64 c1,.int .i64 c2]] W fun e w' => e = .returned (.bool true) /\ Grown W w') := fun W => mayBe_yes hin W
    by_cases hk0 : k = 0
    ·have HY : Hid (∀ j,j < k + 1 -> OkC ls j) := HYES.out (HOK.out.2 ⟨hin,fun h => absurd h (by omega)⟩)
     have hkz : decide (0 < k) = false := by simp; omega
     clear hk0 HNO HOK HYES HPV hin hT
     go_wp2_with fail
     generalize hw1 : wr.alloc (.cells #[.int .i64 c1,.int .i64 c2] 148) = w1 at *
     clear hw1
     refine wp_region_QW mixed5 (by kernel_rfl) ?_
     repeat (refine QW_step (fun K hK => ?_); go_simp; first | (refine hK _ ?_; clear hK K) | (apply Exists.intro; refine ⟨fun _ => ?_,hK _ ?_⟩; (go_at_call 183; refine Calls.grown_of (HC.out _)); clear hK K))
     refine QW_nil ?_
     intro _ hw9
     obtain ⟨⟨nq,osq⟩,hw8⟩ := hw9
     subst hw8
     have hb := HB1.out nq osq
     go_wp2_with fail
     exact ⟨⟨k + 1,by omega,by go_num,HY,hb⟩,by simp [intOf]; omega⟩
    ·obtain ⟨m,hmk⟩ : ∃ m,k = m + 1 := ⟨k - 1,by omega⟩
     have ep : wr.cell? ⟨b,off + m * 2,none⟩ = some (.int .i64 (ls.getD m ch0).1) := by have := HPV.out (by omega); rw [hmk] at this; exact this
     have em : IntKind.i64.wrap ((k : Int) - 1) = (m : Int) := by
      rw [show (k : Int) - 1 = (m : Int) from by omega]; simp [IntKind.wrap,IntKind.bits,IntKind.signed]; omega
     have em0 : (0 : Int) <= (m : Int) := by omega
     have em1 : (m : Int) < (len : Int) := by omega
     have ek0 : decide (0 < k) = true := by simp; omega
     have HOK2 : Hid (OkC ls k ↔ (ls.getD m ch0).1 < c1) := by
      have em2 : k - 1 = m := by omega
      have := HOK.out
      rw [em2] at this
      exact ⟨fun h => (this.1 h).2 (by omega),fun h => this.2 ⟨hin,fun _ => h⟩⟩
     have x2 := cell_grown (w := wr.alloc (.cells #[.int .i64 c1,.int .i64 c2] 148)) (a := ⟨b,off + m * 2,none⟩) (by simp; omega) (((below_alloc wr _).cell (p := ⟨b,off + m * 2,none⟩) hbs).trans ep)
     clear HOK HPV hmk hk0 hin hT ep
     generalize (ls.getD m ch0).1 = y at *
     by_cases hy : y < c1
     ·have HY : Hid (∀ j,j < k + 1 -> OkC ls j) := HYES.out (HOK2.out.2 hy)
      have hd : decide (c1 <= y) = false := by simp; omega
      clear HNO HOK2 HYES
      go_wp2_with fail
      generalize hw1 : wr.alloc (.cells #[.int .i64 c1,.int .i64 c2] 148) = w1 at *
      clear hw1
      refine wp_region_QW mixed5 (by kernel_rfl) ?_
      repeat (refine QW_step (fun K hK => ?_); go_simp; first | (refine hK _ ?_; clear hK K) | (apply Exists.intro; refine ⟨fun _ => ?_,hK _ ?_⟩; (go_at_call 183; refine Calls.grown_of (HC.out _)); clear hK K))
      refine QW_nil ?_
      intro _ hw9
      obtain ⟨⟨nq,osq⟩,hw8⟩ := hw9
      subst hw8
      have hb := HB1.out nq osq
      go_wp2_with fail
      exact ⟨⟨k + 1,by omega,by go_num,HY,hb⟩,by simp [intOf]; omega⟩
     ·have HN : Hid (¬ MayC ls) := HNO.out fun h => hy (HOK2.out.1 h)
      have hd : decide (c1 <= y) = true := by simp; omega
      clear HNO HOK2 HYES
      go_wp2_with fail
      generalize hw1 : wr.alloc (.cells #[.int .i64 c1,.int .i64 c2] 148) = w1 at *
      clear hw1
      refine wp_region_QW mixed5 (by kernel_rfl) ?_
      repeat (refine QW_step (fun K hK => ?_); go_simp; first | (refine hK _ ?_; clear hK K) | (apply Exists.intro; refine ⟨fun _ => ?_,hK _ ?_⟩; (go_at_call 183; refine Calls.grown_of (HC.out _)); clear hK K))
      refine QW_nil ?_
      intro _ hw9
      obtain ⟨⟨nq,osq⟩,hw8⟩ := hw9
      subst hw8
      have hb := HB1.out nq osq
      go_wp2_with fail
      go_ret
      exact ⟨hb,.inr ⟨rfl,HN.out⟩⟩
   ·have HN : Hid (¬ MayC ls) := HNO.out fun h => hin (HOK.out.1 h).1
    have HC : Hid (∀ W,Calls Tryz.prog 183 #[.agg #[.int .i64 c1,.int .i64 c2]] W fun e w' => e = .returned (.bool false) /\ Grown W w') := fun W => mayBe_no hin W
    clear HNO HOK HYES HPV hin hT
    go_wp2_with fail
    generalize hw1 : wr.alloc (.cells #[.int .i64 c1,.int .i64 c2] 148) = w1 at *
    clear hw1
    refine wp_region_QW mixed5 (by kernel_rfl) ?_
    repeat (refine QW_step (fun K hK => ?_); go_simp; first | (refine hK _ ?_; clear hK K) | (apply Exists.intro; refine ⟨fun _ => ?_,hK _ ?_⟩; (go_at_call 183; refine Calls.grown_of (HC.out _)); clear hK K))
    refine QW_nil ?_
    intro _ hw9
    obtain ⟨⟨nq,osq⟩,hw8⟩ := hw9
    subst hw8
    have hb := HB1.out nq osq
    go_wp2_with fail
    go_ret
    exact ⟨hb,.inr ⟨rfl,HN.out⟩⟩
  ·obtain rfl : k = len := by omega
   have HM : Hid (MayC ls) := ⟨by omega,fun i hi => hT.out i (by omega)⟩
   clear hT HL
   go_wp2_with fail
   go_ret
   exact ⟨hbel,.inl ⟨rfl,HM.out⟩⟩
end Go.Proofs.YtcncbjknfcjnmaaGreat.Dr
namespace Go.Proofs.YtcncbjknfcjnmaaGreat.Dr
open Go.ChangeShapes Go.WideShapes Go.ChangeAt Go.RowKit
theorem held_one {P : Program} {ops : Array Oper} {Q : Exit -> Act -> World -> Prop} {md : Region.Mode} {S : World -> Prop} {i : Nat} {o : Oper} {fuel : Nat} {listed : Array Bool} {a : Act} {w : World} (hr : Region.ready md ops listed = [i]) (ho' : ops.toList[i]? = some o) (hg : Region.wanted o (yielded ops a.tmps) = true)
  (h : ∀ K : Act -> World -> Prop,Hid (∀ a' w',S w' -> wpAnyH P md ops Q S fuel (listed.setIfInBounds i true) a' w' -> K a' w') -> o.wp P a w K Q) : wpAnyH P md ops Q S (fuel + 1) listed a w := by
 have ho : ops[i]? = some o := by simpa using ho'
 refine wpAnyH_all hr (by simp) (fun j hj => ?_)
 obtain rfl : j = i := by simpa using hj
 unfold wpOp
 simp only [ho]
 rw [if_pos hg]
 exact .inl (h _ (fun _ _ h1 h2 => ⟨h1,h2⟩))
theorem held_take {P : Program} {ops : Array Oper} {Q : Exit -> Act -> World -> Prop} {md : Region.Mode} {S : World -> Prop} {i : Nat} {oi : Oper} {v : Value} {fuel : Nat} {listed : Array Bool} {a : Act} {w : World} (hi : ops.toList[i]? = some oi)
  (hB : (Region.noSelect ops && Region.free md ops listed i && (Region.ready md ops listed).contains i) = true)
  (hQ : ∀ c a w,Q (.panic c) (a.put oi.dst v) w -> Q (.panic c) a w) (hy : YieldsIf P ops S oi v a) (hS : S w)
  (h : wpAnyH P md ops Q S fuel (listed.setIfInBounds i true) (a.put oi.dst v) w) : wpAnyH P md ops Q S (fuel + 1) listed a w := by
 simp only [Bool.and_eq_true] at hB
 exact wpAnyH_take (by simpa using hi) hB.1.1 hB.1.2 hB.2 hQ hy hS h
theorem held_start {P : Program} {ops : Array Oper} {Q : Exit -> Act -> World -> Prop} {S : World -> Prop} {id : Nat} {a : Act} {w : World} (hm : P.follows .mixedOrders = true) (h : wpAnyH P .any ops (NoPanic Q) S ops.size (Array.replicate ops.size false) a w.drew) : (Code.region id ops true).wp P Q a w :=
 wp_region_noPanic (wp_region_held hm h)
def regionOf (n : Nat) : Code -> Option Code
 | .region id ops d => if id = n then some (.region id ops d) else none
 | .loop c => regionOf n c
 | .seq a b => match regionOf n a with
  | some c => some c
  | none => regionOf n b
 | .block _ c => regionOf n c
 | .scope c => regionOf n c
 | .cond _ a b => match regionOf n a with
  | some c => some c
  | none => regionOf n b
 | _ => none
theorem info46 : (Tryz.prog.info? 185).map (fun i => (i.zero,i.size,i.bytes)) = some (some (.agg #[.int .i64 0,.int .i64 0,.int .i64 0]),3,24) := by kernel_rfl
theorem info3 : (Tryz.prog.info? 3).map (fun i => (i.zero,i.size,i.bytes)) = some (some (.int .i64 0),1,8) := by kernel_rfl
theorem addr_add (b off i : Nat) : (⟨b,off,none⟩ : Addr).add i = ⟨b,off + i,none⟩ := by
 by_cases h : i = 0
 ·subst h; simp [Addr.add]
 ·simp [Addr.add,h]
theorem below_grownBy {a b : World} (h : Below a.heap.size a b) (row : Option Nat) : a.grownBy b row := by
 obtain ⟨h1,h2,h3,h4,h5⟩ := h
 exact ⟨by first | exact h1 | exact h2 | exact h3,by first | exact h1 | exact h2 | exact h3,by first | exact h1 | exact h2 | exact h3,h4,fun k hk _ => h5 k hk⟩
theorem own_below {a b : World} {B T n : Nat} {v : Value} {m : Nat} {xs : List Value} (h : a.ownsRow B T n v m xs) (hb : Below a.heap.size a b) : b.ownsRow B T n v m xs := by
 refine h.kept (below_grownBy hb none) ?_
 cases hv : v.ownBlock <;> simp
theorem own_alloc {w : World} {B T m : Nat} {v : Value} {n : Nat} {xs : List Value} (h : w.ownsRow B T m v n xs) (o : Obj) : (w.alloc o).ownsRow B T m v n xs := own_below h (below_alloc w o)
theorem cells_lit (w : World) (cs : List Value) (t : TypeId) : ∀ j u,cs[j]? = some u -> (w.alloc (.cells cs.toArray t)).cell? ((⟨w.heap.size,0,none⟩ : Addr).add j) = some u := by
 intro j u hj
 rw [addr_add,Nat.zero_add]
 unfold World.cell?
 rw [heap_alloc_new]
 simpa using hj
theorem grownBy_cell {a b : World} {row : Option Nat} (h : a.grownBy b row) {p : Addr} (hp : p.block < a.heap.size) (hne : some p.block ≠ row) : b.cell? p = a.cell? p := World.cell?_of_block (h.block p.block hp hne)
theorem grownBy_trans {a b c : World} {r : Option Nat} (h : a.grownBy b r) (k : b.grownBy c r) : a.grownBy c r := ⟨k.os.trans h.os,k.tape.trans h.tape,k.output.trans h.output,Nat.le_trans h.size k.size,fun j hj hne => (k.block j (Nat.lt_of_lt_of_le hj h.size) hne).trans (h.block j hj hne)⟩
def lotCells (key : Nat) (c : Ch) : List Value := [.int .i64 c.1,.int .i64 c.2,.int .i64 (costOf key c.1)]
def cellsLot (key : Nat) (L : List Ch) : List Value := L.flatMap (lotCells key)
theorem cellsLot_snoc (key : Nat) (L : List Ch) (c : Ch) : cellsLot key (L ++ [c]) = cellsLot key L ++ lotCells key c := by
 unfold cellsLot; simp
theorem cellsLot_length (key : Nat) (L : List Ch) : (cellsLot key L).length = L.length * 3 := by
 induction L with
 | nil => rfl
 | cons c L ih => unfold cellsLot at *; rw [List.flatMap_cons,List.length_append,ih]; simp [lotCells]; omega
set_option maxHeartbeats 4000000 in
set_option maxRecDepth 60000 in
theorem lot_put (t1 t2 t3 t4 t6 t8 t9 t10 t11 t12 t13 t14 t15 t16 t17 t18 t19 t20 t21 t22 t23 t24 t25 t26 t27 t28 t29 t30 t31 t32 t33 : Value) (X B key : Nat) (c1 c2 : Int) (lv : Value) (L : List Ch) (w1 : World) (Q : Exit -> Act -> World -> Prop)
  (hk : key < 18446744073709551616) (x0 : w1.cell? ⟨X,0,none⟩ = some (.int .i64 c1)) (x1 : w1.cell? ⟨X,1,none⟩ = some (.int .i64 c2)) (hX : X < w1.heap.size) (hown : w1.ownsRow B 185 3 lv L.length (cellsLot key L)) (hB : B <= w1.heap.size) (hne : lv.ownBlock ≠ some X) (hlen : L.length <= 64)
  (hQ : Hid (∀ (u20 u21 u22 u23 u24 u25 u26 u27 u28 u29 u30 u31 : Value) (v' : Value) (wC : World),wC.ownsRow B 185 3 v' (L ++ [(c1,c2)]).length (cellsLot key (L ++ [(c1,c2)])) -> w1.grownBy wC lv.ownBlock -> Q .normal ⟨#[.int .u64 (key : Int),t1,t2,t3,t4,v',t6,.pointer (some ⟨X,0,none⟩),t8,t9,t10,t11,t12,t13,t14,t15,t16,t17,t18,t19,u20,u21,u22,u23,u24,u25,u26,u27,u28,u29,u30,u31,t32,t33],[]⟩ wC)) :
  Code.wp Tryz.prog ((Tryz.f162.body.bind (regionOf 8)).getD .skip) Q ⟨#[.int .u64 (key : Int),t1,t2,t3,t4,lv,t6,.pointer (some ⟨X,0,none⟩),t8,t9,t10,t11,t12,t13,t14,t15,t16,t17,t18,t19,t20,t21,t22,t23,t24,t25,t26,t27,t28,t29,t30,t31,t32,t33],[]⟩ w1 := by
 obtain ⟨i0,hi,hz0,hz1,hz2⟩ := info_parts info46
 have HS : Hid (∀ w',Below w1.heap.size w1 w' -> (fun w' => w'.cell? ⟨X,0,none⟩ = some (.int .i64 c1) /\ w'.cell? ⟨X,1,none⟩ = some (.int .i64 c2)) w') := fun w' h => ⟨(h.cell (p := ⟨X,0,none⟩) hX).trans x0,(h.cell (p := ⟨X,1,none⟩) hX).trans x1⟩
 have HOWN : Hid (w1.ownsRow B 185 3 lv L.length (cellsLot key L)) := hown
 have HXX : Hid (w1.cell? ⟨X,0,none⟩ = some (.int .i64 c1) /\ w1.cell? ⟨X,1,none⟩ = some (.int .i64 c2)) := ⟨x0,x1⟩
 have HL : Hid (L.length <= 64) := hlen
 clear hown x0 x1 hlen
 have hS := HS.out w1.drew (below_drew w1)
 conv => arg 2; whnf
 refine held_start (S := (fun w' => w'.cell? ⟨X,0,none⟩ = some (.int .i64 c1) /\ w'.cell? ⟨X,1,none⟩ = some (.int .i64 c2))) mixed5 ?_
 refine held_take (i := 0) (v := lv) rfl (by kernel_rfl) (fun _ _ _ h => h) (.inl ⟨rfl,fun w hS => ?_⟩) hS ?_
 ·obtain ⟨s1,s2⟩ := hS
  go_simp
 simp only [Act.put,List.setIfInBounds_toArray,List.set_cons_zero,List.set_cons_succ]
 refine held_take (i := 1) (v := .pointer (some ⟨X,0,none⟩)) rfl (by kernel_rfl) (fun _ _ _ h => h) (.inl ⟨rfl,fun w hS => ?_⟩) hS ?_
 ·obtain ⟨s1,s2⟩ := hS
  go_simp
 simp only [Act.put,List.setIfInBounds_toArray,List.set_cons_zero,List.set_cons_succ]
 refine held_take (i := 2) (v := .int .i64 c1) rfl (by kernel_rfl) (fun _ _ _ h => h) (.inl ⟨rfl,fun w hS => ?_⟩) hS ?_
 ·obtain ⟨s1,s2⟩ := hS
  go_simp
 simp only [Act.put,List.setIfInBounds_toArray,List.set_cons_zero,List.set_cons_succ]
 refine held_take (i := 3) (v := .pointer (some ⟨X,1,none⟩)) rfl (by kernel_rfl) (fun _ _ _ h => h) (.inl ⟨rfl,fun w hS => ?_⟩) hS ?_
 ·obtain ⟨s1,s2⟩ := hS
  go_simp
 simp only [Act.put,List.setIfInBounds_toArray,List.set_cons_zero,List.set_cons_succ]
 refine held_take (i := 4) (v := .int .i64 c2) rfl (by kernel_rfl) (fun _ _ _ h => h) (.inl ⟨rfl,fun w hS => ?_⟩) hS ?_
 ·obtain ⟨s1,s2⟩ := hS
  go_simp
 simp only [Act.put,List.setIfInBounds_toArray,List.set_cons_zero,List.set_cons_succ]
 refine held_take (i := 5) (v := .int .u64 (key : Int)) rfl (by kernel_rfl) (fun _ _ _ h => h) (.inl ⟨rfl,fun w hS => ?_⟩) hS ?_
 ·obtain ⟨s1,s2⟩ := hS
  go_simp
 simp only [Act.put,List.setIfInBounds_toArray,List.set_cons_zero,List.set_cons_succ]
 refine held_take (i := 6) (v := .pointer (some ⟨X,0,none⟩)) rfl (by kernel_rfl) (fun _ _ _ h => h) (.inl ⟨rfl,fun w hS => ?_⟩) hS ?_
 ·obtain ⟨s1,s2⟩ := hS
  go_simp
 simp only [Act.put,List.setIfInBounds_toArray,List.set_cons_zero,List.set_cons_succ]
 refine held_take (i := 7) (v := .int .i64 c1) rfl (by kernel_rfl) (fun _ _ _ h => h) (.inl ⟨rfl,fun w hS => ?_⟩) hS ?_
 ·obtain ⟨s1,s2⟩ := hS
  go_simp
 simp only [Act.put,List.setIfInBounds_toArray,List.set_cons_zero,List.set_cons_succ]
 refine held_one (i := 8) (by kernel_rfl) rfl rfl ?_
 intro K hK
 go_simp
 go_at_call 174
 refine (cost5_any key c1 _ hk).mono ?_
 rintro en w3 ⟨rfl,hg3⟩
 have hb3 : Below w1.heap.size w1 w3 := below2 (below_drew w1) (grown_below hg3)
 refine hK.out _ _ (HS.out w3 hb3) ?_
 clear hK hS hg3
 have hS := HS.out w3 hb3
 refine held_take (i := 9) (v := .agg #[.int .i64 c1,.int .i64 c2,.int .i64 (costOf key c1)]) rfl (by kernel_rfl) (fun _ _ _ h => h) (.inl ⟨rfl,fun w hS => ?_⟩) hS ?_
 ·obtain ⟨s1,s2⟩ := hS
  go_simp
 simp only [Act.put,List.setIfInBounds_toArray,List.set_cons_zero,List.set_cons_succ]
 refine held_one (i := 10) (by kernel_rfl) rfl rfl ?_
 intro K hK
 go_simp
 have hb4 : Below w1.heap.size w1 (w3.alloc (.cells #[.int .i64 c1,.int .i64 c2,.int .i64 (costOf key c1)] 185)) := hb3.alloc hb3.size _
 have hnews := cells_lit w3 (lotCells key (c1,c2)) 185
 refine hK.out _ _ (HS.out _ hb4) ?_
 clear hK hS
 have hS := HS.out _ hb4
 have hw4 : w3.alloc (.cells (lotCells key (c1,c2)).toArray 185) = w3.alloc (.cells #[.int .i64 c1,.int .i64 c2,.int .i64 (costOf key c1)] 185) := rfl
 rw [hw4] at hnews
 have hs4 : w1.heap.size <= (w3.alloc (.cells #[.int .i64 c1,.int .i64 c2,.int .i64 (costOf key c1)] 185)).heap.size := hb4.size
 generalize w3.alloc (.cells #[.int .i64 c1,.int .i64 c2,.int .i64 (costOf key c1)] 185) = w4 at *
 refine held_one (i := 11) (by kernel_rfl) rfl rfl ?_
 intro K hK
 refine wp_append_own w4 (.tmp 20) (.tmp 30) 181 rfl B 185 i0 (.agg #[.int .i64 0,.int .i64 0,.int .i64 0]) 3 24 Tryz.underlying181 hi hz0 hz1 hz2 rfl (by decide) lv L.length (cellsLot key L) rfl (own_below HOWN.out hb4) ⟨w3.heap.size,0,none⟩ 1 1 (lotCells key (c1,c2)) rfl rfl hnews (by intro u hu; simp [lotCells] at hu; rcases hu with rfl | rfl | rfl <;> rfl) (by unfold maxLen; have := HL.out; omega) (by have := HL.out; omega) (Nat.le_trans hB hs4) ?_
 intro v5 w5 hown5 hg5 _
 have hXn : some X ≠ lv.ownBlock := fun e => hne e.symm
 have hS5 : (fun w' => w'.cell? ⟨X,0,none⟩ = some (.int .i64 c1) /\ w'.cell? ⟨X,1,none⟩ = some (.int .i64 c2)) w5 := ⟨(grownBy_cell hg5 (p := ⟨X,0,none⟩) (Nat.lt_of_lt_of_le hX hs4) hXn).trans hS.1,(grownBy_cell hg5 (p := ⟨X,1,none⟩) (Nat.lt_of_lt_of_le hX hs4) hXn).trans hS.2⟩
 refine hK.out _ _ hS5 ?_
 clear hK hS
 have hS := hS5
 simp only [Act.put,List.setIfInBounds_toArray,List.set_cons_zero,List.set_cons_succ]
 refine held_take (i := 12) (v := v5) rfl (by kernel_rfl) (fun _ _ _ h => h) (.inl ⟨rfl,fun w hS => ?_⟩) hS ?_
 ·obtain ⟨s1,s2⟩ := hS
  go_simp
 simp only [Act.put,List.setIfInBounds_toArray,List.set_cons_zero,List.set_cons_succ]
 refine wpAnyH_done (by kernel_rfl) ?_ _
 refine NoPanic.normal ?_
 refine hQ.out _ _ _ _ _ _ _ _ _ _ _ _ v5 w5 ?_ ?_
 ·rw [cellsLot_snoc,List.length_append]
  exact hown5
 ·exact grownBy_trans (below_grownBy hb4 lv.ownBlock) hg5
end Go.Proofs.YtcncbjknfcjnmaaGreat.Dr
namespace Go.Proofs.YtcncbjknfcjnmaaGreat.Dr
open Go.ChangeShapes Go.WideShapes Go.ChangeAt Go.RowKit
theorem heavy_take {ls : List Ch} {k : Nat} (h : k < ls.length) : heavy (ls.take (k + 1)) = heavy (ls.take k) ++ (if 0 < (ls.getD k ch0).2 then [ls.getD k ch0] else []) := by
 rw [List.take_succ_eq_append_getElem h,getD_get h]
 unfold heavy
 rw [List.filter_append]
 congr 1
 by_cases h0 : 0 < ls[k].2
 ·simp [h0]
 ·simp [h0]
theorem heavy_len (ls : List Ch) : (heavy ls).length <= ls.length := List.length_filter_le _ _
def LotsPost (key : Nat) (ls : List Ch) (w : World) (e : Ending) (w' : World) : Prop :=
 ∃ lv L,e = .returned lv /\ w'.ownsRow w.heap.size 185 3 lv L.length (cellsLot key L) /\ Below w.heap.size w w' /\ ((MayC ls /\ L = heavy ls) ∨ (¬ MayC ls /\ L = []))
set_option maxHeartbeats 2000000 in
set_option maxRecDepth 60000 in
theorem lots_any (key : Nat) (a : Option Addr) (len cap : Nat) (ls : List Ch) (w : World) (hkey : key < 18446744073709551616) (h : ChsAt w a len cap ls) :
  Calls Tryz.prog 162 #[.int .u64 (key : Int),.slice a len cap] w fun e w' => LotsPost key ls w e w' := by
 have hl : ls.length = len := h.1
 have hm : len <= maxLen := Nat.le_trans h.2.1 h.2.2.1
 unfold maxLen at hm
 have HKEY : Hid (key < 18446744073709551616) := hkey
 have HL : Hid (ChsAt w a len cap ls) := h
 clear h hkey
 go_enter Tryz.func162,Tryz.ntmps162
 go_wp2_with fail
 refine (check_any a len cap ls w HL.out).mono ?_
 rintro e w2 ⟨hb2,⟨rfl,hM⟩ | ⟨rfl,hN⟩⟩
 ·have hM64 : len <= 64 := by have := hM.1; omega
  have HM : Hid (MayC ls) := hM
  clear hM
  go_wp2_with fail
  go_loopw [5,13] (fun l i wr => ∃ (k : Nat) (L : List Ch),k <= len /\ i = .int .i64 k /\ Hid (L = heavy (ls.take k)) /\ Hid (wr.ownsRow w.heap.size 185 3 l L.length (cellsLot key L)) /\ Below w.heap.size w wr) (fun _ i _ => len - (intOf i).toNat)
  case atStart => exact ⟨0,[],Nat.zero_le _,rfl,rfl,World.ownsRow_nil _ _ _ _,hb2⟩
  case round =>
   obtain ⟨k,L,hk,rfl,hT,hown,hbel⟩ := hrel
   by_cases hlt : k < len
   ·obtain ⟨b,off,rfl,hbs,hcell⟩ := (HL.out.below hbel).some (by omega)
    obtain ⟨e0,e1⟩ := hcell k hlt
    have hk1 : (k : Int) < (len : Int) := by omega
    clear hcell
    have HT := heavy_take (ls := ls) (k := k) (by omega)
    rw [<- hT.out] at HT
    have HLL : Hid (L.length <= 64) := by
     show _ <= _
     have h1 := heavy_len (ls.take k)
     rw [<- hT.out] at h1
     simp at h1
     omega
    generalize ls.getD k ch0 = x at *
    obtain ⟨c1,c2⟩ := x
    have HT' : Hid (heavy (ls.take (k + 1)) = L ++ (if 0 < c2 then [(c1,c2)] else [])) := HT
    clear HT hT
    have HNE : Hid (∀ j,u5.ownBlock = some j -> w.heap.size <= j /\ j < wr.heap.size) := hown.out.lt
    by_cases hc : 0 < c2
    ·have HY : Hid (L ++ [(c1,c2)] = heavy (ls.take (k + 1))) := by
      show _ = _
      rw [HT'.out,if_pos hc]
     clear HT'
     go_wp2_with fail
     have HB1 : Hid (Below w.heap.size w (wr.alloc (.cells #[.int .i64 c1,.int .i64 c2] 148))) := below2 hbel (below_alloc _ _)
     refine lot_put _ _ _ _ _ _ _ _ _ _ _ _ _ _ _ _ _ _ _ _ _ _ _ _ _ _ _ _ _ _ _ wr.heap.size w.heap.size key c1 c2 u5 L (wr.alloc (.cells #[.int .i64 c1,.int .i64 c2] 148)) _ HKEY.out (by simp) (by simp) (by simp) (own_alloc hown.out _) (by have := hbel.size; simp; omega) (fun e => by have := (HNE.out _ e).2; omega) HLL.out (fun u20 u21 u22 u23 u24 u25 u26 u27 u28 u29 u30 u31 v' wC hownC hgC => ?_)
     have hbC : Below w.heap.size w wC := HB1.out.grown hgC HB1.out.size (fun j hj => (HNE.out j hj).1)
     have HOC : Hid _ := hownC
     clear hgC HNE hown hownC HB1
     go_wp2_with fail
     exact ⟨⟨k + 1,_,by omega,by go_num,HY,HOC,hbC⟩,by simp [intOf]; omega⟩
    ·have HY : Hid (L = heavy (ls.take (k + 1))) := by
      show _ = _
      rw [HT'.out,if_neg hc,List.append_nil]
     have hd : decide (0 < c2) = false := decide_eq_false hc
     have HO : Hid ((wr.alloc (.cells #[.int .i64 c1,.int .i64 c2] 148)).ownsRow w.heap.size 185 3 u5 L.length (cellsLot key L)) := own_alloc hown.out _
     have hbC : Below w.heap.size w (wr.alloc (.cells #[.int .i64 c1,.int .i64 c2] 148)) := below2 hbel (below_alloc _ _)
     clear HT' HNE hown
     go_wp2_with fail
     exact ⟨⟨k + 1,_,by omega,by go_num,HY,HO,hbC⟩,by simp [intOf]; omega⟩
   ·obtain rfl : k = len := by omega
    have HE : Hid (L = heavy ls) := by
     show _ = _
     rw [hT.out,List.take_of_length_le (by omega)]
    clear hT
    go_wp2_with fail
    go_ret
    exact ⟨_,L,rfl,hown.out,hbel,.inl ⟨HM.out,HE.out⟩⟩
 ·go_wp2_with fail
  go_ret
  exact ⟨_,[],rfl,World.ownsRow_nil _ _ _ _,hb2,.inr ⟨hN,rfl⟩⟩
end Go.Proofs.YtcncbjknfcjnmaaGreat.Dr
