/-
  A region that opens with a select of one case and a default, in one goroutine: a law of the walk.
-/
import Derived.Test.YtpolehfkjpbofaaRows
import Derived.WalkKit
import Derived.WalkSpells
import Derived.ProofKit
import Derived.OpenShut
import Derived.Below
import Derived.Handy
import Derived.Deep.Cut
import Derived.Conc.LoneSelect
import Derived.Conc.LoneSelectN
import Derived.Laws.Rows
import Derived.Laws.OwnMore
namespace Go.Proofs.Ytpolehfkjpbofaa.Ta
open Go.ChangeShapes Go.WideShapes Go.ChangeAt Go.RowKit
open Go.Conc (G solo rcase scase)
theorem comm_step {P : Program} {b : Frame} {a : Act} {k : List Item} {cs : List Frame} {w w' : World} {ops : Array Oper} {i : Nat} {rest : List Nat} {o : Oper} {cases : Array CommCase} {blocking : Bool} {shape : CommShape}
    (ho : ops[i]? = some o) (hw : Region.wanted o (yielded ops a.tmps) = true) (hr : (execOp a.eval o).run P w = .ok (.comm cases blocking shape) w') :
    ∃ es, stepG P true (G (b.at a (.inRegion ops (i :: rest) :: k)) cs) w = .comm (G (b.at a (.inRegion ops (i :: rest) :: k)) cs) cases blocking shape w' es := by
  rw [Go.Conc.stepG_oper ho hw]
  simp only [stepG.apply, Sem.runT_eq, hr, if_true, GStep.after]
  exact ⟨_, rfl⟩
/-- the first operation of a region is one step of the machine's -/
theorem wp_first {P : Program} {id : Nat} {o : Oper} {l : List Oper} {Q : Exit → Act → World → Prop} {a : Act} {w w' : World} {v : Value}
    (hs : ∀ (b : Frame) (k : List Item) (cs : List Frame) (rest : List Nat), step P (lone (b.at a (.inRegion (o :: l).toArray (0 :: rest) :: k)) cs w) = .next (lone ((b.at a (.inRegion (o :: l).toArray (0 :: rest) :: k)).finish v) cs w'))
    (h : wpList P (o :: l).toArray Q l (a.put o.dst v) w') : (Code.region id (o :: l).toArray false).wp P Q a w := by
  intro b k cs
  have he : wpOps P (o :: l).toArray Q (List.range' 1 l.length) = wpList P (o :: l).toArray Q l := wpOps_eq_wpList l 1 (fun j => by simp [Nat.add_comm 1 j])
  rw [← he] at h
  obtain ⟨e, a', w2, hq, harr⟩ := wp_ops _ _ _ h b k cs
  refine ⟨e, a', w2, hq, .of_steps (.head step_region (.one ?_)) harr⟩
  have hl : List.range (o :: l).toArray.size = 0 :: List.range' 1 l.length := by
    rw [List.range_eq_range']; simp [List.range'_succ]
  rw [hl]
  have := hs b k cs (List.range' 1 l.length)
  rw [Frame.finish_at] at this
  exact this
section
variable {P : Program} {id : Nat} {l : List Oper} {Q : Exit → Act → World → Prop} {a : Act} {w : World} {o : Oper} {c cap s r : Nat} {buf : Array Value} {z v : Value} {tm closed : Bool}
theorem wp_recv_yes (hw : Region.wanted o (yielded (o :: l).toArray a.tmps) = true) (hr : (execOp a.eval o).run P w = .ok (.comm #[rcase c z] false .select) w)
    (hc : w.heap[c]? = some (.chan cap buf closed s r tm)) (hsome : 0 < buf.size)
    (h : wpList P (o :: l).toArray Q l (a.put o.dst (.tuple #[goInt 0, .bool true, buf.getD 0 undef])) (w.setChan c cap (buf.extract 1 buf.size) closed s (r + 1) tm)) : (Code.region id (o :: l).toArray false).wp P Q a w :=
  wp_first (fun b k cs rest => by obtain ⟨es, he⟩ := comm_step (ops := (o :: l).toArray) (i := 0) (b := b) (k := k) (cs := cs) (rest := rest) rfl hw hr; exact Go.Conc.step_lone_select_recv_buf he hc hsome) h
theorem wp_recv_no (hw : Region.wanted o (yielded (o :: l).toArray a.tmps) = true) (hr : (execOp a.eval o).run P w = .ok (.comm #[rcase c z] false .select) w)
    (hc : w.heap[c]? = some (.chan cap #[] false s r tm))
    (h : wpList P (o :: l).toArray Q l (a.put o.dst (.tuple #[goInt (-1), .bool false, z])) w) : (Code.region id (o :: l).toArray false).wp P Q a w :=
  wp_first (fun b k cs rest => by obtain ⟨es, he⟩ := comm_step (ops := (o :: l).toArray) (i := 0) (b := b) (k := k) (cs := cs) (rest := rest) rfl hw hr; exact Go.Conc.step_lone_select_default he hc) h
theorem wp_send_yes (hw : Region.wanted o (yielded (o :: l).toArray a.tmps) = true) (hr : (execOp a.eval o).run P w = .ok (.comm #[scase c v z] false .select) w)
    (hc : w.heap[c]? = some (.chan cap buf false s r tm)) (hroom : buf.size < cap)
    (h : wpList P (o :: l).toArray Q l (a.put o.dst (.tuple #[goInt 0, .bool false])) (w.setChan c cap (buf.push v) false (s + 1) r tm)) : (Code.region id (o :: l).toArray false).wp P Q a w :=
  wp_first (fun b k cs rest => by obtain ⟨es, he⟩ := comm_step (ops := (o :: l).toArray) (i := 0) (b := b) (k := k) (cs := cs) (rest := rest) rfl hw hr; exact Go.Conc.step_lone_select_send_room he hc hroom) h
theorem wp_send_no (hw : Region.wanted o (yielded (o :: l).toArray a.tmps) = true) (hr : (execOp a.eval o).run P w = .ok (.comm #[scase c v z] false .select) w)
    (hc : w.heap[c]? = some (.chan cap buf false s r tm)) (hfull : cap ≤ buf.size)
    (h : wpList P (o :: l).toArray Q l (a.put o.dst (.tuple #[goInt (-1), .bool false])) w) : (Code.region id (o :: l).toArray false).wp P Q a w :=
  wp_first (fun b k cs rest => by obtain ⟨es, he⟩ := comm_step (ops := (o :: l).toArray) (i := 0) (b := b) (k := k) (cs := cs) (rest := rest) rfl hw hr; exact Go.Conc.step_lone_select_send_full he hc hfull) h
end
end Go.Proofs.Ytpolehfkjpbofaa.Ta
