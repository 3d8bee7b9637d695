/-
  The contracts of Bytes and of awake.
-/
import Derived.Test.YtcdlkdbnlomghaaDoorBkE
import Derived.Test.YtcdlkdbnlomghaaDoorFrM
namespace Go.Proofs.YtcdlkdbnlomghaaDoor.Bk
open Go.ChangeShapes Go.WideShapes Go.ChangeAt Go.RowKit
open Go.Proofs.YtcdlkdbnlomghaaDoor.Fr
theorem nums_in {ls : List Sm} (h : MayS ls) : ∀ x ∈ numsS ls, -4398046511104 ≤ x ∧ x ≤ 4398046511104 := by
  intro x hx
  have it := fun i => (show -1099511627776 ≤ tS ls i ∧ tS ls i ≤ 1099511627776 from ⟨(may_in h i).1, (may_in h i).2.1⟩)
  have iv := fun i => (show -1099511627776 ≤ vS ls i ∧ vS ls i ≤ 1099511627776 from ⟨(may_in h i).2.2.1, (may_in h i).2.2.2⟩)
  unfold numsS numsK flat2 at hx
  rcases List.mem_cons.1 hx with rfl | hx
  · have := h.1; omega
  · obtain ⟨i, _, hi⟩ := List.mem_flatMap.1 hx
    simp at hi
    rcases hi with rfl | rfl
    · exact tell_in it i
    · exact tell_in iv i
theorem countL_seven {x : Int} (h : -4398046511104 ≤ x ∧ x ≤ 4398046511104) : (countL (numberN x)).length ≤ 7 := by
  refine countL_le 6 _ ?_
  unfold numberN
  split <;> omega
theorem numsL_seven {l : List Int} (h : ∀ x ∈ l, -4398046511104 ≤ x ∧ x ≤ 4398046511104) : (numsL l).length ≤ 7 * l.length := by
  induction l with
  | nil => simp [numsL]
  | cons x l ih =>
    rw [numsL_cons, List.length_append, List.length_cons]
    have := countL_seven (h x (by simp))
    have := ih fun y hy => h y (List.mem_cons_of_mem _ hy)
    omega
/-- samples' data have few bytes -/
theorem bytes_few {ls : List Sm} (h : MayS ls) : (bytesL (numsS ls) []).length ≤ 1000 := by
  have h1 := numsL_seven (nums_in h)
  have h2 : (numsS ls).length = 2 * ls.length + 1 := numsK_length _ _
  have h3 := h.1
  have h4 := countL_le 2 (numsS ls).length (by omega)
  have h5 := countL_le 2 ([] : List ByteArray).length (by simp)
  unfold bytesL
  simp only [List.length_append, textsL_nil]
  simp at h5 ⊢
  omega
theorem packed_data {w : World} {B n : Nat} {v : Value} {ls : List Sm} (ho : w.ownsRow B 3 1 v n (cellsI (numsS ls))) (hM : MayS ls) : DataAt w (.agg #[v, .slice none 0 0]) (numsS ls) [] := by
  obtain ⟨a, cap, rfl, hr, _⟩ := RowAt.of_own ho
  exact ⟨a, n, cap, none, 0, 0, rfl, hr, rowAt_nil w, fun x hx => by have := nums_in hM x hx; unfold Is64; omega, by simp⟩
noncomputable def bytesOf (ls : List Sm) : Nat := open Classical in if MayS ls then (bytesL (numsS ls) []).length else 0
theorem bytesOf_may {ls : List Sm} (h : MayS ls) : bytesOf ls = (bytesL (numsS ls) []).length := by unfold bytesOf; rw [if_pos h]
theorem bytesOf_not {ls : List Sm} (h : ¬ MayS ls) : bytesOf ls = 0 := by unfold bytesOf; rw [if_neg h]
def NumPost (n : Nat) (w : World) (e : Ending) (w' : World) : Prop := Below w.heap.size w w' ∧ e = .returned (.int .i64 (n : Int))
theorem pack_yes {a : Option Addr} {len cap : Nat} {ls : List Sm} {w : World} (h : SmsAt w a len cap ls) (hM : MayS ls) :
    Calls Tryd.prog 31 #[.slice a len cap] w fun e w' => ∃ v, e = .returned (.tuple #[.agg #[v, .slice none 0 0], .int .i64 0]) ∧ Below w.heap.size w w' ∧ w'.ownsRow w.heap.size 3 1 v (2 * ls.length + 1) (cellsI (numsS ls)) :=
  (pack_any a len cap ls w h).mono fun _ _ ⟨hb, hq⟩ => by
    rcases hq with ⟨hn, _⟩ | ⟨_, v, he, ho⟩
    · exact absurd hM hn
    · exact ⟨v, he, hb, ho⟩
theorem pack_no {a : Option Addr} {len cap : Nat} {ls : List Sm} {w : World} (h : SmsAt w a len cap ls) (hM : ¬ MayS ls) :
    Calls Tryd.prog 31 #[.slice a len cap] w fun e w' => e = .returned (.tuple #[.agg #[.slice none 0 0, .slice none 0 0], .int .i64 1]) ∧ Below w.heap.size w w' :=
  (pack_any a len cap ls w h).mono fun _ _ ⟨hb, hq⟩ => by
    rcases hq with ⟨_, he⟩ | ⟨hn, _⟩
    · exact ⟨he, hb⟩
    · exact absurd hn hM
theorem rowAt_lit (w : World) (cs : List Value) (t : TypeId) (n : Nat) (hn : cs.length = n) (hm : n ≤ maxLen) : RowAt (w.alloc (.cells cs.toArray t)) (some ⟨w.heap.size, 0, none⟩) n n cs := by
  refine ⟨hn, Nat.le_refl _, hm, .inr ⟨w.heap.size, 0, rfl, fun i hi => ?_⟩⟩
  unfold World.cell?
  rw [show (w.alloc (.cells cs.toArray t)).heap[(⟨w.heap.size, 0 + i, none⟩ : Addr).block]? = _ from heap_alloc_new w _]
  simp
def TruePost (w : World) (e : Ending) (w' : World) : Prop := e = .returned (.bool true) ∧ Below w.heap.size w w'
def three : List Sm := [(10, 5), (20, 5), (30, 5)]
theorem three_may : MayS three := by
  refine ⟨by decide, fun i hi => ?_⟩
  have : i < 3 := hi
  match i, this with
  | 0, _ => exact ⟨by unfold InS three; decide, by decide⟩
  | 1, _ => exact ⟨by unfold InS three; decide, by decide⟩
  | 2, _ => exact ⟨by unfold InS three; decide, by decide⟩
theorem three_nums : numsS three = [3, 10, 5, 10, 0, 0, 0] := by decide
theorem three_at (w : World) : SmsAt (w.alloc (.cells #[.int .i64 10, .int .i64 5, .int .i64 20, .int .i64 5, .int .i64 30, .int .i64 5] 46)) (some ⟨w.heap.size, 0, none⟩) 3 3 three := by
  refine ⟨rfl, Nat.le_refl _, by unfold maxLen; omega, .inr ⟨w.heap.size, 0, rfl, fun i hi => ?_⟩⟩
  match i, hi with
  | 0, _ => simp [three]
  | 1, _ => simp [three]
  | 2, _ => simp [three]
theorem own_three {w : World} {B : Nat} {v : Value} (h : w.ownsRow B 3 1 v (2 * three.length + 1) (cellsI (numsS three))) : w.ownsRow B 3 1 v 7 (cellsI [3, 10, 5, 10, 0, 0, 0]) := by
  rw [three_nums] at h; exact h
theorem lit7 (w : World) (S : Nat) (hS : w.heap.size = S) : RowAt (w.alloc (.cells #[.int .i64 3, .int .i64 10, .int .i64 5, .int .i64 10, .int .i64 0, .int .i64 0, .int .i64 0] 3)) (some ⟨S, 0, none⟩) 7 7 (cellsI [3, 10, 5, 10, 0, 0, 0]) := by
  subst hS
  exact rowAt_lit w (cellsI [3, 10, 5, 10, 0, 0, 0]) 3 7 rfl (by unfold maxLen; omega)
theorem row_of_own {w : World} {B n cp g : Nat} {xs : List Value} (h : w.ownsRow B 3 1 (.slice (some ⟨g, 0, none⟩) n cp) n xs) : RowAt w (some ⟨g, 0, none⟩) n cp xs := by
  obtain ⟨a, cap, e, hr, _⟩ := RowAt.of_own h
  simp at e
  obtain ⟨rfl, rfl⟩ := e
  exact hr
end Go.Proofs.YtcdlkdbnlomghaaDoor.Bk
