/-
  What hear does with its reader and its numbers.
-/
import Derived.Test.YtcdlkdbnlomghaaDoorGlB
import Derived.Test.YtcdlkdbnlomghaaDoorGlZ
import Derived.Test.YtcdlkdbnlomghaaDoorBkJ
namespace Go.Proofs.YtcdlkdbnlomghaaDoor.Gl
open Go.ChangeShapes Go.WideShapes Go.ChangeAt Go.RowKit
open Go.Proofs.YtcdlkdbnlomghaaDoor.Bi
open Go.Proofs.YtcdlkdbnlomghaaDoor.Fr (RowAt cellsI cellsI_get)
open Go.Proofs.YtcdlkdbnlomghaaDoor.Bk (rT rV)
/-- where hear stands: the reader's place, older memory, the numbers that are read -/
structure HS (w wr : World) (B p : Nat) (L : List Bool) (at' : Nat) (v : Value) (m : Nat) (xs : List Value) : Prop where
  rd : RdAt wr p L at'
  bel : Below w.heap.size w wr
  pos : w.heap.size ≤ p
  lt : p < B
  bsz : B ≤ wr.heap.size
  own : wr.ownsRow B 3 1 v m xs
theorem HS.move {w wr wr' : World} {B p at' at2 m : Nat} {L : List Bool} {v : Value} {xs : List Value} (h : HS w wr B p L at' v m xs) (hk : KpB p wr wr') (hr : RdAt wr' p L at2) : HS w wr' B p L at2 v m xs := by
  refine ⟨hr, hk.below _ _ h.bel h.pos, h.pos, h.lt, Nat.le_trans h.bsz hk.size, h.own.1, ?_⟩
  rcases h.own.2 with h0 | ⟨g, cap, cur, hv, hg, hh, r⟩
  · exact .inl h0
  · refine .inr ⟨g, cap, cur, hv, hg, ?_, r⟩
    have hlt := (Array.getElem?_eq_some_iff.1 hh).1
    have hne : g ≠ p := by have := h.lt; omega
    exact (hk.else_ g hlt hne).trans hh
theorem HS.below {w wr wr' : World} {B p at' m : Nat} {L : List Bool} {v : Value} {xs : List Value} (h : HS w wr B p L at' v m xs) (hb : Below wr.heap.size wr wr') : HS w wr' B p L at' v m xs := ⟨h.rd.below hb, below2 h.bel hb, h.pos, h.lt, Nat.le_trans h.bsz hb.size, own_below h.own hb⟩
theorem HS.numno {w wr : World} {B p at' m : Nat} {L : List Bool} {v : Value} {xs : List Value} (h : HS w wr B p L at' v m xs) (hT : Tab w) (hno : ∀ v k, ¬ NumIs L at' v k) : Calls Tryd.prog 55 #[.pointer (some ⟨p, 0, none⟩)] wr fun e w' => e = .returned (.tuple #[.int .i64 0, .int .i64 2]) ∧ HS w w' B p L at' v m xs := (rnum_no p at' L wr h.rd (hT.below h.bel) hno).mono (by rintro e w' ⟨rfl, hr, hk⟩; exact ⟨rfl, h.move hk hr⟩)
theorem HS.numyes {w wr : World} {B p at' m : Nat} {L : List Bool} {v : Value} {xs : List Value} (h : HS w wr B p L at' v m xs) (hT : Tab w) {t : Int} {k : Nat} (hv : NumIs L at' t k) : Calls Tryd.prog 55 #[.pointer (some ⟨p, 0, none⟩)] wr fun e w' => e = .returned (.tuple #[.int .i64 t, .int .i64 0]) ∧ HS w w' B p L (at' + k) v m xs := (rnum_yes p at' L wr h.rd (hT.below h.bel) t k hv).mono (by rintro e w' ⟨rfl, hr, hk⟩; exact ⟨rfl, h.move hk hr⟩)
theorem HS.few {w wr : World} {B p at' m : Nat} {L : List Bool} {v : Value} {xs : List Value} (h : HS w wr B p L at' v m xs) (hr : L.length < at' + 4) : Calls Tryd.prog 56 #[.pointer (some ⟨p, 0, none⟩), .int .i64 4] wr fun e w' => e = .returned (.tuple #[.int .u64 0, .int .i64 2]) ∧ HS w w' B p L at' v m xs := (take_few _ 4 (L.length - at') wr rfl (left_any p at' L wr h.rd) (by obtain ⟨_, _, _, h2⟩ := h.rd; have := h2.ok; omega)).mono (by rintro e w' ⟨rfl, hg⟩; exact ⟨rfl, h.below (grown_below hg)⟩)
theorem HS.take {w wr : World} {B p at' m : Nat} {L : List Bool} {v : Value} {xs : List Value} (h : HS w wr B p L at' v m xs) (hr : at' + 4 ≤ L.length) : Calls Tryd.prog 56 #[.pointer (some ⟨p, 0, none⟩), .int .i64 4] wr fun e w' => e = .returned (.tuple #[.int .u64 ((val (bt L) at' 4 : Nat) : Int), .int .i64 0]) ∧ HS w w' B p L (at' + 4) v m xs := (take_yes p at' 4 L wr h.rd (by decide) hr).mono (by rintro e w' ⟨rfl, hr, hk⟩; exact ⟨rfl, h.move hk hr⟩)
theorem HS.left {w wr : World} {B p at' m : Nat} {L : List Bool} {v : Value} {xs : List Value} (h : HS w wr B p L at' v m xs) : Calls Tryd.prog 57 #[.pointer (some ⟨p, 0, none⟩)] wr fun e w' => e = .returned (.int .i64 ((L.length - at' : Nat) : Int)) ∧ HS w w' B p L at' v m xs := (left_any p at' L wr h.rd).mono (by rintro e w' ⟨rfl, hg⟩; exact ⟨rfl, h.below (grown_below hg)⟩)
theorem HS.push {w wr wr' : World} {B p at' m m2 : Nat} {L : List Bool} {v v2 : Value} {xs ys : List Value} (h : HS w wr B p L at' v m xs) (ho : wr'.ownsRow B 3 1 v2 m2 ys) (hg : wr.grownBy wr' v.ownBlock) : HS w wr' B p L at' v2 m2 ys := by
  obtain ⟨a, len, cap, h2⟩ := h.rd
  have hpl := h.lt
  have hbl := h.bsz
  have same : ∀ k, k < B → wr'.heap[k]? = wr.heap[k]? := fun k hk => hg.block k (by omega) (fun e => by have := h.own.lt k e.symm; omega)
  refine ⟨⟨a, len, cap, h2.box.kept (same p hpl), ?_, h2.hl, h2.ok, h2.ne⟩, ?_, h.pos, hpl, Nat.le_trans hbl hg.size, ho⟩
  · refine ⟨h2.row.1, h2.row.2.1, h2.row.2.2.1, h2.row.2.2.2.1, h2.row.2.2.2.2.1, ?_⟩
    rcases h2.row.2.2.2.2.2 with h0 | ⟨b, off, e, hc⟩
    · exact .inl h0
    · refine .inr ⟨b, off, e, fun i hi => ?_⟩
      have h1 := hc i hi
      have := h2.ne _ e
      unfold World.cell? at h1 ⊢
      rw [show wr'.heap[(⟨b, off + i, none⟩ : Addr).block]? = wr.heap[(⟨b, off + i, none⟩ : Addr).block]? from same b (by simp at this; omega)]
      exact h1
  · exact h.bel.grown hg h.bel.size (fun k hk => by have := h.own.lt k hk; have := h.pos; omega)
theorem own_base {w : World} {B C E s n : Nat} {v : Value} {xs : List Value} (h : w.ownsRow B E s v n xs) (hC : C ≤ B) : w.ownsRow C E s v n xs := by
  refine ⟨h.1, ?_⟩
  rcases h.2 with h0 | ⟨g, cap, cur, hv, hg, r⟩
  · exact .inl h0
  · exact .inr ⟨g, cap, cur, hv, by omega, r⟩
/-- what hear tells -/
def HearPost (n : Nat) (L : List Bool) (w : World) (e : Ending) (w' : World) : Prop := Below w.heap.size w w' ∧ ((∃ v T V, e = .returned (.tuple #[v, .bool true]) ∧ Told T V n L ∧ w'.ownsRow w.heap.size 3 1 v (2 * n + 1) (cellsI ((n : Int) :: Bk.flat2 T V n))) ∨ (∃ v, e = .returned (.tuple #[v, .bool false]) ∧ Nobody n L))
theorem hear_no {n : Nat} {L : List Bool} {w w' : World} {v : Value} (hb : Below w.heap.size w w') (h : Nobody n L) : HearPost n L w (.returned (.tuple #[v, .bool false])) w' := ⟨hb, .inr ⟨v, rfl, h⟩⟩
end Go.Proofs.YtcdlkdbnlomghaaDoor.Gl
