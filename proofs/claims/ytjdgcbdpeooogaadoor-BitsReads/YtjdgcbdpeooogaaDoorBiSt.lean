/-
  Where the law BitsReads stands.
-/
import Derived.Test.YtjdgcbdpeooogaaDoorBiR
import Derived.Test.YtjdgcbdpeooogaaDoorBiW
import Derived.Test.YtjdgcbdpeooogaaDoorBiOp
namespace Go.Proofs.YtjdgcbdpeooogaaDoor.Bi
open Go.ChangeShapes Go.WideShapes Go.ChangeAt Go.RowKit
theorem B3.only {w : World} {b T : Nat} {v0 v1 v2 v : Value} (h : B3 w b T v0 v1 v2) {i : Nat} (hc : w.cell? ⟨b, i, none⟩ = some v) : v = v0 ∨ v = v1 ∨ v = v2 := by
  obtain ⟨c0, c1, c2⟩ := h.cells
  match i with
  | 0 => rw [c0] at hc; exact .inl (Option.some.inj hc).symm
  | 1 => rw [c1] at hc; exact .inr (.inl (Option.some.inj hc).symm)
  | 2 => rw [c2] at hc; exact .inr (.inr (Option.some.inj hc).symm)
  | i + 3 =>
    unfold World.cell? at hc
    rw [show w.heap[(⟨b, i + 3, none⟩ : Addr).block]? = _ from h] at hc
    simp at hc
/-- where the law stands: the reader's place, older memory, the answer's bits -/
def Sit (w wr : World) (p : Nat) (L : List Bool) (a : Option Addr) (M cw at' : Nat) : Prop := RdAt wr p L at' ∧ Below w.heap.size w wr ∧ BoAt wr a M cw L
theorem Sit.ok {w wr : World} {p : Nat} {L : List Bool} {a : Option Addr} {M cw at' : Nat} (h : Sit w wr p L a M cw at') : at' ≤ M ∧ L.length = M := by
  have h1 := h.2.2.len
  obtain ⟨_, _, _, h2⟩ := h.1
  have := h2.ok.1
  omega
theorem Sit.below {w wr wr' : World} {p : Nat} {L : List Bool} {a : Option Addr} {M cw at' : Nat} (h : Sit w wr p L a M cw at') (hb : Below wr.heap.size wr wr') : Sit w wr' p L a M cw at' := ⟨h.1.below hb, below2 h.2.1 hb, h.2.2.below hb⟩
theorem Sit.kpb {w wr wr' : World} {p : Nat} {L : List Bool} {a : Option Addr} {M cw at' at2 : Nat} (h : Sit w wr p L a M cw at') (hp : w.heap.size ≤ p) (hk : KpB p wr wr') (hr : RdAt wr' p L at2) : Sit w wr' p L a M cw at2 := by
  refine ⟨hr, hk.below _ _ h.2.1 hp, h.2.2.1, h.2.2.2.1, h.2.2.2.2.1, ?_⟩
  rcases h.2.2.2.2.2 with h0 | ⟨b, off, e, hc⟩
  · exact .inl h0
  · refine .inr ⟨b, off, e, fun i v hv => ?_⟩
    have h1 := hc i v hv
    have hlt := World.block_lt_of_cell? wr ⟨b, off + i, none⟩ h1
    have hne : b ≠ p := by
      rintro rfl
      obtain ⟨_, _, _, h2⟩ := h.1
      obtain ⟨x, hx⟩ : ∃ x : Bool, v = .bool x := by
        have : v ∈ boV L := List.mem_of_getElem? hv
        unfold boV at this
        obtain ⟨x, _, hx⟩ := List.mem_map.1 this
        exact ⟨x, hx.symm⟩
      subst hx
      rcases h2.box.only h1 with h3 | h3 | h3 <;> cases h3
    have := hk.else_ b hlt hne
    unfold World.cell? at h1 ⊢
    rw [show wr'.heap[(⟨b, off + i, none⟩ : Addr).block]? = wr.heap[(⟨b, off + i, none⟩ : Addr).block]? from this]
    exact h1
theorem Sit.at {w wr : World} {p : Nat} {L : List Bool} {a : Option Addr} {M cw at' : Nat} (h : Sit w wr p L a M cw at') : Calls Tryd.prog 27 #[.pointer (some ⟨p, 0, none⟩)] wr fun e w' => e = .returned (.int .i64 (at' : Int)) ∧ w' = wr := at_any p at' L wr h.1
theorem Sit.left {w wr : World} {p : Nat} {L : List Bool} {a : Option Addr} {M cw at' : Nat} (h : Sit w wr p L a M cw at') : Calls Tryd.prog 28 #[.pointer (some ⟨p, 0, none⟩)] wr fun e w' => e = .returned (.int .i64 ((M : Int) - (at' : Int))) ∧ Sit w w' p L a M cw at' := (left_any p at' L wr h.1).mono (by
  rintro e w' ⟨rfl, hg⟩
  refine ⟨?_, h.below (grown_below hg)⟩
  refine ret_int ?_
  have := h.ok
  omega)
theorem Sit.word {w wr : World} {p : Nat} {L : List Bool} {a : Option Addr} {M cw at' : Nat} (h : Sit w wr p L a M cw at') {n : Int} (hn : isWordP n = false) : Calls Tryd.prog 22 #[.pointer (some ⟨p, 0, none⟩), .int .i64 n] wr fun e w' => e = .returned (.tuple #[.int .u64 0, .int .i64 1]) ∧ Sit w w' p L a M cw at' := (take_word _ n wr hn).mono (by
  rintro e w' ⟨rfl, rfl⟩
  exact ⟨rfl, h⟩)
theorem Sit.few {w wr : World} {p : Nat} {L : List Bool} {a : Option Addr} {M cw at' : Nat} (h : Sit w wr p L a M cw at') {k : Nat} (hk : k ≤ 64) (hr : M - at' < k) : Calls Tryd.prog 22 #[.pointer (some ⟨p, 0, none⟩), .int .i64 (k : Int)] wr fun e w' => e = .returned (.tuple #[.int .u64 0, .int .i64 2]) ∧ Sit w w' p L a M cw at' := (take_few _ (k : Int) (L.length - at') wr (by unfold isWordP; simp; omega) (left_any p at' L wr h.1) (by have := h.ok; omega)).mono (by
  rintro e w' ⟨rfl, hg⟩
  exact ⟨rfl, h.below (grown_below hg)⟩)
theorem Sit.yes {w wr : World} {p : Nat} {L : List Bool} {a : Option Addr} {M cw at' : Nat} (h : Sit w wr p L a M cw at') (hp : w.heap.size ≤ p) {k : Nat} (hk : k ≤ 64) (hr : at' + k ≤ M) : Calls Tryd.prog 22 #[.pointer (some ⟨p, 0, none⟩), .int .i64 (k : Int)] wr fun e w' => e = .returned (.tuple #[.int .u64 ((val (bt L) at' k : Nat) : Int), .int .i64 0]) ∧ Sit w w' p L a M cw (at' + k) := (take_yes p at' k L wr h.1 hk (by have := h.ok; omega)).mono (by
  rintro e w' ⟨rfl, hr, hk⟩
  exact ⟨rfl, h.kpb hp hk hr⟩)
theorem Sit.numno {w wr : World} {p : Nat} {L : List Bool} {a : Option Addr} {M cw at' : Nat} (h : Sit w wr p L a M cw at') (hp : w.heap.size ≤ p) (hT : Tab wr) (hno : ∀ v k, ¬ NumIs L at' v k) : Calls Tryd.prog 24 #[.pointer (some ⟨p, 0, none⟩)] wr fun e w' => e = .returned (.tuple #[.int .i64 0, .int .i64 2]) ∧ Sit w w' p L a M cw at' := (rnum_no p at' L wr h.1 hT hno).mono (by
  rintro e w' ⟨rfl, hr, hk⟩
  exact ⟨rfl, h.kpb hp hk hr⟩)
theorem Sit.numyes {w wr : World} {p : Nat} {L : List Bool} {a : Option Addr} {M cw at' : Nat} (h : Sit w wr p L a M cw at') (hp : w.heap.size ≤ p) (hT : Tab wr) {v : Int} {k : Nat} (hv : NumIs L at' v k) : Calls Tryd.prog 24 #[.pointer (some ⟨p, 0, none⟩)] wr fun e w' => e = .returned (.tuple #[.int .i64 v, .int .i64 0]) ∧ Sit w w' p L a M cw (at' + k) := (rnum_yes p at' L wr h.1 hT v k hv).mono (by
  rintro e w' ⟨rfl, hr, hk⟩
  exact ⟨rfl, h.kpb hp hk hr⟩)
theorem Sit.seekno {w wr : World} {p : Nat} {L : List Bool} {a : Option Addr} {M cw at' : Nat} (h : Sit w wr p L a M cw at') {n : Int} (hn : n < 0 ∨ (M : Int) < n) : Calls Tryd.prog 26 #[.pointer (some ⟨p, 0, none⟩), .int .i64 n] wr fun e w' => e = .returned (.int .i64 1) ∧ Sit w w' p L a M cw at' := (seek_no p at' n L wr h.1 (by have := h.ok; omega)).mono (by
  rintro e w' ⟨rfl, rfl⟩
  exact ⟨rfl, h⟩)
theorem Sit.seekyes {w wr : World} {p : Nat} {L : List Bool} {a : Option Addr} {M cw at' : Nat} (h : Sit w wr p L a M cw at') (hp : w.heap.size ≤ p) {k : Nat} (hk : k ≤ M) : Calls Tryd.prog 26 #[.pointer (some ⟨p, 0, none⟩), .int .i64 (k : Int)] wr fun e w' => e = .returned (.int .i64 0) ∧ Sit w w' p L a M cw k := (seek_yes p at' k L wr h.1 (by have := h.ok; omega)).mono (by
  rintro e w' ⟨rfl, hr, hk⟩
  exact ⟨rfl, h.kpb hp hk hr⟩)
/-- the answer's Value of a piece, and its Number of the rest -/
theorem Sit.val {w wr : World} {p : Nat} {L : List Bool} {a : Option Addr} {M cw at' : Nat} (h : Sit w wr p L a M cw at') {q k : Nat} (hk : 0 < k) (hq : q + k ≤ M) (h6 : k ≤ 64) : ∃ b off, a = some ⟨b, off, none⟩ ∧ Calls Tryd.prog 23 #[.slice (some ⟨b, off + q, none⟩) (q + k - q) (cw - q)] wr fun e w' => e = .returned (.int .u64 ((val (bt L) q k : Nat) : Int)) ∧ w' = wr := by
  obtain ⟨b, off, ⟨e, hb⟩ | h0⟩ := h.2.2.sub (k := q) (n := k) hq
  · refine ⟨b, off, e, ?_⟩
    rw [val_piece (by have := h.ok; omega), show q + k - q = k by omega]
    exact value_any _ _ _ _ wr hb h6
  · omega
theorem value_none (x : Option Addr) (m cp : Nat) (hm : m = 0) (hcp : (cp : Int) ≤ 9223372036854775807) (w : World) : Calls Tryd.prog 23 #[.slice x m cp] w fun e w' => e = .returned (.int .u64 0) ∧ w' = w := by
  subst hm
  exact value_any x 0 cp [] w ⟨rfl, Nat.zero_le _, by unfold maxLen; omega, .inl rfl⟩ (by decide)
theorem Sit.refnum {w wr : World} {p : Nat} {L : List Bool} {a : Option Addr} {M cw at' : Nat} (h : Sit w wr p L a M cw at') {x : Option Addr} {m cp q : Nat} (hx : BoAt wr x m cp (L.drop q)) (hm : q + m = L.length) (h9 : m ≤ 100000) : Calls Tryd.prog 25 #[.slice x m cp] wr fun e w' => ((∃ (v : Int) (k : Nat), e = .returned (.tuple #[.int .i64 v, .int .i64 (k : Int)]) ∧ NumIs L q v k ∧ 0 < k) ∨ (e = .returned (.tuple #[.int .i64 0, .int .i64 0]) ∧ ∀ v k, ¬ NumIs L q v k)) ∧ Sit w w' p L a M cw at' :=
  (rnumber_any x m cp q L wr hx hm h9).mono (by
  rintro e w' ⟨hb, hr⟩
  exact ⟨hr, h.below hb⟩)
theorem Sit.refyes {w wr : World} {p : Nat} {L : List Bool} {a : Option Addr} {M cw at' : Nat} (h : Sit w wr p L a M cw at') {x : Option Addr} {m cp q : Nat} (hx : BoAt wr x m cp (L.drop q)) (hm : q + m = L.length) (h9 : m ≤ 100000) {v : Int} {k : Nat} (hv : NumIs L q v k) : Calls Tryd.prog 25 #[.slice x m cp] wr fun e w' => e = .returned (.tuple #[.int .i64 v, .int .i64 (k : Int)]) ∧ Sit w w' p L a M cw at' := (h.refnum hx hm h9).mono (by
  rintro e w' ⟨⟨v2, k2, rfl, h2, _⟩ | ⟨rfl, hno⟩, hs⟩
  · obtain ⟨rfl, rfl⟩ := num_one h2 hv
    exact ⟨rfl, hs⟩
  · exact absurd hv (hno v k))
theorem Sit.refno {w wr : World} {p : Nat} {L : List Bool} {a : Option Addr} {M cw at' : Nat} (h : Sit w wr p L a M cw at') {x : Option Addr} {m cp q : Nat} (hx : BoAt wr x m cp (L.drop q)) (hm : q + m = L.length) (h9 : m ≤ 100000) (hno : ∀ v k, ¬ NumIs L q v k) : Calls Tryd.prog 25 #[.slice x m cp] wr fun e w' => e = .returned (.tuple #[.int .i64 0, .int .i64 0]) ∧ Sit w w' p L a M cw at' := (h.refnum hx hm h9).mono (by
  rintro e w' ⟨⟨v2, k2, rfl, h2, _⟩ | ⟨rfl, _⟩, hs⟩
  · exact absurd h2 (hno v2 k2)
  · exact ⟨rfl, hs⟩)
theorem Sit.rest {w wr : World} {p : Nat} {L : List Bool} {a : Option Addr} {M cw at' : Nat} (h : Sit w wr p L a M cw at') {q : Nat} (hq : q < M) : ∃ b off, a = some ⟨b, off, none⟩ ∧ BoAt wr (some ⟨b, off + q, none⟩) (M - q) (cw - q) (L.drop q) := by
  obtain ⟨b, off, ⟨e, hb⟩ | h0⟩ := h.2.2.sub (k := q) (n := M - q) (by omega)
  · rw [List.take_of_length_le (by have := h.ok; simp; omega)] at hb
    exact ⟨b, off, e, hb⟩
  · omega
theorem Sit.over {w wr : World} {p : Nat} {L : List Bool} {a : Option Addr} {M cw at' : Nat} (h : Sit w wr p L a M cw at') {q : Nat} (hq : q = M) (x : Option Addr) (m cp : Nat) (hm : m = 0) (hcp : (cp : Int) ≤ 9223372036854775807) : BoAt wr x m cp (L.drop q) := by
  subst hm
  rw [List.drop_eq_nil_of_le (by have := h.ok; omega)]
  exact ⟨rfl, Nat.zero_le _, by unfold maxLen; omega, .inl rfl⟩
theorem num_in {L : List Bool} {q k : Nat} {v : Int} (h : NumIs L q v k) : q + k ≤ L.length ∧ 0 < k := by
  obtain ⟨c, h1, h2, rfl, _⟩ := h
  exact ⟨h2, sz_pos c (by have := h1.1; omega)⟩
/-- a step that is read -/
theorem step_read {w wr : World} {a : Option Addr} {len cap : Nat} {z : List (Int × Int)} (h : StAt w a len cap z) (hb : Below w.heap.size w wr) {i : Nat} (hi : i < len) : ∃ b off, a = some ⟨b, off, none⟩ ∧ wr.cell? ⟨b, off + i * 2, none⟩ = some (.int .i64 (z.getD i (0, 0)).1) ∧ wr.cell? ⟨b, off + i * 2 + 1, none⟩ = some (.int .i64 (z.getD i (0, 0)).2) := by
  rcases h.2.2.2 with h0 | ⟨b, off, e, hc⟩
  · omega
  · obtain ⟨h1, h2⟩ := hc i hi
    exact ⟨b, off, e, (hb.cell (p := ⟨b, off + i * 2, none⟩) (World.block_lt_of_cell? w ⟨b, off + i * 2, none⟩ h1)).trans h1, (hb.cell (p := ⟨b, off + i * 2 + 1, none⟩) (World.block_lt_of_cell? w ⟨b, off + i * 2 + 1, none⟩ h2)).trans h2⟩
end Go.Proofs.YtjdgcbdpeooogaaDoor.Bi
