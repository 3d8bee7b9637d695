/-
  Facts on lists of numbers and of bytes that the call itself has made: what they read as behind a store, behind a callee, as a text.
-/
import Derived.Test.YtijnoibpebmdbaaPieces
import Derived.WalkKit
import Derived.ProofKit
import Derived.OpenShut
import Derived.Below
import Derived.Deep.QuietTactic
import Derived.Laws.IdiomStrings
namespace Go.Proofs.Ytijnoibpebmdbaa
open Go.ChangeShapes Go.WideShapes Go.ChangeAt Go.RowKit
theorem cellsN_set (l : List Nat) (k b : Nat) : cellsN (l.set k b) = (cellsN l).set k (.int .u64 (b : Int)) := by simp [cellsN, List.map_set]
theorem nums_at_own {w : World} {base g cap : Nat} {n : Nat} {l : List Nat} (h : w.ownsRow base 22 1 (.slice (some ⟨g, 0, none⟩) n cap) n (cellsN l)) (hm : n ≤ maxLen) (hb : ∀ x ∈ l, x < 18446744073709551616) :
    NumsAt w (some ⟨g, 0, none⟩) n l := by
  have hl : l.length = n := by simpa [cellsN] using h.1
  refine ⟨hl, hm, hb, .inr ⟨g, 0, rfl, ?_⟩⟩
  intro i hi
  rw [Nat.zero_add, h.cellAt i (by omega)]
  simp [cellsN, hi]
theorem set_lt {l : List Nat} (hl : ∀ x ∈ l, x < 18446744073709551616) {k b : Nat} (hb : b < 18446744073709551616) : ∀ x ∈ l.set k b, x < 18446744073709551616 := by
  intro x hx
  rcases List.mem_or_eq_of_mem_set hx with h | h
  · exact hl x h
  · rw [h]; exact hb
theorem set_self (l : List Nat) (k : Nat) (h : k < l.length) : l.set k (l.getD k 0) = l := by
  rw [show l.getD k 0 = l[k] from by simp [h], List.set_getElem_self]
theorem numsAt_below {w w' : World} {B g n : Nat} {l : List Nat} (h : NumsAt w (some ⟨g, 0, none⟩) n l) (hb : Below B w w') (hg : g < B) : NumsAt w' (some ⟨g, 0, none⟩) n l := by
  obtain ⟨h1, h2, h3, h4⟩ := h
  refine ⟨h1, h2, h3, ?_⟩
  rcases h4 with h4 | ⟨b, off, e, h⟩
  · exact .inl h4
  · simp only [Option.some.injEq, Addr.mk.injEq, and_true] at e
    obtain ⟨rfl, rfl⟩ := e
    exact .inr ⟨g, 0, rfl, fun i hi => (hb.cell (p := ⟨g, 0 + i, none⟩) hg).trans (h i hi)⟩
theorem numsAt_cell {w : World} {g n : Nat} {l : List Nat} (h : NumsAt w (some ⟨g, 0, none⟩) n l) (k : Nat) (hk : k < n) : w.cell? ⟨g, k, none⟩ = some (.int .u64 ((l.getD k 0 : Nat) : Int)) := by
  obtain ⟨h1, _, _, h4⟩ := h
  rcases h4 with h4 | ⟨b, off, e, h⟩
  · omega
  · simp only [Option.some.injEq, Addr.mk.injEq, and_true] at e
    obtain ⟨rfl, rfl⟩ := e
    have := h k (by omega)
    rwa [Nat.zero_add] at this
theorem numsAt_drewN {w : World} {a : Option Addr} {n : Nat} {l : List Nat} (h : NumsAt w a n l) (m : Nat) : NumsAt (w.drewN m) a n l := h
theorem bytes_conv (w : World) (s : ByteArray) : ∃ wb capb, (convert 9 34 (.string s)).run Try.prog w = .ok (.slice (some ⟨w.heap.size, 0, none⟩) s.size capb) wb ∧ Below w.heap.size w wb ∧ wb.heap.size = w.heap.size + 1 ∧
    ∀ j, j < s.size → wb.cell? ⟨w.heap.size, j, none⟩ = some (.int .u8 ((s.data.toList.getD j 0).toNat : Int)) ∧ wb.frozen? ⟨w.heap.size, j, none⟩ = false := by
  refine ⟨_, _, run_bytes_of_string w 9 34 5 s Try.underlying9 Try.underlying34 Try.underlying5, (Below.refl _ _).drew.alloc (Nat.le_refl _) _, by simp, ?_⟩
  intro j hj
  have hh : ∀ o : Obj, (w.drew.alloc o).heap[w.heap.size]? = some o := fun o => heap_alloc_new w.drew o
  refine ⟨?_, ?_⟩
  · unfold World.cell?
    rw [hh]
    simp [bytesRow, Array.getElem?_append, hj]
  · unfold World.frozen?
    rw [hh]
    simp [bytesRow]
    omega
theorem below_step {n : Nat} {w5 w' w'' : World} (hs : n ≤ w5.heap.size) (h1 : Below n w5 w') (h2 : Below w'.heap.size w' w'') : Below n w5 w'' :=
  h1.trans (h2.mono (Nat.le_trans hs h1.size))
theorem bytes_set (x : Nat) (s : ByteArray) (i nb n4 capb : Nat) (wb : World) (hi : i < s.size) (hb : nb < 256) (hm : s.size ≤ maxLen)
    (hc : ∀ j, j < s.size → wb.cell? ⟨n4, j, none⟩ = some (.int .u8 ((s.data.toList.getD j 0).toNat : Int)) ∧ wb.frozen? ⟨n4, j, none⟩ = false) :
    ∃ (s' : ByteArray) (q : Bool), s'.size ≤ maxLen ∧ (((textN x s'.data.toList : Nat) : Int) == ((textN x s.data.toList : Nat) : Int)) = q ∧ ((nb : Int) == (s[i].toNat : Int)) = q ∧
      ∀ w', Below (n4 + 1) (wb.setCell ⟨n4, i, none⟩ (.int .u8 (nb : Int))) w' → w'.cell? ⟨n4, i, none⟩ = some (.int .u8 (nb : Int)) ∧ (convert 34 9 (.slice (some ⟨n4, 0, none⟩) s.size capb)).run Try.prog w' = .ok (.string s') w' := by
  have hil : i < s.data.toList.length := by simpa using hi
  have hml : s.data.toList.length < 18446744073709551616 := by
    unfold maxLen at hm
    simp
    omega
  have hc8 : (UInt8.ofNat nb).toNat = nb := by simp; omega
  refine ⟨⟨(s.data.toList.set i (UInt8.ofNat nb)).toArray⟩, (nb : Int) == (s[i].toNat : Int), ?_, ?_, rfl, ?_⟩
  · show (s.data.toList.set i (UInt8.ofNat nb)).toArray.size ≤ maxLen
    rw [List.size_toArray, List.length_set, Array.length_toList]
    exact hm
  · have h := textN_set x s.data.toList i (UInt8.ofNat nb) hil hml
    rw [Bool.eq_iff_iff, beq_iff_eq, beq_iff_eq, Int.natCast_inj, Int.natCast_inj]
    show textN x (s.data.toList.set i (UInt8.ofNat nb)) = textN x s.data.toList ↔ nb = (s.data.toList[i]).toNat
    rw [h]
    constructor
    · intro e
      rw [← e, hc8]
    · intro e
      rw [e, UInt8.ofNat_toNat]
  · intro w' hb'
    have hcell : ∀ j, j < s.size → w'.cell? ⟨n4, j, none⟩ = some (.int .u8 (((s.data.toList.set i (UInt8.ofNat nb)).getD j 0).toNat : Int)) := by
      intro j hj
      rw [hb'.cell (p := ⟨n4, j, none⟩) (by show n4 < n4 + 1; omega), List.getD_eq_getElem?_getD, List.getElem?_set]
      by_cases e : i = j
      · subst e
        rw [World.cell?_setCell_same _ _ _ (hc i hi).1, if_pos rfl, if_pos hil, Option.getD_some, hc8]
      · rw [World.cell?_setCell_other _ _ _ _ (by intro h; exact e (congrArg Addr.off h)), (hc j hj).1, if_neg e, List.getD_eq_getElem?_getD]
    refine ⟨?_, ?_⟩
    · rw [hcell i hi, List.getD_eq_getElem?_getD, List.getElem?_set, if_pos rfl, if_pos hil, Option.getD_some, hc8]
    · have h := run_convert_bytes_back (P := Try.prog) w' 34 9 5 ⟨n4, 0, none⟩ capb (s.data.toList.set i (UInt8.ofNat nb)) Try.underlying34 Try.underlying5 Try.underlying9 (by
        intro j hj
        have hj' : j < s.size := by simpa using hj
        rw [addr_add, Nat.zero_add, hcell j hj', List.getD_eq_getElem?_getD, List.getElem?_eq_getElem hj, Option.getD_some])
      rw [List.length_set, Array.length_toList] at h
      exact h
end Go.Proofs.Ytijnoibpebmdbaa
