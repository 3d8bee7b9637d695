/-
  Labels as pairs of texts, rows of them; the contracts of what a name and what a value is.
-/
import Derived.Test.YtnjbpiekbekpeaaRows
import Derived.WalkKit
import Derived.WalkSpells
import Derived.ProofKit
import Derived.OpenShut
import Derived.Below
import Derived.BigCall
import Derived.Laws.IdiomStrings
import Derived.Laws.RangeAny
import Derived.Lib.OthersKept
namespace Go.Proofs.Ytnjbpiekbekpeaa
open Go.ChangeShapes Go.WideShapes Go.ChangeAt Go.RowKit
theorem addr_add (b off i : Nat) : (⟨b, off, none⟩ : Addr).add i = ⟨b, off + i, none⟩ := by
  by_cases h : i = 0
  · subst h; simp [Addr.add]
  · simp [Addr.add, h]
theorem ret_bool {a b : Bool} (h : a = b) : Ending.returned (.bool a) = .returned (.bool b) := by rw [h]
/-- the signs of a name, of a value -/
def nameSign (b : UInt8) : Bool := decide (97 ≤ b.toNat) && decide (b.toNat ≤ 122)
def valSign (b : UInt8) : Bool := decide (32 ≤ b.toNat) && decide (b.toNat ≤ 126)
def nameL (l : List UInt8) : Bool := l.all nameSign && decide (1 ≤ l.length) && decide (l.length ≤ 16)
def valL (l : List UInt8) : Bool := l.all valSign && decide (l.length ≤ 16)
/-- a text's signs -/
def sg (s : ByteArray) : List UInt8 := s.data.toList
theorem sg_length (s : ByteArray) : (sg s).length = s.size := by simp [sg]
theorem sg_take (s : ByteArray) (k : Nat) (h : k < s.size) : (sg s).take (k + 1) = (sg s).take k ++ [s[k]] := by
  unfold sg
  rw [List.take_add_one, List.getElem?_eq_getElem (by simpa using h)]
  rfl
theorem sg_ext {s t : ByteArray} (h : sg s = sg t) : s = t := by
  obtain ⟨⟨a⟩⟩ := s
  obtain ⟨⟨b⟩⟩ := t
  simp [sg] at h
  rw [h]
theorem sg_nil {s : ByteArray} : sg s = [] ↔ s.size = 0 := by
  rw [← sg_length]; simp
/-- all signs up to a place -/
theorem all_take_succ {p : UInt8 → Bool} {s : ByteArray} {k : Nat} (h : k < s.size) (hall : ((sg s).take k).all p = true) (hp : p s[k] = true) : ((sg s).take (k + 1)).all p = true := by
  rw [sg_take s k h, List.all_append, hall]; simp [hp]
theorem all_no {p : UInt8 → Bool} {s : ByteArray} {k : Nat} (h : k < s.size) (hp : p s[k] = false) : (sg s).all p = false := by
  rw [List.all_eq_false]
  refine ⟨s[k], ?_, by simp [hp]⟩
  unfold sg
  rw [ByteArray.getElem_eq_getElem_data]
  exact Array.mem_toList_iff.2 (Array.getElem_mem _)
theorem all_end {p : UInt8 → Bool} {s : ByteArray} {k : Nat} (h : ¬ k < s.size) (hall : ((sg s).take k).all p = true) : (sg s).all p = true := by
  rwa [List.take_of_length_le (by rw [sg_length]; omega)] at hall
set_option maxHeartbeats 2000000 in
theorem refName_any (s : ByteArray) (w : World) (hs : s.size ≤ maxLen) :
    Calls Try.prog 22 #[.string s] w fun e w' => e = .returned (.bool (nameL (sg s))) ∧ w' = w := by
  unfold maxLen at hs
  go_enter Try.func22, Try.ntmps22
  go_wp2
  go_loop [3] (fun i => ∃ k : Nat, k ≤ s.size ∧ i = .int .i64 k ∧ Hid (((sg s).take k).all nameSign = true)) (fun i => s.size - (intOf i).toNat)
  case atStart => exact ⟨0, Nat.zero_le _, rfl, by show _ = _; simp⟩
  case round =>
    obtain ⟨k, hk, rfl, hT⟩ := hrel
    by_cases hlt : k < s.size
    · have h2 := s[k].toNat_lt
      by_cases h3 : s[k].toNat < 97
      · go_wp2
        go_ret
        refine ⟨ret_bool ?_, rfl⟩
        rw [nameL, all_no hlt (by simp [nameSign]; omega)]; rfl
      · by_cases h4 : 122 < s[k].toNat
        · go_wp2
          go_ret
          refine ⟨ret_bool ?_, rfl⟩
          rw [nameL, all_no hlt (by simp [nameSign]; omega)]; rfl
        · have HT : Hid (((sg s).take (k + 1)).all nameSign = true) := all_take_succ hlt hT.out (by simp [nameSign]; omega)
          go_wp2
          refine ⟨⟨k + 1, by omega, by go_num, HT⟩, by simp [intOf]; omega⟩
    · have HA := all_end hlt hT.out
      clear hT
      have HN : Hid (nameL (sg s) = (decide (1 ≤ s.size) && decide (s.size ≤ 16))) := by show _ = _; rw [nameL, HA, sg_length, Bool.true_and]
      clear HA
      by_cases h1 : (1 : Int) ≤ (s.size : Int)
      · by_cases h16 : (s.size : Int) ≤ (16 : Int)
        · go_wp2
          go_ret
          exact ⟨ret_bool (by rw [HN.out]; simp; omega), rfl⟩
        · go_wp2
          go_ret
          exact ⟨ret_bool (by rw [HN.out]; simp; omega), rfl⟩
      · go_wp2
        go_ret
        exact ⟨ret_bool (by rw [HN.out]; simp; omega), rfl⟩
set_option maxHeartbeats 2000000 in
theorem refVal_any (s : ByteArray) (w : World) (hs : s.size ≤ maxLen) :
    Calls Try.prog 23 #[.string s] w fun e w' => e = .returned (.bool (valL (sg s))) ∧ w' = w := by
  unfold maxLen at hs
  go_enter Try.func23, Try.ntmps23
  go_wp2
  go_loop [3] (fun i => ∃ k : Nat, k ≤ s.size ∧ i = .int .i64 k ∧ Hid (((sg s).take k).all valSign = true)) (fun i => s.size - (intOf i).toNat)
  case atStart => exact ⟨0, Nat.zero_le _, rfl, by show _ = _; simp⟩
  case round =>
    obtain ⟨k, hk, rfl, hT⟩ := hrel
    by_cases hlt : k < s.size
    · have h2 := s[k].toNat_lt
      by_cases h3 : s[k].toNat < 32
      · go_wp2
        go_ret
        refine ⟨ret_bool ?_, rfl⟩
        rw [valL, all_no hlt (by simp [valSign]; omega)]; rfl
      · by_cases h4 : 126 < s[k].toNat
        · go_wp2
          go_ret
          refine ⟨ret_bool ?_, rfl⟩
          rw [valL, all_no hlt (by simp [valSign]; omega)]; rfl
        · have HT : Hid (((sg s).take (k + 1)).all valSign = true) := all_take_succ hlt hT.out (by simp [valSign]; omega)
          go_wp2
          refine ⟨⟨k + 1, by omega, by go_num, HT⟩, by simp [intOf]; omega⟩
    · have HA := all_end hlt hT.out
      clear hT
      have HN : Hid (valL (sg s) = decide (s.size ≤ 16)) := by show _ = _; rw [valL, HA, sg_length, Bool.true_and]
      clear HA
      by_cases h16 : (s.size : Int) ≤ (16 : Int)
      · go_wp2
        go_ret
        exact ⟨ret_bool (by rw [HN.out]; simp; omega), rfl⟩
      · go_wp2
        go_ret
        exact ⟨ret_bool (by rw [HN.out]; simp; omega), rfl⟩
/-- a text is empty -/
theorem empty_eq (s : ByteArray) : s.toList.isEmpty = decide (s.size = 0) := by
  rw [ByteArray.toList_eq]
  by_cases h : s.size = 0
  · have := sg_nil.2 h
    unfold sg at this
    simp [h, this]
  · have hne : ¬ s.data.toList = [] := fun e => h (sg_nil.1 e)
    rw [decide_eq_false h]
    cases hd : s.data.toList with
    | nil => exact absurd hd hne
    | cons x y => rfl
set_option maxHeartbeats 2000000 in
theorem isName_any (s : ByteArray) (w : World) (hs : s.size ≤ maxLen) :
    Calls Try.prog 31 #[.string s] w fun e w' => e = .returned (.bool (nameL (sg s))) ∧ Below w.heap.size w w' := by
  unfold maxLen at hs
  have HE := empty_eq s
  by_cases h0 : s.size = 0
  · simp only [h0, decide_true] at HE
    go_enter Try.func31, Try.ntmps31
    go_wp2
    go_ret
    exact ⟨ret_bool (by simp [nameL, sg_length, h0]), Below.refl _ _⟩
  simp only [h0, decide_false] at HE
  by_cases h16 : (16 : Int) < (s.size : Int)
  · go_enter Try.func31, Try.ntmps31
    go_wp2
    go_ret
    exact ⟨ret_bool (by simp [nameL, sg_length]; omega), Below.refl _ _⟩
  go_enter Try.func31, Try.ntmps31
  go_wp2
  go_loopw [] (fun wr => ∃ pos : Nat, wr.heap[w.heap.size]? = some (.stringIter s pos) ∧ Below w.heap.size w wr ∧ Hid (((sg s).take pos).all nameSign = true)) (fun wr => s.size - wr.iterPos w.heap.size)
  case atStart =>
    refine ⟨0, ?_, (Below.refl _ w).alloc (Nat.le_refl _) _, by show _ = _; simp⟩
    have := World.iter_heap w s 0
    simpa using this
  case round =>
    obtain ⟨pos, hit, hbw, hT⟩ := hrel
    by_cases hp : pos < s.size
    · have hnx : ∀ ty, (Instr.next (.pointer (some ⟨w.heap.size, 0, none⟩)) true ty).run Try.prog wr = _ := fun ty => Lib.run_next_any_at wr w.heap.size s pos ty hit hp
      have hbw2 := Lib.below_iterAt hbw (k := w.heap.size) (Nat.le_refl _) s (pos + (Utf8.decode s pos).2)
      by_cases ha : s[pos].toNat < 128
      · rw [decode_ascii s pos hp ha] at hnx hbw2
        have hit2 := Lib.iterAt_heap wr w.heap.size s pos (pos + 1) hit
        by_cases h3 : s[pos].toNat < 97
        · go_wp2
          go_ret
          refine ⟨ret_bool ?_, hbw2⟩
          rw [nameL, all_no hp (by simp [nameSign]; omega)]; rfl
        · by_cases h4 : 122 < s[pos].toNat
          · go_wp2
            go_ret
            refine ⟨ret_bool ?_, hbw2⟩
            rw [nameL, all_no hp (by simp [nameSign]; omega)]; rfl
          · have HT : Hid (((sg s).take (pos + 1)).all nameSign = true) := all_take_succ hp hT.out (by simp [nameSign]; omega)
            clear hT
            go_wp2
            refine ⟨⟨pos + 1, hit2, hbw2, HT⟩, ?_⟩
            simp only [World.iterPos, hit2, hit]
            omega
      · obtain ⟨hd, hw1⟩ := decode_high s pos hp (by omega)
        generalize Utf8.decode s pos = dc at *
        go_wp2
        go_ret
        refine ⟨ret_bool ?_, hbw2⟩
        rw [nameL, all_no hp (by simp [nameSign]; omega)]; rfl
    · have hnx : ∀ ty, (Instr.next (.pointer (some ⟨w.heap.size, 0, none⟩)) true ty).run Try.prog wr = _ := fun ty => Lib.run_next_end_at wr w.heap.size s pos ty hit hp
      have HA := all_end hp hT.out
      clear hT
      go_wp2
      go_ret
      exact ⟨ret_bool (by rw [nameL, HA, sg_length]; simp; omega), hbw⟩
set_option maxHeartbeats 2000000 in
theorem isValue_any (s : ByteArray) (w : World) (hs : s.size ≤ maxLen) :
    Calls Try.prog 32 #[.string s] w fun e w' => e = .returned (.bool (valL (sg s))) ∧ Below w.heap.size w w' := by
  unfold maxLen at hs
  by_cases h16 : (16 : Int) < (s.size : Int)
  · go_enter Try.func32, Try.ntmps32
    go_wp2
    go_ret
    exact ⟨ret_bool (by simp [valL, sg_length]; omega), Below.refl _ _⟩
  go_enter Try.func32, Try.ntmps32
  go_wp2
  go_loopw [] (fun wr => ∃ pos : Nat, wr.heap[w.heap.size]? = some (.stringIter s pos) ∧ Below w.heap.size w wr ∧ Hid (((sg s).take pos).all valSign = true)) (fun wr => s.size - wr.iterPos w.heap.size)
  case atStart =>
    refine ⟨0, ?_, (Below.refl _ w).alloc (Nat.le_refl _) _, by show _ = _; simp⟩
    have := World.iter_heap w s 0
    simpa using this
  case round =>
    obtain ⟨pos, hit, hbw, hT⟩ := hrel
    by_cases hp : pos < s.size
    · have hnx : ∀ ty, (Instr.next (.pointer (some ⟨w.heap.size, 0, none⟩)) true ty).run Try.prog wr = _ := fun ty => Lib.run_next_any_at wr w.heap.size s pos ty hit hp
      have hbw2 := Lib.below_iterAt hbw (k := w.heap.size) (Nat.le_refl _) s (pos + (Utf8.decode s pos).2)
      by_cases ha : s[pos].toNat < 128
      · rw [decode_ascii s pos hp ha] at hnx hbw2
        have hit2 := Lib.iterAt_heap wr w.heap.size s pos (pos + 1) hit
        by_cases h3 : s[pos].toNat < 32
        · go_wp2
          go_ret
          refine ⟨ret_bool ?_, hbw2⟩
          rw [valL, all_no hp (by simp [valSign]; omega)]; rfl
        · by_cases h4 : 126 < s[pos].toNat
          · go_wp2
            go_ret
            refine ⟨ret_bool ?_, hbw2⟩
            rw [valL, all_no hp (by simp [valSign]; omega)]; rfl
          · have HT : Hid (((sg s).take (pos + 1)).all valSign = true) := all_take_succ hp hT.out (by simp [valSign]; omega)
            clear hT
            go_wp2
            refine ⟨⟨pos + 1, hit2, hbw2, HT⟩, ?_⟩
            simp only [World.iterPos, hit2, hit]
            omega
      · obtain ⟨hd, hw1⟩ := decode_high s pos hp (by omega)
        generalize Utf8.decode s pos = dc at *
        go_wp2
        go_ret
        refine ⟨ret_bool ?_, hbw2⟩
        rw [valL, all_no hp (by simp [valSign]; omega)]; rfl
    · have hnx : ∀ ty, (Instr.next (.pointer (some ⟨w.heap.size, 0, none⟩)) true ty).run Try.prog wr = _ := fun ty => Lib.run_next_end_at wr w.heap.size s pos ty hit hp
      have HA := all_end hp hT.out
      clear hT
      go_wp2
      go_ret
      exact ⟨ret_bool (by rw [valL, HA, sg_length]; simp; omega), hbw⟩
end Go.Proofs.Ytnjbpiekbekpeaa
