/-
  Labels as pairs of texts, rows of them; the contracts of what a name and what a value is.
  The closures of the sort, of utf8's AppendRune and of math/bits' Len, found in this program.
-/
import Derived.Test.YtihohcmocejijaaGreatRows
import Derived.WalkKit
import Derived.WalkSpells
import Derived.ProofKit
import Derived.OpenShut
import Derived.Below
import Derived.BigCall
import Derived.Laws.IdiomStrings
import Derived.Laws.RangeAny
import Derived.Lib.OthersKept
import Derived.Shelf.SlSortCmp.SmallK
import Derived.Shelf.Strings.BuilderRune
import Derived.Shelf.Small.Bits
import Derived.Test.YtihohcmocejijaaGreatProg
namespace Go.Proofs.YtihohcmocejijaaGreat.Lb
open Go.ChangeShapes Go.WideShapes Go.ChangeAt Go.RowKit
theorem addr_add (b off i : Nat) : (⟨b, off, none⟩ : Addr).add i = ⟨b, off + i, none⟩ := by
  by_cases h : i = 0
  · subst h; simp [Addr.add]
  · simp [Addr.add, h]
theorem ret_bool {a b : Bool} (h : a = b) : Ending.returned (.bool a) = .returned (.bool b) := by rw [h]
def nameSign (b : UInt8) : Bool := decide (97 ≤ b.toNat) && decide (b.toNat ≤ 122)
def valSign (b : UInt8) : Bool := decide (32 ≤ b.toNat) && decide (b.toNat ≤ 126)
def nameL (l : List UInt8) : Bool := l.all nameSign && decide (1 ≤ l.length) && decide (l.length ≤ 16)
def valL (l : List UInt8) : Bool := l.all valSign && decide (l.length ≤ 16)
def sg (s : ByteArray) : List UInt8 := s.data.toList
theorem sg_length (s : ByteArray) : (sg s).length = s.size := by simp [sg]
theorem sg_take (s : ByteArray) (k : Nat) (h : k < s.size) : (sg s).take (k + 1) = (sg s).take k ++ [s[k]] := by
  unfold sg
  rw [List.take_add_one, List.getElem?_eq_getElem (by simpa using h)]
  rfl
theorem sg_ext {s t : ByteArray} (h : sg s = sg t) : s = t := by
  obtain ⟨⟨a⟩⟩ := s
  obtain ⟨⟨b⟩⟩ := t
  simp [sg] at h
  rw [h]
theorem sg_nil {s : ByteArray} : sg s = [] ↔ s.size = 0 := by
  rw [← sg_length]; simp
theorem all_take_succ {p : UInt8 → Bool} {s : ByteArray} {k : Nat} (h : k < s.size) (hall : ((sg s).take k).all p = true) (hp : p s[k] = true) : ((sg s).take (k + 1)).all p = true := by
  rw [sg_take s k h, List.all_append, hall]; simp [hp]
theorem all_no {p : UInt8 → Bool} {s : ByteArray} {k : Nat} (h : k < s.size) (hp : p s[k] = false) : (sg s).all p = false := by
  rw [List.all_eq_false]
  refine ⟨s[k], ?_, by simp [hp]⟩
  unfold sg
  rw [ByteArray.getElem_eq_getElem_data]
  exact Array.mem_toList_iff.2 (Array.getElem_mem _)
theorem all_end {p : UInt8 → Bool} {s : ByteArray} {k : Nat} (h : ¬ k < s.size) (hall : ((sg s).take k).all p = true) : (sg s).all p = true := by
  rwa [List.take_of_length_le (by rw [sg_length]; omega)] at hall
set_option maxHeartbeats 2000000 in
theorem refName_any (s : ByteArray) (w : World) (hs : s.size ≤ maxLen) :
    Calls Tryz.prog 108 #[.string s] w fun e w' => e = .returned (.bool (nameL (sg s))) ∧ w' = w := by
  unfold maxLen at hs
  go_enter Tryz.func108, Tryz.ntmps108
  go_wp2
  go_loop [3] (fun i => ∃ k : Nat, k ≤ s.size ∧ i = .int .i64 k ∧ Hid (((sg s).take k).all nameSign = true)) (fun i => s.size - (intOf i).toNat)
  case atStart => exact ⟨0, Nat.zero_le _, rfl, by show _ = _; simp⟩
  case round =>
    obtain ⟨k, hk, rfl, hT⟩ := hrel
    by_cases hlt : k < s.size
    · have h2 := s[k].toNat_lt
      by_cases h3 : s[k].toNat < 97
      · go_wp2
        go_ret
        refine ⟨ret_bool ?_, rfl⟩
        rw [nameL, all_no hlt (by simp [nameSign]; omega)]; rfl
      · by_cases h4 : 122 < s[k].toNat
        · go_wp2
          go_ret
          refine ⟨ret_bool ?_, rfl⟩
          rw [nameL, all_no hlt (by simp [nameSign]; omega)]; rfl
        · have HT : Hid (((sg s).take (k + 1)).all nameSign = true) := all_take_succ hlt hT.out (by simp [nameSign]; omega)
          go_wp2
          refine ⟨⟨k + 1, by omega, by go_num, HT⟩, by simp [intOf]; omega⟩
    · have HA := all_end hlt hT.out
      clear hT
      have HN : Hid (nameL (sg s) = (decide (1 ≤ s.size) && decide (s.size ≤ 16))) := by show _ = _; rw [nameL, HA, sg_length, Bool.true_and]
      clear HA
      by_cases h1 : (1 : Int) ≤ (s.size : Int)
      · by_cases h16 : (s.size : Int) ≤ (16 : Int)
        · go_wp2
          go_ret
          exact ⟨ret_bool (by rw [HN.out]; simp; omega), rfl⟩
        · go_wp2
          go_ret
          exact ⟨ret_bool (by rw [HN.out]; simp; omega), rfl⟩
      · go_wp2
        go_ret
        exact ⟨ret_bool (by rw [HN.out]; simp; omega), rfl⟩
set_option maxHeartbeats 2000000 in
theorem refVal_any (s : ByteArray) (w : World) (hs : s.size ≤ maxLen) :
    Calls Tryz.prog 109 #[.string s] w fun e w' => e = .returned (.bool (valL (sg s))) ∧ w' = w := by
  unfold maxLen at hs
  go_enter Tryz.func109, Tryz.ntmps109
  go_wp2
  go_loop [3] (fun i => ∃ k : Nat, k ≤ s.size ∧ i = .int .i64 k ∧ Hid (((sg s).take k).all valSign = true)) (fun i => s.size - (intOf i).toNat)
  case atStart => exact ⟨0, Nat.zero_le _, rfl, by show _ = _; simp⟩
  case round =>
    obtain ⟨k, hk, rfl, hT⟩ := hrel
    by_cases hlt : k < s.size
    · have h2 := s[k].toNat_lt
      by_cases h3 : s[k].toNat < 32
      · go_wp2
        go_ret
        refine ⟨ret_bool ?_, rfl⟩
        rw [valL, all_no hlt (by simp [valSign]; omega)]; rfl
      · by_cases h4 : 126 < s[k].toNat
        · go_wp2
          go_ret
          refine ⟨ret_bool ?_, rfl⟩
          rw [valL, all_no hlt (by simp [valSign]; omega)]; rfl
        · have HT : Hid (((sg s).take (k + 1)).all valSign = true) := all_take_succ hlt hT.out (by simp [valSign]; omega)
          go_wp2
          refine ⟨⟨k + 1, by omega, by go_num, HT⟩, by simp [intOf]; omega⟩
    · have HA := all_end hlt hT.out
      clear hT
      have HN : Hid (valL (sg s) = decide (s.size ≤ 16)) := by show _ = _; rw [valL, HA, sg_length, Bool.true_and]
      clear HA
      by_cases h16 : (s.size : Int) ≤ (16 : Int)
      · go_wp2
        go_ret
        exact ⟨ret_bool (by rw [HN.out]; simp; omega), rfl⟩
      · go_wp2
        go_ret
        exact ⟨ret_bool (by rw [HN.out]; simp; omega), rfl⟩
theorem empty_eq (s : ByteArray) : s.toList.isEmpty = decide (s.size = 0) := by
  rw [ByteArray.toList_eq]
  by_cases h : s.size = 0
  · have := sg_nil.2 h
    unfold sg at this
    simp [h, this]
  · have hne : ¬ s.data.toList = [] := fun e => h (sg_nil.1 e)
    rw [decide_eq_false h]
    cases hd : s.data.toList with
    | nil => exact absurd hd hne
    | cons x y => rfl
set_option maxHeartbeats 2000000 in
theorem isName_any (s : ByteArray) (w : World) (hs : s.size ≤ maxLen) :
    Calls Tryz.prog 126 #[.string s] w fun e w' => e = .returned (.bool (nameL (sg s))) ∧ Below w.heap.size w w' := by
  unfold maxLen at hs
  have HE := empty_eq s
  by_cases h0 : s.size = 0
  · simp only [h0, decide_true] at HE
    go_enter Tryz.func126, Tryz.ntmps126
    go_wp2
    go_ret
    exact ⟨ret_bool (by simp [nameL, sg_length, h0]), Below.refl _ _⟩
  simp only [h0, decide_false] at HE
  by_cases h16 : (16 : Int) < (s.size : Int)
  · go_enter Tryz.func126, Tryz.ntmps126
    go_wp2
    go_ret
    exact ⟨ret_bool (by simp [nameL, sg_length]; omega), Below.refl _ _⟩
  go_enter Tryz.func126, Tryz.ntmps126
  go_wp2
  go_loopw [] (fun wr => ∃ pos : Nat, wr.heap[w.heap.size]? = some (.stringIter s pos) ∧ Below w.heap.size w wr ∧ Hid (((sg s).take pos).all nameSign = true)) (fun wr => s.size - wr.iterPos w.heap.size)
  case atStart =>
    refine ⟨0, ?_, (Below.refl _ w).alloc (Nat.le_refl _) _, by show _ = _; simp⟩
    have := World.iter_heap w s 0
    simpa using this
  case round =>
    obtain ⟨pos, hit, hbw, hT⟩ := hrel
    by_cases hp : pos < s.size
    · have hnx : ∀ ty, (Instr.next (.pointer (some ⟨w.heap.size, 0, none⟩)) true ty).run Tryz.prog wr = _ := fun ty => Lib.run_next_any_at wr w.heap.size s pos ty hit hp
      have hbw2 := Lib.below_iterAt hbw (k := w.heap.size) (Nat.le_refl _) s (pos + (Utf8.decode s pos).2)
      by_cases ha : s[pos].toNat < 128
      · rw [decode_ascii s pos hp ha] at hnx hbw2
        have hit2 := Lib.iterAt_heap wr w.heap.size s pos (pos + 1) hit
        by_cases h3 : s[pos].toNat < 97
        · go_wp2
          go_ret
          refine ⟨ret_bool ?_, hbw2⟩
          rw [nameL, all_no hp (by simp [nameSign]; omega)]; rfl
        · by_cases h4 : 122 < s[pos].toNat
          · go_wp2
            go_ret
            refine ⟨ret_bool ?_, hbw2⟩
            rw [nameL, all_no hp (by simp [nameSign]; omega)]; rfl
          · have HT : Hid (((sg s).take (pos + 1)).all nameSign = true) := all_take_succ hp hT.out (by simp [nameSign]; omega)
            clear hT
            go_wp2
            refine ⟨⟨pos + 1, hit2, hbw2, HT⟩, ?_⟩
            simp only [World.iterPos, hit2, hit]
            omega
      · obtain ⟨hd, hw1⟩ := decode_high s pos hp (by omega)
        generalize Utf8.decode s pos = dc at *
        go_wp2
        go_ret
        refine ⟨ret_bool ?_, hbw2⟩
        rw [nameL, all_no hp (by simp [nameSign]; omega)]; rfl
    · have hnx : ∀ ty, (Instr.next (.pointer (some ⟨w.heap.size, 0, none⟩)) true ty).run Tryz.prog wr = _ := fun ty => Lib.run_next_end_at wr w.heap.size s pos ty hit hp
      have HA := all_end hp hT.out
      clear hT
      go_wp2
      go_ret
      exact ⟨ret_bool (by rw [nameL, HA, sg_length]; simp; omega), hbw⟩
set_option maxHeartbeats 2000000 in
theorem isValue_any (s : ByteArray) (w : World) (hs : s.size ≤ maxLen) :
    Calls Tryz.prog 127 #[.string s] w fun e w' => e = .returned (.bool (valL (sg s))) ∧ Below w.heap.size w w' := by
  unfold maxLen at hs
  by_cases h16 : (16 : Int) < (s.size : Int)
  · go_enter Tryz.func127, Tryz.ntmps127
    go_wp2
    go_ret
    exact ⟨ret_bool (by simp [valL, sg_length]; omega), Below.refl _ _⟩
  go_enter Tryz.func127, Tryz.ntmps127
  go_wp2
  go_loopw [] (fun wr => ∃ pos : Nat, wr.heap[w.heap.size]? = some (.stringIter s pos) ∧ Below w.heap.size w wr ∧ Hid (((sg s).take pos).all valSign = true)) (fun wr => s.size - wr.iterPos w.heap.size)
  case atStart =>
    refine ⟨0, ?_, (Below.refl _ w).alloc (Nat.le_refl _) _, by show _ = _; simp⟩
    have := World.iter_heap w s 0
    simpa using this
  case round =>
    obtain ⟨pos, hit, hbw, hT⟩ := hrel
    by_cases hp : pos < s.size
    · have hnx : ∀ ty, (Instr.next (.pointer (some ⟨w.heap.size, 0, none⟩)) true ty).run Tryz.prog wr = _ := fun ty => Lib.run_next_any_at wr w.heap.size s pos ty hit hp
      have hbw2 := Lib.below_iterAt hbw (k := w.heap.size) (Nat.le_refl _) s (pos + (Utf8.decode s pos).2)
      by_cases ha : s[pos].toNat < 128
      · rw [decode_ascii s pos hp ha] at hnx hbw2
        have hit2 := Lib.iterAt_heap wr w.heap.size s pos (pos + 1) hit
        by_cases h3 : s[pos].toNat < 32
        · go_wp2
          go_ret
          refine ⟨ret_bool ?_, hbw2⟩
          rw [valL, all_no hp (by simp [valSign]; omega)]; rfl
        · by_cases h4 : 126 < s[pos].toNat
          · go_wp2
            go_ret
            refine ⟨ret_bool ?_, hbw2⟩
            rw [valL, all_no hp (by simp [valSign]; omega)]; rfl
          · have HT : Hid (((sg s).take (pos + 1)).all valSign = true) := all_take_succ hp hT.out (by simp [valSign]; omega)
            clear hT
            go_wp2
            refine ⟨⟨pos + 1, hit2, hbw2, HT⟩, ?_⟩
            simp only [World.iterPos, hit2, hit]
            omega
      · obtain ⟨hd, hw1⟩ := decode_high s pos hp (by omega)
        generalize Utf8.decode s pos = dc at *
        go_wp2
        go_ret
        refine ⟨ret_bool ?_, hbw2⟩
        rw [valL, all_no hp (by simp [valSign]; omega)]; rfl
    · have hnx : ∀ ty, (Instr.next (.pointer (some ⟨w.heap.size, 0, none⟩)) true ty).run Tryz.prog wr = _ := fun ty => Lib.run_next_end_at wr w.heap.size s pos ty hit hp
      have HA := all_end hp hT.out
      clear hT
      go_wp2
      go_ret
      exact ⟨ret_bool (by rw [valL, HA, sg_length]; simp; omega), hbw⟩
end Go.Proofs.YtihohcmocejijaaGreat.Lb
namespace Go.Proofs.YtihohcmocejijaaGreat.Lb
open Go.Shelf
def Lay.sort_ren : Go.Shelf.Ren := ⟨fun | 6 => 124 | 15 => 138 | 14 => 137 | 28 => 151 | 29 => 152 | 20 => 143 | 21 => 144 | 22 => 145 | 23 => 146 | 24 => 147 | 25 => 148 | 26 => 149 | 27 => 150 | 46 => 153 | 47 => 154 | 48 => 155 | 49 => 156 | 50 => 157 | 57 => 158 | n => n, fun | 22 => 84 | 24 => 112 | 25 => 158 | 3 => 3 | 39 => 127 | 0 => 0 | 53 => 169 | 55 => 181 | 4 => 4 | 46 => 174 | 45 => 173 | 50 => 79 | 5 => 5 | 9 => 9 | 66 => 182 | 70 => 186 | 76 => 188 | 77 => 189 | n => n, fun | n => n⟩
theorem Lay.sort : Go.Proofs.SlLaysF0.n6 Tryz.prog Lay.sort_ren := {
  mixed := by kernel_rfl
  f6 := ⟨Tryz.f124.name, by decide, Tryz.func124.trans (congrArg some (by kernel_rfl))⟩
  f14 := ⟨Tryz.f137.name, by decide, Tryz.func137.trans (congrArg some (by kernel_rfl))⟩
  f15 := Tryz.func138.trans (congrArg some (by kernel_rfl))
  f20 := ⟨Tryz.f143.name, by decide, Tryz.func143.trans (congrArg some (by kernel_rfl))⟩
  f21 := ⟨Tryz.f144.name, by decide, Tryz.func144.trans (congrArg some (by kernel_rfl))⟩
  f22 := ⟨Tryz.f145.name, by decide, Tryz.func145.trans (congrArg some (by kernel_rfl))⟩
  f23 := ⟨Tryz.f146.name, by decide, Tryz.func146.trans (congrArg some (by kernel_rfl))⟩
  f24 := ⟨Tryz.f147.name, by decide, Tryz.func147.trans (congrArg some (by kernel_rfl))⟩
  f25 := ⟨Tryz.f148.name, by decide, Tryz.func148.trans (congrArg some (by kernel_rfl))⟩
  f26 := ⟨Tryz.f149.name, by decide, Tryz.func149.trans (congrArg some (by kernel_rfl))⟩
  f27 := ⟨Tryz.f150.name, by decide, Tryz.func150.trans (congrArg some (by kernel_rfl))⟩
  f28 := Tryz.func151.trans (congrArg some (by kernel_rfl))
  f29 := Tryz.func152.trans (congrArg some (by kernel_rfl))
  f46 := ⟨Tryz.f153.name, by decide, Tryz.func153.trans (congrArg some (by kernel_rfl))⟩
  f47 := Tryz.func154.trans (congrArg some (by kernel_rfl))
  f48 := Tryz.func155.trans (congrArg some (by kernel_rfl))
  f49 := ⟨Tryz.f156.name, by decide, Tryz.func156.trans (congrArg some (by kernel_rfl))⟩
  f50 := ⟨Tryz.f157.name, by decide, Tryz.func157.trans (congrArg some (by kernel_rfl))⟩
  f57 := ⟨Tryz.f158.name, by decide, Tryz.func158.trans (congrArg some (by kernel_rfl))⟩
  t0 := Tryz.underlying0
  a0 := Tryz.isAgg0
  z0 := Tryz.sizeOf0
  v0 := Tryz.zeroValue0
  t3 := Tryz.underlying3
  a3 := Tryz.isAgg3
  z3 := Tryz.sizeOf3
  v3 := Tryz.zeroValue3
  t4 := Tryz.underlying4
  a4 := Tryz.isAgg4
  z4 := Tryz.sizeOf4
  v4 := Tryz.zeroValue4
  t5 := Tryz.underlying5
  a5 := Tryz.isAgg5
  z5 := Tryz.sizeOf5
  v5 := Tryz.zeroValue5
  t9 := Tryz.underlying9
  a9 := Tryz.isAgg9
  z9 := Tryz.sizeOf9
  v9 := Tryz.zeroValue9
  t22 := Tryz.underlying84
  a22 := Tryz.isAgg84
  z22 := Tryz.sizeOf84
  v22 := Tryz.zeroValue84
  t25 := Tryz.underlying158
  a25 := Tryz.isAgg158
  z25 := Tryz.sizeOf158
  v25 := Tryz.zeroValue158
  t39 := Tryz.underlying127
  a39 := Tryz.isAgg127
  z39 := Tryz.sizeOf127
  v39 := Tryz.zeroValue127
  t45 := Tryz.underlying173
  a45 := Tryz.isAgg173
  z45 := Tryz.sizeOf173
  v45 := Tryz.zeroValue173
  t46 := Tryz.underlying174
  a46 := Tryz.isAgg174
  z46 := Tryz.sizeOf174
  v46 := Tryz.zeroValue174
  t50 := Tryz.underlying79
  a50 := Tryz.isAgg79
  z50 := Tryz.sizeOf79
  v50 := Tryz.zeroValue79
  t53 := Tryz.underlying169
  a53 := Tryz.isAgg169
  z53 := Tryz.sizeOf169
  v53 := Tryz.zeroValue169
  t55 := Tryz.underlying181
  a55 := Tryz.isAgg181
  z55 := Tryz.sizeOf181
  v55 := Tryz.zeroValue181
  t66 := Tryz.underlying182
  a66 := Tryz.isAgg182
  z66 := Tryz.sizeOf182
  v66 := Tryz.zeroValue182
  t70 := Tryz.underlying186
  a70 := Tryz.isAgg186
  z70 := Tryz.sizeOf186
  v70 := Tryz.zeroValue186
  t76 := Tryz.underlying188
  a76 := Tryz.isAgg188
  z76 := Tryz.sizeOf188
  v76 := Tryz.zeroValue188
  t77 := Tryz.underlying189
  a77 := Tryz.isAgg189
  z77 := Tryz.sizeOf189
  v77 := Tryz.zeroValue189 }
def Lay.rune_ren : Go.Shelf.Ren := ⟨fun | 242 => 129 | 278 => 140 | n => n, fun | 72 => 135 | 37 => 133 | 21 => 21 | 51 => 169 | 4 => 4 | 5 => 5 | 46 => 127 | n => n, fun | n => n⟩
theorem Lay.rune : Go.Proofs.Lays.n242 Tryz.prog Lay.rune_ren := {
  mixed := by kernel_rfl
  f242 := Tryz.func129.trans (congrArg some (by kernel_rfl))
  f278 := Tryz.func140.trans (congrArg some (by kernel_rfl))
  t4 := Tryz.underlying4
  a4 := Tryz.isAgg4
  z4 := Tryz.sizeOf4
  v4 := Tryz.zeroValue4
  t5 := Tryz.underlying5
  a5 := Tryz.isAgg5
  z5 := Tryz.sizeOf5
  v5 := Tryz.zeroValue5
  t21 := Tryz.underlying21
  a21 := Tryz.isAgg21
  z21 := Tryz.sizeOf21
  v21 := Tryz.zeroValue21
  t37 := Tryz.underlying133
  a37 := Tryz.isAgg133
  z37 := Tryz.sizeOf133
  v37 := Tryz.zeroValue133
  t46 := Tryz.underlying127
  a46 := Tryz.isAgg127
  z46 := Tryz.sizeOf127
  v46 := Tryz.zeroValue127
  t51 := Tryz.underlying169
  a51 := Tryz.isAgg169
  z51 := Tryz.sizeOf169
  v51 := Tryz.zeroValue169 }
def Lay.bits_ren : Go.Shelf.Ren := ⟨fun | 125 => 138 | 128 => 151 | 129 => 152 | n => n, fun | 46 => 127 | 3 => 3 | 51 => 169 | 53 => 181 | 4 => 4 | 5 => 5 | 9 => 9 | n => n, fun | n => n⟩
theorem Lay.bits : Go.Proofs.Lays.n125 Tryz.prog Lay.bits_ren := {
  mixed := by kernel_rfl
  f125 := Tryz.func138.trans (congrArg some (by kernel_rfl))
  f128 := Tryz.func151.trans (congrArg some (by kernel_rfl))
  f129 := Tryz.func152.trans (congrArg some (by kernel_rfl))
  t3 := Tryz.underlying3
  a3 := Tryz.isAgg3
  z3 := Tryz.sizeOf3
  v3 := Tryz.zeroValue3
  t4 := Tryz.underlying4
  a4 := Tryz.isAgg4
  z4 := Tryz.sizeOf4
  v4 := Tryz.zeroValue4
  t5 := Tryz.underlying5
  a5 := Tryz.isAgg5
  z5 := Tryz.sizeOf5
  v5 := Tryz.zeroValue5
  t9 := Tryz.underlying9
  a9 := Tryz.isAgg9
  z9 := Tryz.sizeOf9
  v9 := Tryz.zeroValue9
  t46 := Tryz.underlying127
  a46 := Tryz.isAgg127
  z46 := Tryz.sizeOf127
  v46 := Tryz.zeroValue127
  t51 := Tryz.underlying169
  a51 := Tryz.isAgg169
  z51 := Tryz.sizeOf169
  v51 := Tryz.zeroValue169
  t53 := Tryz.underlying181
  a53 := Tryz.isAgg181
  z53 := Tryz.sizeOf181
  v53 := Tryz.zeroValue181 }
theorem Lay.extra : Builder.Extra Tryz.prog Lay.rune_ren := {
  sizeBuilder := by kernel_rfl
  liesBuilder := by kernel_rfl
  t5 := Tryz.underlying5
  a5 := Tryz.isAgg5
  z5 := Tryz.sizeOf5
  v5 := Tryz.zeroValue5
  infoByte := by kernel_rfl
  cellsByte := by kernel_rfl
  sizeByte := by kernel_rfl
  neB5 := by decide }
end Go.Proofs.YtihohcmocejijaaGreat.Lb
