/-
  The contracts of the answer's Pieces and Text: a text's length and its bytes by eights, in a new list.
-/
import Derived.Test.YtijnoibpebmdbaaT
import Derived.WalkKit
import Derived.WalkSpells
import Derived.ProofKit
import Derived.OpenShut
import Derived.Below
namespace Go.Proofs.Ytijnoibpebmdbaa
open Go.ChangeShapes Go.WideShapes Go.ChangeAt Go.RowKit
theorem info22 : (Try.prog.info? 22).map (fun i => (i.zero, i.size, i.bytes)) = some (some (.int .u64 0), 1, 8) := by kernel_rfl
/-- numbers as cells -/
def cellsN (l : List Nat) : List Value := l.map fun n : Nat => Value.int .u64 (n : Int)
theorem cellsN_snoc (l : List Nat) (n : Nat) : cellsN (l ++ [n]) = cellsN l ++ [.int .u64 (n : Int)] := by simp [cellsN]
theorem cellsN_one (n : Nat) : cellsN [n] = [.int .u64 (n : Int)] := rfl

/-- the number of the bytes of piece number p from place q on -/
def tailN (l : List UInt8) (p q : Nat) : Nat := pieceN ((l.drop (p + q)).take (8 - q))
theorem tailN_lt (l : List UInt8) (p r : Nat) (hr : r < 8) : tailN l p (r + 1) < 72057594037927936 := by
  have h := pieceN_lt ((l.drop (p + (r + 1))).take (8 - (r + 1)))
  have h2 : 256 ^ ((l.drop (p + (r + 1))).take (8 - (r + 1))).length ≤ 256 ^ 7 := Nat.pow_le_pow_right (by decide) (by simp; omega)
  unfold tailN
  omega
theorem tailN_in (s : ByteArray) (p r : Nat) (hr : r < 8) (h : p + r < s.size) : tailN s.data.toList p r = tailN s.data.toList p (r + 1) * 256 + s[p + r].toNat := by
  have h' : p + r < s.data.toList.length := by simpa using h
  unfold tailN
  rw [List.drop_eq_getElem_cons h', show 8 - r = (8 - (r + 1)) + 1 from by omega, List.take_succ_cons, pieceN_cons, Nat.add_comm, Nat.mul_comm, Nat.add_assoc p r 1]
  rfl
theorem tailN_out (l : List UInt8) (p q : Nat) (h : l.length ≤ p + q) : tailN l p q = 0 := by
  unfold tailN
  rw [List.drop_eq_nil_of_le h, List.take_nil, pieceN_nil]

theorem tail_form (t c : Nat) (ht : t < 72057594037927936) (hc : c < 256) : IntKind.u64.wrap ((t : Int) * 256 + IntKind.u64.wrap (c : Int)) = ((t * 256 + c : Nat) : Int) := by
  rw [IntKind.wrap_u64, IntKind.wrap_u64]
  omega
theorem tail_zero (l : List UInt8) (p j : Nat) (h : p = 8 * j) : tailN l p 0 = pieceAt l j := by
  subst h
  simp [tailN, pieceAt]
theorem pieces_any (s : ByteArray) (w : World) (hs : s.size ≤ 3000) :
    Calls Try.prog 16 #[.string s] w fun e w' => ∃ v, e = .returned v ∧ w'.ownsRow w.heap.size 22 1 v ((s.size + 7) / 8 + 1) (cellsN (piecesN s.data.toList ((s.size + 7) / 8))) ∧ Below w.heap.size w w' := by
  obtain ⟨i0, hi, hz0, hz1, hz2⟩ := info_parts info22
  go_enter Try.func16, Try.ntmps16
  go_wp2
  go_loopw [3, 4] (fun v i wr => ∃ j p : Nat, Hid (p = 8 * j) ∧ p ≤ s.size + 7 ∧ i = .int .i64 (p : Int) ∧ wr.ownsRow w.heap.size 22 1 v (j + 1) (cellsN (piecesN s.data.toList j)) ∧ Below w.heap.size w wr) (fun _ i _ => s.size + 8 - (intOf i).toNat)
  case atStart =>
    refine ⟨0, 0, rfl, by omega, rfl, ?_, (Below.refl _ _).alloc (Nat.le_refl _) _⟩
    have h := World.ownsRow_lit (base := w.heap.size) (e := 22) (size := 1) w #[.int .u64 (s.size : Int)] 1 (Nat.le_refl _) (by unfold maxLen; omega) rfl
    have e : cellsN (piecesN s.data.toList 0) = [.int .u64 (s.size : Int)] := by simp [cellsN, piecesN]
    rw [e]
    exact h
  case round =>
    obtain ⟨j, p, hp, hle, rfl, hown, hnx⟩ := hrel
    by_cases hlt : p < s.size
    · go_wp2
      go_loop [5, 6] (fun n k => ∃ q : Nat, q ≤ 8 ∧ k = .int .i64 ((q : Int) - 1) ∧ n = .int .u64 ((tailN s.data.toList p q : Nat) : Int)) (fun _ k => (intOf k + 1).toNat)
      case atStart => exact ⟨8, by omega, rfl, rfl⟩
      case round =>
        obtain ⟨q, hq, rfl, rfl⟩ := hrel
        rcases q with _ | r
        · go_wp2_with (at_builtin; refine wpList_append_own _ rfl (.tmp 37) (.tmp 39) 26 rfl w.heap.size 22 i0 (.int .u64 0) 1 8 Try.underlying26 hi hz0 hz1 hz2 rfl (by decide) _ _ _ rfl (hown.alloc _) ⟨wr.heap.size, 0, none⟩ 1 1 [.int .u64 ((tailN s.data.toList p 0 : Nat) : Int)] rfl rfl (cell_one_new _ _ _) (by intro u hu; simp at hu; subst hu; rfl) (by unfold maxLen; have := hp.out; omega) (by have := hp.out; omega) (by have := hnx.size; simp; omega) ?_)
          intro v' w1 hown' hgrow _
          go_wp2
          go_roundw
          case rel =>
            refine ⟨j + 1, p + 8, ?_, by omega, by go_num, ?_, ?_⟩
            · show p + 8 = 8 * (j + 1)
              have := hp.out
              omega
            · rw [piecesN_succ, cellsN_snoc]
              rw [← tail_zero s.data.toList p j hp.out]
              exact hown'
            · exact (hnx.alloc hnx.size _).grown hgrow (by have := hnx.size; simp; omega) (fun k hk => (hown.lt k hk).1)
          case measure => simp [intOf]; omega
        · have e : (((r + 1 : Nat) : Int) - 1) = (r : Int) := by omega
          rw [e]
          have ht := tailN_lt s.data.toList p r (by omega)
          by_cases hb : p + r < s.size
          · go_wp2
            go_round
            case rel =>
              refine ⟨r, by omega, rfl, ?_⟩
              rw [tailN_in s p r (by omega) hb, ← tail_form _ _ ht s[p + r].toNat_lt]
            case measure => simp [intOf]
          · go_wp2
            go_round
            case rel =>
              refine ⟨r, by omega, rfl, ?_⟩
              rw [tailN_out _ p (r + 1) (by simp; omega), tailN_out _ p r (by simp; omega)]
              rfl
            case measure => simp [intOf]
    · go_wp2
      go_ret
      have e : (s.size + 7) / 8 = j := by have := hp.out; omega
      rw [e]
      exact ⟨_, rfl, hown, hnx⟩

/-- what a row of one's own reads as -/
theorem nums_of_own {w : World} {base : Nat} {v : Value} {n : Nat} {l : List Nat} (h : w.ownsRow base 22 1 v n (cellsN l)) (h0 : 0 < n) (hm : n ≤ maxLen) (hb : ∀ x ∈ l, x < 18446744073709551616) :
    ∃ g cap, v = .slice (some ⟨g, 0, none⟩) n cap ∧ base ≤ g ∧ g < w.heap.size ∧ NumsAt w (some ⟨g, 0, none⟩) n l := by
  have hown := h
  obtain ⟨hl, ⟨_, h⟩ | ⟨g, cap, cur, rfl, hg, hh, hc, hcm, hcs, ht⟩⟩ := h
  · omega
  · have hl' : l.length = n := by simpa [cellsN] using hl
    refine ⟨g, cap, rfl, hg, ?_, hl', hm, hb, .inr ⟨g, 0, rfl, ?_⟩⟩
    · exact (hown.lt g rfl).2
    · intro i hi
      have := hown.cellAt i (by omega)
      rw [Nat.zero_add, this]
      simp [cellsN, hi]
theorem refText_any (x : Nat) (s : ByteArray) (w : World) (hx : x < 18446744073709551616) (hs : s.size ≤ 3000) :
    Calls Try.prog 15 #[.int .u64 (x : Int), .string s] w fun e w' => e = .returned (.int .u64 ((textN x s.data.toList : Nat) : Int)) ∧ Below w.heap.size w w' := by
  have hb := piecesN_lt s.data.toList ((s.size + 7) / 8) (by simp; omega)
  go_enter Try.func15, Try.ntmps15
  go_wp2_with (first
    | (go_at_call 16; refine (pieces_any _ _ hs).mono ?_; rintro e w1 ⟨v, rfl, hown, hbel⟩; obtain ⟨g, cap, rfl, hg, hg2, hn⟩ := nums_of_own hown (by omega) (by unfold maxLen; omega) hb)
    | (go_at_call 13; refine (refFold_any _ _ _ _ ?_ _ hx ?_).mono ?_; rotate_left; (assumption); rintro e w' ⟨rfl, rfl⟩))
  go_ret
  refine ⟨ret_int ?_, by assumption⟩
  rw [textN]
  simp
theorem mixTexts_any (x : Nat) (s : ByteArray) (w : World) (hx : x < 18446744073709551616) (hm : s.size ≤ maxLen) :
    Calls Try.prog 5 #[.int .u64 (x : Int), .string s] w fun e w' => e = .returned (.bool true) ∧ Below w.heap.size w w' := by
  have hm' := hm
  unfold maxLen at hm'
  by_cases h3 : 3000 < s.size
  · go_enter Try.func5, Try.ntmps5
    go_wp2_with (go_at_call 11; refine (awake_any _).mono ?_; rintro e w' ⟨rfl, rfl⟩)
    go_ret
    exact ⟨rfl, Below.refl _ _⟩
  · go_enter Try.func5, Try.ntmps5
    go_wp2_with (first
      | (go_at_call 14; refine (text_any _ _ _ hx hm).mono ?_; rintro e w1 ⟨rfl, hb1⟩)
      | (go_at_call 15; refine (refText_any _ _ _ hx (by omega)).mono ?_; rintro e w2 ⟨rfl, hb2⟩)
      | (go_at_call 11; refine (awake_any _).mono ?_; rintro e w' ⟨rfl, rfl⟩))
    go_ret
    exact ⟨rfl, hb1.trans (hb2.mono hb1.size)⟩
end Go.Proofs.Ytijnoibpebmdbaa
