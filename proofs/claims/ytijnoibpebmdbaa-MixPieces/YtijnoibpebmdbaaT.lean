/-
  The contracts of piece and Text: a text's bytes by eights, folded.
-/
import Derived.Test.YtijnoibpebmdbaaFolds
import Derived.WalkKit
import Derived.WalkSpells
import Derived.ProofKit
import Derived.OpenShut
import Derived.Below
namespace Go.Proofs.Ytijnoibpebmdbaa
open Go.ChangeShapes Go.WideShapes Go.ChangeAt Go.RowKit
/-- the number of bytes, the first one the lowest -/
def pieceN : List UInt8 → Nat
  | [] => 0
  | b :: r => b.toNat + 256 * pieceN r
theorem pieceN_nil : pieceN [] = 0 := rfl
theorem pieceN_cons (b : UInt8) (r : List UInt8) : pieceN (b :: r) = b.toNat + 256 * pieceN r := rfl
theorem pieceN_snoc (l : List UInt8) (b : UInt8) : pieceN (l ++ [b]) = pieceN l + b.toNat * 256 ^ l.length := by
  induction l with
  | nil => simp [pieceN_cons, pieceN_nil]
  | cons a l ih =>
    rw [List.cons_append, pieceN_cons, ih, pieceN_cons, List.length_cons, Nat.pow_succ, Nat.mul_add, Nat.add_assoc]
    congr 2
    rw [← Nat.mul_assoc, Nat.mul_comm 256, Nat.mul_assoc, Nat.mul_comm 256]
theorem pieceN_lt (l : List UInt8) : pieceN l < 256 ^ l.length := by
  induction l with
  | nil => decide
  | cons a l ih =>
    rw [pieceN_cons, List.length_cons, Nat.pow_succ]
    have := a.toNat_lt
    omega
theorem pieceN_lt64 (l : List UInt8) (h : l.length ≤ 8) : pieceN l < 18446744073709551616 :=
  Nat.lt_of_lt_of_le (pieceN_lt l) (Nat.le_trans (Nat.pow_le_pow_right (by decide) h) (by decide))
theorem take_snoc (s : ByteArray) (k : Nat) (h : k < s.size) : s.data.toList.take (k + 1) = s.data.toList.take k ++ [s[k]] := by
  rw [List.take_succ_eq_append_getElem (by simpa using h)]; rfl
theorem pow_8 (k : Nat) : 256 ^ k = 2 ^ (8 * k) := by rw [Nat.pow_mul]
theorem piece_form (n c k : Nat) (hn : n < 256 ^ k) (hc : c < 256) (hk : k < 8) :
    bits .or .u64 (n : Int) (IntKind.u64.wrap (IntKind.u64.wrap (c : Int) * 2 ^ (8 * k))) = ((n + c * 256 ^ k : Nat) : Int) := by
  have hp : 256 ^ k ≤ 256 ^ 7 := Nat.pow_le_pow_right (by decide) (by omega)
  have hq : c * 256 ^ k ≤ 255 * 256 ^ 7 := Nat.mul_le_mul (by omega) hp
  have e1 : IntKind.u64.wrap (c : Int) = c := by rw [IntKind.wrap_u64]; omega
  have e2 : ((2 : Int) ^ (8 * k)) = ((256 ^ k : Nat) : Int) := by rw [pow_8]; simp
  have e3 : (c : Int) * ((256 ^ k : Nat) : Int) = ((c * 256 ^ k : Nat) : Int) := by rw [Int.natCast_mul]
  have e4 : IntKind.u64.wrap ((c * 256 ^ k : Nat) : Int) = ((c * 256 ^ k : Nat) : Int) := by rw [IntKind.wrap_u64]; omega
  rw [e1, e2, e3, e4, u64_or_nat n (c * 256 ^ k) (by omega) (by omega), Nat.or_comm, nat_join (8 * k) (c * 256 ^ k) n (by rw [pow_8]; exact Nat.mul_mod_left _ _) (by rw [← pow_8]; exact hn), Nat.add_comm]

theorem piece_any (s : ByteArray) (w : World) (hs : s.size ≤ 8) :
    Calls Try.prog 22 #[.string s] w fun e w' => e = .returned (.int .u64 ((pieceN s.data.toList : Nat) : Int)) ∧ w' = w := by
  go_enter Try.func22, Try.ntmps22
  go_wp2
  go_loop [3, 7] (fun t i => ∃ k : Nat, k ≤ s.size ∧ i = .int .i64 k ∧ t = .int .u64 ((pieceN (s.data.toList.take k) : Nat) : Int)) (fun _ i => s.size - (intOf i).toNat)
  case atStart => exact ⟨0, Nat.zero_le _, rfl, rfl⟩
  case round =>
    obtain ⟨k, hk, rfl, rfl⟩ := hrel
    by_cases hlt : k < s.size
    · go_wp2
      go_round
      case rel =>
        refine ⟨k + 1, by omega, by go_num, ?_⟩
        have hl : (s.data.toList.take k).length = k := by simp; omega
        have h1 := pieceN_lt (s.data.toList.take k)
        rw [hl] at h1
        rw [take_snoc s k hlt, pieceN_snoc, hl, ← piece_form _ _ k h1 s[k].toNat_lt (by omega)]
      case measure => simp [intOf]; omega
    · go_wp2
      go_ret
      exact ⟨ret_int (by rw [List.take_of_length_le (by simp; omega)]), rfl⟩

/-- the piece number j of a text -/
def pieceAt (l : List UInt8) (j : Nat) : Nat := pieceN ((l.drop (8 * j)).take 8)
/-- how long a text is, and its first j pieces -/
def piecesN (l : List UInt8) (j : Nat) : List Nat := l.length :: (List.range j).map (pieceAt l)
theorem pieceAt_lt (l : List UInt8) (j : Nat) : pieceAt l j < 18446744073709551616 := pieceN_lt64 _ (by simp; omega)
theorem piecesN_succ (l : List UInt8) (j : Nat) : piecesN l (j + 1) = piecesN l j ++ [pieceAt l j] := by
  simp [piecesN, List.range_succ]
theorem piecesN_length (l : List UInt8) (j : Nat) : (piecesN l j).length = j + 1 := by simp [piecesN]
theorem piecesN_lt (l : List UInt8) (j : Nat) (hl : l.length < 18446744073709551616) : ∀ n ∈ piecesN l j, n < 18446744073709551616 := by
  intro n hn
  simp only [piecesN, List.mem_cons, List.mem_map] at hn
  rcases hn with rfl | ⟨i, _, rfl⟩
  · exact hl
  · exact pieceAt_lt l i
/-- a text folded -/
def textN (s : Nat) (l : List UInt8) : Nat := foldN s (piecesN l ((l.length + 7) / 8))

def strLen (v : Value) : Nat := match v with | .string u => u.size | _ => 0
theorem text_any (x : Nat) (s : ByteArray) (w : World) (hx : x < 18446744073709551616) (hs : s.size ≤ maxLen) :
    Calls Try.prog 14 #[.int .u64 (x : Int), .string s] w fun e w' => e = .returned (.int .u64 ((textN x s.data.toList : Nat) : Int)) ∧ Below w.heap.size w w' := by
  unfold maxLen at hs
  have HR : Hid (NumsAt (w.alloc (.cells #[.int .u64 (s.size : Int)] 22)) (some ⟨w.heap.size, 0, none⟩) 1 [s.size]) := by
    refine ⟨rfl, by unfold maxLen; omega, by simp; omega, .inr ⟨w.heap.size, 0, rfl, ?_⟩⟩
    intro i hi
    obtain rfl : i = 0 := by simpa using hi
    simp
  go_enter Try.func14, Try.ntmps14
  go_wp2_with (go_at_call 12; refine (fold_any _ _ _ _ ?_ _ hx ?_).mono ?_; rotate_left; (exact HR.out); rintro e w' ⟨rfl, rfl⟩)
  have hf : Below w.heap.size w (w.alloc (.cells #[.int .u64 (s.size : Int)] 22)) := (Below.refl _ _).alloc (Nat.le_refl _) _
  go_loop [1, 5] (fun sv t => ∃ j : Nat, ∃ u : ByteArray, 8 * j ≤ s.size + 7 ∧ sv = .string u ∧ Hid (u.data.toList = s.data.toList.drop (8 * j)) ∧ t = .int .u64 ((foldN x (piecesN s.data.toList j) : Nat) : Int)) (fun sv _ => strLen sv)
  case atStart => exact ⟨0, s, by omega, rfl, rfl, rfl⟩
  case round =>
    obtain ⟨j, u, hj, rfl, hu, rfl⟩ := hrel
    have hul : u.size = s.size - 8 * j := by
      have := congrArg List.length hu.out
      simpa using this
    have h1 := foldN_lt x (piecesN s.data.toList j)
    by_cases hlt : 0 < u.size
    · by_cases h8 : u.size < 8
      · go_wp2_with (first
          | (go_at_call 22; refine (piece_any _ _ ?_).mono ?_; (simp; omega); rintro e w' ⟨rfl, rfl⟩)
          | (go_at_call 21; refine (step_any _ _ _ h1 ?_).mono ?_; (refine pieceN_lt64 _ ?_; simp; omega); rintro e w' ⟨rfl, rfl⟩))
        go_round
        case rel =>
          refine ⟨j + 1, ByteArray.empty, by omega, rfl, ?_, ?_⟩
          · show ([] : List UInt8) = _
            rw [List.drop_eq_nil_of_le (by simp; omega)]
          · have e : List.take (s.size - 8 * j) u.data.toList = (s.data.toList.drop (8 * j)).take 8 := by
              rw [← hu.out, List.take_of_length_le (by simp; omega), List.take_of_length_le (by simp; omega)]
            rw [e, piecesN_succ, foldN_snoc, pieceAt]
        case measure => simp only [strLen]; rw [hul]; simp; omega
      · go_wp2_with (first
          | (go_at_call 22; refine (piece_any _ _ ?_).mono ?_; (simp; omega); rintro e w' ⟨rfl, rfl⟩)
          | (go_at_call 21; refine (step_any _ _ _ h1 ?_).mono ?_; (refine pieceN_lt64 _ ?_; simp; omega); rintro e w' ⟨rfl, rfl⟩))
        go_round
        case rel =>
          refine ⟨j + 1, _, by omega, rfl, ?_, ?_⟩
          · show (u.extract 8 (s.size - 8 * j)).data.toList = _
            rw [ByteArray.data_extract, Array.toList_extract, List.extract_eq_take_drop, hu.out, List.drop_drop, List.take_of_length_le (by simp; omega), Nat.mul_add]
          · rw [hu.out, piecesN_succ, foldN_snoc, pieceAt]
        case measure => simp only [strLen]; rw [hul]; simp; omega
    · go_wp2
      go_ret
      refine ⟨ret_int ?_, hf⟩
      rw [textN, show ((s.data.toList.length + 7) / 8) = j from by simp; omega]
end Go.Proofs.Ytijnoibpebmdbaa
