/-
  The contract of Encode, and of the known answers.
-/
import Derived.Test.YtcdlkdbnlomghaaDoorFrC
import Derived.Lib.SlBytesConst
namespace Go.Proofs.YtcdlkdbnlomghaaDoor.Fr
open Go.ChangeShapes Go.WideShapes Go.ChangeAt Go.RowKit
theorem own_mono {w : World} {base base' s n : Nat} {e : TypeId} {v : Value} {xs : List Value} (h : w.ownsRow base e s v n xs) (hb : base' ≤ base) : w.ownsRow base' e s v n xs := by
  obtain ⟨hl, h | ⟨g, cap, cur, rfl, hg, r⟩⟩ := h
  · exact ⟨hl, .inl h⟩
  · exact ⟨hl, .inr ⟨g, cap, cur, rfl, Nat.le_trans hb hg, r⟩⟩
/-- data as a value -/
def DataAt (w : World) (v : Value) (nums : List Int) (texts : List ByteArray) : Prop :=
  ∃ a1 n1 c1 a2 n2 c2, v = .agg #[.slice a1 n1 c1, .slice a2 n2 c2] ∧ RowAt w a1 n1 c1 (cellsI nums) ∧ RowAt w a2 n2 c2 (cellsT texts) ∧ (∀ x ∈ nums, Is64 x) ∧ ∀ t ∈ texts, t.size ≤ maxLen
theorem DataAt.below {w w' : World} {v : Value} {nums : List Int} {texts : List ByteArray} (h : DataAt w v nums texts) (hb : Below w.heap.size w w') : DataAt w' v nums texts := by
  obtain ⟨a1, n1, c1, a2, n2, c2, e, h1, h2, h3, h4⟩ := h
  exact ⟨a1, n1, c1, a2, n2, c2, e, h1.below hb, h2.below hb, h3, h4⟩
/-- behind Encode -/
def EncPost (B : Nat) (w : World) (L : List UInt8) (e : Ending) (w' : World) : Prop :=
  Below B w w' ∧ ((∃ v', e = .returned (.tuple #[v', .int .i64 0]) ∧ w'.ownsRow B 5 1 v' L.length (cellsB L) ∧ L.length ≤ 4096) ∨ (e = .returned (.tuple #[.slice none 0 0, .int .i64 4]) ∧ 4096 < L.length))

/-- a text of bytes -/
def txt (l : List UInt8) : ByteArray := ⟨l.toArray⟩
theorem txt_list (l : List UInt8) : (txt l).data.toList = l := by simp [txt]
theorem txt_size (l : List UInt8) : (txt l).size = l.length := by simp [txt, ByteArray.size]
theorem txt_inj {l m : List UInt8} (h : txt l = txt m) : l = m := by rw [← txt_list l, h, txt_list]
theorem text_of {w : World} {a : Option Addr} {len cap : Nat} {l : List UInt8} (h : RowAt w a len cap (cellsB l)) : (convert 24 9 (.slice a len cap)).run Tryd.prog w = .ok (.string (txt l)) w := by
  have hl : l.length = len := by simpa [cellsB] using h.1
  by_cases h0 : len = 0
  · subst h0
    obtain rfl : l = [] := List.length_eq_zero_iff.1 hl
    rw [run_convert_bytes_string w 24 9 5 a 0 cap Tryd.underlying24 Tryd.underlying5 Tryd.underlying9]
    cases a with
    | none => simp [Conv.bytesToString, txt]; rfl
    | some x =>
      have := run_convert_bytes_back (P := Tryd.prog) w 24 9 5 x cap [] Tryd.underlying24 Tryd.underlying5 Tryd.underlying9 (by intro j hj; simp at hj)
      rw [run_convert_bytes_string w 24 9 5 (some x) _ cap Tryd.underlying24 Tryd.underlying5 Tryd.underlying9] at this
      exact this
  · obtain ⟨b, off, rfl, hc⟩ := h.some (by omega)
    rw [← hl]
    refine run_convert_bytes_back (P := Tryd.prog) w 24 9 5 ⟨b, off, none⟩ cap l Tryd.underlying24 Tryd.underlying5 Tryd.underlying9 ?_
    intro j hj
    rw [addr_add, hc j (by omega), cellsB_get l j hj]
    simp [hj]
end Go.Proofs.YtcdlkdbnlomghaaDoor.Fr
