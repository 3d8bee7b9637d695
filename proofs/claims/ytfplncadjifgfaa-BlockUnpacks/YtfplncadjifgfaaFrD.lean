/-
  The contract of Encode, and of the known answers.
-/
import Derived.Test.YtfplncadjifgfaaFrC
import Derived.Lib.SlBytesConst
namespace Go.Proofs.Ytfplncadjifgfaa.Fr
open Go.ChangeShapes Go.WideShapes Go.ChangeAt Go.RowKit
theorem own_mono {w : World} {base base' s n : Nat} {e : TypeId} {v : Value} {xs : List Value} (h : w.ownsRow base e s v n xs) (hb : base' ≤ base) : w.ownsRow base' e s v n xs := by
  obtain ⟨hl, h | ⟨g, cap, cur, rfl, hg, r⟩⟩ := h
  · exact ⟨hl, .inl h⟩
  · exact ⟨hl, .inr ⟨g, cap, cur, rfl, Nat.le_trans hb hg, r⟩⟩
/-- data as a value -/
def DataAt (w : World) (v : Value) (nums : List Int) (texts : List ByteArray) : Prop :=
  ∃ a1 n1 c1 a2 n2 c2, v = .agg #[.slice a1 n1 c1, .slice a2 n2 c2] ∧ RowAt w a1 n1 c1 (cellsI nums) ∧ RowAt w a2 n2 c2 (cellsT texts) ∧ (∀ x ∈ nums, Is64 x) ∧ ∀ t ∈ texts, t.size ≤ maxLen
theorem DataAt.below {w w' : World} {v : Value} {nums : List Int} {texts : List ByteArray} (h : DataAt w v nums texts) (hb : Below w.heap.size w w') : DataAt w' v nums texts := by
  obtain ⟨a1, n1, c1, a2, n2, c2, e, h1, h2, h3, h4⟩ := h
  exact ⟨a1, n1, c1, a2, n2, c2, e, h1.below hb, h2.below hb, h3, h4⟩
/-- behind Encode -/
def EncPost (B : Nat) (w : World) (L : List UInt8) (e : Ending) (w' : World) : Prop :=
  Below B w w' ∧ ((∃ v', e = .returned (.tuple #[v', .int .i64 0]) ∧ w'.ownsRow B 5 1 v' L.length (cellsB L) ∧ L.length ≤ 4096) ∨ (e = .returned (.tuple #[.slice none 0 0, .int .i64 4]) ∧ 4096 < L.length))

set_option maxHeartbeats 2000000 in
set_option maxRecDepth 20000 in
theorem encode_any (v : Value) (nums : List Int) (texts : List ByteArray) (w : World) (h : DataAt w v nums texts) (L : List UInt8) (hL : Hid (L = bytesL nums texts)) :
    Calls Try.prog 23 #[v] w fun e w' => EncPost w.heap.size w L e w' := by
  obtain ⟨a1, n1, c1, a2, n2, c2, rfl, h1, h2, h3, h4⟩ := h
  have H1 : Hid (RowAt w a1 n1 c1 (cellsI nums)) := h1
  have H2 : Hid (RowAt w a2 n2 c2 (cellsT texts)) := h2
  clear h1 h2
  obtain ⟨M, hM⟩ : ∃ M, Hid (M = countL nums.length ++ numsL nums) := ⟨_, rfl⟩
  obtain ⟨T, hT⟩ : ∃ M, Hid (M = countL texts.length ++ textsL texts) := ⟨_, rfl⟩
  have hLM : Hid (L = M ++ T) := by show _ = _; rw [hL.out, hM.out, hT.out, bytesL]; simp
  go_enter Try.func23, Try.ntmps23
  go_wp2_with fail
  have B0 : Below w.heap.size w (w.alloc (.cells #[.slice a1 n1 c1, .slice a2 n2 c2] 27)) := (Below.refl _ _).alloc (Nat.le_refl _) _
  generalize hw1 : w.alloc (.cells #[.slice a1 n1 c1, .slice a2 n2 c2] 27) = w1 at *
  have hc1 : w1.cell? ⟨w.heap.size, 1, none⟩ = some (.slice a2 n2 c2) := by rw [← hw1]; simp
  have hs1 : w.heap.size + 1 = w1.heap.size := by rw [← hw1]; simp
  clear hw1
  refine (putNums_any _ 0 [] a1 n1 c1 nums w1.heap.size _ (Nat.le_refl _) (World.ownsRow_nil _ _ _ _) (by omega) (fun w' hb => H1.out.below (B0.trans (hb.mono (by omega)))) h3 M hM).mono ?_
  rintro e w2 ⟨hb2, ⟨v2, rfl, hown2, hle2⟩ | ⟨v2, rfl, hgt2⟩⟩
  · have hc2 : w2.cell? ⟨w.heap.size, 1, none⟩ = some (.slice a2 n2 c2) := (hb2.cell (p := ⟨w.heap.size, 1, none⟩) (by show w.heap.size < _; omega)).trans hc1
    go_wp2_with fail
    refine (putTexts_any _ _ _ a2 n2 c2 texts w1.heap.size _ hb2.size hown2 hle2 (fun w' hb => H2.out.below (B0.trans ((hb2.trans hb).mono (by omega)))) h4 T hT).mono ?_
    rintro e w3 ⟨hb3, ⟨v3, rfl, hown3, hle3⟩ | ⟨v3, rfl, hgt3⟩⟩
    · go_wp2
      go_returns
      refine ⟨B0.trans ((hb2.trans hb3).mono (by omega)), .inl ⟨_, rfl, ?_, ?_⟩⟩
      · rw [hLM.out, List.length_append, cellsB_append]
        simp at hown3
        exact own_mono hown3 (by omega)
      · rw [hLM.out, List.length_append]; omega
    · go_wp2
      go_returns
      refine ⟨B0.trans ((hb2.trans hb3).mono (by omega)), .inr ⟨rfl, ?_⟩⟩
      rw [hLM.out, List.length_append]; omega
  · go_wp2
    go_returns
    refine ⟨B0.trans (hb2.mono (by omega)), .inr ⟨rfl, ?_⟩⟩
    rw [hLM.out, List.length_append]; omega

/-- a text of bytes -/
def txt (l : List UInt8) : ByteArray := ⟨l.toArray⟩
theorem txt_list (l : List UInt8) : (txt l).data.toList = l := by simp [txt]
theorem txt_size (l : List UInt8) : (txt l).size = l.length := by simp [txt, ByteArray.size]
theorem txt_inj {l m : List UInt8} (h : txt l = txt m) : l = m := by rw [← txt_list l, h, txt_list]
theorem text_of {w : World} {a : Option Addr} {len cap : Nat} {l : List UInt8} (h : RowAt w a len cap (cellsB l)) : (convert 38 9 (.slice a len cap)).run Try.prog w = .ok (.string (txt l)) w := by
  have hl : l.length = len := by simpa [cellsB] using h.1
  by_cases h0 : len = 0
  · subst h0
    obtain rfl : l = [] := List.length_eq_zero_iff.1 hl
    rw [run_convert_bytes_string w 38 9 5 a 0 cap Try.underlying38 Try.underlying5 Try.underlying9]
    cases a with
    | none => simp [Conv.bytesToString, txt]; rfl
    | some x =>
      have := run_convert_bytes_back (P := Try.prog) w 38 9 5 x cap [] Try.underlying38 Try.underlying5 Try.underlying9 (by intro j hj; simp at hj)
      rw [run_convert_bytes_string w 38 9 5 (some x) _ cap Try.underlying38 Try.underlying5 Try.underlying9] at this
      exact this
  · obtain ⟨b, off, rfl, hc⟩ := h.some (by omega)
    rw [← hl]
    refine run_convert_bytes_back (P := Try.prog) w 38 9 5 ⟨b, off, none⟩ cap l Try.underlying38 Try.underlying5 Try.underlying9 ?_
    intro j hj
    rw [addr_add, hc j (by omega), cellsB_get l j hj]
    simp [hj]
end Go.Proofs.Ytfplncadjifgfaa.Fr
