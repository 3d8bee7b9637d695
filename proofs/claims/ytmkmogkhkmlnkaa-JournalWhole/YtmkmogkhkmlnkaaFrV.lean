/-
  The contracts of both Frames: data's frame, new.
-/
import Derived.Test.YtmkmogkhkmlnkaaFrU
namespace Go.Proofs.Ytmkmogkhkmlnkaa.Fr
open Go.ChangeShapes Go.WideShapes Go.ChangeAt Go.RowKit
/-- the frame of bytes -/
def frameL (L : List UInt8) : List UInt8 := countL L.length ++ (L ++ fourL (sumL L))
/-- behind Frame -/
def FramePost (w : World) (L : List UInt8) (e : Ending) (w' : World) : Prop :=
  Below w.heap.size w w' ∧ ((∃ v', e = .returned (.tuple #[v', .int .i64 0]) ∧ w'.ownsRow w.heap.size 5 1 v' (frameL L).length (cellsB (frameL L)) ∧ L.length ≤ 4096) ∨ (e = .returned (.tuple #[.slice none 0 0, .int .i64 4]) ∧ 4096 < L.length))
theorem own_fix {w : World} {B n : Nat} {v : Value} {l : List UInt8} (h : w.ownsRow B 5 1 v n (cellsB l)) : w.ownsRow B 5 1 v l.length (cellsB l) := by
  have := h.1
  rw [cellsB_length, Nat.mul_one] at this
  rw [this]
  exact h
theorem frameL_own {w : World} {B n : Nat} {v : Value} {L : List UInt8} (h : w.ownsRow B 5 1 v n (cellsB (countL L.length) ++ (cellsB L ++ cellsB (fourL (sumL L))))) : w.ownsRow B 5 1 v (frameL L).length (cellsB (frameL L)) := by
  refine own_fix (n := n) ?_
  rw [frameL, cellsB_append, cellsB_append]
  exact h
set_option maxHeartbeats 8000000 in
set_option maxRecDepth 60000 in
theorem frame_any (v : Value) (nums : List Int) (texts : List ByteArray) (w : World) (h : DataAt w v nums texts) (L : List UInt8) (hL : Hid (L = bytesL nums texts)) :
    Calls Try.prog 24 #[v] w fun e w' => FramePost w L e w' := by
  obtain ⟨i0, hi, hz0, hz1, hz2⟩ := info_parts info5
  have H : Hid (DataAt w v nums texts) := h
  obtain ⟨a1, n1, c1, a2, n2, c2, rfl, h1, h2, h3, h4⟩ := h
  clear h1 h2 h3 h4
  have B0 : Below w.heap.size w (w.alloc (.cells #[.slice a1 n1 c1, .slice a2 n2 c2] 38)) := (Below.refl _ _).alloc (Nat.le_refl _) _
  go_enter Try.func24, Try.ntmps24
  go_wp2_with fail
  refine (encode_any _ nums texts _ (H.out.below B0) L hL).mono ?_
  generalize w.alloc (.cells #[.slice a1 n1 c1, .slice a2 n2 c2] 38) = w1 at *
  rintro en w2 ⟨hb2, ⟨v2, rfl, hown2, hle⟩ | ⟨rfl, hgt⟩⟩
  · have B2 := below2 B0 hb2
    obtain ⟨a3, cap3, rfl, hrow3, hlow3⟩ := RowAt.of_own hown2
    have HLE : Hid (L.length ≤ 4096) := hle
    have HR3 : Hid (RowAt w2 a3 L.length cap3 (cellsB L)) := hrow3
    have hl63 : L.length < 9223372036854775808 := by omega
    have hpos : 0 < L.length := by
      have := countL_pos nums.length
      rw [hL.out, bytesL, List.length_append]; omega
    obtain ⟨b, off, rfl, hcell⟩ := hrow3.some hpos
    have hc10 := countL_le10 L.length (by omega)
    clear hle hown2 hcell hrow3 hlow3
    go_wp2_with (first
      | (go_at_call 39; refine (frameCount_any L.length _ hl63).mono ?_; rintro en w3 ⟨v3, rfl, hown3, hb3⟩)
      | (at_builtin; refine wpList_append_own _ rfl (.tmp 17) (.tmp 18) 39 rfl w2.heap.size 5 i0 (.int .u8 0) 1 1 Try.underlying39 hi hz0 hz1 hz2 rfl (by decide) _ _ _ rfl hown3 ⟨b, off, none⟩ _ cap3 (cellsB L) rfl (by rw [cellsB_length, Nat.mul_one]) (HR3.out.below hb3).cells (one_cellsB _) (by have := HLE.out; unfold maxLen; omega) (by have := HLE.out; omega) hb3.size ?_))
    intro v4 w4 hown4 hgrow4 _
    have hb4 : Below w2.heap.size w2 w4 := hb3.grown hgrow4 hb3.size (fun k hk => (hown3.lt k hk).1)
    have hsl := sumL_lt L
    have HN : Hid ((countL L.length).length + L.length ≤ 10000) := by show _ ≤ _; have := HLE.out; omega
    clear hgrow4 hown3
    go_wp2_with (go_at_call 41; refine (sum_any _ _ _ L _ (HR3.out.below hb4)).mono ?_; rintro en w5 ⟨rfl, rfl⟩)
    refine (putSum_any _ _ _ (sumL L) w2.heap.size _ hsl hb4.size hown4 HN).mono ?_
    rintro en w6 ⟨v6, rfl, hown6, hb6⟩
    go_wp2
    go_returns
    have hown7 := frameL_own (w := w6) (B := w2.heap.size) (v := v6) (L := L) (n := (countL L.length).length + L.length + 4) (by simpa using hown6)
    exact ⟨B2.trans ((hb4.trans hb6).mono B2.size), .inl ⟨_, rfl, own_mono hown7 B2.size, HLE.out⟩⟩
  · have HGT : Hid (4096 < L.length) := hgt
    clear hgt
    go_wp2
    go_returns
    exact ⟨below2 B0 hb2, .inr ⟨rfl, HGT.out⟩⟩
end Go.Proofs.Ytmkmogkhkmlnkaa.Fr
