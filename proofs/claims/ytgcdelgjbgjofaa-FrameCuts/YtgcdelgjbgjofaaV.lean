/-
  The contracts of both Frames: data's frame, new.
-/
import Derived.Test.YtgcdelgjbgjofaaU
import Derived.Test.YtgcdelgjbgjofaaG
namespace Go.Proofs.Ytgcdelgjbgjofaa
open Go.ChangeShapes Go.WideShapes Go.ChangeAt Go.RowKit
/-- the frame of bytes -/
def frameL (L : List UInt8) : List UInt8 := countL L.length ++ (L ++ fourL (sumL L))
/-- behind Frame -/
def FramePost (w : World) (L : List UInt8) (e : Ending) (w' : World) : Prop :=
  Below w.heap.size w w' ∧ ((∃ v', e = .returned (.tuple #[v', .int .i64 0]) ∧ w'.ownsRow w.heap.size 5 1 v' (frameL L).length (cellsB (frameL L)) ∧ L.length ≤ 4096) ∨ (e = .returned (.tuple #[.slice none 0 0, .int .i64 4]) ∧ 4096 < L.length))
theorem frameL_own {w : World} {B n : Nat} {v : Value} {L : List UInt8} (h : w.ownsRow B 5 1 v n (cellsB (countL L.length) ++ (cellsB L ++ cellsB (fourL (sumL L))))) : w.ownsRow B 5 1 v (frameL L).length (cellsB (frameL L)) := by
  refine own_fix (n := n) ?_
  rw [frameL, cellsB_append, cellsB_append]
  exact h
set_option maxHeartbeats 8000000 in
set_option maxRecDepth 60000 in
theorem frame_any (v : Value) (nums : List Int) (texts : List ByteArray) (w : World) (h : DataAt w v nums texts) (L : List UInt8) (hL : Hid (L = bytesL nums texts)) :
    Calls Try.prog 29 #[v] w fun e w' => FramePost w L e w' := by
  obtain ⟨i0, hi, hz0, hz1, hz2⟩ := info_parts info5
  have H : Hid (DataAt w v nums texts) := h
  obtain ⟨a1, n1, c1, a2, n2, c2, rfl, h1, h2, h3, h4⟩ := h
  clear h1 h2 h3 h4
  have B0 : Below w.heap.size w (w.alloc (.cells #[.slice a1 n1 c1, .slice a2 n2 c2] 29)) := (Below.refl _ _).alloc (Nat.le_refl _) _
  go_enter Try.func29, Try.ntmps29
  go_wp2_with fail
  refine (encode_any _ nums texts _ (H.out.below B0) L hL).mono ?_
  generalize w.alloc (.cells #[.slice a1 n1 c1, .slice a2 n2 c2] 29) = w1 at *
  rintro en w2 ⟨hb2, ⟨v2, rfl, hown2, hle⟩ | ⟨rfl, hgt⟩⟩
  · have B2 := below2 B0 hb2
    obtain ⟨a3, cap3, rfl, hrow3, hlow3⟩ := RowAt.of_own hown2
    have HLE : Hid (L.length ≤ 4096) := hle
    have HR3 : Hid (RowAt w2 a3 L.length cap3 (cellsB L)) := hrow3
    have hl63 : L.length < 9223372036854775808 := by omega
    have hpos : 0 < L.length := by
      have := countL_pos nums.length
      rw [hL.out, bytesL, List.length_append]; omega
    obtain ⟨b, off, rfl, hcell⟩ := hrow3.some hpos
    have hc10 := countL_le10 L.length (by omega)
    clear hle hown2 hcell hrow3 hlow3
    go_wp2_with (first
      | (go_at_call 9; refine (frameCount_any L.length _ hl63).mono ?_; rintro en w3 ⟨v3, rfl, hown3, hb3⟩)
      | (at_builtin; refine wpList_append_own _ rfl (.tmp 17) (.tmp 18) 22 rfl w2.heap.size 5 i0 (.int .u8 0) 1 1 Try.underlying22 hi hz0 hz1 hz2 rfl (by decide) _ _ _ rfl hown3 ⟨b, off, none⟩ _ cap3 (cellsB L) rfl (by rw [cellsB_length, Nat.mul_one]) (HR3.out.below hb3).cells (one_cellsB _) (by have := HLE.out; unfold maxLen; omega) (by have := HLE.out; omega) hb3.size ?_))
    intro v4 w4 hown4 hgrow4 _
    have hb4 : Below w2.heap.size w2 w4 := hb3.grown hgrow4 hb3.size (fun k hk => (hown3.lt k hk).1)
    have hsl := sumL_lt L
    have HN : Hid ((countL L.length).length + L.length ≤ 10000) := by show _ ≤ _; have := HLE.out; omega
    clear hgrow4 hown3
    go_wp2_with (go_at_call 16; refine (sum_any _ _ _ L _ (HR3.out.below hb4)).mono ?_; rintro en w5 ⟨rfl, rfl⟩)
    refine (putSum_any _ _ _ (sumL L) w2.heap.size _ hsl hb4.size hown4 HN).mono ?_
    rintro en w6 ⟨v6, rfl, hown6, hb6⟩
    go_wp2
    go_returns
    have hown7 := frameL_own (w := w6) (B := w2.heap.size) (v := v6) (L := L) (n := (countL L.length).length + L.length + 4) (by simpa using hown6)
    exact ⟨B2.trans ((hb4.trans hb6).mono B2.size), .inl ⟨_, rfl, own_mono hown7 B2.size, HLE.out⟩⟩
  · have HGT : Hid (4096 < L.length) := hgt
    clear hgt
    go_wp2
    go_returns
    exact ⟨below2 B0 hb2, .inr ⟨rfl, HGT.out⟩⟩
set_option maxHeartbeats 8000000 in
set_option maxRecDepth 60000 in
theorem refFrame_any (v : Value) (nums : List Int) (texts : List ByteArray) (w : World) (h : DataAt w v nums texts) (L : List UInt8) (hL : Hid (L = bytesL nums texts)) (hle : Hid (L.length ≤ 4096)) :
    Calls Try.prog 30 #[v] w fun e w' => ∃ v', e = .returned v' ∧ w'.ownsRow w.heap.size 5 1 v' (frameL L).length (cellsB (frameL L)) ∧ Below w.heap.size w w' := by
  obtain ⟨i0, hi, hz0, hz1, hz2⟩ := info_parts info5
  have H : Hid (DataAt w v nums texts) := h
  obtain ⟨a1, n1, c1, a2, n2, c2, rfl, h1, h2, h3, h4⟩ := h
  clear h1 h2 h3 h4
  have B0 : Below w.heap.size w (w.alloc (.cells #[.slice a1 n1 c1, .slice a2 n2 c2] 29)) := (Below.refl _ _).alloc (Nat.le_refl _) _
  go_enter Try.func30, Try.ntmps30
  go_wp2_with fail
  refine (refBytes_any _ nums texts _ (H.out.below B0) L hL).mono ?_
  generalize w.alloc (.cells #[.slice a1 n1 c1, .slice a2 n2 c2] 29) = w1 at *
  rintro en w2 ⟨hb2, v2, L2, rfl, hown2, hp2, hx2, hy2⟩
  obtain rfl := hp2 hle.out
  clear hp2 hx2 hy2
  have B2 := below2 B0 hb2
  obtain ⟨a3, cap3, rfl, hrow3, hlow3⟩ := RowAt.of_own hown2
  have HR3 : Hid (RowAt w2 a3 L2.length cap3 (cellsB L2)) := hrow3
  have hl63 : L2.length < 9223372036854775808 := by have := hle.out; omega
  have H6 : Hid (L2.length ≤ 6000) := by show _ ≤ _; have := hle.out; omega
  have hpos : 0 < L2.length := by
    have := countL_pos nums.length
    rw [hL.out, bytesL, List.length_append]; omega
  obtain ⟨b, off, rfl, hcell⟩ := hrow3.some hpos
  have hc10 := countL_le10 L2.length (by omega)
  clear hown2 hcell hrow3 hlow3
  go_wp2_with (first
    | (go_at_call 13; refine (refCount_any L2.length _ hl63).mono ?_; rintro en w3 ⟨v3, rfl, hown3, hb3⟩)
    | (at_builtin; refine wpList_append_own _ rfl (.tmp 8) (.tmp 9) 22 rfl w2.heap.size 5 i0 (.int .u8 0) 1 1 Try.underlying22 hi hz0 hz1 hz2 rfl (by decide) _ _ _ rfl hown3 ⟨b, off, none⟩ _ cap3 (cellsB L2) rfl (by rw [cellsB_length, Nat.mul_one]) (HR3.out.below hb3).cells (one_cellsB _) (by have := hle.out; unfold maxLen; omega) (by have := hle.out; omega) hb3.size ?_))
  intro v4 w4 hown4 hgrow4 _
  have hb4 : Below w2.heap.size w2 w4 := hb3.grown hgrow4 hb3.size (fun k hk => (hown3.lt k hk).1)
  have hsl := sumL_lt L2
  have HN : Hid ((countL L2.length).length + L2.length ≤ 10000) := by show _ ≤ _; have := hle.out; omega
  clear hgrow4 hown3
  go_wp2_with (first
    | (go_at_call 17; refine (refSum_any _ _ _ L2 _ (HR3.out.below hb4) H6.out).mono ?_; rintro en w5 ⟨rfl, rfl⟩)
    | (go_at_call 46; refine (four_any (sumL L2) _ hsl).mono ?_; rintro en w6 ⟨v6, rfl, hown6, hb6⟩; obtain ⟨g6, cap6, rfl, hg6, hg7, hcs6⟩ := own_form hown6 (by omega))
    | (at_builtin; refine wpList_append_own _ rfl (.tmp 10) (.tmp 13) 22 rfl w2.heap.size 5 i0 (.int .u8 0) 1 1 Try.underlying22 hi hz0 hz1 hz2 rfl (by decide) _ _ _ rfl (own_below hown4 hb6) ⟨g6, 0, none⟩ 4 cap6 (cellsB (fourL (sumL L2))) rfl rfl hcs6 (one_cellsB _) (by have := HN.out; unfold maxLen; omega) (by have := HN.out; omega) (Nat.le_trans hb4.size hb6.size) ?_))
  intro v7 w7 hown7 hgrow7 _
  have hb7 : Below w2.heap.size w2 w7 := (hb4.trans (hb6.mono hb4.size)).grown hgrow7 (Nat.le_trans hb4.size hb6.size) (fun k hk => (hown4.lt k hk).1)
  go_wp2
  go_returns
  have hown8 := frameL_own (w := w7) (B := w2.heap.size) (v := v7) (L := L2) (n := (countL L2.length).length + L2.length + 4) (by simpa using hown7)
  exact ⟨_, rfl, own_mono hown8 B2.size, B2.trans (hb7.mono B2.size)⟩
end Go.Proofs.Ytgcdelgjbgjofaa
