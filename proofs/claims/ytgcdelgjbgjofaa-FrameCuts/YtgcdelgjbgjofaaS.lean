/-
  The contract of FrameDecodes: at all bytes it returns true, and writes nothing that was there.
-/
import Derived.Test.YtgcdelgjbgjofaaO
import Derived.Laws.AppendOwnNone
import Derived.Deep.RegionHeld3
import Derived.Deep.QuietTactic
namespace Go.Proofs.Ytgcdelgjbgjofaa
open Go.ChangeShapes Go.WideShapes Go.ChangeAt Go.RowKit
theorem RowAt.cells {w : World} {x : Addr} {len cap : Nat} {cs : List Value} (h : RowAt w (Option.some x) len cap cs) : ∀ j u, cs[j]? = Option.some u → w.cell? (x.add j) = Option.some u := by
  intro j u hj
  have hlt : j < cs.length := (List.getElem?_eq_some_iff.1 hj).1
  rw [h.1] at hlt
  obtain ⟨b, off, e, hc⟩ := h.some (by omega)
  obtain rfl := Option.some.inj e
  rw [addr_add, hc j hlt]
  exact hj
theorem noData_at (w : World) : DataAt w noData [] [] := ⟨_, _, _, _, _, _, rfl, rowAt_nil w, rowAt_nil w, by simp, by simp⟩
theorem noData_at2 (w : World) : DataAt w (.agg #[.slice none 0 0, .slice none 0 0]) [] [] := noData_at w
theorem dec_same {w1 w2 : World} {l : List UInt8} {v1 v2 : Value} {c1 c2 : Nat} (h1 : DecIs w1 l v1 c1) (h2 : DecIs w2 l v2 c2) :
    c1 = c2 ∧ ((v1 = noData ∧ v2 = noData) ∨ ∃ nums texts, DataAt w1 v1 nums texts ∧ DataAt w2 v2 nums texts) := by
  rcases h1 with ⟨a1, b1, d1⟩ | ⟨a1, b1, d1, e1⟩ | ⟨a1, d1, nums, texts, e1, f1, g1⟩ <;> rcases h2 with ⟨a2, b2, d2⟩ | ⟨a2, b2, d2, e2⟩ | ⟨a2, d2, nums2, texts2, e2, f2, g2⟩
  · exact ⟨by rw [d1, d2], .inl ⟨b1, b2⟩⟩
  · omega
  · omega
  · omega
  · exact ⟨by rw [d1, d2], .inl ⟨b1, b2⟩⟩
  · exact absurd g2 (e1 _ _ f2)
  · omega
  · exact absurd g1 (e2 _ _ f1)
  · rw [g1] at g2
    obtain ⟨rfl, rfl⟩ := bytesL_inj g2
    exact ⟨by rw [d1, d2], .inr ⟨_, _, e1, e2⟩⟩
def DecodeRef : Prop := ∀ (a : Option Addr) (len cap : Nat) (l : List UInt8) (w : World), RowAt w a len cap (cellsB l) → Hid (len ≤ 6000) → Calls Try.prog 22 #[.slice a len cap] w fun e w' => DecPost w l e w'
set_option maxHeartbeats 8000000 in
set_option maxRecDepth 60000 in
theorem frameDecodes_some (hRef : DecodeRef) (x : Addr) (len cap : Nat) (l : List UInt8) (w : World) (h : RowAt w (some x) len cap (cellsB l)) :
    Calls Try.prog 5 #[.slice (some x) len cap] w fun e w' => TruePost w e w' := by
  obtain ⟨i0, hi, hz0, hz1, hz2⟩ := info_parts info5
  have hl : l.length = len := by simpa [cellsB] using h.1
  have HR : Hid (RowAt w (some x) len cap (cellsB l)) := h
  have hm : len ≤ maxLen := Nat.le_trans h.2.1 h.2.2.1
  unfold maxLen at hm
  have HREF : Hid DecodeRef := hRef
  clear h hRef
  by_cases hbig : (6000 : Int) < (len : Int)
  · go_enter Try.func5, Try.ntmps5
    go_wp2_with (go_at_call 12; refine (awake_any _).mono ?_; rintro e w5 ⟨rfl, hb5⟩)
    go_ret
    exact ⟨rfl, hb5⟩
  · have H6 : Hid (len ≤ 6000) := by show _ ≤ _; omega
    go_enter Try.func5, Try.ntmps5
    go_wp2_with (at_builtin; refine wpList_append_own _ rfl (.tmp 12) (.tmp 13) 22 rfl w.heap.size 5 i0 (.int .u8 0) 1 1 Try.underlying22 hi hz0 hz1 hz2 rfl (by decide) _ 0 [] rfl (World.ownsRow_lit (base := w.heap.size) (e := 5) (size := 1) w #[] 0 (Nat.le_refl _) (by unfold maxLen; omega) rfl) x len cap (cellsB l) rfl (by rw [cellsB_length, hl, Nat.mul_one]) (HR.out.below ((Below.refl _ _).alloc (Nat.le_refl _) _)).cells (one_cellsB _) (by have := H6.out; unfold maxLen; omega) (by have := H6.out; omega) (by simp) ?_)
    intro v1 w1 hown1 hgrow1 _
    have B1 : Below w.heap.size w w1 := ((Below.refl _ _).alloc (Nat.le_refl _) _).grown hgrow1 (by simp) (by intro k hk; simp [Value.ownBlock] at hk; omega)
    have hown1' : w1.ownsRow w.heap.size 5 1 v1 len (cellsB l) := by simpa using hown1
    obtain ⟨a1, cap1, rfl, hrow1, _⟩ := RowAt.of_own hown1'
    clear hgrow1 hown1 hown1'
    go_wp2_with fail
    refine (decode_any _ _ _ l _ hrow1 H6).mono ?_
    rintro e w2 ⟨hb2, v2, c2, rfl, hD2⟩
    have B2 := below2 B1 hb2
    have hform : ∃ s1 m1 k1 s2 m2 k2, v2 = .agg #[.slice s1 m1 k1, .slice s2 m2 k2] := by
      rcases hD2 with ⟨_, rfl, _⟩ | ⟨_, rfl, _, _⟩ | ⟨_, _, _, _, ⟨a, b, c, d, e, f, h, _⟩, _⟩
      · exact ⟨_, _, _, _, _, _, rfl⟩
      · exact ⟨_, _, _, _, _, _, rfl⟩
      · exact ⟨_, _, _, _, _, _, h⟩
    obtain ⟨s1, m1, k1, s2, m2, k2, rfl⟩ := hform
    have HD2 : Hid (DecIs w2 l (.agg #[.slice s1 m1 k1, .slice s2 m2 k2]) c2) := hD2
    clear hD2 hrow1
    go_wp2_with fail
    generalize hw3 : w2.alloc (.cells #[.slice s1 m1 k1, .slice s2 m2 k2] 29) = w3 at *
    have B3' : Below w2.heap.size w2 w3 := by rw [← hw3]; exact (Below.refl _ _).alloc (Nat.le_refl _) _
    have hc0 : w3.cell? ⟨w2.heap.size, 0, none⟩ = some (.slice s1 m1 k1) := by rw [← hw3]; simp
    have hc1 : w3.cell? ⟨w2.heap.size, 1, none⟩ = some (.slice s2 m2 k2) := by rw [← hw3]; simp
    have hs3 : w2.heap.size < w3.heap.size := by rw [← hw3]; simp
    clear hw3
    refine (HREF.out _ _ _ l _ (HR.out.below (below2 B2 B3')) H6).mono ?_
    rintro e w4 ⟨hb4, v4, c4, rfl, hD4⟩
    obtain ⟨rfl, hcase⟩ := dec_same HD2.out hD4
    have hform : ∃ s1 m1 k1 s2 m2 k2, v4 = .agg #[.slice s1 m1 k1, .slice s2 m2 k2] := by
      rcases hD4 with ⟨_, rfl, _⟩ | ⟨_, rfl, _, _⟩ | ⟨_, _, _, _, ⟨a, b, c, d, e, f, h, _⟩, _⟩
      · exact ⟨_, _, _, _, _, _, rfl⟩
      · exact ⟨_, _, _, _, _, _, rfl⟩
      · exact ⟨_, _, _, _, _, _, h⟩
    obtain ⟨t1, p1, j1, t2, p2, j2, rfl⟩ := hform
    have hdat : ∃ nums texts, DataAt w2 (.agg #[.slice s1 m1 k1, .slice s2 m2 k2]) nums texts ∧ DataAt w4 (.agg #[.slice t1 p1 j1, .slice t2 p2 j2]) nums texts := by
      rcases hcase with ⟨e1, e2⟩ | h
      · rw [e1, e2]; exact ⟨[], [], noData_at _, noData_at _⟩
      · exact h
    obtain ⟨nums, texts, hd2, hd4⟩ := hdat
    have HDa : Hid (DataAt w2 (.agg #[.slice s1 m1 k1, .slice s2 m2 k2]) nums texts) := hd2
    have HDb : Hid (DataAt w4 (.agg #[.slice t1 p1 j1, .slice t2 p2 j2]) nums texts) := hd4
    clear hD4 hcase HD2 hd2 hd4
    go_wp2_with fail
    generalize hw5 : w4.alloc (.cells #[.slice t1 p1 j1, .slice t2 p2 j2] 29) = w5 at *
    have B5' : Below w4.heap.size w4 w5 := by rw [← hw5]; exact (Below.refl _ _).alloc (Nat.le_refl _) _
    have hd0 : w5.cell? ⟨w4.heap.size, 0, none⟩ = some (.slice t1 p1 j1) := by rw [← hw5]; simp
    have hd1 : w5.cell? ⟨w4.heap.size, 1, none⟩ = some (.slice t2 p2 j2) := by rw [← hw5]; simp
    have hs5 : w4.heap.size < w5.heap.size := by rw [← hw5]; simp
    have C5 : Below w3.heap.size w3 w5 := below2 hb4 B5'
    have E5 : Below w2.heap.size w2 w5 := below2 B3' C5
    have B5 : Below w.heap.size w w5 := below2 B2 E5
    have hs6 : w2.heap.size < w5.heap.size := by have := C5.size; omega
    have HK : Hid (∀ w', Below w5.heap.size w5 w' → ((w'.cell? ⟨w2.heap.size, 0, none⟩ = some (.slice s1 m1 k1) ∧ w'.cell? ⟨w2.heap.size, 1, none⟩ = some (.slice s2 m2 k2)) ∧ (w'.cell? ⟨w4.heap.size, 0, none⟩ = some (.slice t1 p1 j1) ∧ w'.cell? ⟨w4.heap.size, 1, none⟩ = some (.slice t2 p2 j2)) ∧ Below w5.heap.size w5 w')) := fun w' hb =>
      ⟨⟨(hb.cell (p := ⟨w2.heap.size, 0, none⟩) hs6).trans ((C5.cell (p := ⟨w2.heap.size, 0, none⟩) hs3).trans hc0), (hb.cell (p := ⟨w2.heap.size, 1, none⟩) hs6).trans ((C5.cell (p := ⟨w2.heap.size, 1, none⟩) hs3).trans hc1)⟩,
       ⟨(hb.cell (p := ⟨w4.heap.size, 0, none⟩) hs5).trans hd0, (hb.cell (p := ⟨w4.heap.size, 1, none⟩) hs5).trans hd1⟩, hb⟩
    have KA : Hid (∀ w', Below w5.heap.size w5 w' → DataAt w' (.agg #[.slice s1 m1 k1, .slice s2 m2 k2]) nums texts ∧ DataAt w' (.agg #[.slice t1 p1 j1, .slice t2 p2 j2]) nums texts) := fun w' hb => ⟨HDa.out.below (below2 E5 hb), HDb.out.below (below2 B5' hb)⟩
    clear hw5 hd0 hd1 hc0 hc1 HDa HDb hi hz0 hz1 hz2 hm hl HR HREF H6 hbig B1 B2 B3' hb2 hb4 hs3 C5 E5 B5' hs5 hs6
    go_region_held3 (fun w' => (w'.cell? ⟨w2.heap.size, 0, none⟩ = some (.slice s1 m1 k1) ∧ w'.cell? ⟨w2.heap.size, 1, none⟩ = some (.slice s2 m2 k2)) ∧ (w'.cell? ⟨w4.heap.size, 0, none⟩ = some (.slice t1 p1 j1) ∧ w'.cell? ⟨w4.heap.size, 1, none⟩ = some (.slice t2 p2 j2)) ∧ Below w5.heap.size w5 w')
      (first | exact HK.out _ (below_drew _) | (go_split_ands; exact HK.out _ (by assumption)) | (go_split_ands; exact HK.out _ (below2 (by assumption) (by assumption))))
      (first
        | (go_at_call_of 21 t1; refine (refSame_any (.agg #[.slice s1 m1 k1, .slice s2 m2 k2]) (.agg #[.slice t1 p1 j1, .slice t2 p2 j2]) nums nums texts texts _ (KA.out _ (by go_split_ands; assumption)).1 (KA.out _ (by go_split_ands; assumption)).2).mono ?_; rintro e w6 ⟨hb6, q6, rfl, hq6⟩; obtain rfl : q6 = true := hq6.2 ⟨rfl, rfl⟩; clear hq6)
        | (go_at_call_of 23 t1; refine (frameSame_any (.agg #[.slice s1 m1 k1, .slice s2 m2 k2]) (.agg #[.slice t1 p1 j1, .slice t2 p2 j2]) nums nums texts texts _ (KA.out _ (by go_split_ands; assumption)).1 (KA.out _ (by go_split_ands; assumption)).2).mono ?_; rintro e w6 ⟨hb6, q6, rfl, hq6⟩; obtain rfl : q6 = true := hq6.2 ⟨rfl, rfl⟩; clear hq6)
        | (go_at_call 23; refine (frameSame_any (.agg #[.slice s1 m1 k1, .slice s2 m2 k2]) (.agg #[.slice none 0 0, .slice none 0 0]) nums [] texts [] _ (KA.out _ (by go_split_ands; assumption)).1 (noData_at2 _)).mono ?_; rintro e w7 ⟨hb7, q7, rfl, hq7⟩; have HQ7 : Hid (q7 = true ↔ nums = [] ∧ texts = []) := hq7; clear hq7)
        | (go_at_call 21; refine (refSame_any (.agg #[.slice s1 m1 k1, .slice s2 m2 k2]) (.agg #[.slice none 0 0, .slice none 0 0]) nums [] texts [] _ (KA.out _ (by go_split_ands; assumption)).1 (noData_at2 _)).mono ?_; rintro e w8 ⟨hb8, q8, rfl, hq8⟩; obtain rfl : q8 = q7 := Bool.eq_iff_iff.2 (hq8.trans HQ7.out.symm); clear hq8)
        | (go_at_call 12; refine (awake_any _).mono ?_; rintro e w9 ⟨rfl, hb9⟩))
    all_goals go_wp2
    all_goals go_ret
    all_goals go_split_ands
    all_goals exact ⟨rfl, B5.trans (Below.mono (by assumption) B5.size)⟩
end Go.Proofs.Ytgcdelgjbgjofaa
