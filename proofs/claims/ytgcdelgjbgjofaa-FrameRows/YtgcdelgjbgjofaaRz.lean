/-
  The contract of FrameRows: at all bytes it returns true, and writes nothing that was there.
-/
import Derived.Test.YtgcdelgjbgjofaaRy
import Derived.Test.YtgcdelgjbgjofaaLs
import Derived.Test.YtgcdelgjbgjofaaS
namespace Go.Proofs.Ytgcdelgjbgjofaa
open Go.ChangeShapes Go.WideShapes Go.ChangeAt Go.RowKit
theorem first_same {w1 w2 : World} {l : List UInt8} {v1 v2 : Value} {s1 s2 c1 c2 : Nat} (h1 : FirstIs w1 l v1 s1 c1) (h2 : FirstIs w2 l v2 s2 c2) :
    s1 = s2 ∧ c1 = c2 ∧ ((v1 = noData ∧ v2 = noData) ∨ ∃ nums texts, DataAt w1 v1 nums texts ∧ DataAt w2 v2 nums texts) := by
  rcases h1 with ⟨a1, b1, d1, e1⟩ | ⟨n, r, e, hn, hr, h1⟩ <;> rcases h2 with ⟨a2, b2, d2, e2⟩ | ⟨n', r', e', hn', hr', h2⟩
  · exact ⟨by rw [b1, b2], by rw [d1, d2], .inl ⟨a1, a2⟩⟩
  · have := e1 _ _ e' hn'
    omega
  · have := e2 _ _ e hn
    omega
  · obtain ⟨rfl, rfl⟩ := countL_free _ _ _ _ (e.symm.trans e')
    rcases h1 with ⟨f1, g1, i1, j1⟩ | ⟨f1, k1, g1, i1, j1⟩ | ⟨f1, i1, j1, nums, texts, g1, k1, m1⟩ <;> rcases h2 with ⟨f2, g2, i2, j2⟩ | ⟨f2, k2, g2, i2, j2⟩ | ⟨f2, i2, j2, nums2, texts2, g2, k2, m2⟩
    · exact ⟨by rw [i1, i2], by rw [j1, j2], .inl ⟨g1, g2⟩⟩
    · exact absurd f2 f1
    · exact absurd f2 f1
    · exact absurd f1 f2
    · exact ⟨by rw [i1, i2], by rw [j1, j2], .inl ⟨g1, g2⟩⟩
    · exact absurd m2 (k1 _ _ k2)
    · exact absurd f1 f2
    · exact absurd m1 (k2 _ _ k1)
    · rw [m1] at m2
      obtain ⟨rfl, rfl⟩ := bytesL_inj m2
      exact ⟨by rw [i1, i2], by rw [j1, j2], .inr ⟨_, _, g1, g2⟩⟩
set_option maxHeartbeats 8000000 in
set_option maxRecDepth 60000 in
theorem frameRows_some (x : Addr) (len cap : Nat) (l : List UInt8) (w : World) (h : RowAt w (some x) len cap (cellsB l)) :
    Calls Try.prog 6 #[.slice (some x) len cap] w fun e w' => TruePost w e w' := by
  obtain ⟨i0, hi, hz0, hz1, hz2⟩ := info_parts info5
  have hl : l.length = len := by simpa [cellsB] using h.1
  have HR : Hid (RowAt w (some x) len cap (cellsB l)) := h
  have hm : len ≤ maxLen := Nat.le_trans h.2.1 h.2.2.1
  unfold maxLen at hm
  clear h
  by_cases hbig : (6000 : Int) < (len : Int)
  · go_enter Try.func6, Try.ntmps6
    go_wp2_with (go_at_call 12; refine (awake_any _).mono ?_; rintro e w5 ⟨rfl, hb5⟩)
    go_ret
    exact ⟨rfl, hb5⟩
  · have H6 : Hid (len ≤ 6000) := by show _ ≤ _; omega
    have H60 : Hid (len ≤ 60000) := by show _ ≤ _; omega
    go_enter Try.func6, Try.ntmps6
    go_wp2_with (at_builtin; refine wpList_append_own _ rfl (.tmp 18) (.tmp 19) 22 rfl w.heap.size 5 i0 (.int .u8 0) 1 1 Try.underlying22 hi hz0 hz1 hz2 rfl (by decide) _ 0 [] rfl (World.ownsRow_lit (base := w.heap.size) (e := 5) (size := 1) w #[] 0 (Nat.le_refl _) (by unfold maxLen; omega) rfl) x len cap (cellsB l) rfl (by rw [cellsB_length, hl, Nat.mul_one]) (HR.out.below ((Below.refl _ _).alloc (Nat.le_refl _) _)).cells (one_cellsB _) (by have := H6.out; unfold maxLen; omega) (by have := H6.out; omega) (by simp) ?_)
    intro v1 w1 hown1 hgrow1 _
    have B1 : Below w.heap.size w w1 := ((Below.refl _ _).alloc (Nat.le_refl _) _).grown hgrow1 (by simp) (by intro k hk; simp [Value.ownBlock] at hk; omega)
    have hown1' : w1.ownsRow w.heap.size 5 1 v1 len (cellsB l) := by simpa using hown1
    obtain ⟨a1, cap1, rfl, hrow1, _⟩ := RowAt.of_own hown1'
    clear hgrow1 hown1 hown1' hi hz0 hz1 hz2 hm H6 hbig
    go_wp2_with fail
    refine (first2_any _ _ _ l _ hrow1).mono ?_
    rintro e w2 ⟨hb2, v2, n2, c2, rfl, hF2, hfr2⟩
    have B2 := below2 B1 hb2
    obtain ⟨s1, m1, k1, s2, m2, k2, rfl, -, -⟩ := hfr2
    have HF2 : Hid (FirstIs w2 l (.agg #[.slice s1 m1 k1, .slice s2 m2 k2]) n2 c2) := hF2
    clear hF2 hrow1
    go_wp2_with fail
    generalize hw3 : w2.alloc (.cells #[.slice s1 m1 k1, .slice s2 m2 k2] 29) = w3 at *
    have B3' : Below w2.heap.size w2 w3 := by rw [← hw3]; exact (Below.refl _ _).alloc (Nat.le_refl _) _
    have hc0 : w3.cell? ⟨w2.heap.size, 0, none⟩ = some (.slice s1 m1 k1) := by rw [← hw3]; simp
    have hc1 : w3.cell? ⟨w2.heap.size, 1, none⟩ = some (.slice s2 m2 k2) := by rw [← hw3]; simp
    have hs3 : w2.heap.size < w3.heap.size := by rw [← hw3]; simp
    clear hw3
    refine (refFirst_any _ _ _ l _ (HR.out.below (below2 B2 B3'))).mono ?_
    rintro e w4 ⟨hb4, v4, n4, c4, rfl, hF4, hfr4⟩
    obtain ⟨rfl, rfl, hcase⟩ := first_same HF2.out hF4
    obtain ⟨t1, p1, j1, t2, p2, j2, rfl, -, -⟩ := hfr4
    have hdat : ∃ nums texts, DataAt w2 (.agg #[.slice s1 m1 k1, .slice s2 m2 k2]) nums texts ∧ DataAt w4 (.agg #[.slice t1 p1 j1, .slice t2 p2 j2]) nums texts := by
      rcases hcase with ⟨e1, e2⟩ | h
      · rw [e1, e2]; exact ⟨[], [], noData_at _, noData_at _⟩
      · exact h
    obtain ⟨nums, texts, hd2, hd4⟩ := hdat
    have HDa : Hid (DataAt w2 (.agg #[.slice s1 m1 k1, .slice s2 m2 k2]) nums texts) := hd2
    have HDb : Hid (DataAt w4 (.agg #[.slice t1 p1 j1, .slice t2 p2 j2]) nums texts) := hd4
    clear hF4 hcase HF2 hd2 hd4
    go_wp2_with fail
    generalize hw5 : w4.alloc (.cells #[.slice t1 p1 j1, .slice t2 p2 j2] 29) = w5 at *
    have B5' : Below w4.heap.size w4 w5 := by rw [← hw5]; exact (Below.refl _ _).alloc (Nat.le_refl _) _
    have hd0 : w5.cell? ⟨w4.heap.size, 0, none⟩ = some (.slice t1 p1 j1) := by rw [← hw5]; simp
    have hd1 : w5.cell? ⟨w4.heap.size, 1, none⟩ = some (.slice t2 p2 j2) := by rw [← hw5]; simp
    have hs5 : w4.heap.size < w5.heap.size := by rw [← hw5]; simp
    have C5 : Below w3.heap.size w3 w5 := below2 hb4 B5'
    have E5 : Below w2.heap.size w2 w5 := below2 B3' C5
    have B5 : Below w.heap.size w w5 := below2 B2 E5
    have hs6 : w2.heap.size < w5.heap.size := by have := C5.size; omega
    have HK : Hid (∀ w', Below w5.heap.size w5 w' → (w'.cell? ⟨w2.heap.size, 0, none⟩ = some (.slice s1 m1 k1) ∧ w'.cell? ⟨w2.heap.size, 1, none⟩ = some (.slice s2 m2 k2)) ∧ (w'.cell? ⟨w4.heap.size, 0, none⟩ = some (.slice t1 p1 j1) ∧ w'.cell? ⟨w4.heap.size, 1, none⟩ = some (.slice t2 p2 j2))) := fun w' hb =>
      ⟨⟨(hb.cell (p := ⟨w2.heap.size, 0, none⟩) hs6).trans ((C5.cell (p := ⟨w2.heap.size, 0, none⟩) hs3).trans hc0), (hb.cell (p := ⟨w2.heap.size, 1, none⟩) hs6).trans ((C5.cell (p := ⟨w2.heap.size, 1, none⟩) hs3).trans hc1)⟩,
       ⟨(hb.cell (p := ⟨w4.heap.size, 0, none⟩) hs5).trans hd0, (hb.cell (p := ⟨w4.heap.size, 1, none⟩) hs5).trans hd1⟩⟩
    have KA : Hid (∀ w', Below w5.heap.size w5 w' → DataAt w' (.agg #[.slice s1 m1 k1, .slice s2 m2 k2]) nums texts ∧ DataAt w' (.agg #[.slice t1 p1 j1, .slice t2 p2 j2]) nums texts) := fun w' hb => ⟨HDa.out.below (below2 E5 hb), HDb.out.below (below2 B5' hb)⟩
    clear hw5 hd0 hd1 hc0 hc1 HDa HDb B1 B2 B3' hb2 hb4 hs3 C5 E5 B5' hs5 hs6
    refine (row_any _ _ _ l _ (HR.out.below B5) H60).mono ?_
    rintro e w6 ⟨hb6, v6, ps6, ds6, r6, rfl, hown6, hds6, hR6⟩
    obtain ⟨a6, cap6, rfl, hdr6⟩ := own_drow hown6 hds6
    have HD6 : Hid (DRow w6 a6 ds6.length cap6 ds6) := hdr6
    have HR6 : Hid (RowIs l ds6 r6) := hR6
    clear hown6 hds6 hdr6 hR6
    go_wp2_with fail
    refine (refRow_any _ _ _ l _ (HR.out.below (below2 B5 hb6)) H60).mono ?_
    rintro e w7 ⟨hb7, v7, ps7, ds7, r7, rfl, hown7, hds7, hR7⟩
    obtain ⟨rfl, rfl⟩ := rowIs_fn HR6.out hR7
    obtain ⟨a7, cap7, rfl, hdr7⟩ := own_drow hown7 hds7
    have HD7 : Hid (DRow w7 a7 ds6.length cap7 ds6) := hdr7
    have D7 : Below w5.heap.size w5 w7 := below2 hb6 hb7
    obtain ⟨⟨x0, x1⟩, x2, x3⟩ := HK.out w7 D7
    have HD6' : Hid (DRow w7 a6 ds6.length cap6 ds6) := HD6.out.below hb7
    have B7 : Below w.heap.size w w7 := below2 B5 D7
    clear hown7 hds7 hdr7 hR7 HR6 HD6 hb6 hb7
    go_wp2_with fail
    refine (refSame_any (.agg #[.slice s1 m1 k1, .slice s2 m2 k2]) (.agg #[.slice t1 p1 j1, .slice t2 p2 j2]) nums nums texts texts _ (KA.out _ D7).1 (KA.out _ D7).2).mono ?_
    rintro e w8 ⟨hb8, q8, rfl, hq8⟩
    obtain rfl : q8 = true := hq8.2 ⟨rfl, rfl⟩
    clear hq8 x0 x1 x2 x3
    go_wp2_with fail
    refine (list_any _ _ _ _ _ _ ds6 ds6 _ (HD6'.out.below hb8) (HD7.out.below hb8)).mono ?_
    rintro e w9 ⟨hb9, q9, rfl, hq9⟩
    obtain rfl : q9 = true := hq9.2 rfl
    clear hq9
    go_wp2_with fail
    refine (awake_any _).mono ?_
    rintro e w10 ⟨rfl, hb10⟩
    have BE : Below w.heap.size w w10 := below2 B7 (below3 hb8 hb9 hb10)
    clear hb8 hb9 hb10
    go_wp2
    go_ret
    exact ⟨rfl, BE⟩
set_option maxHeartbeats 8000000 in
set_option maxRecDepth 60000 in
theorem frameRows_none (w : World) :
    Calls Try.prog 6 #[.slice none 0 0] w fun e w' => TruePost w e w' := by
  obtain ⟨i0, hi, hz0, hz1, hz2⟩ := info_parts info5
  have HR : Hid (RowAt w none 0 0 (cellsB [])) := rowAt_nil w
  have H60 : Hid (0 ≤ 60000) := Nat.zero_le _
  go_enter Try.func6, Try.ntmps6
  go_wp2_with (at_builtin; refine wpList_append_own_none rfl (.tmp 18) (.tmp 19) 22 rfl w.heap.size 5 i0 1 Try.underlying22 hi _ 0 [] rfl (World.ownsRow_lit (base := w.heap.size) (e := 5) (size := 1) w #[] 0 (Nat.le_refl _) (by unfold maxLen; omega) rfl) rfl ?_)
  have B1 : Below w.heap.size w (w.alloc (.cells #[] 5)) := (Below.refl _ _).alloc (Nat.le_refl _) _
  have hrow1 : RowAt (w.alloc (.cells #[] 5)) (some ⟨w.heap.size, 0, none⟩) 0 0 (cellsB []) := ⟨rfl, Nat.le_refl _, Nat.zero_le _, .inl rfl⟩
  generalize w.alloc (.cells #[] 5) = w1 at *
  clear hi hz0 hz1 hz2
  go_wp2_with fail
  refine (first2_any _ _ _ [] _ hrow1).mono ?_
  rintro e w2 ⟨hb2, v2, n2, c2, rfl, hF2, hfr2⟩
  have B2 := below2 B1 hb2
  obtain ⟨s1, m1, k1, s2, m2, k2, rfl, -, -⟩ := hfr2
  have HF2 : Hid (FirstIs w2 [] (.agg #[.slice s1 m1 k1, .slice s2 m2 k2]) n2 c2) := hF2
  clear hF2 hrow1
  go_wp2_with fail
  generalize hw3 : w2.alloc (.cells #[.slice s1 m1 k1, .slice s2 m2 k2] 29) = w3 at *
  have B3' : Below w2.heap.size w2 w3 := by rw [← hw3]; exact (Below.refl _ _).alloc (Nat.le_refl _) _
  have hc0 : w3.cell? ⟨w2.heap.size, 0, none⟩ = some (.slice s1 m1 k1) := by rw [← hw3]; simp
  have hc1 : w3.cell? ⟨w2.heap.size, 1, none⟩ = some (.slice s2 m2 k2) := by rw [← hw3]; simp
  have hs3 : w2.heap.size < w3.heap.size := by rw [← hw3]; simp
  clear hw3
  refine (refFirst_any _ _ _ [] _ (HR.out.below (below2 B2 B3'))).mono ?_
  rintro e w4 ⟨hb4, v4, n4, c4, rfl, hF4, hfr4⟩
  obtain ⟨rfl, rfl, hcase⟩ := first_same HF2.out hF4
  obtain ⟨t1, p1, j1, t2, p2, j2, rfl, -, -⟩ := hfr4
  have hdat : ∃ nums texts, DataAt w2 (.agg #[.slice s1 m1 k1, .slice s2 m2 k2]) nums texts ∧ DataAt w4 (.agg #[.slice t1 p1 j1, .slice t2 p2 j2]) nums texts := by
    rcases hcase with ⟨e1, e2⟩ | h
    · rw [e1, e2]; exact ⟨[], [], noData_at _, noData_at _⟩
    · exact h
  obtain ⟨nums, texts, hd2, hd4⟩ := hdat
  have HDa : Hid (DataAt w2 (.agg #[.slice s1 m1 k1, .slice s2 m2 k2]) nums texts) := hd2
  have HDb : Hid (DataAt w4 (.agg #[.slice t1 p1 j1, .slice t2 p2 j2]) nums texts) := hd4
  clear hF4 hcase HF2 hd2 hd4
  go_wp2_with fail
  generalize hw5 : w4.alloc (.cells #[.slice t1 p1 j1, .slice t2 p2 j2] 29) = w5 at *
  have B5' : Below w4.heap.size w4 w5 := by rw [← hw5]; exact (Below.refl _ _).alloc (Nat.le_refl _) _
  have hd0 : w5.cell? ⟨w4.heap.size, 0, none⟩ = some (.slice t1 p1 j1) := by rw [← hw5]; simp
  have hd1 : w5.cell? ⟨w4.heap.size, 1, none⟩ = some (.slice t2 p2 j2) := by rw [← hw5]; simp
  have hs5 : w4.heap.size < w5.heap.size := by rw [← hw5]; simp
  have C5 : Below w3.heap.size w3 w5 := below2 hb4 B5'
  have E5 : Below w2.heap.size w2 w5 := below2 B3' C5
  have B5 : Below w.heap.size w w5 := below2 B2 E5
  have hs6 : w2.heap.size < w5.heap.size := by have := C5.size; omega
  have HK : Hid (∀ w', Below w5.heap.size w5 w' → (w'.cell? ⟨w2.heap.size, 0, none⟩ = some (.slice s1 m1 k1) ∧ w'.cell? ⟨w2.heap.size, 1, none⟩ = some (.slice s2 m2 k2)) ∧ (w'.cell? ⟨w4.heap.size, 0, none⟩ = some (.slice t1 p1 j1) ∧ w'.cell? ⟨w4.heap.size, 1, none⟩ = some (.slice t2 p2 j2))) := fun w' hb =>
    ⟨⟨(hb.cell (p := ⟨w2.heap.size, 0, none⟩) hs6).trans ((C5.cell (p := ⟨w2.heap.size, 0, none⟩) hs3).trans hc0), (hb.cell (p := ⟨w2.heap.size, 1, none⟩) hs6).trans ((C5.cell (p := ⟨w2.heap.size, 1, none⟩) hs3).trans hc1)⟩,
     ⟨(hb.cell (p := ⟨w4.heap.size, 0, none⟩) hs5).trans hd0, (hb.cell (p := ⟨w4.heap.size, 1, none⟩) hs5).trans hd1⟩⟩
  have KA : Hid (∀ w', Below w5.heap.size w5 w' → DataAt w' (.agg #[.slice s1 m1 k1, .slice s2 m2 k2]) nums texts ∧ DataAt w' (.agg #[.slice t1 p1 j1, .slice t2 p2 j2]) nums texts) := fun w' hb => ⟨HDa.out.below (below2 E5 hb), HDb.out.below (below2 B5' hb)⟩
  clear hw5 hd0 hd1 hc0 hc1 HDa HDb B1 B2 B3' hb2 hb4 hs3 C5 E5 B5' hs5 hs6
  refine (row_any _ _ _ [] _ (HR.out.below B5) H60).mono ?_
  rintro e w6 ⟨hb6, v6, ps6, ds6, r6, rfl, hown6, hds6, hR6⟩
  obtain ⟨a6, cap6, rfl, hdr6⟩ := own_drow hown6 hds6
  have HD6 : Hid (DRow w6 a6 ds6.length cap6 ds6) := hdr6
  have HR6 : Hid (RowIs [] ds6 r6) := hR6
  clear hown6 hds6 hdr6 hR6
  go_wp2_with fail
  refine (refRow_any _ _ _ [] _ (HR.out.below (below2 B5 hb6)) H60).mono ?_
  rintro e w7 ⟨hb7, v7, ps7, ds7, r7, rfl, hown7, hds7, hR7⟩
  obtain ⟨rfl, rfl⟩ := rowIs_fn HR6.out hR7
  obtain ⟨a7, cap7, rfl, hdr7⟩ := own_drow hown7 hds7
  have HD7 : Hid (DRow w7 a7 ds6.length cap7 ds6) := hdr7
  have D7 : Below w5.heap.size w5 w7 := below2 hb6 hb7
  obtain ⟨⟨x0, x1⟩, x2, x3⟩ := HK.out w7 D7
  have HD6' : Hid (DRow w7 a6 ds6.length cap6 ds6) := HD6.out.below hb7
  have B7 : Below w.heap.size w w7 := below2 B5 D7
  clear hown7 hds7 hdr7 hR7 HR6 HD6 hb6 hb7
  go_wp2_with fail
  refine (refSame_any (.agg #[.slice s1 m1 k1, .slice s2 m2 k2]) (.agg #[.slice t1 p1 j1, .slice t2 p2 j2]) nums nums texts texts _ (KA.out _ D7).1 (KA.out _ D7).2).mono ?_
  rintro e w8 ⟨hb8, q8, rfl, hq8⟩
  obtain rfl : q8 = true := hq8.2 ⟨rfl, rfl⟩
  clear hq8 x0 x1 x2 x3
  go_wp2_with fail
  refine (list_any _ _ _ _ _ _ ds6 ds6 _ (HD6'.out.below hb8) (HD7.out.below hb8)).mono ?_
  rintro e w9 ⟨hb9, q9, rfl, hq9⟩
  obtain rfl : q9 = true := hq9.2 rfl
  clear hq9
  go_wp2_with fail
  refine (awake_any _).mono ?_
  rintro e w10 ⟨rfl, hb10⟩
  have BE : Below w.heap.size w w10 := below2 B7 (below3 hb8 hb9 hb10)
  clear hb8 hb9 hb10
  go_wp2
  go_ret
  exact ⟨rfl, BE⟩
end Go.Proofs.Ytgcdelgjbgjofaa
