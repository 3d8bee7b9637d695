/-
  The law BitsFull.
-/
import Derived.Test.YtjdgcbdpeooogaaDoorBiX
namespace Go.Proofs.YtjdgcbdpeooogaaDoor.Bi
open Go.ChangeShapes Go.WideShapes Go.ChangeAt Go.RowKit
theorem pack_zero (n M : Nat) : pack (List.replicate n false) M = List.replicate M 0 := by
  refine (pack_ext (by simp) fun j hj => ?_).symm
  have : byteOf (List.replicate n false) j = 0 := val_zero fun i _ => by
    unfold bt
    have h : (List.replicate n false).getD (8 * j + i) false = false := by
      simp only [List.getD_eq_getElem?_getD, List.getElem?_replicate]
      split <;> rfl
    rw [h]
    rfl
  rw [this]
  simp [hj]
theorem pack_byte (u : Nat) (h : u < 256) : pack (low u 8) 1 = [u] := by
  have h1 : byteOf (low u 8) 0 = u := by
    have := valL_low u 8
    unfold valL at this
    rw [low_len] at this
    unfold byteOf
    rw [Nat.mul_zero, this]
    exact Nat.mod_eq_of_lt h
  show [byteOf (low u 8) 0] = [u]
  rw [h1]
/-- what is told where there may be too many -/
def FullPost (n er : Nat) (w : World) (e : Ending) (w' : World) : Prop := Below w.heap.size w w' ∧ ∃ (a : Option Addr) (len cap N : Nat), e = .returned (.tuple #[.agg #[.slice a len cap, .int .i64 (N : Int)], .int .i64 (er : Int)]) ∧ (er = 6 → N = n)
theorem full_of {l : List Bool} {n : Nat} {er : Nat} {w w' : World} {e : Ending} (h : BitsPost l (er : Int) w e w') (hn : er = 6 → l.length = n) : FullPost n er w e w' := by
  obtain ⟨hb, a, len, cap, he, _⟩ := h
  exact ⟨hb, a, len, cap, l.length, he, hn⟩
theorem put_full (a : Option Addr) (len cap n u er : Nat) (w : World) (h : ByAt w a len cap (pack (List.replicate n false) len)) (hl : len = need n) (hN : n ≤ 131072) (hu : u < 256) (her : n + 8 ≤ 131072 ∧ er = 0 ∨ ¬ n + 8 ≤ 131072 ∧ er = 6) :
    Calls Tryd.prog 10 #[.agg #[.slice a len cap, .int .i64 (n : Int)], .int .u64 u, .int .i64 8] w fun e w' => FullPost n er w e w' := by
  have hu0 : u / 2 ^ 8 = 0 := by omega
  rcases her with ⟨h1, rfl⟩ | ⟨h1, rfl⟩
  · exact (put_yes a len cap n 8 u (List.replicate n false) w h (by simp) hl (by decide) hu0 h1).mono fun e w' hp => full_of hp (by simp)
  · exact (put_back a len cap n 8 u (List.replicate n false) 6 w h (by simp) hl hN (.inr (.inr ⟨by decide, hu0, by omega, rfl⟩))).mono fun e w' hp => full_of (er := 6) hp (by simp)
theorem number_full (a : Option Addr) (len cap n er : Nat) (v : Int) (w : World) (h : ByAt w a len cap (pack (List.replicate n false) len)) (hl : len = need n) (hN : n ≤ 131072) (hv : inI v) (hT : Tab w) (her : n + szT (clsU (foldN v)) ≤ 131072 ∧ er = 0 ∨ ¬ n + szT (clsU (foldN v)) ≤ 131072 ∧ er = 6) :
    Calls Tryd.prog 11 #[.agg #[.slice a len cap, .int .i64 (n : Int)], .int .i64 v] w fun e w' => FullPost n er w e w' := by
  rcases her with ⟨h1, rfl⟩ | ⟨h1, rfl⟩
  · exact (number_yes a len cap n v (List.replicate n false) w h (by simp) hl hv hT h1).mono fun e w' hp => full_of hp (by simp)
  · exact (number_back a len cap n v (List.replicate n false) w h (by simp) hl hN hv hT h1).mono fun e w' hp => full_of (er := 6) hp (by simp)
theorem join_full (a a2 : Option Addr) (len cap cap2 n u er : Nat) (w : World) (h : ByAt w a len cap (pack (List.replicate n false) len)) (hl : len = need n) (hN : n ≤ 131072) (h2 : ByAt w a2 1 cap2 (pack (low u 8) 1)) (hlt : ∀ p, a2 = some p → p.block < w.heap.size) (her : n + 8 ≤ 131072 ∧ er = 0 ∨ ¬ n + 8 ≤ 131072 ∧ er = 6) :
    Calls Tryd.prog 12 #[.agg #[.slice a len cap, .int .i64 (n : Int)], .agg #[.slice a2 (1 : Nat) cap2, .int .i64 8]] w fun e w' => FullPost n er w e w' := by
  rcases her with ⟨h1, rfl⟩ | ⟨h1, rfl⟩
  · exact (join_yes a a2 len cap 1 cap2 n 8 (List.replicate n false) (low u 8) w h (by simp) hl hN h2 (low_len _ _) rfl (by decide) hlt h1).mono fun e w' hp => full_of hp (by simp)
  · exact (join_back a a2 len cap 1 cap2 n 8 (List.replicate n false) (low u 8) w h (by simp) hl hN h2 (low_len _ _) rfl (by decide) h1).mono fun e w' hp => full_of (er := 6) hp (by simp)
set_option maxHeartbeats 1000000 in
set_option maxRecDepth 60000 in
theorem full_any (a0 a1 : Int) (w : World) (h0 : (Lit.int .u8 a0).wf = true) (h1 : (Lit.int .u8 a1).wf = true) (hT : Tab w) : Calls Tryd.prog 6 #[.int .u8 a0, .int .u8 a1] w fun e w' => e = .returned (.bool true) ∧ Below w.heap.size w w' := by
  have g0 : 0 ≤ a0 ∧ a0 ≤ 255 := by simpa [Lit.wf, IntKind.min, IntKind.max, IntKind.bits, IntKind.signed] using h0
  have g1 : 0 ≤ a1 ∧ a1 ≤ 255 := by simpa [Lit.wf, IntKind.min, IntKind.max, IntKind.bits, IntKind.signed] using h1
  obtain ⟨less, rfl⟩ : ∃ x : Nat, a0 = x := ⟨a0.toNat, by omega⟩
  obtain ⟨u, rfl⟩ : ∃ x : Nat, a1 = x := ⟨a1.toNat, by omega⟩
  have HT := Hid.mk9 hT
  obtain ⟨r, hr⟩ : ∃ r, r = less % 80 := ⟨_, rfl⟩
  obtain ⟨n, hn⟩ : ∃ n, n = 131072 - r := ⟨_, rfl⟩
  obtain ⟨M, hM⟩ : ∃ M, M = need n := ⟨_, rfl⟩
  obtain ⟨q, hq⟩ : ∃ q, q = n + 7 := ⟨_, rfl⟩
  have e0 : (less : Int) % 80 = (r : Int) := by omega
  have e1 : 131072 - (r : Int) = (n : Int) := by omega
  have e2 : (n : Int) + 7 = (q : Int) := by omega
  have e3 : (q : Int) / 8 = (M : Int) := by rw [hM]; unfold need; omega
  have e4 : (r : Int) ≤ 79 := by omega
  have e5 : (n : Int) ≤ 131072 := by omega
  have e6 : (q : Int) ≤ 200000 := by omega
  have e7 : (M : Int) ≤ 100000 := by rw [hM]; unfold need; omega
  have e8 : (u : Int) ≤ 255 := g1.2
  have HI : Hid (inI (u : Int)) := by unfold Hid inI; omega
  obtain ⟨sz, hsz⟩ : ∃ sz, szT (clsU (foldN (u : Int))) = sz := ⟨_, rfl⟩
  have hs9 : (sz : Int) ≤ 100 := by
    rw [← hsz]
    unfold szT
    have h1 := hdT_small (clsU_lt (foldN (u : Int)))
    have h2 := wdT_small (clsU_lt (foldN (u : Int)))
    omega
  have HSZ := Hid.mk9 hsz
  have HNM : Hid (M = need n ∧ n ≤ 131072 ∧ u < 256) := ⟨hM, by omega, by omega⟩
  have HSi : Hid (∀ W, Below w.heap.size w W → Calls Tryd.prog 19 #[.int .i64 (u : Int)] W fun e w' => e = .returned (.int .i64 (sz : Int)) ∧ Grown W w') := fun W hb => by
    have := Size_any (u : Int) HI.out W (HT.out.below hb)
    rwa [HSZ.out] at this
  have hmk := makeB M (by omega) w
  have HB1 := Hid.mk9 (below_alloc w (.cells (bytV (List.replicate M 0)).toArray 5))
  have HG1 := Hid.mk9 (Ro.new w 5 (bytV (List.replicate M 0)))
  clear h0 h1 g0 g1 hT hr hn hM hq hsz
  generalize w.alloc (.cells (bytV (List.replicate M 0)).toArray 5) = w1 at *
  obtain ⟨G, hG⟩ : ∃ G, G = w.heap.size := ⟨_, rfl⟩
  rw [← hG] at HG1 hmk
  have HGl : Hid (w.heap.size ≤ G) := by rw [hG]; exact Nat.le_refl _
  clear hG
  go_enter Tryd.func6, Tryd.ntmps6
  go_upto_region 3 with fail
  have HX2 := Hid.mk9 (B2.new w1 24 (.slice (some ⟨G, 0, none⟩) M M) (.int .i64 (n : Int)))
  have HB2 := Hid.mk9 (below2 HB1.out (below_alloc w1 (.cells #[.slice (some ⟨G, 0, none⟩) M M, .int .i64 (n : Int)] 24)))
  have HG2 := Hid.mk9 (HG1.out.below (below_alloc w1 (.cells #[.slice (some ⟨G, 0, none⟩) M M, .int .i64 (n : Int)] 24)))
  clear HB1 HG1 hmk
  generalize w1.alloc (.cells #[.slice (some ⟨G, 0, none⟩) M M, .int .i64 (n : Int)] 24) = w2 at *
  generalize w1.heap.size = X at *
  have HR2 : Hid (ByAt w2 (some ⟨G, 0, none⟩) M M (pack (List.replicate n false) M)) := by
    have h9 := HG2.out.bytes (by have := HNM.out.1; simp; unfold need maxLen at *; omega) (by intro b hb; rw [List.eq_of_mem_replicate hb]; decide)
    rw [List.length_replicate] at h9
    unfold Hid
    rw [pack_zero]
    exact h9
  have HGs : Hid (G < w2.heap.size) := HG2.out.lt
  clear HG2
  have HE : Hid (∀ er1 er2 : Nat, (n + 8 ≤ 131072 ∧ er1 = 0 ∨ ¬ n + 8 ≤ 131072 ∧ er1 = 6) → (n + sz ≤ 131072 ∧ er2 = 0 ∨ ¬ n + sz ≤ 131072 ∧ er2 = 6) → True) := fun _ _ _ _ => trivial
  clear HE
  by_cases hA : n + 8 ≤ 131072
  rotate_left
  all_goals by_cases hC : n + sz ≤ 131072
  · have HAC : Hid ((¬ n + 8 ≤ 131072) ∧ (n + sz ≤ 131072)) := ⟨hA, hC⟩
    obtain ⟨m8, hm8⟩ : ∃ m, m = n + 8 := ⟨_, rfl⟩
    obtain ⟨ms, hms⟩ : ∃ m, m = n + sz := ⟨_, rfl⟩
    have i1 : (n : Int) + 8 = (m8 : Int) := by omega
    have i2 : (n : Int) + (sz : Int) = (ms : Int) := by omega
    have i3 : decide ((m8 : Int) ≤ 131072) = false := decide_eq_false (by omega)
    have i4 : decide ((ms : Int) ≤ 131072) = true := decide_eq_true (by omega)
    have i5 : (m8 : Int) ≤ 200000 := by omega
    have i6 : (ms : Int) ≤ 200000 := by omega
    clear hm8 hms
    clear hA hC
    obtain ⟨p0, p1⟩ := HX2.out.cells
    go_upto_region 4 with (go_at_call 10; refine (put_full _ _ _ n u 6 _ HR2.out HNM.out.1 HNM.out.2.1 HNM.out.2.2 (.inr ⟨HAC.out.1, rfl⟩)).mono ?_; rintro e u3 ⟨hb3, a3, l3, c3, N3, rfl, hn3⟩; have HN3 := Hid.mk9 hn3; have HB3 := Hid.mk9 hb3; clear hn3 hb3)
    have HB4 := Hid.mk9 (below2 HB3.out (below_alloc u3 (.cells #[.slice a3 l3 c3, .int .i64 (N3 : Int)] 24)))
    have HY4 := Hid.mk9 (B2.new u3 24 (.slice a3 l3 c3) (.int .i64 (N3 : Int)))
    have HX4 := Hid.mk9 (HX2.out.below HB4.out)
    have HR4 := Hid.mk9 (HR2.out.below HB4.out)
    clear HB3 p0 p1
    generalize u3.alloc (.cells #[.slice a3 l3 c3, .int .i64 (N3 : Int)] 24) = w4 at *
    generalize u3.heap.size = Y at *
    have HW4 := Hid.mk9 (below2 HB2.out HB4.out)
    obtain ⟨p0, p1⟩ := HX4.out.cells
    go_upto_region 5 with (go_at_call 11; refine (number_full _ _ _ n 0 (u : Int) _ HR4.out HNM.out.1 HNM.out.2.1 HI.out (HT.out.below HW4.out) (by rw [HSZ.out]; exact .inl ⟨HAC.out.2, rfl⟩)).mono ?_; rintro e u5 ⟨hb5, a5, l5, c5, N5, rfl, hn5⟩; have HN5 := Hid.mk9 hn5; have HB5 := Hid.mk9 hb5; clear hn5 hb5)
    have HB6 := Hid.mk9 (below2 HB5.out (below_alloc u5 (.cells #[.slice a5 l5 c5, .int .i64 (N5 : Int)] 24)))
    have HZ6 := Hid.mk9 (B2.new u5 24 (.slice a5 l5 c5) (.int .i64 (N5 : Int)))
    have HX6 := Hid.mk9 (HX4.out.below HB6.out)
    have HY6 := Hid.mk9 (HY4.out.below HB6.out)
    have HR6 := Hid.mk9 (HR4.out.below HB6.out)
    clear HB5 p0 p1
    generalize u5.alloc (.cells #[.slice a5 l5 c5, .int .i64 (N5 : Int)] 24) = w6 at *
    generalize u5.heap.size = Z at *
    have HW6 := Hid.mk9 (below2 HW4.out HB6.out)
    go_upto_region 6 with (go_at_call 19; refine (HSi.out _ HW6.out).mono ?_; rintro e w7 ⟨rfl, hg7⟩; have HB7 := Hid.mk9 (grown_below hg7); clear hg7)
    have HX7 := Hid.mk9 (HX6.out.below HB7.out)
    have HY7 := Hid.mk9 (HY6.out.below HB7.out)
    have HZ7 := Hid.mk9 (HZ6.out.below HB7.out)
    have HR7 := Hid.mk9 (HR6.out.below HB7.out)
    have HW7 := Hid.mk9 (below2 HW6.out HB7.out)
    have HG7 : Hid (G < w7.heap.size) := Nat.lt_of_lt_of_le HGs.out (below2 HB4.out (below2 HB6.out HB7.out)).size
    clear HX6 HY6 HZ6 HR6 HB7 HX4 HY4 HR4 HX2 HR2
    obtain ⟨p0, p1⟩ := HX7.out.cells
    obtain ⟨y0, y1⟩ := HY7.out.cells
    obtain ⟨z0, z1⟩ := HZ7.out.cells
    have m3 : N3 = n := by have := HN3.out; simpa using this
    subst m3
    go_upto_region 8 with fail
    have HU8 := Hid.mk9 (Ro.new w7 5 (bytV [u]))
    have HB8 := Hid.mk9 (below_alloc w7 (.cells (bytV [u]).toArray 5))
    have HR8 := Hid.mk9 (HR7.out.below HB8.out)
    have HW8 := Hid.mk9 (below2 HW7.out HB8.out)
    have HV8 : Hid (ByAt (w7.alloc (.cells (bytV [u]).toArray 5)) (some ⟨w7.heap.size, 0, none⟩) 1 1 (pack (low u 8) 1)) := by
      rw [pack_byte u HNM.out.2.2]
      exact HU8.out.bytes (by unfold maxLen; simp) (by intro b hb; rw [List.mem_singleton.1 hb]; exact HNM.out.2.2)
    have HLt8 : Hid (∀ p, (some ⟨w7.heap.size, 0, none⟩ : Option Addr) = some p → p.block < (w7.alloc (.cells (bytV [u]).toArray 5)).heap.size) := fun p hp => by injection hp with hp; rw [← hp]; exact HU8.out.lt
    have HX8 := Hid.mk9 (HX7.out.below HB8.out)
    go_upto_region 9 with (go_at_call 12; refine (join_full _ _ _ _ _ N3 u 6 _ HR8.out HNM.out.1 HNM.out.2.1 HV8.out HLt8.out (.inr ⟨HAC.out.1, rfl⟩)).mono ?_; rintro e u9 ⟨hb9, a9, l9, c9, N9, rfl, hn9⟩; have HN9 := Hid.mk9 hn9; have HB9 := Hid.mk9 hb9; clear hn9 hb9)
    have HB9 := Hid.mk9 (below2 (below2 HW8.out HB9.out) (below_alloc u9 (.cells #[.slice a9 l9 c9, .int .i64 (N9 : Int)] 24)))
    go_wp2_with (go_at_call 9; refine (awake_any _ (HT.out.below HB9.out)).mono ?_; rintro e w10 ⟨rfl, hb10⟩; have HB10 := Hid.mk9 (below2 HB9.out hb10); clear hb10)
    go_ret
    exact ⟨rfl, HB10.out⟩
  · have HAC : Hid ((¬ n + 8 ≤ 131072) ∧ (¬ n + sz ≤ 131072)) := ⟨hA, hC⟩
    obtain ⟨m8, hm8⟩ : ∃ m, m = n + 8 := ⟨_, rfl⟩
    obtain ⟨ms, hms⟩ : ∃ m, m = n + sz := ⟨_, rfl⟩
    have i1 : (n : Int) + 8 = (m8 : Int) := by omega
    have i2 : (n : Int) + (sz : Int) = (ms : Int) := by omega
    have i3 : decide ((m8 : Int) ≤ 131072) = false := decide_eq_false (by omega)
    have i4 : decide ((ms : Int) ≤ 131072) = false := decide_eq_false (by omega)
    have i5 : (m8 : Int) ≤ 200000 := by omega
    have i6 : (ms : Int) ≤ 200000 := by omega
    clear hm8 hms
    clear hA hC
    obtain ⟨p0, p1⟩ := HX2.out.cells
    go_upto_region 4 with (go_at_call 10; refine (put_full _ _ _ n u 6 _ HR2.out HNM.out.1 HNM.out.2.1 HNM.out.2.2 (.inr ⟨HAC.out.1, rfl⟩)).mono ?_; rintro e u3 ⟨hb3, a3, l3, c3, N3, rfl, hn3⟩; have HN3 := Hid.mk9 hn3; have HB3 := Hid.mk9 hb3; clear hn3 hb3)
    have HB4 := Hid.mk9 (below2 HB3.out (below_alloc u3 (.cells #[.slice a3 l3 c3, .int .i64 (N3 : Int)] 24)))
    have HY4 := Hid.mk9 (B2.new u3 24 (.slice a3 l3 c3) (.int .i64 (N3 : Int)))
    have HX4 := Hid.mk9 (HX2.out.below HB4.out)
    have HR4 := Hid.mk9 (HR2.out.below HB4.out)
    clear HB3 p0 p1
    generalize u3.alloc (.cells #[.slice a3 l3 c3, .int .i64 (N3 : Int)] 24) = w4 at *
    generalize u3.heap.size = Y at *
    have HW4 := Hid.mk9 (below2 HB2.out HB4.out)
    obtain ⟨p0, p1⟩ := HX4.out.cells
    go_upto_region 5 with (go_at_call 11; refine (number_full _ _ _ n 6 (u : Int) _ HR4.out HNM.out.1 HNM.out.2.1 HI.out (HT.out.below HW4.out) (by rw [HSZ.out]; exact .inr ⟨HAC.out.2, rfl⟩)).mono ?_; rintro e u5 ⟨hb5, a5, l5, c5, N5, rfl, hn5⟩; have HN5 := Hid.mk9 hn5; have HB5 := Hid.mk9 hb5; clear hn5 hb5)
    have HB6 := Hid.mk9 (below2 HB5.out (below_alloc u5 (.cells #[.slice a5 l5 c5, .int .i64 (N5 : Int)] 24)))
    have HZ6 := Hid.mk9 (B2.new u5 24 (.slice a5 l5 c5) (.int .i64 (N5 : Int)))
    have HX6 := Hid.mk9 (HX4.out.below HB6.out)
    have HY6 := Hid.mk9 (HY4.out.below HB6.out)
    have HR6 := Hid.mk9 (HR4.out.below HB6.out)
    clear HB5 p0 p1
    generalize u5.alloc (.cells #[.slice a5 l5 c5, .int .i64 (N5 : Int)] 24) = w6 at *
    generalize u5.heap.size = Z at *
    have HW6 := Hid.mk9 (below2 HW4.out HB6.out)
    go_upto_region 6 with (go_at_call 19; refine (HSi.out _ HW6.out).mono ?_; rintro e w7 ⟨rfl, hg7⟩; have HB7 := Hid.mk9 (grown_below hg7); clear hg7)
    have HX7 := Hid.mk9 (HX6.out.below HB7.out)
    have HY7 := Hid.mk9 (HY6.out.below HB7.out)
    have HZ7 := Hid.mk9 (HZ6.out.below HB7.out)
    have HR7 := Hid.mk9 (HR6.out.below HB7.out)
    have HW7 := Hid.mk9 (below2 HW6.out HB7.out)
    have HG7 : Hid (G < w7.heap.size) := Nat.lt_of_lt_of_le HGs.out (below2 HB4.out (below2 HB6.out HB7.out)).size
    clear HX6 HY6 HZ6 HR6 HB7 HX4 HY4 HR4 HX2 HR2
    obtain ⟨p0, p1⟩ := HX7.out.cells
    obtain ⟨y0, y1⟩ := HY7.out.cells
    obtain ⟨z0, z1⟩ := HZ7.out.cells
    have m3 : N3 = n := by have := HN3.out; simpa using this
    subst m3
    have m5 : N5 = N3 := by have := HN5.out; simpa using this
    subst m5
    go_upto_region 8 with fail
    have HU8 := Hid.mk9 (Ro.new w7 5 (bytV [u]))
    have HB8 := Hid.mk9 (below_alloc w7 (.cells (bytV [u]).toArray 5))
    have HR8 := Hid.mk9 (HR7.out.below HB8.out)
    have HW8 := Hid.mk9 (below2 HW7.out HB8.out)
    have HV8 : Hid (ByAt (w7.alloc (.cells (bytV [u]).toArray 5)) (some ⟨w7.heap.size, 0, none⟩) 1 1 (pack (low u 8) 1)) := by
      rw [pack_byte u HNM.out.2.2]
      exact HU8.out.bytes (by unfold maxLen; simp) (by intro b hb; rw [List.mem_singleton.1 hb]; exact HNM.out.2.2)
    have HLt8 : Hid (∀ p, (some ⟨w7.heap.size, 0, none⟩ : Option Addr) = some p → p.block < (w7.alloc (.cells (bytV [u]).toArray 5)).heap.size) := fun p hp => by injection hp with hp; rw [← hp]; exact HU8.out.lt
    have HX8 := Hid.mk9 (HX7.out.below HB8.out)
    go_upto_region 9 with (go_at_call 12; refine (join_full _ _ _ _ _ N5 u 6 _ HR8.out HNM.out.1 HNM.out.2.1 HV8.out HLt8.out (.inr ⟨HAC.out.1, rfl⟩)).mono ?_; rintro e u9 ⟨hb9, a9, l9, c9, N9, rfl, hn9⟩; have HN9 := Hid.mk9 hn9; have HB9 := Hid.mk9 hb9; clear hn9 hb9)
    have HB9 := Hid.mk9 (below2 (below2 HW8.out HB9.out) (below_alloc u9 (.cells #[.slice a9 l9 c9, .int .i64 (N9 : Int)] 24)))
    go_wp2_with (go_at_call 9; refine (awake_any _ (HT.out.below HB9.out)).mono ?_; rintro e w10 ⟨rfl, hb10⟩; have HB10 := Hid.mk9 (below2 HB9.out hb10); clear hb10)
    go_ret
    exact ⟨rfl, HB10.out⟩
  · have HAC : Hid ((n + 8 ≤ 131072) ∧ (n + sz ≤ 131072)) := ⟨hA, hC⟩
    obtain ⟨m8, hm8⟩ : ∃ m, m = n + 8 := ⟨_, rfl⟩
    obtain ⟨ms, hms⟩ : ∃ m, m = n + sz := ⟨_, rfl⟩
    have i1 : (n : Int) + 8 = (m8 : Int) := by omega
    have i2 : (n : Int) + (sz : Int) = (ms : Int) := by omega
    have i3 : decide ((m8 : Int) ≤ 131072) = true := decide_eq_true (by omega)
    have i4 : decide ((ms : Int) ≤ 131072) = true := decide_eq_true (by omega)
    have i5 : (m8 : Int) ≤ 200000 := by omega
    have i6 : (ms : Int) ≤ 200000 := by omega
    clear hm8 hms
    clear hA hC
    obtain ⟨p0, p1⟩ := HX2.out.cells
    go_upto_region 4 with (go_at_call 10; refine (put_full _ _ _ n u 0 _ HR2.out HNM.out.1 HNM.out.2.1 HNM.out.2.2 (.inl ⟨HAC.out.1, rfl⟩)).mono ?_; rintro e u3 ⟨hb3, a3, l3, c3, N3, rfl, hn3⟩; have HN3 := Hid.mk9 hn3; have HB3 := Hid.mk9 hb3; clear hn3 hb3)
    have HB4 := Hid.mk9 (below2 HB3.out (below_alloc u3 (.cells #[.slice a3 l3 c3, .int .i64 (N3 : Int)] 24)))
    have HY4 := Hid.mk9 (B2.new u3 24 (.slice a3 l3 c3) (.int .i64 (N3 : Int)))
    have HX4 := Hid.mk9 (HX2.out.below HB4.out)
    have HR4 := Hid.mk9 (HR2.out.below HB4.out)
    clear HB3 p0 p1
    generalize u3.alloc (.cells #[.slice a3 l3 c3, .int .i64 (N3 : Int)] 24) = w4 at *
    generalize u3.heap.size = Y at *
    have HW4 := Hid.mk9 (below2 HB2.out HB4.out)
    obtain ⟨p0, p1⟩ := HX4.out.cells
    go_upto_region 5 with (go_at_call 11; refine (number_full _ _ _ n 0 (u : Int) _ HR4.out HNM.out.1 HNM.out.2.1 HI.out (HT.out.below HW4.out) (by rw [HSZ.out]; exact .inl ⟨HAC.out.2, rfl⟩)).mono ?_; rintro e u5 ⟨hb5, a5, l5, c5, N5, rfl, hn5⟩; have HN5 := Hid.mk9 hn5; have HB5 := Hid.mk9 hb5; clear hn5 hb5)
    have HB6 := Hid.mk9 (below2 HB5.out (below_alloc u5 (.cells #[.slice a5 l5 c5, .int .i64 (N5 : Int)] 24)))
    have HZ6 := Hid.mk9 (B2.new u5 24 (.slice a5 l5 c5) (.int .i64 (N5 : Int)))
    have HX6 := Hid.mk9 (HX4.out.below HB6.out)
    have HY6 := Hid.mk9 (HY4.out.below HB6.out)
    have HR6 := Hid.mk9 (HR4.out.below HB6.out)
    clear HB5 p0 p1
    generalize u5.alloc (.cells #[.slice a5 l5 c5, .int .i64 (N5 : Int)] 24) = w6 at *
    generalize u5.heap.size = Z at *
    have HW6 := Hid.mk9 (below2 HW4.out HB6.out)
    go_upto_region 6 with (go_at_call 19; refine (HSi.out _ HW6.out).mono ?_; rintro e w7 ⟨rfl, hg7⟩; have HB7 := Hid.mk9 (grown_below hg7); clear hg7)
    have HX7 := Hid.mk9 (HX6.out.below HB7.out)
    have HY7 := Hid.mk9 (HY6.out.below HB7.out)
    have HZ7 := Hid.mk9 (HZ6.out.below HB7.out)
    have HR7 := Hid.mk9 (HR6.out.below HB7.out)
    have HW7 := Hid.mk9 (below2 HW6.out HB7.out)
    have HG7 : Hid (G < w7.heap.size) := Nat.lt_of_lt_of_le HGs.out (below2 HB4.out (below2 HB6.out HB7.out)).size
    clear HX6 HY6 HZ6 HR6 HB7 HX4 HY4 HR4 HX2 HR2
    obtain ⟨p0, p1⟩ := HX7.out.cells
    obtain ⟨y0, y1⟩ := HY7.out.cells
    obtain ⟨z0, z1⟩ := HZ7.out.cells
    go_upto_region 8 with fail
    have HU8 := Hid.mk9 (Ro.new w7 5 (bytV [u]))
    have HB8 := Hid.mk9 (below_alloc w7 (.cells (bytV [u]).toArray 5))
    have HR8 := Hid.mk9 (HR7.out.below HB8.out)
    have HW8 := Hid.mk9 (below2 HW7.out HB8.out)
    have HV8 : Hid (ByAt (w7.alloc (.cells (bytV [u]).toArray 5)) (some ⟨w7.heap.size, 0, none⟩) 1 1 (pack (low u 8) 1)) := by
      rw [pack_byte u HNM.out.2.2]
      exact HU8.out.bytes (by unfold maxLen; simp) (by intro b hb; rw [List.mem_singleton.1 hb]; exact HNM.out.2.2)
    have HLt8 : Hid (∀ p, (some ⟨w7.heap.size, 0, none⟩ : Option Addr) = some p → p.block < (w7.alloc (.cells (bytV [u]).toArray 5)).heap.size) := fun p hp => by injection hp with hp; rw [← hp]; exact HU8.out.lt
    have HX8 := Hid.mk9 (HX7.out.below HB8.out)
    go_upto_region 9 with (go_at_call 12; refine (join_full _ _ _ _ _ n u 0 _ HR8.out HNM.out.1 HNM.out.2.1 HV8.out HLt8.out (.inl ⟨HAC.out.1, rfl⟩)).mono ?_; rintro e u9 ⟨hb9, a9, l9, c9, N9, rfl, hn9⟩; have HN9 := Hid.mk9 hn9; have HB9 := Hid.mk9 hb9; clear hn9 hb9)
    have HB9 := Hid.mk9 (below2 (below2 HW8.out HB9.out) (below_alloc u9 (.cells #[.slice a9 l9 c9, .int .i64 (N9 : Int)] 24)))
    go_wp2_with (go_at_call 9; refine (awake_any _ (HT.out.below HB9.out)).mono ?_; rintro e w10 ⟨rfl, hb10⟩; have HB10 := Hid.mk9 (below2 HB9.out hb10); clear hb10)
    go_ret
    exact ⟨rfl, HB10.out⟩
  · have HAC : Hid ((n + 8 ≤ 131072) ∧ (¬ n + sz ≤ 131072)) := ⟨hA, hC⟩
    obtain ⟨m8, hm8⟩ : ∃ m, m = n + 8 := ⟨_, rfl⟩
    obtain ⟨ms, hms⟩ : ∃ m, m = n + sz := ⟨_, rfl⟩
    have i1 : (n : Int) + 8 = (m8 : Int) := by omega
    have i2 : (n : Int) + (sz : Int) = (ms : Int) := by omega
    have i3 : decide ((m8 : Int) ≤ 131072) = true := decide_eq_true (by omega)
    have i4 : decide ((ms : Int) ≤ 131072) = false := decide_eq_false (by omega)
    have i5 : (m8 : Int) ≤ 200000 := by omega
    have i6 : (ms : Int) ≤ 200000 := by omega
    clear hm8 hms
    clear hA hC
    obtain ⟨p0, p1⟩ := HX2.out.cells
    go_upto_region 4 with (go_at_call 10; refine (put_full _ _ _ n u 0 _ HR2.out HNM.out.1 HNM.out.2.1 HNM.out.2.2 (.inl ⟨HAC.out.1, rfl⟩)).mono ?_; rintro e u3 ⟨hb3, a3, l3, c3, N3, rfl, hn3⟩; have HN3 := Hid.mk9 hn3; have HB3 := Hid.mk9 hb3; clear hn3 hb3)
    have HB4 := Hid.mk9 (below2 HB3.out (below_alloc u3 (.cells #[.slice a3 l3 c3, .int .i64 (N3 : Int)] 24)))
    have HY4 := Hid.mk9 (B2.new u3 24 (.slice a3 l3 c3) (.int .i64 (N3 : Int)))
    have HX4 := Hid.mk9 (HX2.out.below HB4.out)
    have HR4 := Hid.mk9 (HR2.out.below HB4.out)
    clear HB3 p0 p1
    generalize u3.alloc (.cells #[.slice a3 l3 c3, .int .i64 (N3 : Int)] 24) = w4 at *
    generalize u3.heap.size = Y at *
    have HW4 := Hid.mk9 (below2 HB2.out HB4.out)
    obtain ⟨p0, p1⟩ := HX4.out.cells
    go_upto_region 5 with (go_at_call 11; refine (number_full _ _ _ n 6 (u : Int) _ HR4.out HNM.out.1 HNM.out.2.1 HI.out (HT.out.below HW4.out) (by rw [HSZ.out]; exact .inr ⟨HAC.out.2, rfl⟩)).mono ?_; rintro e u5 ⟨hb5, a5, l5, c5, N5, rfl, hn5⟩; have HN5 := Hid.mk9 hn5; have HB5 := Hid.mk9 hb5; clear hn5 hb5)
    have HB6 := Hid.mk9 (below2 HB5.out (below_alloc u5 (.cells #[.slice a5 l5 c5, .int .i64 (N5 : Int)] 24)))
    have HZ6 := Hid.mk9 (B2.new u5 24 (.slice a5 l5 c5) (.int .i64 (N5 : Int)))
    have HX6 := Hid.mk9 (HX4.out.below HB6.out)
    have HY6 := Hid.mk9 (HY4.out.below HB6.out)
    have HR6 := Hid.mk9 (HR4.out.below HB6.out)
    clear HB5 p0 p1
    generalize u5.alloc (.cells #[.slice a5 l5 c5, .int .i64 (N5 : Int)] 24) = w6 at *
    generalize u5.heap.size = Z at *
    have HW6 := Hid.mk9 (below2 HW4.out HB6.out)
    go_upto_region 6 with (go_at_call 19; refine (HSi.out _ HW6.out).mono ?_; rintro e w7 ⟨rfl, hg7⟩; have HB7 := Hid.mk9 (grown_below hg7); clear hg7)
    have HX7 := Hid.mk9 (HX6.out.below HB7.out)
    have HY7 := Hid.mk9 (HY6.out.below HB7.out)
    have HZ7 := Hid.mk9 (HZ6.out.below HB7.out)
    have HR7 := Hid.mk9 (HR6.out.below HB7.out)
    have HW7 := Hid.mk9 (below2 HW6.out HB7.out)
    have HG7 : Hid (G < w7.heap.size) := Nat.lt_of_lt_of_le HGs.out (below2 HB4.out (below2 HB6.out HB7.out)).size
    clear HX6 HY6 HZ6 HR6 HB7 HX4 HY4 HR4 HX2 HR2
    obtain ⟨p0, p1⟩ := HX7.out.cells
    obtain ⟨y0, y1⟩ := HY7.out.cells
    obtain ⟨z0, z1⟩ := HZ7.out.cells
    have m5 : N5 = n := by have := HN5.out; simpa using this
    subst m5
    go_upto_region 8 with fail
    have HU8 := Hid.mk9 (Ro.new w7 5 (bytV [u]))
    have HB8 := Hid.mk9 (below_alloc w7 (.cells (bytV [u]).toArray 5))
    have HR8 := Hid.mk9 (HR7.out.below HB8.out)
    have HW8 := Hid.mk9 (below2 HW7.out HB8.out)
    have HV8 : Hid (ByAt (w7.alloc (.cells (bytV [u]).toArray 5)) (some ⟨w7.heap.size, 0, none⟩) 1 1 (pack (low u 8) 1)) := by
      rw [pack_byte u HNM.out.2.2]
      exact HU8.out.bytes (by unfold maxLen; simp) (by intro b hb; rw [List.mem_singleton.1 hb]; exact HNM.out.2.2)
    have HLt8 : Hid (∀ p, (some ⟨w7.heap.size, 0, none⟩ : Option Addr) = some p → p.block < (w7.alloc (.cells (bytV [u]).toArray 5)).heap.size) := fun p hp => by injection hp with hp; rw [← hp]; exact HU8.out.lt
    have HX8 := Hid.mk9 (HX7.out.below HB8.out)
    go_upto_region 9 with (go_at_call 12; refine (join_full _ _ _ _ _ N5 u 0 _ HR8.out HNM.out.1 HNM.out.2.1 HV8.out HLt8.out (.inl ⟨HAC.out.1, rfl⟩)).mono ?_; rintro e u9 ⟨hb9, a9, l9, c9, N9, rfl, hn9⟩; have HN9 := Hid.mk9 hn9; have HB9 := Hid.mk9 hb9; clear hn9 hb9)
    have HB9 := Hid.mk9 (below2 (below2 HW8.out HB9.out) (below_alloc u9 (.cells #[.slice a9 l9 c9, .int .i64 (N9 : Int)] 24)))
    go_wp2_with (go_at_call 9; refine (awake_any _ (HT.out.below HB9.out)).mono ?_; rintro e w10 ⟨rfl, hb10⟩; have HB10 := Hid.mk9 (below2 HB9.out hb10); clear hb10)
    go_ret
    exact ⟨rfl, HB10.out⟩
end Go.Proofs.YtjdgcbdpeooogaaDoor.Bi
