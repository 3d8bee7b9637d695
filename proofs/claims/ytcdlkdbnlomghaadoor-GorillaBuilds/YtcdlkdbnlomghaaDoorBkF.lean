/-
  The contract of the answer's Nums: samples' numbers.
-/
import Derived.Test.YtcdlkdbnlomghaaDoorBkE
namespace Go.Proofs.YtcdlkdbnlomghaaDoor.Bk
open Go.ChangeShapes Go.WideShapes Go.ChangeAt Go.RowKit
open Go.Proofs.YtcdlkdbnlomghaaDoor.Fr
def NumsPost (ls : List Sm) (w : World) (e : Ending) (w' : World) : Prop :=
  Below w.heap.size w w' ∧ ∃ v, e = .returned v ∧ w'.ownsRow w.heap.size 3 1 v (2 * ls.length + 1) (cellsI (numsS ls))
theorem iw {x y : Int} (h : x = y) (h1 : -9223372036854775808 ≤ y) (h2 : y < 9223372036854775808) : IntKind.i64.wrap x = y := by
  subst h; simp [IntKind.wrap, IntKind.bits, IntKind.signed]; omega
/-- in the midst of Nums: so many are told -/
def NumIn (ls : List Sm) (w : World) (k : Nat) (v : Value) (wr : World) : Prop :=
  Below w.heap.size w wr ∧ wr.ownsRow w.heap.size 3 1 v (2 * k + 1) (cellsI (numsK ls k))
set_option maxHeartbeats 2000000 in
set_option maxRecDepth 60000 in
theorem refNums_any (a : Option Addr) (len cap : Nat) (ls : List Sm) (w : World) (h : SmsAt w a len cap ls) (hM : MayS ls) :
    Calls Tryd.prog 60 #[.slice a len cap] w fun e w' => NumsPost ls w e w' := by
  have hl : ls.length = len := h.1
  have HL : Hid (SmsAt w a len cap ls) := h
  have h64 : len ≤ 64 := by have := hM.1; omega
  have HM : Hid (MayS ls) := hM
  clear hM h
  obtain ⟨i0, hi, hz0, hz1, hz2⟩ := info_parts infoI
  go_enter Tryd.func60, Tryd.ntmps60
  go_wp2_with fail
  have HS0 : Hid (NumIn ls w 0 (.slice (some ⟨w.heap.size, 0, none⟩) 1 1) (w.alloc (.cells #[.int .i64 (len : Int)] 3))) := by
    refine ⟨below_alloc _ _, ?_⟩
    rw [numsK_zero, hl]
    exact World.ownsRow_lit (base := w.heap.size) (e := 3) (size := 1) w #[.int .i64 (len : Int)] 1 (Nat.le_refl _) (by unfold maxLen; omega) rfl
  go_loopw [3, 4] (fun v i wr => ∃ k : Nat, k ≤ len ∧ i = .int .i64 k ∧ Hid (NumIn ls w k v wr)) (fun _ i _ => len - (intOf i).toNat)
  case atStart => exact ⟨0, Nat.zero_le _, rfl, HS0⟩
  case round =>
    clear HS0
    obtain ⟨k, hk, rfl, hP⟩ := hrel
    obtain ⟨hbel, hown⟩ := hP.out
    clear hP
    obtain ⟨g, cp, rfl, hg0, hg1, -⟩ := own_form hown (by omega)
    by_cases hlt : k < len
    · obtain ⟨b, off, rfl, hbs, hcell⟩ := (HL.out.below hbel).some (by omega)
      have HC : Hid (∀ i, i < len → wr.cell? ⟨b, off + i * 2, none⟩ = some (.int .i64 (tS ls i)) ∧ wr.cell? ⟨b, off + i * 2 + 1, none⟩ = some (.int .i64 (vS ls i))) := hcell
      clear hcell
      have it := fun i => (show -1099511627776 ≤ tS ls i ∧ tS ls i ≤ 1099511627776 from ⟨(may_in HM.out i).1, (may_in HM.out i).2.1⟩)
      have iv := fun i => (show -1099511627776 ≤ vS ls i ∧ vS ls i ≤ 1099511627776 from ⟨(may_in HM.out i).2.2.1, (may_in HM.out i).2.2.2⟩)
      have HF : Hid (∀ v' wC, Below w.heap.size w wC → wC.ownsRow w.heap.size 3 1 v' (2 * k + 1 + 2) (cellsI (numsK ls k) ++ [.int .i64 (tell (tS ls) k), .int .i64 (tell (vS ls) k)]) → NumIn ls w (k + 1) v' wC) := by
        intro v' wC q1 q2
        refine ⟨q1, ?_⟩
        rw [numsK_succ, cellsI_append]
        exact q2
      have e0 := (HC.out k hlt).1
      have e1 := (HC.out k hlt).2
      have hk1 : (k : Int) < (len : Int) := by omega
      have hk0 : (0 : Int) ≤ (k : Int) := by omega
      have HB := Hid.mk9 hbel
      have HO := Hid.mk9 hown
      clear hown hbel
      obtain ⟨m9, hm9⟩ : ∃ m9 : Nat, Hid (2 * k + 1 = m9) := ⟨_, Hid.mk9 rfl⟩
      have hm8 : (m9 : Int) ≤ 200 := by have := hm9.out; omega
      rw [hm9.out] at HF HO ⊢
      by_cases hk9 : k = 0
      · have T1 : tell (tS ls) k = tS ls k := by subst hk9; rfl
        have T2 : tell (vS ls) k = vS ls k := by subst hk9; rfl
        rw [T1, T2] at HF
        clear T1 T2 it iv HC
        generalize tS ls k = x at *
        generalize vS ls k = y at *
        have d1 : decide (0 < k) = false := by simp; omega
        have d2 : decide (1 < k) = false := by simp; omega
        have d3 : (k : Int) ≤ 0 := by omega
        have d4 : (k : Int) ≤ 1 := by omega
        clear hk9
        go_wp2_with fail
        have x0 := cell_grown (w := wr) (a := ⟨b, off + k * 2, none⟩) hbs e0
        have x1 := cell_grown (w := wr) (a := ⟨b, off + k * 2 + 1, none⟩) hbs e1
        refine wp_region_QW mixed5 (by kernel_rfl) ?_
        repeat (refine QW_step (fun K hK => ?_); go_simp; first | (refine hK _ ?_; clear hK K) | (apply Exists.intro; refine ⟨fun _ => ?_, hK _ ?_⟩; fail; clear hK K))
        refine QW_nil ?_
        intro _ hw9
        obtain ⟨⟨nq, osq⟩, hw8⟩ := hw9
        subst hw8
        have bG := below_grow wr nq osq
        have hbs' := hbs
        replace hbs : b < (Go.Sort.grow (wr.drewN nq) osq).heap.size := Nat.lt_of_lt_of_le hbs' bG.size
        replace e0 := (bG.cell (p := ⟨b, off + k * 2, none⟩) hbs').trans e0
        replace e1 := (bG.cell (p := ⟨b, off + k * 2 + 1, none⟩) hbs').trans e1
        replace HO := Hid.mk9 (own_below HO.out bG)
        replace HB := Hid.mk9 (HB.out.trans (bG.mono HB.out.size))
        clear bG hbs' x0 x1
        generalize Go.Sort.grow (wr.drewN nq) osq = w2 at *
        go_wp2_with (at_builtin; refine wpList_append_own _ rfl (.tmp 76) (.tmp 79) 49 rfl w.heap.size 3 i0 (.int .i64 0) 1 8 Tryd.underlying49 hi hz0 hz1 hz2 rfl (by decide) _ _ _ rfl (own_below HO.out (below_alloc _ _)) ⟨w2.heap.size, 0, none⟩ 2 2 [.int .i64 x, .int .i64 y] rfl rfl (cells_lit w2 [.int .i64 x, .int .i64 y] 3) (by intro u hu; simp at hu; rcases hu with rfl | rfl <;> rfl) (by unfold maxLen; omega) (by omega) (by have := HB.out.size; simp; omega) ?_)
        intro v5 w5 hown5 hg5 _
        have HE : Hid (NumIn ls w (k + 1) v5 w5) := HF.out _ _ ((HB.out.alloc HB.out.size _).grown hg5 (by have := HB.out.size; simp; omega) (by intro k hk; simp [Value.ownBlock] at hk; omega)) hown5
        clear hown5 hg5 HO HB
        go_wp2_with fail
        exact ⟨⟨k + 1, by omega, by go_num, HE⟩, by simp [intOf]; omega⟩
      obtain ⟨m, hm⟩ : ∃ m, k = m + 1 := ⟨k - 1, by omega⟩
      have e2 := (HC.out m (by omega)).1
      have e3 := (HC.out m (by omega)).2
      have M1 : (k : Int) - 1 = (m : Int) := by omega
      have M2 : IntKind.i64.wrap ((k : Int) - 1) = (m : Int) := iw M1 (by omega) (by omega)
      have M5 : IntKind.i64.wrap (m : Int) = (m : Int) := iw rfl (by omega) (by omega)
      have M3 : (0 : Int) ≤ (m : Int) := by omega
      have M4 : (m : Int) < (len : Int) := by omega
      have d1 : decide (0 < k) = true := by simp; omega
      have d3 : (0 : Int) < (k : Int) := by omega
      by_cases hk8 : m = 0
      · have T1 : tell (tS ls) k = tS ls k - tS ls m := by subst hk8; rw [hm]; rfl
        have T2 : tell (vS ls) k = vS ls k - vS ls m := by subst hk8; rw [hm]; rfl
        rw [T1, T2] at HF
        have i1 := it k
        have i2 := it m
        have i3 := iv k
        have i4 := iv m
        clear T1 T2 it iv HC
        generalize tS ls k = x at *
        generalize vS ls k = y at *
        generalize tS ls m = x' at *
        generalize vS ls m = y' at *
        have d2 : decide (1 < k) = false := by simp; omega
        have d4 : (k : Int) ≤ 1 := by omega
        clear hk8 hk9 hm
        go_wp2_with fail
        have x0 := cell_grown (w := wr) (a := ⟨b, off + k * 2, none⟩) hbs e0
        have x1 := cell_grown (w := wr) (a := ⟨b, off + k * 2 + 1, none⟩) hbs e1
        refine wp_region_QW mixed5 (by kernel_rfl) ?_
        repeat (refine QW_step (fun K hK => ?_); go_simp; first | (refine hK _ ?_; clear hK K) | (apply Exists.intro; refine ⟨fun _ => ?_, hK _ ?_⟩; fail; clear hK K))
        refine QW_nil ?_
        intro _ hw9
        obtain ⟨⟨nq, osq⟩, hw8⟩ := hw9
        subst hw8
        have bG := below_grow wr nq osq
        have hbs' := hbs
        replace hbs : b < (Go.Sort.grow (wr.drewN nq) osq).heap.size := Nat.lt_of_lt_of_le hbs' bG.size
        replace e0 := (bG.cell (p := ⟨b, off + k * 2, none⟩) hbs').trans e0
        replace e1 := (bG.cell (p := ⟨b, off + k * 2 + 1, none⟩) hbs').trans e1
        replace e2 := (bG.cell (p := ⟨b, off + m * 2, none⟩) hbs').trans e2
        replace e3 := (bG.cell (p := ⟨b, off + m * 2 + 1, none⟩) hbs').trans e3
        replace HO := Hid.mk9 (own_below HO.out bG)
        replace HB := Hid.mk9 (HB.out.trans (bG.mono HB.out.size))
        clear bG hbs' x0 x1
        generalize Go.Sort.grow (wr.drewN nq) osq = w2 at *
        go_wp2_with (at_builtin; refine wpList_append_own _ rfl (.tmp 76) (.tmp 79) 49 rfl w.heap.size 3 i0 (.int .i64 0) 1 8 Tryd.underlying49 hi hz0 hz1 hz2 rfl (by decide) _ _ _ rfl (own_below HO.out (below_alloc _ _)) ⟨w2.heap.size, 0, none⟩ 2 2 [.int .i64 (x - x'), .int .i64 (y - y')] rfl rfl (cells_lit w2 [.int .i64 (x - x'), .int .i64 (y - y')] 3) (by intro u hu; simp at hu; rcases hu with rfl | rfl <;> rfl) (by unfold maxLen; omega) (by omega) (by have := HB.out.size; simp; omega) ?_)
        intro v5 w5 hown5 hg5 _
        have HE : Hid (NumIn ls w (k + 1) v5 w5) := HF.out _ _ ((HB.out.alloc HB.out.size _).grown hg5 (by have := HB.out.size; simp; omega) (by intro k hk; simp [Value.ownBlock] at hk; omega)) hown5
        clear hown5 hg5 HO HB
        go_wp2_with fail
        exact ⟨⟨k + 1, by omega, by go_num, HE⟩, by simp [intOf]; omega⟩
      · obtain ⟨q, hq⟩ : ∃ q, m = q + 1 := ⟨m - 1, by omega⟩
        have T1 : tell (tS ls) k = tS ls k - tS ls m - (tS ls m - tS ls q) := by
          unfold tell; rw [if_neg (by omega), if_neg (by omega), show k - 1 = m from by omega, show k - 2 = q from by omega]; omega
        have T2 : tell (vS ls) k = vS ls k - vS ls m - (vS ls m - vS ls q) := by
          unfold tell; rw [if_neg (by omega), if_neg (by omega), show k - 1 = m from by omega, show k - 2 = q from by omega]; omega
        rw [T1, T2] at HF
        have e4 := (HC.out q (by omega)).1
        have e5 := (HC.out q (by omega)).2
        have N1 : (k : Int) - 2 = (q : Int) := by omega
        have N2 : IntKind.i64.wrap ((k : Int) - 2) = (q : Int) := iw N1 (by omega) (by omega)
        have N5 : IntKind.i64.wrap (q : Int) = (q : Int) := iw rfl (by omega) (by omega)
        have N3 : (0 : Int) ≤ (q : Int) := by omega
        have N4 : (q : Int) < (len : Int) := by omega
        have i1 := it k
        have i2 := it m
        have i3 := iv k
        have i4 := iv m
        have i5 := it q
        have i6 := iv q
        clear T1 T2 it iv HC
        generalize tS ls k = x at *
        generalize vS ls k = y at *
        generalize tS ls m = x' at *
        generalize vS ls m = y' at *
        generalize tS ls q = x'' at *
        generalize vS ls q = y'' at *
        have j1 : IntKind.i64.wrap (x' - x'') = x' - x'' := iw rfl (by omega) (by omega)
        have j2 : IntKind.i64.wrap (x - x' - (x' - x'')) = x - x' - (x' - x'') := iw rfl (by omega) (by omega)
        have j3 : IntKind.i64.wrap (y' - y'') = y' - y'' := iw rfl (by omega) (by omega)
        have j4 : IntKind.i64.wrap (y - y' - (y' - y'')) = y - y' - (y' - y'') := iw rfl (by omega) (by omega)
        have d2 : decide (1 < k) = true := by simp; omega
        have d4 : (1 : Int) < (k : Int) := by omega
        clear hk8 hk9 hm hq
        go_wp2_with fail
        have x0 := cell_grown (w := wr) (a := ⟨b, off + k * 2, none⟩) hbs e0
        have x1 := cell_grown (w := wr) (a := ⟨b, off + k * 2 + 1, none⟩) hbs e1
        refine wp_region_QW mixed5 (by kernel_rfl) ?_
        repeat (refine QW_step (fun K hK => ?_); go_simp; first | (refine hK _ ?_; clear hK K) | (apply Exists.intro; refine ⟨fun _ => ?_, hK _ ?_⟩; fail; clear hK K))
        refine QW_nil ?_
        intro _ hw9
        obtain ⟨⟨nq, osq⟩, hw8⟩ := hw9
        subst hw8
        have bG := below_grow wr nq osq
        have hbs' := hbs
        replace hbs : b < (Go.Sort.grow (wr.drewN nq) osq).heap.size := Nat.lt_of_lt_of_le hbs' bG.size
        replace e0 := (bG.cell (p := ⟨b, off + k * 2, none⟩) hbs').trans e0
        replace e1 := (bG.cell (p := ⟨b, off + k * 2 + 1, none⟩) hbs').trans e1
        replace e2 := (bG.cell (p := ⟨b, off + m * 2, none⟩) hbs').trans e2
        replace e3 := (bG.cell (p := ⟨b, off + m * 2 + 1, none⟩) hbs').trans e3
        replace e4 := (bG.cell (p := ⟨b, off + q * 2, none⟩) hbs').trans e4
        replace e5 := (bG.cell (p := ⟨b, off + q * 2 + 1, none⟩) hbs').trans e5
        replace HO := Hid.mk9 (own_below HO.out bG)
        replace HB := Hid.mk9 (HB.out.trans (bG.mono HB.out.size))
        clear bG hbs' x0 x1
        generalize Go.Sort.grow (wr.drewN nq) osq = w2 at *
        go_wp2_with fail
        have x0 := cell_grown (w := w2) (a := ⟨b, off + m * 2, none⟩) hbs e2
        have x1 := cell_grown (w := w2) (a := ⟨b, off + q * 2, none⟩) hbs e4
        refine wp_region_QW mixed5 (by kernel_rfl) ?_
        repeat (refine QW_step (fun K hK => ?_); go_simp; first | (refine hK _ ?_; clear hK K) | (apply Exists.intro; refine ⟨fun _ => ?_, hK _ ?_⟩; fail; clear hK K))
        refine QW_nil ?_
        intro _ hw9
        obtain ⟨⟨nq, osq⟩, hw8⟩ := hw9
        subst hw8
        have bG := below_grow w2 nq osq
        have hbs' := hbs
        replace hbs : b < (Go.Sort.grow (w2.drewN nq) osq).heap.size := Nat.lt_of_lt_of_le hbs' bG.size
        replace e0 := (bG.cell (p := ⟨b, off + k * 2, none⟩) hbs').trans e0
        replace e1 := (bG.cell (p := ⟨b, off + k * 2 + 1, none⟩) hbs').trans e1
        replace e2 := (bG.cell (p := ⟨b, off + m * 2, none⟩) hbs').trans e2
        replace e3 := (bG.cell (p := ⟨b, off + m * 2 + 1, none⟩) hbs').trans e3
        replace e4 := (bG.cell (p := ⟨b, off + q * 2, none⟩) hbs').trans e4
        replace e5 := (bG.cell (p := ⟨b, off + q * 2 + 1, none⟩) hbs').trans e5
        replace HO := Hid.mk9 (own_below HO.out bG)
        replace HB := Hid.mk9 (HB.out.trans (bG.mono HB.out.size))
        clear bG hbs' x0 x1
        generalize Go.Sort.grow (w2.drewN nq) osq = w3 at *
        go_wp2_with fail
        have x0 := cell_grown (w := w3) (a := ⟨b, off + m * 2 + 1, none⟩) hbs e3
        have x1 := cell_grown (w := w3) (a := ⟨b, off + q * 2 + 1, none⟩) hbs e5
        refine wp_region_QW mixed5 (by kernel_rfl) ?_
        repeat (refine QW_step (fun K hK => ?_); go_simp; first | (refine hK _ ?_; clear hK K) | (apply Exists.intro; refine ⟨fun _ => ?_, hK _ ?_⟩; fail; clear hK K))
        refine QW_nil ?_
        intro _ hw9
        obtain ⟨⟨nq, osq⟩, hw8⟩ := hw9
        subst hw8
        have bG := below_grow w3 nq osq
        have hbs' := hbs
        replace hbs : b < (Go.Sort.grow (w3.drewN nq) osq).heap.size := Nat.lt_of_lt_of_le hbs' bG.size
        replace e0 := (bG.cell (p := ⟨b, off + k * 2, none⟩) hbs').trans e0
        replace e1 := (bG.cell (p := ⟨b, off + k * 2 + 1, none⟩) hbs').trans e1
        replace e2 := (bG.cell (p := ⟨b, off + m * 2, none⟩) hbs').trans e2
        replace e3 := (bG.cell (p := ⟨b, off + m * 2 + 1, none⟩) hbs').trans e3
        replace e4 := (bG.cell (p := ⟨b, off + q * 2, none⟩) hbs').trans e4
        replace e5 := (bG.cell (p := ⟨b, off + q * 2 + 1, none⟩) hbs').trans e5
        replace HO := Hid.mk9 (own_below HO.out bG)
        replace HB := Hid.mk9 (HB.out.trans (bG.mono HB.out.size))
        clear bG hbs' x0 x1
        generalize Go.Sort.grow (w3.drewN nq) osq = w4 at *
        go_wp2_with (at_builtin; refine wpList_append_own _ rfl (.tmp 76) (.tmp 79) 49 rfl w.heap.size 3 i0 (.int .i64 0) 1 8 Tryd.underlying49 hi hz0 hz1 hz2 rfl (by decide) _ _ _ rfl (own_below HO.out (below_alloc _ _)) ⟨w4.heap.size, 0, none⟩ 2 2 [.int .i64 (x - x' - (x' - x'')), .int .i64 (y - y' - (y' - y''))] rfl rfl (cells_lit w4 [.int .i64 (x - x' - (x' - x'')), .int .i64 (y - y' - (y' - y''))] 3) (by intro u hu; simp at hu; rcases hu with rfl | rfl <;> rfl) (by unfold maxLen; omega) (by omega) (by have := HB.out.size; simp; omega) ?_)
        intro v5 w5 hown5 hg5 _
        have HE : Hid (NumIn ls w (k + 1) v5 w5) := HF.out _ _ ((HB.out.alloc HB.out.size _).grown hg5 (by have := HB.out.size; simp; omega) (by intro k hk; simp [Value.ownBlock] at hk; omega)) hown5
        clear hown5 hg5 HO HB
        go_wp2_with fail
        exact ⟨⟨k + 1, by omega, by go_num, HE⟩, by simp [intOf]; omega⟩
    · obtain rfl : k = len := by omega
      have HE : Hid (NumsPost ls w (.returned (.slice (some ⟨g, 0, none⟩) (2 * k + 1) cp)) wr) := ⟨hbel, _, rfl, by unfold numsS; rw [hl]; exact hown⟩
      clear hown hbel
      generalize 2 * k + 1 = m9 at *
      go_wp2_with fail
      go_ret
      exact HE.out
end Go.Proofs.YtcdlkdbnlomghaaDoor.Bk
