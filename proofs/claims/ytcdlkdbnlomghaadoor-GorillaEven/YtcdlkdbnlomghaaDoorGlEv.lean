/-
  The law GorillaEven.
-/
import Derived.Test.YtcdlkdbnlomghaaDoorGlF
import Derived.Test.YtcdlkdbnlomghaaDoorBkT
namespace Go.Proofs.YtcdlkdbnlomghaaDoor.Gl
open Go.ChangeShapes Go.WideShapes Go.ChangeAt Go.RowKit
open Go.Proofs.YtcdlkdbnlomghaaDoor.Bi
open Go.Proofs.YtcdlkdbnlomghaaDoor.Fr (RowAt cellsI cellsI_get)
open Go.Proofs.YtcdlkdbnlomghaaDoor.Bk (rT rV)
/-- samples of one value at one distance -/
def ev (x0 x1 : Int) (k : Nat) : List Bk.Sm := (List.range k).map fun j : Nat => (x0 * (1 + (j : Int)), x1)
theorem ev_length (x0 x1 : Int) (k : Nat) : (ev x0 x1 k).length = k := by simp [ev]
theorem ev_succ (x0 x1 : Int) (k : Nat) : ev x0 x1 (k + 1) = ev x0 x1 k ++ [(x0 * (1 + (k : Int)), x1)] := by
  unfold ev; rw [List.range_succ, List.map_append]; rfl
theorem ev_even (x0 x1 : Int) (k : Nat) : ev x0 x1 k = Bk.evenL x0 (x0 - 1) x1 0 k := by
  unfold ev Bk.evenL
  refine List.map_congr_left fun j _ => ?_
  have : x0 * (1 + (j : Int)) = x0 + (j : Int) * (1 + (x0 - 1)) := by
    rw [show (1 : Int) + (x0 - 1) = x0 by omega, Int.mul_add, Int.mul_one, Int.mul_comm x0 (j : Int)]
  rw [this, Int.mul_zero, Int.add_zero]
theorem ev_may {x0 x1 : Int} (h0 : 1 ≤ x0) (h1 : x0 ≤ 65535) (h2 : 0 ≤ x1) (h3 : x1 ≤ 65535) {k : Nat} (hk : k ≤ 63) : Bk.MayS (ev x0 x1 k) := by
  rw [ev_even]
  exact Bk.even_may ⟨by omega, by omega, by omega, by omega⟩ hk
theorem ev_tell (x0 x1 : Int) {k j : Nat} (hj : j < k) : Bk.tS (ev x0 x1 k) j = x0 * (1 + (j : Int)) ∧ Bk.vS (ev x0 x1 k) j = x1 := by
  unfold Bk.tS Bk.vS ev
  simp [hj]
theorem ev_still (x0 x1 : Int) {k : Nat} : ∀ j, 2 ≤ j → j < k → Bk.tell (Bk.tS (ev x0 x1 k)) j = 0 ∧ Bk.tell (Bk.vS (ev x0 x1 k)) j = 0 := fun j h2 hj => by
  refine ⟨Bk.tell_even (a := x0) (c := x0) (n := k) (fun i hi => ?_) hj h2, Bk.tell_even (a := x1) (c := 0) (n := k) (fun i hi => ?_) hj h2⟩
  · rw [(ev_tell x0 x1 hi).1, Int.mul_add, Int.mul_one, Int.mul_comm x0 (i : Int)]
  · rw [(ev_tell x0 x1 hi).2]; omega
theorem ev_cd (x0 x1 : Int) {k m j : Nat} (hk : j < k) (hm : j < m) : cd (Bk.tell (Bk.tS (ev x0 x1 k))) (Bk.tell (Bk.vS (ev x0 x1 k))) j = cd (Bk.tell (Bk.tS (ev x0 x1 m))) (Bk.tell (Bk.vS (ev x0 x1 m))) j := by
  unfold cd
  rw [Bk.tell_same (f := Bk.tS (ev x0 x1 k)) (g := Bk.tS (ev x0 x1 m)) fun i hi => by rw [(ev_tell x0 x1 (show i < k by omega)).1, (ev_tell x0 x1 (show i < m by omega)).1],
    Bk.tell_same (f := Bk.vS (ev x0 x1 k)) (g := Bk.vS (ev x0 x1 m)) fun i hi => by rw [(ev_tell x0 x1 (show i < k by omega)).2, (ev_tell x0 x1 (show i < m by omega)).2]]
theorem ev_len {x0 x1 : Int} {k : Nat} {L M : List Bool} (hk : 2 ≤ k) (h : IsCh (ev x0 x1 k) L) (g : IsCh (ev x0 x1 2) M) : L.length = M.length + 6 * ((k - 2 + 15) / 16) := by
  have h1 := h.2.2
  have g1 := g.2.2
  rw [ev_length] at h1 g1
  rw [even_len hk (ev_still x0 x1) h1, even_len (Nat.le_refl 2) (ev_still x0 x1) g1, ev_cd x0 x1 (k := k) (m := 2) (by omega) (by omega), ev_cd x0 x1 (k := k) (m := 2) (by omega) (by omega)]
  omega
theorem sms_two {w : World} {a : Option Addr} {n cp : Nat} {L : List Bk.Sm} (h : Bk.SmsAt w a n cp L) (h2 : 2 ≤ n) : Bk.SmsAt w a 2 cp (L.take 2) := by
  obtain ⟨h1, h3, h4, h5⟩ := h
  refine ⟨by rw [List.length_take]; omega, by omega, h4, ?_⟩
  rcases h5 with h5 | ⟨b, off, e, hc⟩
  · omega
  · refine .inr ⟨b, off, e, fun i hi => ?_⟩
    rw [List.getD_eq_getElem?_getD, List.getElem?_take_of_lt hi, ← List.getD_eq_getElem?_getD]
    exact hc i (by omega)
theorem ev_two (x0 x1 : Int) {k : Nat} (h : 2 ≤ k) : (ev x0 x1 k).take 2 = ev x0 x1 2 := by
  unfold ev; rw [← List.map_take, List.take_range, Nat.min_eq_left h]
def EvI (x0 x1 : Int) (w : World) (X k : Nat) (l : Value) (wr : World) : Prop := Below w.heap.size w wr ∧ B2 wr X 71 (.int .u16 x0) (.int .u16 x1) ∧ wr.ownsRow (X + 1) 46 2 l k (Bk.cellsS (ev x0 x1 k))
set_option maxHeartbeats 4000000 in
set_option maxRecDepth 60000 in
theorem even_any (x0 x1 : Int) (n : Nat) (w : World) (g0 : 0 ≤ x0) (g1 : x0 ≤ 65535) (g2 : 0 ≤ x1) (g3 : x1 ≤ 65535) (hn : n ≤ 255) (hT : Tab w) : Calls Tryd.prog 8 #[.agg #[.int .u16 x0, .int .u16 x1], .int .u8 (n : Int)] w fun e w' => e = .returned (.bool true) ∧ Below w.heap.size w w' := by
  have HT := Hid.mk9 hT
  obtain ⟨i0, hi, hz0, hz1, hz2⟩ := info_parts Bk.infoS
  obtain ⟨c, hc⟩ : ∃ c : Nat, c = n % 61 := ⟨_, rfl⟩
  have hc1 : (n : Int) % 61 = (c : Int) := by omega
  have hc2 : (c : Int) ≤ 60 := by omega
  have hn1 : (n : Int) ≤ 255 := by omega
  obtain ⟨N, hN⟩ : ∃ N : Nat, N = 3 + c := ⟨_, rfl⟩
  have hN1 : 3 + (c : Int) = (N : Int) := by omega
  have hN2 : N ≤ 63 := by omega
  have hN3 : 3 ≤ N := by omega
  have HB0 := Hid.mk9 (below_alloc w (.cells #[.int .u16 x0, .int .u16 x1] 71))
  have HX0 := Hid.mk9 (B2.new w 71 (.int .u16 x0) (.int .u16 x1))
  clear hc hn hN hT
  go_enter Tryd.func8, Tryd.ntmps8
  go_upto_region 1 with fail
  generalize w.alloc (.cells #[.int .u16 x0, .int .u16 x1] 71) = w1 at *
  obtain ⟨X, hX⟩ : ∃ X, w.heap.size = X := ⟨_, rfl⟩
  have HXw := Hid.mk9 hX
  rw [hX] at HX0 ⊢
  clear hX
  have HX1 : Hid (X + 1 ≤ w1.heap.size) := HX0.out.lt
  have HI0 : Hid (EvI x0 x1 w X 0 (.slice (some ⟨w1.heap.size, 0, none⟩) 0 0) (w1.alloc (.cells #[] 46))) := ⟨below2 HB0.out (below_alloc _ _), HX0.out.below (below_alloc _ _), own_none2 w1 _ HX1.out⟩
  go_upto_region 3 with fail
  generalize w1.alloc (.cells #[] 46) = w2 at *
  generalize (Value.slice (some ⟨w1.heap.size, 0, none⟩) 0 0) = v2 at *
  clear HX0 HB0 HX1
  go_loopw [5, 6] (fun l i wr => ∃ k : Nat, k ≤ N ∧ i = .int .i64 (k : Int) ∧ Hid (EvI x0 x1 w X k l wr)) (fun _ i _ => N - (intOf i).toNat)
  case atStart => exact ⟨0, by omega, rfl, HI0⟩
  case round =>
    clear HI0
    obtain ⟨k, hk, rfl, hP⟩ := hrel
    have HB := Hid.mk9 hP.out.1
    have HX := Hid.mk9 hP.out.2.1
    have HO := Hid.mk9 hP.out.2.2
    clear hP
    by_cases hlt : k < N
    · have hk1 : (k : Int) < (N : Int) := by omega
      have hk2 : (k : Int) ≤ 62 := by omega
      obtain ⟨z, hz⟩ : ∃ z : Int, x0 * (1 + (k : Int)) = z := ⟨_, rfl⟩
      have l1 : 0 ≤ z := by rw [← hz]; exact Int.mul_nonneg g0 (by omega)
      have l2 : z ≤ 4194240 := by
        rw [← hz]
        have a1 := Int.mul_le_mul_of_nonneg_left (show 1 + (k : Int) ≤ 64 by omega) g0
        omega
      have HS : Hid (ev x0 x1 (k + 1) = ev x0 x1 k ++ [(z, x1)]) := by rw [← hz]; exact ev_succ x0 x1 k
      obtain ⟨p0, p1⟩ := HX.out.cells
      have hXl := HX.out.lt
      go_wp2_with (at_builtin; refine wpList_append_own _ rfl (.tmp 21) (.tmp 32) 22 rfl (X + 1) 46 i0 (.agg #[.int .i64 0, .int .i64 0]) 2 16 Tryd.underlying22 hi hz0 hz1 hz2 rfl (by decide) _ _ _ rfl (own_below HO.out (below_alloc _ _)) ⟨wr.heap.size, 0, none⟩ 1 1 [.int .i64 z, .int .i64 x1] rfl rfl (Bk.cells_lit wr [.int .i64 z, .int .i64 x1] 46) (by intro u hu; simp at hu; rcases hu with rfl | rfl <;> rfl) (by unfold maxLen; omega) (by omega) (by have := HX.out.lt; simp; omega) ?_)
      intro v5 w5 hown5 hg5 _
      have HI9 : EvI x0 x1 w X (k + 1) v5 w5 := by
        have hoB := HO.out.lt
        refine ⟨(below2 HB.out (below_alloc _ _)).grown hg5 (below2 HB.out (below_alloc _ _)).size (fun j hj => by have := (hoB j hj).1; have := HXw.out; omega), ?_, ?_⟩
        · exact (HX.out.below (below_alloc wr (.cells #[.int .i64 z, .int .i64 x1] 46))).kept (hg5.block X (by have := HX.out.lt; simp; omega) (fun e => by have := (hoB X e.symm).1; omega))
        · rw [HS.out, Bk.cellsS_snoc]
          exact hown5
      clear hown5 hg5
      go_wp2_with fail
      refine ⟨⟨k + 1, by omega, by simp, HI9⟩, ?_⟩
      simp [intOf]; omega
    · obtain rfl : k = N := by omega
      obtain ⟨g, cp, rfl, hcp, _⟩ := own_slice HO.out (by omega)
      have HS := Hid.mk9 (Bk.own_sms HO.out).1
      obtain ⟨p0, p1⟩ := HX.out.cells
      have hk1 : ¬ (k : Int) < (k : Int) := by omega
      by_cases hx : x0 = 0
      · subst hx
        have HA := Hid.mk9 (awake_any wr (HT.out.below HB.out))
        go_wp2_with (go_at_call 9; refine HA.out.mono ?_; rintro e w9 ⟨rfl, hb9⟩; have HB9 := Hid.mk9 (below2 HB.out hb9); clear hb9)
        go_ret
        exact ⟨rfl, HB9.out⟩
      · have hx2 : (x0 == 0) = false := by rw [beq_eq_false_iff_ne]; exact hx
        have HMN := Hid.mk9 (ev_may (x0 := x0) (x1 := x1) (by omega) g1 g2 g3 hN2)
        have HM2 := Hid.mk9 (ev_may (x0 := x0) (x1 := x1) (k := 2) (by omega) g1 g2 g3 (by omega))
        have HBu := Hid.mk9 (build_yes HS.out (HT.out.below HB.out) HMN.out (by rw [ev_length]; omega))
        have hS2 := sms_two HS.out (show 2 ≤ k by omega)
        rw [ev_two x0 x1 (show 2 ≤ k by omega)] at hS2
        have HS2 := Hid.mk9 hS2
        have q1 : (2 : Int) ≤ (cp : Int) := by omega
        obtain ⟨ru, hru⟩ : ∃ ru, ru = (k - 2 + 15) / 16 := ⟨_, rfl⟩
        have r1 : ((k : Int) - 2 + 15) / 16 = (ru : Int) := by omega
        have r2 : Int.tdiv ((k : Int) - 2 + 15) 16 = (ru : Int) := by rw [Int.tdiv_eq_ediv_of_nonneg (by omega)]; exact r1
        have r3 : (ru : Int) ≤ 10 := by omega
        have HRu := Hid.mk9 hru
        have HLn : Hid ((ev x0 x1 k).length = k ∧ (ev x0 x1 2).length = 2) := ⟨ev_length _ _ _, ev_length _ _ _⟩
        have hk63 : (k : Int) ≤ 63 := by omega
        have hk3 : (3 : Int) ≤ (k : Int) := by omega
        clear hS2 hru HO HX
        go_upto_region 9 with (go_at_call 10; refine HBu.out.mono ?_; rintro e w5 ⟨hb5, L5, a5, len5, cap5, k5, hC5, rfl, hby5, hl5, hk5, h95⟩; have HC5 : Hid (IsCh (ev x0 x1 k) L5 ∧ k5 = L5.length ∧ (k5 : Int) ≤ 9000) := ⟨hC5, hk5, h95⟩; have HB5 := Hid.mk9 (below2 HB.out hb5); have HS5 := Hid.mk9 (HS2.out.below hb5); clear hb5 hC5 hl5 hk5 h95 hby5 HB HS HBu HS2 p0 p1)
        have HB6 := Hid.mk9 (below2 HB5.out (below_alloc w5 (.cells #[.int .i64 ((ev x0 x1 k).length : Int), .int .i64 (firstT (ev x0 x1 k)), .int .i64 (lastT (ev x0 x1 k)), .slice a5 len5 cap5, .int .i64 (k5 : Int)] 28)))
        have HS6 := Hid.mk9 (HS5.out.below (below_alloc w5 (.cells #[.int .i64 ((ev x0 x1 k).length : Int), .int .i64 (firstT (ev x0 x1 k)), .int .i64 (lastT (ev x0 x1 k)), .slice a5 len5 cap5, .int .i64 (k5 : Int)] 28)))
        have HX6 := Hid.mk9 (B5.new w5 28 (.int .i64 ((ev x0 x1 k).length : Int)) (.int .i64 (firstT (ev x0 x1 k))) (.int .i64 (lastT (ev x0 x1 k))) (.slice a5 len5 cap5) (.int .i64 (k5 : Int)))
        clear HB5 HS5
        generalize w5.alloc (.cells #[.int .i64 ((ev x0 x1 k).length : Int), .int .i64 (firstT (ev x0 x1 k)), .int .i64 (lastT (ev x0 x1 k)), .slice a5 len5 cap5, .int .i64 (k5 : Int)] 28) = w6 at *
        generalize w5.heap.size = Y6 at *
        have HBu2 := Hid.mk9 (build_yes HS6.out (HT.out.below HB6.out) HM2.out (by rw [ev_length]; omega))
        go_upto_region 10 with (go_at_call 10; refine HBu2.out.mono ?_; rintro e w7 ⟨hb7, L7, a7, len7, cap7, k7, hC7, rfl, hby7, hl7, hk7, h97⟩; have HC7 : Hid (IsCh (ev x0 x1 2) L7 ∧ k7 = L7.length ∧ (k7 : Int) ≤ 9000) := ⟨hC7, hk7, h97⟩; have HB7 := Hid.mk9 (below2 HB6.out hb7); have HX7 := Hid.mk9 (HX6.out.below hb7); clear hb7 hC7 hl7 hk7 h97 hby7 HB6 HS6 HX6 HBu2)
        have HB8 := Hid.mk9 (below2 HB7.out (below_alloc w7 (.cells #[.int .i64 ((ev x0 x1 2).length : Int), .int .i64 (firstT (ev x0 x1 2)), .int .i64 (lastT (ev x0 x1 2)), .slice a7 len7 cap7, .int .i64 (k7 : Int)] 28)))
        have HX8 := Hid.mk9 (HX7.out.below (below_alloc w7 (.cells #[.int .i64 ((ev x0 x1 2).length : Int), .int .i64 (firstT (ev x0 x1 2)), .int .i64 (lastT (ev x0 x1 2)), .slice a7 len7 cap7, .int .i64 (k7 : Int)] 28)))
        have HY8 := Hid.mk9 (B5.new w7 28 (.int .i64 ((ev x0 x1 2).length : Int)) (.int .i64 (firstT (ev x0 x1 2))) (.int .i64 (lastT (ev x0 x1 2))) (.slice a7 len7 cap7) (.int .i64 (k7 : Int)))
        clear HB7 HX7
        generalize w7.alloc (.cells #[.int .i64 ((ev x0 x1 2).length : Int), .int .i64 (firstT (ev x0 x1 2)), .int .i64 (lastT (ev x0 x1 2)), .slice a7 len7 cap7, .int .i64 (k7 : Int)] 28) = w8 at *
        generalize w7.heap.size = Y8 at *
        have hsum : k5 = k7 + 6 * ru := by rw [HC5.out.2.1, HC7.out.2.1, HRu.out]; exact ev_len (by omega) HC5.out.1 HC7.out.1
        have s1 : (k7 : Int) + 6 * (ru : Int) = (k5 : Int) := by omega
        have s2 : (k7 : Int) ≤ 9000 := HC7.out.2.2
        have s3 : (k5 : Int) ≤ 9000 := HC5.out.2.2
        clear hsum
        obtain ⟨x0', x1', x2', x3', x4'⟩ := HX8.out.cells
        obtain ⟨y0', y1', y2', y3', y4'⟩ := HY8.out.cells
        have HA := Hid.mk9 (awake_any w8 (HT.out.below HB8.out))
        go_wp2_with (go_at_call 9; refine HA.out.mono ?_; rintro e w9 ⟨rfl, hb9⟩; have HB9 := Hid.mk9 (below2 HB8.out hb9); clear hb9)
        go_ret
        exact ⟨rfl, HB9.out⟩
end Go.Proofs.YtcdlkdbnlomghaaDoor.Gl
