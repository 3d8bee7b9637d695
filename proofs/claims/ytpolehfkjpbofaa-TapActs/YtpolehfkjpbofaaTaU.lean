/-
  The answer's Spread.
-/
import Derived.Test.YtpolehfkjpbofaaTaT
namespace Go.Proofs.Ytpolehfkjpbofaa.Ta
open Go.ChangeShapes Go.WideShapes Go.ChangeAt Go.RowKit
theorem spread_hit {P : List (List Int)} {R i kk : Nat} {n : Int} (hi : i < P.length) (hR : kk < R) (h1 : ∀ j, j < P.length → kk ≤ (P.getD j []).length) (h2 : ∀ j, j < i → (P.getD j []).length ≠ kk) (h3 : (P.getD i []).length = kk) :
    spreadS P R n = (P.set i (P.getD i [] ++ [n]), ((i : Nat) : Int), 0) := by
  have hm := leastS_to (cntsP P) (P.length - 1)
  rw [show P.length - 1 + 1 = P.length by omega] at hm
  have hL : LeastTo (cntsP P) P.length i := ⟨hi, fun j hj => by rw [cntsP_get P hi, cntsP_get P hj]; have := h1 j hj; omega, fun j hj => by rw [cntsP_get P hi, cntsP_get P (by omega)]; have := h1 j (by omega); have := h2 j hj; omega⟩
  have e := hm.fn hL
  unfold spreadS
  simp only [e]
  rw [if_pos (by omega)]
theorem spread_miss {P : List (List Int)} {R : Nat} {n : Int} (h0 : 0 < P.length) (h1 : ∀ j, j < P.length → R ≤ (P.getD j []).length) : spreadS P R n = (P, -1, 6) := by
  have hm := leastS_to (cntsP P) (P.length - 1)
  rw [show P.length - 1 + 1 = P.length by omega] at hm
  unfold spreadS
  simp only
  rw [if_neg (by have := h1 _ hm.1; omega)]
def RsPost (R : Int) (t : Int) (q : List (List Int) × Int × Int) (w : World) (e : Ending) (w' : World) : Prop := Below w.heap.size w w' ∧ ∃ v, e = .returned (.tuple #[v, .int .i64 q.2.1, .int .i64 q.2.2]) ∧ TpV w' v q.1 R t
set_option maxHeartbeats 4000000 in
set_option maxRecDepth 60000 in
theorem rspread_any (ra : Option Addr) (k c : Nat) (P : List (List Int)) (R t : Nat) (n : Int) (w : World) (h : RowsAt w ra k c P) (hk : k ≤ 8) (h0 : 0 < k) (hR : R ≤ 64) (hO : OkP P R) : Calls Try.prog 16 #[.agg #[.slice ra k c, .int .i64 R, .int .i64 t], .int .i64 n] w fun e w' => RsPost R t (spreadS P R n) w e w' := by
  have hlk := h.len
  obtain ⟨b, off, vs, rfl, hvs, hv⟩ := h.open h0
  have HR := Hid.mk9 h
  have HVS := Hid.mk9 hvs
  have HV := Hid.mk9 hv
  have HK : Hid (P.length = k ∧ k ≤ 8 ∧ 0 < k ∧ R ≤ 64 ∧ OkP P R) := ⟨hlk, hk, h0, hR, hO⟩
  clear h hvs hv hO hR hk h0 hlk
  have b1 := below_alloc w (.cells #[.slice (some ⟨b, off, none⟩) k c, .int .i64 R, .int .i64 t] 30)
  have b2 := below_alloc (w.alloc (.cells #[.slice (some ⟨b, off, none⟩) k c, .int .i64 R, .int .i64 t] 30)) (.cells #[.slice none 0 0, .int .i64 0, .int .i64 0] 30)
  have HB := Hid.mk9 (below2 b1 b2)
  have HX0 := Hid.mk9 ((Bx3.new w 30 (.slice (some ⟨b, off, none⟩) k c) (.int .i64 R) (.int .i64 t)).below b2)
  have hx1 := Bx3.new (w.alloc (.cells #[.slice (some ⟨b, off, none⟩) k c, .int .i64 R, .int .i64 t] 30)) 30 (.slice none 0 0) (.int .i64 0) (.int .i64 0)
  rw [show (w.alloc (.cells #[.slice (some ⟨b, off, none⟩) k c, .int .i64 R, .int .i64 t] 30)).heap.size = w.heap.size + 1 by simp] at hx1
  have HX1 := Hid.mk9 hx1
  have HQ : Hid (w.heap.size ≠ w.heap.size + 1) := ⟨by omega⟩
  have HQ0 : Hid (w.heap.size ≤ w.heap.size) := ⟨by omega⟩
  have HQ1 : Hid (w.heap.size ≤ w.heap.size + 1) := ⟨by omega⟩
  clear hx1 b1 b2
  go_enter Try.func16, Try.ntmps16
  go_upto_region 1 with fail
  generalize ((w.alloc (.cells #[.slice (some ⟨b, off, none⟩) k c, .int .i64 R, .int .i64 t] 30)).alloc (.cells #[.slice none 0 0, .int .i64 0, .int .i64 0] 30)) = wA at *
  generalize w.heap.size + 1 = q1 at *
  generalize hq : w.heap.size = q0 at HX0 HQ HQ0 HQ1 ⊢
  obtain ⟨c0, c1, c2⟩ := HX0.out.cells
  obtain ⟨f0, f1, f2⟩ := HX1.out.frz
  obtain ⟨d0, d1, d2⟩ := HX1.out.cells
  go_wp2_with fail
  go_loopw [7] (fun s wr => ∃ kk : Nat, kk ≤ R ∧ s = .int .i64 kk ∧ wr = wA ∧ Hid (∀ j, j < k → kk ≤ (P.getD j []).length)) (fun s _ => R - (intOf s).toNat)
  case atStart => exact ⟨0, Nat.zero_le _, rfl, rfl, ⟨fun _ _ => Nat.zero_le _⟩⟩
  case round =>
    obtain ⟨kk, hkk, rfl, rfl, HF⟩ := hrel
    by_cases hlt : kk < R
    · have n1 : (kk : Int) < (R : Int) := by omega
      have n2' : (kk : Int) + 1 ≤ 64 := by have := HK.out.2.2.2.1; omega
      have n3 : Hid (kk < R) := ⟨hlt⟩
      clear hlt hkk
      obtain ⟨W1, hW1⟩ : ∃ W1, W1 = wr := ⟨_, rfl⟩
      go_wp2_with fail
      go_loopw [8] (fun s wr2 => ∃ i : Nat, i ≤ k ∧ s = .int .i64 i ∧ wr2 = W1 ∧ Hid (∀ j, j < i → (P.getD j []).length ≠ kk)) (fun s _ => k - (intOf s).toNat)
      case atStart => exact ⟨0, Nat.zero_le _, rfl, hW1.symm, ⟨fun _ h => absurd h (by omega)⟩⟩
      case round =>
        subst hW1
        obtain ⟨i, hi, rfl, rfl, HG⟩ := hrel
        by_cases hlt : i < k
        · have i1 : (i : Int) < (k : Int) := by omega
          have i8 : (i : Int) + 1 ≤ 8 := by have := HK.out.2.1; omega
          obtain ⟨a2, m2, k2, e2, hr2⟩ := HV.out i hlt
          have g1 := (HVS.out.below HB.out).get e2
          have hl2 := hr2.len
          by_cases hz : m2 = kk
          · subst hz
            have hS := spread_hit (P := P) (R := R) (i := i) (kk := m2) (n := n) (by rw [HK.out.1]; exact hlt) n3.out (fun j hj => HF.out j (by rw [← HK.out.1]; exact hj)) HG.out hl2
            have HT := Hid.mk9 (rput_ok (some ⟨b, off, none⟩) k c i P R t n wr (HR.out.below HB.out) hlt HK.out.2.1 (by rw [hl2]; have := HK.out.2.2.2.1; have := n3.out; omega) (by rw [hl2]; have := n3.out; omega))
            have HN := Hid.mk9 hS
            have hlL : Hid ((P.set i (P.getD i [] ++ [n])).length = k) := ⟨by rw [List.length_set, HK.out.1]⟩
            clear hS hr2 hl2 e2 HF HG hlt hi n3
            go_upto_region 9 with (go_at_call 10; refine HT.out.mono ?_; rintro e W2 ⟨hb2, v, rfl, hT⟩; obtain ⟨ra2, c3, rfl, hR⟩ := hT.is hlL.out; clear hT HT)
            have hb3 := below_alloc W2 (.cells #[.slice ra2 k c3, .int .i64 R, .int .i64 t] 30)
            have HX3 := Hid.mk9 (Bx3.new W2 30 (.slice ra2 k c3) (.int .i64 R) (.int .i64 t))
            have HX14 := Hid.mk9 ((HX1.out.below hb2).below hb3)
            have HB4 := Hid.mk9 (below2 (below2 HB.out hb2) hb3)
            have HR4 := Hid.mk9 (hR.below hb3)
            clear c0 c1 c2 d0 d1 d2 f0 f1 f2 g1 HX0 HX1 hR hb2 hb3
            generalize W2.alloc (.cells #[.slice ra2 k c3, .int .i64 R, .int .i64 t] 30) = W4 at *
            generalize W2.heap.size = q2 at *
            obtain ⟨c0, c1, c2⟩ := HX3.out.cells
            obtain ⟨d0, d1, d2⟩ := HX14.out.cells
            obtain ⟨f0, f1, f2⟩ := HX14.out.frz
            have HX7 := Hid.mk9 (HX14.out.set (.slice ra2 k c3) (.int .i64 R) (.int .i64 t))
            have HP9 : Hid (RsPost R t (spreadS P R n) w (.returned (.tuple #[.agg #[.slice ra2 k c3, .int .i64 R, .int .i64 t], .int .i64 (i : Int), .int .i64 0])) (put3 W4 q1 (.slice ra2 k c3) (.int .i64 R) (.int .i64 t))) := ⟨put3_below HB4.out (by rw [hq]; exact HQ1.out) _ _ _, _, by rw [HN.out], ra2, c3, by rw [HN.out]; simp only [hlL.out], by rw [HN.out]; simp only [hlL.out]; exact HR4.out.kept (keep_put3 HX14.out (by decide) _ _ _) (keep_put3 HX14.out (by decide) _ _ _)⟩
            clear hq HN
            go_wp2_with fail
            refine bodyPost_ret (ret_bx3t rfl _ _ q1 (.slice ra2 k c3) (.int .i64 R) (.int .i64 t) (.int .i64 (i : Int)) (.int .i64 0) rfl rfl rfl HX7.out) rfl ?_
            exact HP9.out
          · have m0 : ¬ ((m2 : Int) = (kk : Int)) := by omega
            have HG2 : Hid (∀ j, j < i + 1 → (P.getD j []).length ≠ kk) := ⟨fun j hj => by
              rcases Nat.lt_or_ge j i with h | h
              · exact HG.out j h
              · rw [show j = i by omega]; omega⟩
            clear hz hl2 hr2 e2 hlt hi HG hq
            go_wp2_with fail
            exact ⟨⟨i + 1, by omega, by go_num, by trivial, HG2⟩, by simp [intOf]; omega⟩
        · obtain rfl : i = k := by omega
          have HF2 : Hid (∀ j, j < i → kk + 1 ≤ (P.getD j []).length) := ⟨fun j hj => by have := HF.out j hj; have := HG.out j hj; omega⟩
          clear HG HF hi hlt hq
          go_wp2_with fail
          exact ⟨⟨kk + 1, by have := n3.out; omega, by go_num, by trivial, HF2⟩, by simp [intOf]; omega⟩
    · obtain rfl : kk = R := by omega
      have hF := spread_miss (P := P) (R := kk) (n := n) (by have := HK.out; omega) (fun j hj => HF.out j (by rw [← HK.out.1]; exact hj))
      have HX2 := Hid.mk9 (HX1.out.set (.slice (some ⟨b, off, none⟩) k c) (.int .i64 kk) (.int .i64 t))
      have HP9 : Hid (RsPost kk t (spreadS P kk n) w (.returned (.tuple #[.agg #[.slice (some ⟨b, off, none⟩) k c, .int .i64 kk, .int .i64 t], .int .i64 (-1), .int .i64 6])) (put3 wr q1 (.slice (some ⟨b, off, none⟩) k c) (.int .i64 kk) (.int .i64 t))) := ⟨put3_below HB.out (by rw [hq]; exact HQ1.out) _ _ _, _, by rw [hF], some ⟨b, off, none⟩, c, by rw [hF]; simp only [HK.out.1], by rw [hF]; simp only [HK.out.1]; exact (HR.out.below HB.out).kept (keep_put3 HX1.out (by decide) _ _ _) (keep_put3 HX1.out (by decide) _ _ _)⟩
      clear hF HF hkk hlt hq
      go_wp2_with fail
      refine bodyPost_ret (ret_bx3t rfl _ _ q1 (.slice (some ⟨b, off, none⟩) k c) (.int .i64 kk) (.int .i64 t) (.int .i64 (-1)) (.int .i64 6) rfl rfl rfl HX2.out) rfl ?_
      exact HP9.out
end Go.Proofs.Ytpolehfkjpbofaa.Ta
