/-
  Build of the program.
-/
import Derived.Test.YtcdlkdbnlomghaaDoorGlC
import Derived.Test.YtcdlkdbnlomghaaDoorGlZ
import Derived.Test.YtcdlkdbnlomghaaDoorBkJ
namespace Go.Proofs.YtcdlkdbnlomghaaDoor.Gl
open Go.ChangeShapes Go.WideShapes Go.ChangeAt Go.RowKit
open Go.Proofs.YtcdlkdbnlomghaaDoor.Bi
open Go.Proofs.YtcdlkdbnlomghaaDoor.Fr (RowAt cellsI cellsI_get)
open Go.Proofs.YtcdlkdbnlomghaaDoor.Bk (rT rV)
theorem may_in2 {ls : List Bk.Sm} (h : Bk.MayS ls) (n : Nat) : In2 (Bk.tell (Bk.tS ls)) (Bk.tell (Bk.vS ls)) n := fun j _ => by
  have a := Bk.may_in h j
  have b := Bk.may_in h (j - 1)
  have c := Bk.may_in h (j - 2)
  have d := Bk.may_in h 0
  have e := Bk.may_in h 1
  unfold inI Bk.tell
  constructor <;> (split <;> (try split)) <;> omega
theorem rT_flat (f g : Nat → Int) {n j : Nat} (h : j < n) : rT (Bk.flat2 f g n) j = f j ∧ rV (Bk.flat2 f g n) j = g j := Bk.flat2_get f g n j h
theorem in2_congr {T V T2 V2 : Nat → Int} {n : Nat} (h : In2 T V n) (e : ∀ j, j < n → T j = T2 j ∧ V j = V2 j) : In2 T2 V2 n := fun j hj => by rw [← (e j hj).1, ← (e j hj).2]; exact h j hj
theorem own_slice {w : World} {B E s n : Nat} {v : Value} {xs : List Value} (h : w.ownsRow B E s v n xs) (hn : 0 < n) : ∃ g c, v = .slice (some ⟨g, 0, none⟩) n c ∧ n ≤ c ∧ B ≤ g := by
  rcases h.2 with ⟨_, hz⟩ | ⟨g, c, cur, hv, hg, _, hnc, _⟩
  · omega
  · exact ⟨g, c, hv, hnc, hg⟩
set_option maxHeartbeats 1000000 in
set_option maxRecDepth 60000 in
theorem build_any (a : Option Addr) (len cap : Nat) (ls : List Bk.Sm) (w : World) (h : Bk.SmsAt w a len cap ls) (hT : Tab w) :
    Calls Tryd.prog 10 #[.slice a len cap] w fun e w' => BuildPost ls w e w' := by
  have hl : ls.length = len := h.1
  have HL := Hid.mk9 h
  have HT := Hid.mk9 hT
  have HLl := Hid.mk9 hl
  have hcap : (cap : Int) ≤ 9223372036854775807 := by have := h.2.2.1; unfold maxLen at this; omega
  have hlc : (len : Int) ≤ (cap : Int) := by have := h.2.1; omega
  have HX := Hid.mk9 (B5.new w 28 (.int .i64 0) (.int .i64 0) (.int .i64 0) (.slice none 0 0) (.int .i64 0))
  have HB := Hid.mk9 (below_alloc w (.cells #[.int .i64 0, .int .i64 0, .int .i64 0, .slice none 0 0, .int .i64 0] 28))
  clear h hT hl
  go_enter Tryd.func10, Tryd.ntmps10
  go_upto_region 1 with fail
  generalize w.alloc (.cells #[.int .i64 0, .int .i64 0, .int .i64 0, .slice none 0 0, .int .i64 0] 28) = w1 at *
  obtain ⟨X, hX⟩ : ∃ X, w.heap.size = X := ⟨_, rfl⟩
  have HXw := Hid.mk9 hX
  rw [hX] at HX ⊢
  clear hX
  have HP := Hid.mk9 (Bk.pack_any a len cap ls w1 (HL.out.below HB.out))
  by_cases hM : Bk.MayS ls
  · have HM := Hid.mk9 hM
    have HP2 : Hid (Calls Tryd.prog 31 #[.slice a len cap] w1 fun e w' => Below w1.heap.size w1 w' ∧ ∃ g c n1, e = .returned (.tuple #[.agg #[.slice (some ⟨g, 0, none⟩) n1 c, .slice none 0 0], .int .i64 0]) ∧ w'.ownsRow w1.heap.size 3 1 (.slice (some ⟨g, 0, none⟩) n1 c) n1 (cellsI (Bk.numsS ls)) ∧ n1 ≤ c ∧ n1 = 2 * ls.length + 1) := HP.out.mono (by rintro e w' ⟨h1, h2⟩; exact h2.elim (fun q => absurd HM.out q.1) (fun ⟨_, v, he, ho⟩ => by obtain ⟨g, c, rfl, hc, _⟩ := own_slice ho (by omega); exact ⟨h1, g, c, _, he, ho, hc, rfl⟩))
    clear HP hM
    go_upto_region 2 with (go_at_call 31; refine HP2.out.mono ?_; rintro e w2 ⟨hb2, g, c, n1, rfl, ho2, hnc, hn1⟩; have HN1 : Hid (n1 ≤ c ∧ n1 = 2 * ls.length + 1) := ⟨hnc, hn1⟩; have HX2 := Hid.mk9 (HX.out.below hb2); have HB2 := Hid.mk9 (below2 HB.out hb2); have HO2 := Hid.mk9 ho2; have HS2 := Hid.mk9 hb2.size; clear hb2 ho2 HX HB HP2 hnc hn1)
    have HX3 := Hid.mk9 (HX2.out.below (below_alloc w2 (.cells #[.slice (some ⟨g, 0, none⟩) n1 c, .slice none 0 0] 52)))
    have HB3 := Hid.mk9 (below2 HB2.out (below_alloc w2 (.cells #[.slice (some ⟨g, 0, none⟩) n1 c, .slice none 0 0] 52)))
    have HO3 := Hid.mk9 (own_below HO2.out (below_alloc w2 (.cells #[.slice (some ⟨g, 0, none⟩) n1 c, .slice none 0 0] 52)))
    have HD3 := Hid.mk9 (Bk.DBox.new w2 (.slice (some ⟨g, 0, none⟩) n1 c) (.slice none 0 0))
    have HXD : Hid (X < w2.heap.size) := HX2.out.lt
    clear HX2 HB2 HO2
    generalize w2.alloc (.cells #[.slice (some ⟨g, 0, none⟩) n1 c, .slice none 0 0] 52) = w3 at *
    generalize w2.heap.size = D at *
    by_cases h0 : len = 0
    · have e0 : ((len : Int) == 0) = true := by rw [beq_iff_eq]; omega
      have e1 : (len : Int) = 0 := by omega
      obtain ⟨x0, x1, x2, x3, x4⟩ := HX3.out.cells
      obtain ⟨y0, y1, y2, y3, y4⟩ := HX3.out.frz
      go_wp2_with fail
      refine bodyPost_ret (ret_5b rfl _ _ X (.int .i64 0) (.int .i64 0) (.int .i64 0) (.slice none 0 0) (.int .i64 0) (.int .i64 1) rfl rfl (HX3.out.set (.int .i64 0) (.int .i64 0) (.int .i64 0) (.slice none 0 0) (.int .i64 0))) rfl ?_
      exact ⟨set5_below HB3.out (by rw [HXw.out]; exact Nat.le_refl _) _ _ _ _ _, .inl ⟨fun h => by have := HLl.out; omega, rfl⟩⟩
    · have h1 : 0 < ls.length := by have := HLl.out; omega
      have e0 : ((len : Int) == 0) = false := by rw [beq_eq_false_iff_ne]; omega
      obtain ⟨v9, c9, hv9, hrow9, -⟩ := Fr.RowAt.of_own HO3.out
      injection hv9 with q1 q2 q3
      subst q1 q3
      have hcc := HN1.out
      have hc1 : ¬ c = 1 := by omega
      have hrow := Bk.row_tail hrow9 hc1 (by omega)
      have hn64 : len ≤ 64 := by have := HM.out.1; have := HLl.out; omega
      obtain ⟨hnc, hn1⟩ := HN1.out
      have hn1L : n1 - 1 = 2 * len := by have := HLl.out; omega
      have hd : (Bk.numsS ls).drop 1 = Bk.flat2 (Bk.tell (Bk.tS ls)) (Bk.tell (Bk.vS ls)) len := by rw [← HLl.out]; rfl
      rw [hd, Nat.zero_add] at hrow
      have HRow := Hid.mk9 hrow
      have HTe : Hid (∀ W, Below w3.heap.size w3 W → Calls Tryd.prog 32 #[.slice (some ⟨g, 1, none⟩) (n1 - 1) (c - 1)] W fun e w' => TellPost (Bk.tell (Bk.tS ls)) (Bk.tell (Bk.vS ls)) len W e w') := fun W hW => by
        refine (tell_any (some ⟨g, 1, none⟩) (n1 - 1) (c - 1) len _ W (HRow.out.below hW) hn1L hn64 (HT.out.below (below2 HB3.out hW)) (in2_congr (may_in2 HM.out len) fun j hj => ⟨(rT_flat _ _ hj).1.symm, (rT_flat _ _ hj).2.symm⟩)).mono ?_
        rintro e w' ⟨hb, a2, len2, cap2, k, l, he, ht, hr⟩
        exact ⟨hb, a2, len2, cap2, k, l, he, told_congr ht fun j hj => rT_flat _ _ hj, hr⟩
      obtain ⟨m, hm⟩ : ∃ m, m = len - 1 := ⟨_, rfl⟩
      obtain ⟨b, off, rfl, hbs, hc⟩ := HL.out.some (show 0 < len by omega)
      have h00 := (hc 0 (by omega)).1
      have hmm := (hc m (by omega)).1
      rw [Nat.zero_mul, Nat.add_zero] at h00
      have H00 := Hid.mk9 h00
      have Hmm := Hid.mk9 hmm
      have HMm := Hid.mk9 hm
      have P1 : IntKind.i64.wrap ((len : Int) - 1) = (m : Int) := by rw [IntKind.wrap_i64]; omega
      have P2 : (m : Int) < (len : Int) := by omega
      have P3 : (1 : Int) ≤ (n1 : Int) := by omega
      have HDX : Hid (D ≠ X) := by have := HXD.out; unfold Hid; omega
      have hX9 : Hid (w.heap.size ≤ X) := by rw [HXw.out]; exact Nat.le_refl _
      clear hrow9 hrow hnc hd hn1 hn1L hn64 hc h00 hmm hm hbs h1 hcc
      go_upto_region 4 with fail
      refine build_4 _ _ _ _ _ _ _ _ _ _ _ _ _ _ _ _ _ _ _ _ _ _ _ _ _ _ _ _ _ _ _ _ _ _ X D b off len cap m g n1 c _ _ (Bk.tell (Bk.tS ls)) (Bk.tell (Bk.vS ls)) w w3 _ h0 P2 P1 P3 hc1 HX3 HD3 HDX hX9 HB3 H00 Hmm HTe (fun _ _ _ _ _ _ _ _ _ _ _ _ _ _ _ _ _ _ L a2 len2 cap2 k2 wC hbC hxC hyC hC => ?_)
      go_wp2_with fail
      refine bodyPost_ret (ret_5b rfl _ _ X _ _ _ _ _ (.int .i64 0) rfl rfl hxC) rfl ?_
      exact ⟨hbC, .inr ⟨L, a2, len2, cap2, k2, ⟨HM.out, by have := HLl.out; omega, by rw [HLl.out]; exact hC.1⟩, by unfold ChV firstT lastT Bk.tS; rw [HLl.out, ← HMm.out], hyC, hC.2.1, hC.2.2.1, hC.2.2.2⟩⟩
  · have HM := Hid.mk9 hM
    have HP2 : Hid (Calls Tryd.prog 31 #[.slice a len cap] w1 fun e w' => Below w1.heap.size w1 w' ∧ e = .returned (.tuple #[Bk.noD, .int .i64 1])) := HP.out.mono (by rintro e w' ⟨h1, h2⟩; exact h2.elim (fun q => ⟨h1, q.2⟩) (fun q => absurd q.1 HM.out))
    clear HP hM
    unfold Bk.noD at HP2
    go_upto_region 2 with (go_at_call 31; refine HP2.out.mono ?_; rintro e w2 ⟨hb2, rfl⟩; have HX2 := Hid.mk9 (HX.out.below hb2); have HB2 := Hid.mk9 (below2 HB.out hb2); clear hb2 HX HB HP2)
    have HX3 := Hid.mk9 (HX2.out.below (below_alloc w2 (.cells #[.slice none 0 0, .slice none 0 0] 52)))
    have HB3 := Hid.mk9 (below2 HB2.out (below_alloc w2 (.cells #[.slice none 0 0, .slice none 0 0] 52)))
    clear HX2 HB2
    generalize w2.alloc (.cells #[.slice none 0 0, .slice none 0 0] 52) = w3 at *
    generalize w2.heap.size = D at *
    obtain ⟨x0, x1, x2, x3, x4⟩ := HX3.out.cells
    obtain ⟨y0, y1, y2, y3, y4⟩ := HX3.out.frz
    go_wp2_with fail
    refine bodyPost_ret (ret_5b rfl _ _ X (.int .i64 0) (.int .i64 0) (.int .i64 0) (.slice none 0 0) (.int .i64 0) (.int .i64 1) rfl rfl (HX3.out.set (.int .i64 0) (.int .i64 0) (.int .i64 0) (.slice none 0 0) (.int .i64 0))) rfl ?_
    exact ⟨set5_below HB3.out (by rw [HXw.out]; exact Nat.le_refl _) _ _ _ _ _, .inl ⟨fun h => HM.out h.1, rfl⟩⟩
end Go.Proofs.YtcdlkdbnlomghaaDoor.Gl
