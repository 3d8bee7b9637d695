/-
  The contracts of the answer's Put and Take.
-/
import Derived.Test.YtpolehfkjpbofaaTaQ
import Derived.Test.YtpolehfkjpbofaaTaH
namespace Go.Proofs.Ytpolehfkjpbofaa.Ta
open Go.ChangeShapes Go.WideShapes Go.ChangeAt Go.RowKit
/-- what the answer's Put tells -/
def RpPost (P : List (List Int)) (R t : Int) (x : Int) (w : World) (e : Ending) (w' : World) : Prop := Below w.heap.size w w' ∧ ∃ v, e = .returned (.tuple #[v, .int .i64 x]) ∧ TpV w' v P R t
def RtPost (P : List (List Int)) (R t : Int) (x y : Int) (w : World) (e : Ending) (w' : World) : Prop := Below w.heap.size w w' ∧ ∃ v, e = .returned (.tuple #[v, .int .i64 x, .int .i64 y]) ∧ TpV w' v P R t
theorem RowsAt.open {w : World} {ra : Option Addr} {k c : Nat} {P : List (List Int)} (h : RowsAt w ra k c P) (hk : 0 < k) : ∃ b off vs, ra = some ⟨b, off, none⟩ ∧ VsAt 44 w (some ⟨b, off, none⟩) k c vs ∧ ∀ i, i < k → ∃ a' n' c', vs[i]? = some (.slice a' n' c') ∧ RowI w a' n' c' (P.getD i []) := by
  have hl := h.len
  obtain ⟨vs, h1, h2, h5⟩ := h
  rcases h1.2.2.2 with h0 | ⟨b, off, rfl, hx, hc⟩
  · omega
  · exact ⟨b, off, vs, rfl, h1, fun i hi => h5 i (by omega)⟩
theorem RowI.len {w : World} {a : Option Addr} {m c : Nat} {l : List Int} (h : RowI w a m c l) : l.length = m := by have := h.1; rwa [intsV_len] at this
theorem VsAt.addr {T : Nat} {w : World} {a : Option Addr} {m c : Nat} {xs : List Value} (h : VsAt T w a m c xs) (hm : m ≠ 0) : ∃ b off, a = some ⟨b, off, none⟩ := by
  rcases h.2.2.2 with h0 | ⟨b, off, e, _⟩
  · exact absurd h0 hm
  · exact ⟨b, off, e⟩
/-- all but the first -/
theorem VsAt.rest {T : Nat} {w : World} {b off m c : Nat} {x : Value} {xs : List Value} (h : VsAt T w (some ⟨b, off, none⟩) m c (x :: xs)) : VsAt T w (if c = 1 then some ⟨b, off, none⟩ else some ⟨b, off + 1, none⟩) (m - 1) (c - 1) xs := by
  obtain ⟨h1, h2, h3, h4⟩ := h
  simp at h1
  refine ⟨by omega, by omega, by omega, ?_⟩
  by_cases hc : c = 1
  · exact .inl (by omega)
  · rw [if_neg hc]
    rcases h4 with h0 | ⟨b', off', e, hh, hx⟩
    · omega
    · simp at e
      obtain ⟨rfl, rfl⟩ := e
      refine .inr ⟨b, off + 1, rfl, hh, fun i v hv => ?_⟩
      have := hx (i + 1) v (by simpa using hv)
      rwa [show off + (i + 1) = off + 1 + i by omega] at this
set_option maxHeartbeats 4000000 in
set_option maxRecDepth 60000 in
theorem rput_neg (ra : Option Addr) (k c : Nat) (P : List (List Int)) (R t pipe n : Int) (w : World) (h : RowsAt w ra k c P) (hp : pipe < 0) : Calls Try.prog 10 #[.agg #[.slice ra k c, .int .i64 R, .int .i64 t], .int .i64 pipe, .int .i64 n] w fun e w' => RpPost P R t 1 w e w' := by
  have HR := Hid.mk9 h
  have hlk := h.len
  clear h
  have b1 := below_alloc w (.cells #[.slice ra k c, .int .i64 R, .int .i64 t] 30)
  have b2 := below_alloc (w.alloc (.cells #[.slice ra k c, .int .i64 R, .int .i64 t] 30)) (.cells #[.slice none 0 0, .int .i64 0, .int .i64 0] 30)
  have HB := Hid.mk9 (below2 b1 b2)
  have HX0 := Hid.mk9 ((Bx3.new w 30 (.slice ra k c) (.int .i64 R) (.int .i64 t)).below b2)
  have hx1 := Bx3.new (w.alloc (.cells #[.slice ra k c, .int .i64 R, .int .i64 t] 30)) 30 (.slice none 0 0) (.int .i64 0) (.int .i64 0)
  rw [show (w.alloc (.cells #[.slice ra k c, .int .i64 R, .int .i64 t] 30)).heap.size = w.heap.size + 1 by simp] at hx1
  have HX1 := Hid.mk9 hx1
  have HQ : Hid (w.heap.size ≠ w.heap.size + 1) := ⟨by omega⟩
  have HQ0 : Hid (w.heap.size ≤ w.heap.size) := ⟨by omega⟩
  have HQ1 : Hid (w.heap.size ≤ w.heap.size + 1) := ⟨by omega⟩
  clear hx1 b1 b2
  go_enter Try.func10, Try.ntmps10
  go_upto_region 1 with fail
  generalize ((w.alloc (.cells #[.slice ra k c, .int .i64 R, .int .i64 t] 30)).alloc (.cells #[.slice none 0 0, .int .i64 0, .int .i64 0] 30)) = wA at *
  generalize w.heap.size + 1 = q1 at *
  generalize hq : w.heap.size = q0 at HX0 HQ HQ0 HQ1 ⊢
  obtain ⟨c0, c1, c2⟩ := HX0.out.cells
  obtain ⟨f0, f1, f2⟩ := HX1.out.frz
  obtain ⟨d0, d1, d2⟩ := HX1.out.cells
  have HX2 := Hid.mk9 (HX1.out.set (.slice ra k c) (.int .i64 R) (.int .i64 t))
  have HB2 : Hid (Below w.heap.size w (put3 wA q1 (.slice ra k c) (.int .i64 R) (.int .i64 t))) := ⟨put3_below HB.out (by rw [hq]; exact HQ1.out) _ _ _⟩
  have HR2 : Hid (RowsAt (put3 wA q1 (.slice ra k c) (.int .i64 R) (.int .i64 t)) ra k c P) := ⟨(HR.out.below HB.out).kept (keep_put3 HX1.out (by decide) _ _ _) (keep_put3 HX1.out (by decide) _ _ _)⟩
  go_wp2_with fail
  refine bodyPost_ret (ret_bx3s rfl _ _ q1 (.slice ra k c) (.int .i64 R) (.int .i64 t) (.int .i64 1) rfl rfl HX2.out) rfl ?_
  refine ⟨HB2.out, _, rfl, ra, c, ?_, ?_⟩
  · rw [hlk]
  · rw [hlk]; exact HR2.out
set_option maxHeartbeats 4000000 in
set_option maxRecDepth 60000 in
theorem rput_far (ra : Option Addr) (k c : Nat) (P : List (List Int)) (R t pipe n : Int) (w : World) (h : RowsAt w ra k c P) (hp0 : ¬ pipe < 0) (hp : (k : Int) ≤ pipe) : Calls Try.prog 10 #[.agg #[.slice ra k c, .int .i64 R, .int .i64 t], .int .i64 pipe, .int .i64 n] w fun e w' => RpPost P R t 1 w e w' := by
  have HR := Hid.mk9 h
  have hlk := h.len
  clear h
  have b1 := below_alloc w (.cells #[.slice ra k c, .int .i64 R, .int .i64 t] 30)
  have b2 := below_alloc (w.alloc (.cells #[.slice ra k c, .int .i64 R, .int .i64 t] 30)) (.cells #[.slice none 0 0, .int .i64 0, .int .i64 0] 30)
  have HB := Hid.mk9 (below2 b1 b2)
  have HX0 := Hid.mk9 ((Bx3.new w 30 (.slice ra k c) (.int .i64 R) (.int .i64 t)).below b2)
  have hx1 := Bx3.new (w.alloc (.cells #[.slice ra k c, .int .i64 R, .int .i64 t] 30)) 30 (.slice none 0 0) (.int .i64 0) (.int .i64 0)
  rw [show (w.alloc (.cells #[.slice ra k c, .int .i64 R, .int .i64 t] 30)).heap.size = w.heap.size + 1 by simp] at hx1
  have HX1 := Hid.mk9 hx1
  have HQ : Hid (w.heap.size ≠ w.heap.size + 1) := ⟨by omega⟩
  have HQ0 : Hid (w.heap.size ≤ w.heap.size) := ⟨by omega⟩
  have HQ1 : Hid (w.heap.size ≤ w.heap.size + 1) := ⟨by omega⟩
  clear hx1 b1 b2
  go_enter Try.func10, Try.ntmps10
  go_upto_region 1 with fail
  generalize ((w.alloc (.cells #[.slice ra k c, .int .i64 R, .int .i64 t] 30)).alloc (.cells #[.slice none 0 0, .int .i64 0, .int .i64 0] 30)) = wA at *
  generalize w.heap.size + 1 = q1 at *
  generalize hq : w.heap.size = q0 at HX0 HQ HQ0 HQ1 ⊢
  obtain ⟨c0, c1, c2⟩ := HX0.out.cells
  obtain ⟨f0, f1, f2⟩ := HX1.out.frz
  obtain ⟨d0, d1, d2⟩ := HX1.out.cells
  have HX2 := Hid.mk9 (HX1.out.set (.slice ra k c) (.int .i64 R) (.int .i64 t))
  have HB2 : Hid (Below w.heap.size w (put3 wA q1 (.slice ra k c) (.int .i64 R) (.int .i64 t))) := ⟨put3_below HB.out (by rw [hq]; exact HQ1.out) _ _ _⟩
  have HR2 : Hid (RowsAt (put3 wA q1 (.slice ra k c) (.int .i64 R) (.int .i64 t)) ra k c P) := ⟨(HR.out.below HB.out).kept (keep_put3 HX1.out (by decide) _ _ _) (keep_put3 HX1.out (by decide) _ _ _)⟩
  go_wp2_with fail
  refine bodyPost_ret (ret_bx3s rfl _ _ q1 (.slice ra k c) (.int .i64 R) (.int .i64 t) (.int .i64 1) rfl rfl HX2.out) rfl ?_
  refine ⟨HB2.out, _, rfl, ra, c, ?_, ?_⟩
  · rw [hlk]
  · rw [hlk]; exact HR2.out
set_option maxHeartbeats 4000000 in
set_option maxRecDepth 60000 in
theorem rtake_neg (ra : Option Addr) (k c : Nat) (P : List (List Int)) (R t pipe : Int) (w : World) (h : RowsAt w ra k c P) (hp : pipe < 0) : Calls Try.prog 12 #[.agg #[.slice ra k c, .int .i64 R, .int .i64 t], .int .i64 pipe] w fun e w' => RtPost P R t 0 1 w e w' := by
  have HR := Hid.mk9 h
  have hlk := h.len
  clear h
  have b1 := below_alloc w (.cells #[.slice ra k c, .int .i64 R, .int .i64 t] 30)
  have b2 := below_alloc (w.alloc (.cells #[.slice ra k c, .int .i64 R, .int .i64 t] 30)) (.cells #[.slice none 0 0, .int .i64 0, .int .i64 0] 30)
  have HB := Hid.mk9 (below2 b1 b2)
  have HX0 := Hid.mk9 ((Bx3.new w 30 (.slice ra k c) (.int .i64 R) (.int .i64 t)).below b2)
  have hx1 := Bx3.new (w.alloc (.cells #[.slice ra k c, .int .i64 R, .int .i64 t] 30)) 30 (.slice none 0 0) (.int .i64 0) (.int .i64 0)
  rw [show (w.alloc (.cells #[.slice ra k c, .int .i64 R, .int .i64 t] 30)).heap.size = w.heap.size + 1 by simp] at hx1
  have HX1 := Hid.mk9 hx1
  have HQ : Hid (w.heap.size ≠ w.heap.size + 1) := ⟨by omega⟩
  have HQ0 : Hid (w.heap.size ≤ w.heap.size) := ⟨by omega⟩
  have HQ1 : Hid (w.heap.size ≤ w.heap.size + 1) := ⟨by omega⟩
  clear hx1 b1 b2
  go_enter Try.func12, Try.ntmps12
  go_upto_region 1 with fail
  generalize ((w.alloc (.cells #[.slice ra k c, .int .i64 R, .int .i64 t] 30)).alloc (.cells #[.slice none 0 0, .int .i64 0, .int .i64 0] 30)) = wA at *
  generalize w.heap.size + 1 = q1 at *
  generalize hq : w.heap.size = q0 at HX0 HQ HQ0 HQ1 ⊢
  obtain ⟨c0, c1, c2⟩ := HX0.out.cells
  obtain ⟨f0, f1, f2⟩ := HX1.out.frz
  obtain ⟨d0, d1, d2⟩ := HX1.out.cells
  have HX2 := Hid.mk9 (HX1.out.set (.slice ra k c) (.int .i64 R) (.int .i64 t))
  have HB2 : Hid (Below w.heap.size w (put3 wA q1 (.slice ra k c) (.int .i64 R) (.int .i64 t))) := ⟨put3_below HB.out (by rw [hq]; exact HQ1.out) _ _ _⟩
  have HR2 : Hid (RowsAt (put3 wA q1 (.slice ra k c) (.int .i64 R) (.int .i64 t)) ra k c P) := ⟨(HR.out.below HB.out).kept (keep_put3 HX1.out (by decide) _ _ _) (keep_put3 HX1.out (by decide) _ _ _)⟩
  go_wp2_with fail
  refine bodyPost_ret (ret_bx3t rfl _ _ q1 (.slice ra k c) (.int .i64 R) (.int .i64 t) (.int .i64 0) (.int .i64 1) rfl rfl rfl HX2.out) rfl ?_
  refine ⟨HB2.out, _, rfl, ra, c, ?_, ?_⟩
  · rw [hlk]
  · rw [hlk]; exact HR2.out
set_option maxHeartbeats 4000000 in
set_option maxRecDepth 60000 in
theorem rtake_far (ra : Option Addr) (k c : Nat) (P : List (List Int)) (R t pipe : Int) (w : World) (h : RowsAt w ra k c P) (hp0 : ¬ pipe < 0) (hp : (k : Int) ≤ pipe) : Calls Try.prog 12 #[.agg #[.slice ra k c, .int .i64 R, .int .i64 t], .int .i64 pipe] w fun e w' => RtPost P R t 0 1 w e w' := by
  have HR := Hid.mk9 h
  have hlk := h.len
  clear h
  have b1 := below_alloc w (.cells #[.slice ra k c, .int .i64 R, .int .i64 t] 30)
  have b2 := below_alloc (w.alloc (.cells #[.slice ra k c, .int .i64 R, .int .i64 t] 30)) (.cells #[.slice none 0 0, .int .i64 0, .int .i64 0] 30)
  have HB := Hid.mk9 (below2 b1 b2)
  have HX0 := Hid.mk9 ((Bx3.new w 30 (.slice ra k c) (.int .i64 R) (.int .i64 t)).below b2)
  have hx1 := Bx3.new (w.alloc (.cells #[.slice ra k c, .int .i64 R, .int .i64 t] 30)) 30 (.slice none 0 0) (.int .i64 0) (.int .i64 0)
  rw [show (w.alloc (.cells #[.slice ra k c, .int .i64 R, .int .i64 t] 30)).heap.size = w.heap.size + 1 by simp] at hx1
  have HX1 := Hid.mk9 hx1
  have HQ : Hid (w.heap.size ≠ w.heap.size + 1) := ⟨by omega⟩
  have HQ0 : Hid (w.heap.size ≤ w.heap.size) := ⟨by omega⟩
  have HQ1 : Hid (w.heap.size ≤ w.heap.size + 1) := ⟨by omega⟩
  clear hx1 b1 b2
  go_enter Try.func12, Try.ntmps12
  go_upto_region 1 with fail
  generalize ((w.alloc (.cells #[.slice ra k c, .int .i64 R, .int .i64 t] 30)).alloc (.cells #[.slice none 0 0, .int .i64 0, .int .i64 0] 30)) = wA at *
  generalize w.heap.size + 1 = q1 at *
  generalize hq : w.heap.size = q0 at HX0 HQ HQ0 HQ1 ⊢
  obtain ⟨c0, c1, c2⟩ := HX0.out.cells
  obtain ⟨f0, f1, f2⟩ := HX1.out.frz
  obtain ⟨d0, d1, d2⟩ := HX1.out.cells
  have HX2 := Hid.mk9 (HX1.out.set (.slice ra k c) (.int .i64 R) (.int .i64 t))
  have HB2 : Hid (Below w.heap.size w (put3 wA q1 (.slice ra k c) (.int .i64 R) (.int .i64 t))) := ⟨put3_below HB.out (by rw [hq]; exact HQ1.out) _ _ _⟩
  have HR2 : Hid (RowsAt (put3 wA q1 (.slice ra k c) (.int .i64 R) (.int .i64 t)) ra k c P) := ⟨(HR.out.below HB.out).kept (keep_put3 HX1.out (by decide) _ _ _) (keep_put3 HX1.out (by decide) _ _ _)⟩
  go_wp2_with fail
  refine bodyPost_ret (ret_bx3t rfl _ _ q1 (.slice ra k c) (.int .i64 R) (.int .i64 t) (.int .i64 0) (.int .i64 1) rfl rfl rfl HX2.out) rfl ?_
  refine ⟨HB2.out, _, rfl, ra, c, ?_, ?_⟩
  · rw [hlk]
  · rw [hlk]; exact HR2.out
set_option maxHeartbeats 4000000 in
set_option maxRecDepth 60000 in
theorem rput_full (ra : Option Addr) (k c i : Nat) (P : List (List Int)) (R t n : Int) (w : World) (h : RowsAt w ra k c P) (hi : i < k) (hk : k ≤ 8) (hf : ((P.getD i []).length : Int) = R) : Calls Try.prog 10 #[.agg #[.slice ra k c, .int .i64 R, .int .i64 t], .int .i64 (i : Int), .int .i64 n] w fun e w' => RpPost P R t 6 w e w' := by
  have hlk := h.len
  obtain ⟨b, off, vs, rfl, hvs, hv⟩ := h.open (by omega)
  obtain ⟨a2, n2, m2, e2, hr2⟩ := hv i hi
  have hl2 := hr2.len
  have HR := Hid.mk9 h
  have HVS := Hid.mk9 hvs
  have HV := Hid.mk9 e2
  have HXS := Hid.mk9 hr2
  have HK := Hid.mk9 hlk
  have i1 : (i : Int) < (k : Int) := by omega
  have i0 : (0 : Int) ≤ (i : Int) := by omega
  obtain rfl : R = (n2 : Int) := by omega
  clear h hvs hv e2 hr2 hl2 hf hi hk
  have b1 := below_alloc w (.cells #[.slice (some ⟨b, off, none⟩) k c, .int .i64 (n2 : Int), .int .i64 t] 30)
  have b2 := below_alloc (w.alloc (.cells #[.slice (some ⟨b, off, none⟩) k c, .int .i64 (n2 : Int), .int .i64 t] 30)) (.cells #[.slice none 0 0, .int .i64 0, .int .i64 0] 30)
  have HB := Hid.mk9 (below2 b1 b2)
  have HX0 := Hid.mk9 ((Bx3.new w 30 (.slice (some ⟨b, off, none⟩) k c) (.int .i64 (n2 : Int)) (.int .i64 t)).below b2)
  have hx1 := Bx3.new (w.alloc (.cells #[.slice (some ⟨b, off, none⟩) k c, .int .i64 (n2 : Int), .int .i64 t] 30)) 30 (.slice none 0 0) (.int .i64 0) (.int .i64 0)
  rw [show (w.alloc (.cells #[.slice (some ⟨b, off, none⟩) k c, .int .i64 (n2 : Int), .int .i64 t] 30)).heap.size = w.heap.size + 1 by simp] at hx1
  have HX1 := Hid.mk9 hx1
  have HQ : Hid (w.heap.size ≠ w.heap.size + 1) := ⟨by omega⟩
  have HQ0 : Hid (w.heap.size ≤ w.heap.size) := ⟨by omega⟩
  have HQ1 : Hid (w.heap.size ≤ w.heap.size + 1) := ⟨by omega⟩
  clear hx1 b1 b2
  go_enter Try.func10, Try.ntmps10
  go_upto_region 1 with fail
  generalize ((w.alloc (.cells #[.slice (some ⟨b, off, none⟩) k c, .int .i64 (n2 : Int), .int .i64 t] 30)).alloc (.cells #[.slice none 0 0, .int .i64 0, .int .i64 0] 30)) = wA at *
  generalize w.heap.size + 1 = q1 at *
  generalize hq : w.heap.size = q0 at HX0 HQ HQ0 HQ1 ⊢
  obtain ⟨c0, c1, c2⟩ := HX0.out.cells
  obtain ⟨f0, f1, f2⟩ := HX1.out.frz
  obtain ⟨d0, d1, d2⟩ := HX1.out.cells
  have g1 := (HVS.out.below HB.out).get HV.out
  clear hlk
  go_upto_region 3 with fail
  go_region
  have HX2 := Hid.mk9 (HX1.out.set (.slice (some ⟨b, off, none⟩) k c) (.int .i64 (n2 : Int)) (.int .i64 t))
  have HB2 : Hid (Below w.heap.size w (put3 wA q1 (.slice (some ⟨b, off, none⟩) k c) (.int .i64 (n2 : Int)) (.int .i64 t))) := ⟨put3_below HB.out (by rw [hq]; exact HQ1.out) _ _ _⟩
  have HR2 : Hid (RowsAt (put3 wA q1 (.slice (some ⟨b, off, none⟩) k c) (.int .i64 (n2 : Int)) (.int .i64 t)) (some ⟨b, off, none⟩) k c P) := ⟨(HR.out.below HB.out).kept (keep_put3 HX1.out (by decide) _ _ _) (keep_put3 HX1.out (by decide) _ _ _)⟩
  clear hq
  go_wp2_with fail
  refine bodyPost_ret (ret_bx3s rfl _ _ q1 (.slice (some ⟨b, off, none⟩) k c) (.int .i64 (n2 : Int)) (.int .i64 t) (.int .i64 6) rfl rfl HX2.out) rfl ?_
  refine ⟨HB2.out.trans ⟨rfl, rfl, rfl, Nat.le_refl _, fun _ _ => rfl⟩, _, rfl, (some ⟨b, off, none⟩), c, ?_, ?_⟩
  · rw [HK.out]
  · rw [HK.out]; exact HR2.out
set_option maxHeartbeats 4000000 in
set_option maxRecDepth 60000 in
theorem rtake_none (ra : Option Addr) (k c i : Nat) (P : List (List Int)) (R t : Int) (w : World) (h : RowsAt w ra k c P) (hi : i < k) (hk : k ≤ 8) (hf : (P.getD i []).length = 0) : Calls Try.prog 12 #[.agg #[.slice ra k c, .int .i64 R, .int .i64 t], .int .i64 (i : Int)] w fun e w' => RtPost P R t 0 5 w e w' := by
  have hlk := h.len
  obtain ⟨b, off, vs, rfl, hvs, hv⟩ := h.open (by omega)
  obtain ⟨a2, n2, m2, e2, hr2⟩ := hv i hi
  have hl2 := hr2.len
  have HR := Hid.mk9 h
  have HVS := Hid.mk9 hvs
  have HV := Hid.mk9 e2
  have HXS := Hid.mk9 hr2
  have HK := Hid.mk9 hlk
  have i1 : (i : Int) < (k : Int) := by omega
  have i0 : (0 : Int) ≤ (i : Int) := by omega
  obtain rfl : n2 = 0 := by omega
  clear h hvs hv e2 hr2 hl2 hf hi hk
  have b1 := below_alloc w (.cells #[.slice (some ⟨b, off, none⟩) k c, .int .i64 R, .int .i64 t] 30)
  have b2 := below_alloc (w.alloc (.cells #[.slice (some ⟨b, off, none⟩) k c, .int .i64 R, .int .i64 t] 30)) (.cells #[.slice none 0 0, .int .i64 0, .int .i64 0] 30)
  have HB := Hid.mk9 (below2 b1 b2)
  have HX0 := Hid.mk9 ((Bx3.new w 30 (.slice (some ⟨b, off, none⟩) k c) (.int .i64 R) (.int .i64 t)).below b2)
  have hx1 := Bx3.new (w.alloc (.cells #[.slice (some ⟨b, off, none⟩) k c, .int .i64 R, .int .i64 t] 30)) 30 (.slice none 0 0) (.int .i64 0) (.int .i64 0)
  rw [show (w.alloc (.cells #[.slice (some ⟨b, off, none⟩) k c, .int .i64 R, .int .i64 t] 30)).heap.size = w.heap.size + 1 by simp] at hx1
  have HX1 := Hid.mk9 hx1
  have HQ : Hid (w.heap.size ≠ w.heap.size + 1) := ⟨by omega⟩
  have HQ0 : Hid (w.heap.size ≤ w.heap.size) := ⟨by omega⟩
  have HQ1 : Hid (w.heap.size ≤ w.heap.size + 1) := ⟨by omega⟩
  clear hx1 b1 b2
  go_enter Try.func12, Try.ntmps12
  go_upto_region 1 with fail
  generalize ((w.alloc (.cells #[.slice (some ⟨b, off, none⟩) k c, .int .i64 R, .int .i64 t] 30)).alloc (.cells #[.slice none 0 0, .int .i64 0, .int .i64 0] 30)) = wA at *
  generalize w.heap.size + 1 = q1 at *
  generalize hq : w.heap.size = q0 at HX0 HQ HQ0 HQ1 ⊢
  obtain ⟨c0, c1, c2⟩ := HX0.out.cells
  obtain ⟨f0, f1, f2⟩ := HX1.out.frz
  obtain ⟨d0, d1, d2⟩ := HX1.out.cells
  have g1 := (HVS.out.below HB.out).get HV.out
  clear hlk
  have HX2 := Hid.mk9 (HX1.out.set (.slice (some ⟨b, off, none⟩) k c) (.int .i64 R) (.int .i64 t))
  have HB2 : Hid (Below w.heap.size w (put3 wA q1 (.slice (some ⟨b, off, none⟩) k c) (.int .i64 R) (.int .i64 t))) := ⟨put3_below HB.out (by rw [hq]; exact HQ1.out) _ _ _⟩
  have HR2 : Hid (RowsAt (put3 wA q1 (.slice (some ⟨b, off, none⟩) k c) (.int .i64 R) (.int .i64 t)) (some ⟨b, off, none⟩) k c P) := ⟨(HR.out.below HB.out).kept (keep_put3 HX1.out (by decide) _ _ _) (keep_put3 HX1.out (by decide) _ _ _)⟩
  clear hq
  go_wp2_with fail
  refine bodyPost_ret (ret_bx3t rfl _ _ q1 (.slice (some ⟨b, off, none⟩) k c) (.int .i64 R) (.int .i64 t) (.int .i64 0) (.int .i64 5) rfl rfl rfl HX2.out) rfl ?_
  refine ⟨HB2.out, _, rfl, (some ⟨b, off, none⟩), c, ?_, ?_⟩
  · rw [HK.out]
  · rw [HK.out]; exact HR2.out
set_option maxHeartbeats 4000000 in
set_option maxRecDepth 60000 in
theorem rput_ok (ra : Option Addr) (k c i : Nat) (P : List (List Int)) (R t n : Int) (w : World) (h : RowsAt w ra k c P) (hi : i < k) (hk : k ≤ 8) (hl : (P.getD i []).length ≤ 64) (hf : ((P.getD i []).length : Int) ≠ R) : Calls Try.prog 10 #[.agg #[.slice ra k c, .int .i64 R, .int .i64 t], .int .i64 (i : Int), .int .i64 n] w fun e w' => RpPost (P.set i (P.getD i [] ++ [n])) R t 0 w e w' := by
  have hlk := h.len
  obtain ⟨b, off, vs, rfl, hvs, hv⟩ := h.open (by omega)
  obtain ⟨a2, n2, m2, e2, hr2⟩ := hv i hi
  have hl2 := hr2.len
  have HR := Hid.mk9 h
  have HVS := Hid.mk9 hvs
  have HV := Hid.mk9 e2
  have HXS := Hid.mk9 hr2
  have HK := Hid.mk9 hlk
  have i1 : (i : Int) < (k : Int) := by omega
  have i0 : (0 : Int) ≤ (i : Int) := by omega
  have hne : ¬ ((n2 : Int) = R) := by omega
  have hlL : Hid ((P.set i (P.getD i [] ++ [n])).length = k) := ⟨by rw [List.length_set, hlk]⟩
  have hn2 : Hid ((n2 : Int) ≤ 1000) := ⟨by omega⟩
  have HPw : Hid (∀ W la lc, Below w.heap.size w W → VsAt 3 W la (n2 + 1) lc (intsV (P.getD i []) ++ [.int .i64 n]) → Calls Try.prog 20 #[.agg #[.slice (some ⟨b, off, none⟩) k c, .int .i64 R, .int .i64 t], .int .i64 (i : Int), .slice la (n2 + 1) lc] W fun e w' => WiPost (P.set i (P.getD i [] ++ [n])) R t W e w') := ⟨fun W la lc hb hv9 => by
    have hr9 : RowI W la (n2 + 1) lc (P.getD i [] ++ [n]) := by unfold RowI intsV; rw [List.map_append]; exact hv9
    exact with_any (some ⟨b, off, none⟩) k c i P R t la (n2 + 1) lc (P.getD i [] ++ [n]) W (h.below hb) hk hi hr9⟩
  have H1X := Hid.mk9 (ints_one (P.getD i []))
  have HRr := HR
  clear h hvs hv e2 hr2 hl2 hf hi hk hl HR
  have b1 := below_alloc w (.cells #[.slice (some ⟨b, off, none⟩) k c, .int .i64 R, .int .i64 t] 30)
  have b2 := below_alloc (w.alloc (.cells #[.slice (some ⟨b, off, none⟩) k c, .int .i64 R, .int .i64 t] 30)) (.cells #[.slice none 0 0, .int .i64 0, .int .i64 0] 30)
  have HB := Hid.mk9 (below2 b1 b2)
  have HX0 := Hid.mk9 ((Bx3.new w 30 (.slice (some ⟨b, off, none⟩) k c) (.int .i64 R) (.int .i64 t)).below b2)
  have hx1 := Bx3.new (w.alloc (.cells #[.slice (some ⟨b, off, none⟩) k c, .int .i64 R, .int .i64 t] 30)) 30 (.slice none 0 0) (.int .i64 0) (.int .i64 0)
  rw [show (w.alloc (.cells #[.slice (some ⟨b, off, none⟩) k c, .int .i64 R, .int .i64 t] 30)).heap.size = w.heap.size + 1 by simp] at hx1
  have HX1 := Hid.mk9 hx1
  have HQ : Hid (w.heap.size ≠ w.heap.size + 1) := ⟨by omega⟩
  have HQ0 : Hid (w.heap.size ≤ w.heap.size) := ⟨by omega⟩
  have HQ1 : Hid (w.heap.size ≤ w.heap.size + 1) := ⟨by omega⟩
  clear hx1 b1 b2
  go_enter Try.func10, Try.ntmps10
  go_upto_region 1 with fail
  generalize ((w.alloc (.cells #[.slice (some ⟨b, off, none⟩) k c, .int .i64 R, .int .i64 t] 30)).alloc (.cells #[.slice none 0 0, .int .i64 0, .int .i64 0] 30)) = wA at *
  generalize w.heap.size + 1 = q1 at *
  generalize hq : w.heap.size = q0 at HX0 HQ HQ0 HQ1 ⊢
  obtain ⟨c0, c1, c2⟩ := HX0.out.cells
  obtain ⟨f0, f1, f2⟩ := HX1.out.frz
  obtain ⟨d0, d1, d2⟩ := HX1.out.cells
  have g1 := (HVS.out.below HB.out).get HV.out
  clear hlk
  go_upto_region 3 with fail
  go_region
  all_goals
    go_upto_region 5 with fail
    have HBD : Hid (Below w.heap.size w wA.drew) := ⟨HB.out.trans ⟨rfl, rfl, rfl, Nat.le_refl _, fun _ _ => rfl⟩⟩
    have hx0 : Bx3 wA.drew q0 30 (.slice (some ⟨b, off, none⟩) k c) (.int .i64 R) (.int .i64 t) := HX0.out
    have hx1 : Bx3 wA.drew q1 30 (.slice none 0 0) (.int .i64 0) (.int .i64 0) := HX1.out
    clear c0 c1 c2 d0 d1 d2 f0 f1 f2 g1 HX0 HX1 HB
    generalize wA.drew = wD at *
    refine put_5 _ _ _ _ _ _ _ _ _ _ _ _ _ _ _ _ _ _ _ _ _ _ _ _ _ _ _ _ _ _ _ _ _ _ _ _ _ b off k c i q0 q1 R t n a2 n2 m2 vs (intsV (P.getD i [])) (P.set i (P.getD i [] ++ [n])) wD _ (Hid.mk9 hx0) hx1 (Hid.mk9 hx1) HQ (Hid.mk9 (HVS.out.below HBD.out)) HV (Hid.mk9 (HXS.out.below HBD.out)) H1X hn2 i1 hlL (Hid.mk9 fun W la lc hb => HPw.out W la lc (below2 HBD.out hb)) (Hid.mk9 fun u1 u2 u3 u4 u5 u6 u7 u8 u9 u10 u11 u12 u13 ra2 c3 wC hb hX6 hR => ?_)
    have HX2 := Hid.mk9 (hX6.set (.slice ra2 k c3) (.int .i64 R) (.int .i64 t))
    have HP9 : Hid (RpPost (P.set i (P.getD i [] ++ [n])) R t 0 w (.returned (.tuple #[.agg #[.slice ra2 k c3, .int .i64 R, .int .i64 t], .int .i64 0])) (put3 wC q1 (.slice ra2 k c3) (.int .i64 R) (.int .i64 t))) := ⟨put3_below (below2 HBD.out hb) (by rw [hq]; exact HQ1.out) _ _ _, _, rfl, ra2, c3, by rw [hlL.out], by rw [hlL.out]; exact hR.kept (keep_put3 hX6 (by decide) _ _ _) (keep_put3 hX6 (by decide) _ _ _)⟩
    clear hR hX6 hb hx0 hx1 HPw hq
    go_wp2_with fail
    refine bodyPost_ret (ret_bx3s rfl _ _ q1 (.slice ra2 k c3) (.int .i64 R) (.int .i64 t) (.int .i64 0) rfl rfl HX2.out) rfl ?_
    exact HP9.out
set_option maxHeartbeats 4000000 in
set_option maxRecDepth 60000 in
theorem rtake_ok (ra : Option Addr) (k c i : Nat) (P : List (List Int)) (R t : Int) (x : Int) (l : List Int) (w : World) (h : RowsAt w ra k c P) (hi : i < k) (hk : k ≤ 8) (hl : (P.getD i []).length ≤ 64) (hf : P.getD i [] = x :: l) : Calls Try.prog 12 #[.agg #[.slice ra k c, .int .i64 R, .int .i64 t], .int .i64 (i : Int)] w fun e w' => RtPost (P.set i l) R t x 0 w e w' := by
  have hlk := h.len
  obtain ⟨b, off, vs, rfl, hvs, hv⟩ := h.open (by omega)
  obtain ⟨a2, n2, m2, e2, hr2⟩ := hv i hi
  have hl2 := hr2.len
  have HR := Hid.mk9 h
  have HVS := Hid.mk9 hvs
  have HV := Hid.mk9 e2
  have HXS := Hid.mk9 hr2
  have HK := Hid.mk9 hlk
  have i1 : (i : Int) < (k : Int) := by omega
  have i0 : (0 : Int) ≤ (i : Int) := by omega
  have hne : ¬ (n2 = 0) := by rw [hf] at hl2; simp at hl2; omega
  have hne2 : ¬ ((n2 : Int) = 0) := by omega
  obtain ⟨b2, off2, ea2⟩ := hr2.addr hne
  subst ea2
  have hlL : Hid ((P.set i l).length = k) := ⟨by rw [List.length_set, hlk]⟩
  obtain ⟨a3, hif⟩ : ∃ a3, Hid ((if m2 = 1 then (some ⟨b2, off2, none⟩ : Option Addr) else some ⟨b2, off2 + 1, none⟩) = a3) := ⟨_, ⟨rfl⟩⟩
  have hr3 : VsAt 3 w (some ⟨b2, off2, none⟩) n2 m2 (.int .i64 x :: intsV l) := by have := hr2; unfold RowI at this; rw [hf] at this; exact this
  have hr4 : RowI w a3 (n2 - 1) (m2 - 1) l := by rw [← hif.out]; exact hr3.rest
  have hx : Hid ((intsV (P.getD i []))[0]? = some (.int .i64 x)) := ⟨by rw [hf]; rfl⟩
  have HPw : Hid (∀ W, Below w.heap.size w W → Calls Try.prog 20 #[.agg #[.slice (some ⟨b, off, none⟩) k c, .int .i64 R, .int .i64 t], .int .i64 (i : Int), .slice a3 (n2 - 1) (m2 - 1)] W fun e w' => WiPost (P.set i l) R t W e w') := ⟨fun W hb => with_any (some ⟨b, off, none⟩) k c i P R t a3 (n2 - 1) (m2 - 1) l W (h.below hb) hk hi (hr4.below hb)⟩
  have hn1 : (1 : Int) ≤ (n2 : Int) := by omega
  clear h hvs hv e2 hr2 hl2 hf hi hk hl hr3 hr4
  have b1 := below_alloc w (.cells #[.slice (some ⟨b, off, none⟩) k c, .int .i64 R, .int .i64 t] 30)
  have b2 := below_alloc (w.alloc (.cells #[.slice (some ⟨b, off, none⟩) k c, .int .i64 R, .int .i64 t] 30)) (.cells #[.slice none 0 0, .int .i64 0, .int .i64 0] 30)
  have HB := Hid.mk9 (below2 b1 b2)
  have HX0 := Hid.mk9 ((Bx3.new w 30 (.slice (some ⟨b, off, none⟩) k c) (.int .i64 R) (.int .i64 t)).below b2)
  have hx1 := Bx3.new (w.alloc (.cells #[.slice (some ⟨b, off, none⟩) k c, .int .i64 R, .int .i64 t] 30)) 30 (.slice none 0 0) (.int .i64 0) (.int .i64 0)
  rw [show (w.alloc (.cells #[.slice (some ⟨b, off, none⟩) k c, .int .i64 R, .int .i64 t] 30)).heap.size = w.heap.size + 1 by simp] at hx1
  have HX1 := Hid.mk9 hx1
  have HQ : Hid (w.heap.size ≠ w.heap.size + 1) := ⟨by omega⟩
  have HQ0 : Hid (w.heap.size ≤ w.heap.size) := ⟨by omega⟩
  have HQ1 : Hid (w.heap.size ≤ w.heap.size + 1) := ⟨by omega⟩
  clear hx1 b1 b2
  go_enter Try.func12, Try.ntmps12
  go_upto_region 1 with fail
  generalize ((w.alloc (.cells #[.slice (some ⟨b, off, none⟩) k c, .int .i64 R, .int .i64 t] 30)).alloc (.cells #[.slice none 0 0, .int .i64 0, .int .i64 0] 30)) = wA at *
  generalize w.heap.size + 1 = q1 at *
  generalize hq : w.heap.size = q0 at HX0 HQ HQ0 HQ1 ⊢
  obtain ⟨c0, c1, c2⟩ := HX0.out.cells
  obtain ⟨f0, f1, f2⟩ := HX1.out.frz
  obtain ⟨d0, d1, d2⟩ := HX1.out.cells
  have g1 := (HVS.out.below HB.out).get HV.out
  clear hlk
  go_upto_region 5 with fail
  clear c0 c1 c2 d0 d1 d2 f0 f1 f2 g1
  refine take_5 _ _ _ _ _ _ _ _ _ _ _ _ _ _ _ _ _ _ _ _ _ _ _ _ _ _ _ _ _ _ _ _ _ _ _ _ _ _ b off k c i q0 q1 b2 off2 R t x a3 n2 m2 vs (intsV (P.getD i [])) (P.set i l) wA _ HX0 HX1.out HQ (Hid.mk9 (HVS.out.below HB.out)) HV (Hid.mk9 (HXS.out.below HB.out)) hx hif.out hne hn1 i1 hlL (Hid.mk9 fun W hb => HPw.out W (below2 HB.out hb)) (Hid.mk9 fun u1 u2 u3 u4 u5 u6 u7 u8 u9 u10 u11 u12 u13 u14 u15 u16 ra2 c3 wC hb hX6 hR => ?_)
  have HX2 := Hid.mk9 (hX6.set (.slice ra2 k c3) (.int .i64 R) (.int .i64 t))
  have HP9 : Hid (RtPost (P.set i l) R t x 0 w (.returned (.tuple #[.agg #[.slice ra2 k c3, .int .i64 R, .int .i64 t], .int .i64 x, .int .i64 0])) (put3 wC q1 (.slice ra2 k c3) (.int .i64 R) (.int .i64 t))) := ⟨put3_below (below2 HB.out hb) (by rw [hq]; exact HQ1.out) _ _ _, _, rfl, ra2, c3, by rw [hlL.out], by rw [hlL.out]; exact hR.kept (keep_put3 hX6 (by decide) _ _ _) (keep_put3 hX6 (by decide) _ _ _)⟩
  clear hR hX6 hb HPw hq
  go_wp2_with fail
  refine bodyPost_ret (ret_bx3t rfl _ _ q1 (.slice ra2 k c3) (.int .i64 R) (.int .i64 t) (.int .i64 x) (.int .i64 0) rfl rfl rfl HX2.out) rfl ?_
  exact HP9.out
end Go.Proofs.Ytpolehfkjpbofaa.Ta
