/-
  The answer's Bare.
-/
import Derived.Test.YtejhmacbbdnlbaaAcC
namespace Go.Proofs.Ytejhmacbbdnlbaa.Ac
open Go.ChangeShapes Go.WideShapes Go.ChangeAt Go.RowKit
theorem ret_7 {fn : Func} {p : Tmp} (h : fn.results = #[.cell p 28]) (tmps : Array Value) (w : World) (b : Nat) (v0 v1 v2 v3 v4 v5 v6 : Value) (hp : tmps.getD p undef = .pointer (some ⟨b, 0, none⟩))
    (hb : B7 w b 28 v0 v1 v2 v3 v4 v5 v6) : (results fn tmps).run Try.prog w = .ok (.agg #[v0, v1, v2, v3, v4, v5, v6]) w := by
  obtain ⟨h0, h1, h2, h3, h4, h5, h6⟩ := hb.cells
  simp only [Array.getD_eq_getD_getElem?] at hp
  simp only [results, h]
  simp [go_sem, hp, h0, h1, h2, h3, h4, h5, h6]
def BarePost (d : Dl) (w : World) (e : Ending) (w' : World) : Prop := Below w.heap.size w w' ∧ ∃ (a : Option Addr) (l c : Nat), e = .returned (.agg #[.int .i64 (bareD d).k, .int .i64 (bareD d).id, .int .i64 (bareD d).zn, .int .i64 (bareD d).rk, .int .i64 (bareD d).wt, .int .i64 (bareD d).g, .slice a l c]) ∧ RowI w a l c (bareD d).ns
set_option maxHeartbeats 4000000 in
set_option maxRecDepth 60000 in
theorem refBare_l (k id z r wt g : Int) (ad : Option Addr) (ld cd : Nat) (ns : List Int) (w : World) (hR : RowI w ad ld cd ns) (hk1 : 1 ≤ k) (hk2 : k ≤ 10) :
    Calls Try.prog 31 #[.agg #[.int .i64 k, .int .i64 id, .int .i64 z, .int .i64 r, .int .i64 wt, .int .i64 g, .slice ad ld cd]] w fun e w' => BarePost ⟨k, id, z, r, wt, g, ns⟩ w e w' := by
  have HBa := Hid.mk9 (below2 (below_alloc w (.cells #[.int .i64 k, .int .i64 id, .int .i64 z, .int .i64 r, .int .i64 wt, .int .i64 g, .slice ad ld cd] 28)) (below_alloc _ (.cells #[.int .i64 0, .int .i64 0, .int .i64 0, .int .i64 0, .int .i64 0, .int .i64 0, .slice none 0 0] 28)))
  have HX0 := Hid.mk9 ((B7.new w 28 (.int .i64 k) (.int .i64 id) (.int .i64 z) (.int .i64 r) (.int .i64 wt) (.int .i64 g) (.slice ad ld cd)).below (below_alloc _ (.cells #[.int .i64 0, .int .i64 0, .int .i64 0, .int .i64 0, .int .i64 0, .int .i64 0, .slice none 0 0] 28)))
  have HY0 : Hid (B7 ((w.alloc (.cells #[.int .i64 k, .int .i64 id, .int .i64 z, .int .i64 r, .int .i64 wt, .int .i64 g, .slice ad ld cd] 28)).alloc (.cells #[.int .i64 0, .int .i64 0, .int .i64 0, .int .i64 0, .int .i64 0, .int .i64 0, .slice none 0 0] 28)) (w.heap.size + 1) 28 (.int .i64 0) (.int .i64 0) (.int .i64 0) (.int .i64 0) (.int .i64 0) (.int .i64 0) (.slice none 0 0)) := by
    have := B7.new (w.alloc (.cells #[.int .i64 k, .int .i64 id, .int .i64 z, .int .i64 r, .int .i64 wt, .int .i64 g, .slice ad ld cd] 28)) 28 (.int .i64 0) (.int .i64 0) (.int .i64 0) (.int .i64 0) (.int .i64 0) (.int .i64 0) (.slice none 0 0)
    rw [show (w.alloc (.cells #[.int .i64 k, .int .i64 id, .int .i64 z, .int .i64 r, .int .i64 wt, .int .i64 g, .slice ad ld cd] 28)).heap.size = w.heap.size + 1 from by simp] at this
    exact this
  have HRd := Hid.mk9 hR
  clear hR
  go_enter Try.func31, Try.ntmps31
  go_upto_region 1 with fail
  generalize (w.alloc (.cells #[.int .i64 k, .int .i64 id, .int .i64 z, .int .i64 r, .int .i64 wt, .int .i64 g, .slice ad ld cd] 28)).alloc (.cells #[.int .i64 0, .int .i64 0, .int .i64 0, .int .i64 0, .int .i64 0, .int .i64 0, .slice none 0 0] 28) = w1 at *
  obtain ⟨X, hX⟩ : ∃ X, w.heap.size = X := ⟨_, rfl⟩
  rw [hX] at HX0 HY0 ⊢
  have HXw : Hid (X = w.heap.size) := Hid.mk9 hX.symm
  clear hX
  obtain ⟨p0, p1, p2, p3, p4, p5, p6⟩ := HX0.out.cells
  obtain ⟨q0, q1, q2, q3, q4, q5, q6⟩ := HY0.out.cells
  obtain ⟨f0, f1, f2, f3, f4, f5, f6⟩ := HY0.out.frz
  by_cases k1 : k = 1
  · subst k1
    have HZ := Hid.mk9 (HY0.out.set (.int .i64 1) (.int .i64 id) (.int .i64 z) (.int .i64 r) (.int .i64 wt) (.int .i64 0) (.slice none 0 0))
    have HZb := Hid.mk9 (set7_below HBa.out (b := X + 1) (by have := HXw.out; omega) (.int .i64 1) (.int .i64 id) (.int .i64 z) (.int .i64 r) (.int .i64 wt) (.int .i64 0) (.slice none 0 0))
    clear HX0 HY0
    go_wp2_with fail
    refine bodyPost_ret (ret_7 rfl _ _ (X + 1) _ _ _ _ _ _ _ rfl HZ.out) rfl ?_
    exact ⟨HZb.out, none, 0, 0, rfl, RowI.nil w⟩
  by_cases k2 : k = 2
  · subst k2
    have HZ := Hid.mk9 (HY0.out.set (.int .i64 2) (.int .i64 id) (.int .i64 0) (.int .i64 0) (.int .i64 wt) (.int .i64 0) (.slice none 0 0))
    have HZb := Hid.mk9 (set7_below HBa.out (b := X + 1) (by have := HXw.out; omega) (.int .i64 2) (.int .i64 id) (.int .i64 0) (.int .i64 0) (.int .i64 wt) (.int .i64 0) (.slice none 0 0))
    clear HX0 HY0
    go_wp2_with fail
    refine bodyPost_ret (ret_7 rfl _ _ (X + 1) _ _ _ _ _ _ _ rfl HZ.out) rfl ?_
    exact ⟨HZb.out, none, 0, 0, rfl, RowI.nil w⟩
  by_cases k8 : k = 8
  · subst k8
    have HZ := Hid.mk9 (HY0.out.set (.int .i64 8) (.int .i64 0) (.int .i64 0) (.int .i64 0) (.int .i64 0) (.int .i64 g) (.slice ad ld cd))
    have HZb := Hid.mk9 (set7_below HBa.out (b := X + 1) (by have := HXw.out; omega) (.int .i64 8) (.int .i64 0) (.int .i64 0) (.int .i64 0) (.int .i64 0) (.int .i64 g) (.slice ad ld cd))
    clear HX0 HY0
    go_wp2_with fail
    refine bodyPost_ret (ret_7 rfl _ _ (X + 1) _ _ _ _ _ _ _ rfl HZ.out) rfl ?_
    exact ⟨HZb.out, ad, ld, cd, rfl, HRd.out⟩
  by_cases k9 : k = 9
  · subst k9
    have HZ := Hid.mk9 (HY0.out.set (.int .i64 9) (.int .i64 0) (.int .i64 0) (.int .i64 0) (.int .i64 0) (.int .i64 0) (.slice none 0 0))
    have HZb := Hid.mk9 (set7_below HBa.out (b := X + 1) (by have := HXw.out; omega) (.int .i64 9) (.int .i64 0) (.int .i64 0) (.int .i64 0) (.int .i64 0) (.int .i64 0) (.slice none 0 0))
    clear HX0 HY0
    go_wp2_with fail
    refine bodyPost_ret (ret_7 rfl _ _ (X + 1) _ _ _ _ _ _ _ rfl HZ.out) rfl ?_
    exact ⟨HZb.out, none, 0, 0, rfl, RowI.nil w⟩
  by_cases k10 : k = 10
  · subst k10
    have HZ := Hid.mk9 (HY0.out.set (.int .i64 10) (.int .i64 0) (.int .i64 0) (.int .i64 0) (.int .i64 wt) (.int .i64 g) (.slice none 0 0))
    have HZb := Hid.mk9 (set7_below HBa.out (b := X + 1) (by have := HXw.out; omega) (.int .i64 10) (.int .i64 0) (.int .i64 0) (.int .i64 0) (.int .i64 wt) (.int .i64 g) (.slice none 0 0))
    clear HX0 HY0
    go_wp2_with fail
    refine bodyPost_ret (ret_7 rfl _ _ (X + 1) _ _ _ _ _ _ _ rfl HZ.out) rfl ?_
    exact ⟨HZb.out, none, 0, 0, rfl, RowI.nil w⟩
  by_cases k3 : k = 3
  · subst k3
    have HZ := Hid.mk9 (HY0.out.set (.int .i64 3) (.int .i64 id) (.int .i64 0) (.int .i64 0) (.int .i64 0) (.int .i64 0) (.slice none 0 0))
    have HZb := Hid.mk9 (set7_below HBa.out (b := X + 1) (by have := HXw.out; omega) (.int .i64 3) (.int .i64 id) (.int .i64 0) (.int .i64 0) (.int .i64 0) (.int .i64 0) (.slice none 0 0))
    clear HX0 HY0
    go_wp2_with fail
    refine bodyPost_ret (ret_7 rfl _ _ (X + 1) _ _ _ _ _ _ _ rfl HZ.out) rfl ?_
    exact ⟨HZb.out, none, 0, 0, rfl, RowI.nil w⟩
  by_cases k4 : k = 4
  · subst k4
    have HZ := Hid.mk9 (HY0.out.set (.int .i64 4) (.int .i64 id) (.int .i64 0) (.int .i64 0) (.int .i64 0) (.int .i64 0) (.slice none 0 0))
    have HZb := Hid.mk9 (set7_below HBa.out (b := X + 1) (by have := HXw.out; omega) (.int .i64 4) (.int .i64 id) (.int .i64 0) (.int .i64 0) (.int .i64 0) (.int .i64 0) (.slice none 0 0))
    clear HX0 HY0
    go_wp2_with fail
    refine bodyPost_ret (ret_7 rfl _ _ (X + 1) _ _ _ _ _ _ _ rfl HZ.out) rfl ?_
    exact ⟨HZb.out, none, 0, 0, rfl, RowI.nil w⟩
  by_cases k5 : k = 5
  · subst k5
    have HZ := Hid.mk9 (HY0.out.set (.int .i64 5) (.int .i64 id) (.int .i64 0) (.int .i64 0) (.int .i64 0) (.int .i64 0) (.slice none 0 0))
    have HZb := Hid.mk9 (set7_below HBa.out (b := X + 1) (by have := HXw.out; omega) (.int .i64 5) (.int .i64 id) (.int .i64 0) (.int .i64 0) (.int .i64 0) (.int .i64 0) (.slice none 0 0))
    clear HX0 HY0
    go_wp2_with fail
    refine bodyPost_ret (ret_7 rfl _ _ (X + 1) _ _ _ _ _ _ _ rfl HZ.out) rfl ?_
    exact ⟨HZb.out, none, 0, 0, rfl, RowI.nil w⟩
  by_cases k6 : k = 6
  · subst k6
    have HZ := Hid.mk9 (HY0.out.set (.int .i64 6) (.int .i64 id) (.int .i64 0) (.int .i64 0) (.int .i64 0) (.int .i64 0) (.slice none 0 0))
    have HZb := Hid.mk9 (set7_below HBa.out (b := X + 1) (by have := HXw.out; omega) (.int .i64 6) (.int .i64 id) (.int .i64 0) (.int .i64 0) (.int .i64 0) (.int .i64 0) (.slice none 0 0))
    clear HX0 HY0
    go_wp2_with fail
    refine bodyPost_ret (ret_7 rfl _ _ (X + 1) _ _ _ _ _ _ _ rfl HZ.out) rfl ?_
    exact ⟨HZb.out, none, 0, 0, rfl, RowI.nil w⟩
  by_cases k7 : k = 7
  · subst k7
    have HZ := Hid.mk9 (HY0.out.set (.int .i64 7) (.int .i64 id) (.int .i64 0) (.int .i64 0) (.int .i64 0) (.int .i64 0) (.slice none 0 0))
    have HZb := Hid.mk9 (set7_below HBa.out (b := X + 1) (by have := HXw.out; omega) (.int .i64 7) (.int .i64 id) (.int .i64 0) (.int .i64 0) (.int .i64 0) (.int .i64 0) (.slice none 0 0))
    clear HX0 HY0
    go_wp2_with fail
    refine bodyPost_ret (ret_7 rfl _ _ (X + 1) _ _ _ _ _ _ _ rfl HZ.out) rfl ?_
    exact ⟨HZb.out, none, 0, 0, rfl, RowI.nil w⟩
  omega
theorem refBare_any (d : Dl) (a : Option Addr) (l c : Nat) (w : World) (h : RowI w a l c d.ns) (hk : inB d.k 1 10 = true) : Calls Try.prog 31 #[.agg #[.int .i64 d.k, .int .i64 d.id, .int .i64 d.zn, .int .i64 d.rk, .int .i64 d.wt, .int .i64 d.g, .slice a l c]] w fun e w' => BarePost d w e w' := refBare_l d.k d.id d.zn d.rk d.wt d.g a l c d.ns w h ((inB_iff _ _ _).1 hk).1 ((inB_iff _ _ _).1 hk).2
def okD (d : Dl) : Bool := inB d.k 1 10 && eqD d (bareD d) && decide (d.ns.length ≤ 3) && inC d.id && inC d.zn && inC d.rk && inC d.wt && inC d.g && allC d.ns
end Go.Proofs.Ytejhmacbbdnlbaa.Ac
