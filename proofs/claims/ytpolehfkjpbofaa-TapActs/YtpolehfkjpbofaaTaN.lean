/-
  The answer's with.
-/
import Derived.Test.YtpolehfkjpbofaaTaM
namespace Go.Proofs.Ytpolehfkjpbofaa.Ta
open Go.ChangeShapes Go.WideShapes Go.ChangeAt Go.RowKit
/-- a tap's value, as the answer has it -/
def TpV (w : World) (v : Value) (P : List (List Int)) (R t : Int) : Prop := ∃ ra c, v = .agg #[.slice ra P.length c, .int .i64 R, .int .i64 t] ∧ RowsAt w ra P.length c P
theorem TpV.below {w w' : World} {v : Value} {P : List (List Int)} {R t : Int} (h : TpV w v P R t) (hb : Below w.heap.size w w') : TpV w' v P R t := by
  obtain ⟨ra, c, e, hr⟩ := h
  exact ⟨ra, c, e, hr.below hb⟩
theorem RowsAt.set {w : World} {g k cap i : Nat} {cur : Array Value} {vs : List Value} {P : List (List Int)} {la : Option Addr} {n lc : Nat} {L : List Int} (hh : w.heap[g]? = some (Obj.cells (cur.setIfInBounds i (.slice la n lc)) 44 (0, 0))) (hsz : cur.size = cap) (htk : cur.toList.take k = vs) (hk : k ≤ cap) (hm : cap ≤ maxLen) (hl : vs.length = P.length) (hlk : P.length = k) (hi : i < k)
    (hv : ∀ j, j < P.length → ∃ a' n' c', vs[j]? = some (.slice a' n' c') ∧ RowI w a' n' c' (P.getD j [])) (hL : RowI w la n lc L) : RowsAt w (some ⟨g, 0, none⟩) k cap (P.set i L) := by
  refine ⟨vs.set i (.slice la n lc), ⟨by simp; omega, hk, hm, .inr ⟨g, 0, rfl, ⟨_, hh⟩, fun j v hj => ?_⟩⟩, by simp; omega, fun j hj => ?_⟩
  · unfold World.cell?
    rw [show w.heap[(⟨g, 0 + j, none⟩ : Addr).block]? = _ from hh]
    have hjk : j < k := by have := (List.getElem?_eq_some_iff.1 hj).1; simp at this; omega
    simp only [Nat.zero_add, Option.isSome_none, Bool.false_eq_true, if_false]
    rw [← htk] at hj
    rw [Array.getElem?_setIfInBounds]
    rw [List.getElem?_set] at hj
    by_cases e : i = j
    · subst e
      rw [if_pos rfl] at hj ⊢
      have hlt : i < (cur.toList.take k).length := by simp; omega
      rw [if_pos hlt] at hj
      rw [if_pos (by omega)]
      exact hj
    · rw [if_neg e] at hj ⊢
      rw [List.getElem?_take_of_lt hjk] at hj
      simpa using hj
  · simp at hj
    by_cases e : i = j
    · subst e
      refine ⟨la, n, lc, by rw [List.getElem?_set_self (by omega)], ?_⟩
      have : (P.set i L).getD i [] = L := by simp [hj]
      rw [this]; exact hL
    · obtain ⟨a', n', c', h1, h2⟩ := hv j hj
      refine ⟨a', n', c', by rw [List.getElem?_set_ne e]; exact h1, ?_⟩
      have : (P.set i L).getD j [] = P.getD j [] := by simp only [List.getD_eq_getElem?_getD]; rw [List.getElem?_set_ne e]
      rw [this]; exact h2
theorem keep_set {w : World} {g E T : Nat} {cc : Array Value} (hg : w.heap[g]? = some (Obj.cells cc T (0, 0))) (hE : E ≠ T) (i : Nat) (v : Value) : KeepT E w (w.setCell ⟨g, i, none⟩ v) := fun b _ hb =>
  heap_setCell_other w ⟨g, i, none⟩ b v (fun e => by subst e; rw [hg] at hb; simp at hb; exact hE hb.2.symm)
def WiPost (P : List (List Int)) (R t : Int) (w : World) (e : Ending) (w' : World) : Prop := Below w.heap.size w w' ∧ ∃ v, e = .returned v ∧ TpV w' v P R t
set_option maxHeartbeats 4000000 in
set_option maxRecDepth 60000 in
theorem with_any (ra : Option Addr) (k c i : Nat) (P : List (List Int)) (R t : Int) (la : Option Addr) (n lc : Nat) (L : List Int) (w : World) (h : RowsAt w ra k c P) (hk : k ≤ 8) (hi : i < k) (hL : RowI w la n lc L) :
    Calls Try.prog 20 #[.agg #[.slice ra k c, .int .i64 R, .int .i64 t], .int .i64 i, .slice la n lc] w fun e w' => WiPost (P.set i L) R t w e w' := by
  have hlk := h.len
  obtain ⟨vs, hvs, hvl, hv⟩ := h
  have HVS := Hid.mk9 hvs
  have HV := Hid.mk9 hv
  have HL := Hid.mk9 hL
  have HO1 : Hid (∀ u ∈ vs, u.oneCell' = true) := ⟨fun u hu => by
    obtain ⟨j, hj, rfl⟩ := List.getElem_of_mem hu
    obtain ⟨a', n', c', e, _⟩ := hv j (by omega)
    rw [List.getElem?_eq_getElem hj] at e
    injection e with e
    rw [e]; rfl⟩
  have HK : Hid (k ≤ 8 ∧ i < k ∧ P.length = k ∧ vs.length = P.length) := ⟨hk, hi, hlk, hvl⟩
  have k8 : (k : Int) ≤ 8 := by omega
  have i1 : (i : Int) < (k : Int) := by omega
  have i0 : (0 : Int) ≤ (i : Int) := by omega
  have b1 := below_alloc w (.cells #[.slice ra k c, .int .i64 R, .int .i64 t] 30)
  have b2 := below_alloc (w.alloc (.cells #[.slice ra k c, .int .i64 R, .int .i64 t] 30)) (.cells #[.slice none 0 0, .int .i64 0, .int .i64 0] 30)
  have HB := Hid.mk9 (below2 b1 b2)
  have HX0 := Hid.mk9 ((Bx3.new w 30 (.slice ra k c) (.int .i64 R) (.int .i64 t)).below b2)
  have hx1 := Bx3.new (w.alloc (.cells #[.slice ra k c, .int .i64 R, .int .i64 t] 30)) 30 (.slice none 0 0) (.int .i64 0) (.int .i64 0)
  rw [show (w.alloc (.cells #[.slice ra k c, .int .i64 R, .int .i64 t] 30)).heap.size = w.heap.size + 1 by simp] at hx1
  have HX1 := Hid.mk9 hx1
  clear hvs hv hL hk hi hlk hvl b1 b2 hx1
  go_enter Try.func20, Try.ntmps20
  go_upto_region 1 with fail
  generalize ((w.alloc (.cells #[.slice ra k c, .int .i64 R, .int .i64 t] 30)).alloc (.cells #[.slice none 0 0, .int .i64 0, .int .i64 0] 30)) = wA at *
  have HQ : Hid (w.heap.size ≠ w.heap.size + 1) := ⟨by omega⟩
  have HQW : Hid (w.heap.size ≤ w.heap.size + 1) := ⟨by omega⟩
  generalize w.heap.size + 1 = q1 at *
  generalize hq : w.heap.size = q0 at HX0 HQ HQW ⊢
  have HQ1 := Hid.mk9 HX1.out.lt
  have HQ0 := Hid.mk9 HX0.out.lt
  obtain ⟨c0, c1, c2⟩ := HX0.out.cells
  have hq0 := HX0.out.lt
  go_upto_region 2 with (at_builtin; refine append_vs (w0 := wA) Try.underlying28 info44z rfl (by decide) rfl _ _ rfl _ 0 [] rfl (own_empty wA 44) (below_alloc wA _) _ k c vs rfl ((HVS.out.below HB.out).below (below_alloc wA _)) HO1.out (by decide) (by omega) ?_; intro v4 w4 ho4 hb4 _; have HO4 := Hid.mk9 ho4; have HB4 := Hid.mk9 hb4; clear ho4 hb4)
  have ho4 := HO4.out
  rw [Nat.zero_add, List.nil_append] at ho4
  obtain ⟨h1, ⟨e, h0⟩ | ⟨g, cap, cur, e, hBg, hh, hkc, hcm, hsz, htk⟩⟩ := ho4
  · exact absurd h0 (by have := HK.out.2.1; omega)
  subst e
  rw [Nat.mul_one] at hsz htk
  have hng0 : g ≠ q0 := by omega
  have hng1 : g ≠ q1 := by have := HQ1.out; omega
  have HX04 := Hid.mk9 (HX0.out.below HB4.out)
  have HX14 := Hid.mk9 (HX1.out.below HB4.out)
  have HB5 := Hid.mk9 (below2 HB.out HB4.out)
  have HL4 := Hid.mk9 ((HL.out.below HB.out).below HB4.out)
  have HV4 : Hid (∀ j, j < P.length → ∃ a' n' c', vs[j]? = some (.slice a' n' c') ∧ RowI w4 a' n' c' (P.getD j [])) := ⟨fun j hj => by
    obtain ⟨a', n', c', e1, e2⟩ := HV.out j hj
    exact ⟨a', n', c', e1, (e2.below HB.out).below HB4.out⟩⟩
  have hgi : w4.cell? ⟨g, i, none⟩ = some (cur.getD i undef) := by
    unfold World.cell?
    rw [show w4.heap[(⟨g, i, none⟩ : Addr).block]? = _ from hh]
    have : i < cur.size := by have := HK.out.2.1; omega
    simp [this]
  have hgf : w4.frozen? ⟨g, i, none⟩ = false := by
    unfold World.frozen?; rw [show w4.heap[(⟨g, i, none⟩ : Addr).block]? = _ from hh]; simp
  have HW5 : Hid ((w4.setCell ⟨g, i, none⟩ (.slice la n lc)).heap[g]? = some (Obj.cells (cur.setIfInBounds i (.slice la n lc)) 44 (0, 0))) := ⟨heap_setCell_same w4 g i _ _ _ hh⟩
  have HW5B : Hid (Below w.heap.size w (w4.setCell ⟨g, i, none⟩ (.slice la n lc))) := ⟨HB5.out.setCell (p := ⟨g, i, none⟩) (by have := HB.out.size; show w.heap.size ≤ g; omega) _⟩
  have HX05 := Hid.mk9 (HX04.out.kept (heap_setCell_other w4 ⟨g, i, none⟩ q0 (.slice la n lc) hng0.symm))
  have HX15 := Hid.mk9 (HX14.out.kept (heap_setCell_other w4 ⟨g, i, none⟩ q1 (.slice la n lc) hng1.symm))
  have k3 := keep_set (E := 3) hh (by decide) i (.slice la n lc)
  have HR5 : Hid (RowsAt (w4.setCell ⟨g, i, none⟩ (.slice la n lc)) (some ⟨g, 0, none⟩) k cap (P.set i L)) := ⟨RowsAt.set HW5.out hsz htk hkc hcm HK.out.2.2.2 HK.out.2.2.1 HK.out.2.1 (fun j hj => by
    obtain ⟨a', n', c', e1, e2⟩ := HV4.out j hj
    exact ⟨a', n', c', e1, e2.kept k3⟩) (HL4.out.kept k3)⟩
  have kc : (k : Int) ≤ (cap : Int) := by omega
  clear k3 hh hsz htk hkc hcm h1 HV4 HL4 HX04 HX14 HB5 HW5 c0 c1 c2 hq0
  go_upto_region 3 with fail
  generalize w4.setCell ⟨g, i, none⟩ (.slice la n lc) = W5 at *
  clear hgi hgf
  obtain ⟨c0, c1, c2⟩ := HX05.out.cells
  obtain ⟨f0, f1, f2⟩ := HX05.out.frz
  obtain ⟨d0, d1, d2⟩ := HX15.out.cells
  obtain ⟨e0, e1, e2⟩ := HX15.out.frz
  have hx6 : Bx3 (W5.setCell ⟨q0, 0, none⟩ (.slice (some ⟨g, 0, none⟩) k cap)) q0 30 (.slice (some ⟨g, 0, none⟩) k cap) (.int .i64 R) (.int .i64 t) := heap_setCell_same W5 q0 0 _ _ _ HX05.out
  have HX16 : Hid (Bx3 (W5.setCell ⟨q0, 0, none⟩ (.slice (some ⟨g, 0, none⟩) k cap)) q1 30 (.slice none 0 0) (.int .i64 0) (.int .i64 0)) := ⟨HX15.out.kept (heap_setCell_other W5 ⟨q0, 0, none⟩ q1 _ HQ.out.symm)⟩
  have HB6 : Hid (Below w.heap.size w (W5.setCell ⟨q0, 0, none⟩ (.slice (some ⟨g, 0, none⟩) k cap))) := ⟨HW5B.out.setCell (p := ⟨q0, 0, none⟩) (by show w.heap.size ≤ q0; omega) _⟩
  have HR6 : Hid (RowsAt (W5.setCell ⟨q0, 0, none⟩ (.slice (some ⟨g, 0, none⟩) k cap)) (some ⟨g, 0, none⟩) k cap (P.set i L)) := ⟨HR5.out.kept (keep_set (T := 30) HX05.out (by decide) _ _) (keep_set (T := 30) HX05.out (by decide) _ _)⟩
  have HX06 := Hid.mk9 hx6
  clear hx6
  go_upto_region 4 with fail
  generalize W5.setCell ⟨q0, 0, none⟩ (.slice (some ⟨g, 0, none⟩) k cap) = W6 at *
  clear c0 c1 c2 f0 f1 f2 d0 d1 d2 e0 e1 e2 HX05 HX15
  obtain ⟨c0, c1, c2⟩ := HX06.out.cells
  obtain ⟨d0, d1, d2⟩ := HX16.out.cells
  obtain ⟨e0, e1, e2⟩ := HX16.out.frz
  have HX17 := Hid.mk9 (HX16.out.set (.slice (some ⟨g, 0, none⟩) k cap) (.int .i64 R) (.int .i64 t))
  have HP7 : Hid (WiPost (P.set i L) R t w (.returned (.agg #[.slice (some ⟨g, 0, none⟩) k cap, .int .i64 R, .int .i64 t])) (put3 W6 q1 (.slice (some ⟨g, 0, none⟩) k cap) (.int .i64 R) (.int .i64 t))) := ⟨put3_below HB6.out (by have := HQW.out; omega) _ _ _, _, rfl, _, _, by rw [List.length_set, HK.out.2.2.1], by rw [List.length_set, HK.out.2.2.1]; exact HR6.out.kept (keep_put3 HX16.out (by decide) _ _ _) (keep_put3 HX16.out (by decide) _ _ _)⟩
  go_wp2_with fail
  refine bodyPost_ret (ret_bx3 rfl _ _ q1 (.slice (some ⟨g, 0, none⟩) k cap) (.int .i64 R) (.int .i64 t) rfl HX17.out) rfl ?_
  exact HP7.out
end Go.Proofs.Ytpolehfkjpbofaa.Ta
