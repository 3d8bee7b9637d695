/-
  A cursor: Skip, Open.
-/
import Derived.Test.YtcdlkdbnlomghabDoorGlK
import Derived.ScopeJumps
import Derived.WalkMore
namespace Go.Proofs.YtcdlkdbnlomghabDoor.Gl
open Go.ChangeShapes Go.WideShapes Go.ChangeAt Go.RowKit
open Go.Proofs.YtcdlkdbnlomghabDoor.Bi
open Go.Proofs.YtcdlkdbnlomghabDoor.Fr (RowAt cellsI cellsI_get)
open Go.Proofs.YtcdlkdbnlomghabDoor.Bk (rT rV)
/-- those from a time on -/
def skL (t : Int) : List Bk.Sm → List Bk.Sm
  | [] => []
  | s :: r => if s.1 < t then skL t r else s :: r
theorem skL_lt {t : Int} {s : Bk.Sm} {r : List Bk.Sm} (h : s.1 < t) : skL t (s :: r) = skL t r := if_pos h
theorem skL_ge {t : Int} {s : Bk.Sm} {r : List Bk.Sm} (h : ¬ s.1 < t) : skL t (s :: r) = s :: r := if_neg h
theorem KpB.cur {w w' : World} {p : Nat} (h : KpB p w w') {X : Nat} {v0 v1 : Value} (hx : B2 w X 27 v0 v1) (hne : X ≠ p) : B2 w' X 27 v0 v1 := hx.kept (h.else_ X hx.lt hne)
structure SkIn (w : World) (p X : Nat) (t : Int) (ls ms : List Bk.Sm) (wr : World) : Prop where
  kp : KpB p w wr
  bx : B2 wr X 27 (.int .i64 0) (.int .i64 0)
  cur : CurAt wr p ms
  eq : skL t ls = skL t ms
  le : w.heap.size ≤ X ∧ p < w.heap.size
set_option maxHeartbeats 1000000 in
set_option maxRecDepth 60000 in
theorem skip_nil (t : Int) (w : World) : Calls Tryd.prog 5 #[.pointer none, .int .i64 t] w fun e w' => e = .returned (.tuple #[.agg #[.int .i64 0, .int .i64 0], .bool false]) ∧ Below w.heap.size w w' := by
  have HX := Hid.mk9 (B2.new w 27 (.int .i64 0) (.int .i64 0))
  have HB := Hid.mk9 (below_alloc w (.cells #[.int .i64 0, .int .i64 0] 27))
  have HN := Hid.mk9 (next_nil (w.alloc (.cells #[.int .i64 0, .int .i64 0] 27)))
  go_enter Tryd.func5, Tryd.ntmps5
  go_wp2_with fail
  go_step3
  go_upto_region 1 with fail
  generalize w.alloc (.cells #[.int .i64 0, .int .i64 0] 27) = w1 at *
  obtain ⟨X, hX⟩ : ∃ X, w.heap.size = X := ⟨_, rfl⟩
  have HXw := Hid.mk9 hX
  rw [hX] at HX ⊢
  clear hX
  go_step3
  go_upto_region 2 with (go_at_call 4; refine HN.out.mono ?_; rintro e w2 ⟨rfl, hb2⟩; have HX2 := Hid.mk9 (HX.out.below hb2); have HB2 := Hid.mk9 (below2 HB.out hb2); clear hb2 HX HB HN)
  have HX3 := Hid.mk9 (HX2.out.below (below_alloc w2 (.cells #[.int .i64 0, .int .i64 0] 27)))
  have HB3 := Hid.mk9 (below2 HB2.out (below_alloc w2 (.cells #[.int .i64 0, .int .i64 0] 27)))
  have HD3 := Hid.mk9 (B2.new w2 27 (.int .i64 0) (.int .i64 0))
  clear HX2 HB2
  generalize w2.alloc (.cells #[.int .i64 0, .int .i64 0] 27) = w3 at *
  generalize w2.heap.size = D at *
  obtain ⟨x0, x1⟩ := HX3.out.cells
  obtain ⟨y0, y1⟩ := HX3.out.frz
  obtain ⟨z0, z1⟩ := HD3.out.cells
  go_wp2_with fail
  try simp only [Exit.noGoto]
  refine bodyPost_ret (ret_smb rfl _ _ X (.int .i64 0) (.int .i64 0) (.bool false) rfl rfl (HX3.out.set (.int .i64 0) (.int .i64 0))) rfl ?_
  exact ⟨rfl, set2_below HB3.out (by rw [HXw.out]; exact Nat.le_refl _) _ _⟩
theorem kp_set2 {w w2 : World} {p X : Nat} (h : KpB p w w2) (hl : w.heap.size ≤ X ∧ p < w.heap.size) (u0 u1 : Value) : KpB p w (set2 w2 X u0 u1) := by
  refine ⟨?_, fun k hk hkp => ?_, fun N w0 hN hNp => ?_⟩
  · have := h.size
    unfold set2 World.setCell
    simp
    exact this
  · rw [set2_else u0 u1 (by omega)]
    exact h.else_ k hk hkp
  · exact set2_below (h.below N w0 hN hNp) (by omega) _ _
theorem cur_set2 {w : World} {p X : Nat} {ls : List Bk.Sm} (h : CurAt w p ls) (hp : p < X) (u0 u1 : Value) : CurAt (set2 w X u0 u1) p ls := by
  obtain ⟨a, len, cap, h⟩ := h
  refine ⟨a, len, cap, h.keep (X := X) (fun k hk => set2_else u0 u1 hk) (Nat.ne_of_lt hp) (h.2.2.imp id fun hn q hq => ?_)⟩
  have := hn q hq
  omega
/-- how many there are ahead of a cursor -/
def curN (w : World) (p : Nat) : Nat := match w.cell? ⟨p, 0, none⟩ with
  | some (.slice _ n _) => n
  | _ => 0
theorem cur_len {w : World} {p : Nat} {ls : List Bk.Sm} (h : CurAt w p ls) : curN w p = ls.length := by
  obtain ⟨a, len, cap, h⟩ := h
  unfold curN
  rw [h.cell.1]
  exact h.2.1.1.symm
set_option maxHeartbeats 1000000 in
set_option maxRecDepth 60000 in
theorem skip_any (p : Nat) (t : Int) (ls : List Bk.Sm) (w : World) (h : CurAt w p ls) : Calls Tryd.prog 5 #[.pointer (some ⟨p, 0, none⟩), .int .i64 t] w fun e w' => CurTell p (skL t ls) w e w' := by
  have hlt := h.lt
  have HI0 : Hid (SkIn w p w.heap.size t ls ls (w.alloc (.cells #[.int .i64 0, .int .i64 0] 27))) := ⟨KpB.of_below (below_alloc w _) (Nat.le_of_lt hlt), B2.new w 27 (.int .i64 0) (.int .i64 0), h.below (below_alloc w _), rfl, Nat.le_refl _, hlt⟩
  clear h hlt
  go_enter Tryd.func5, Tryd.ntmps5
  go_wp2_with fail
  generalize w.alloc (.cells #[.int .i64 0, .int .i64 0] 27) = w1 at *
  generalize hX : w.heap.size = X at HI0 ⊢
  clear hX
  refine wp_scope_jumps 0 (fun a' wr => ∃ (ms : List Bk.Sm) (u6 u7 u8 u9 u10 u11 u12 u13 u14 u15 u16 u17 u18 u19 u20 u21 : Value), a' = ⟨#[.pointer (some ⟨p, 0, none⟩), .int .i64 t, undef, undef, .pointer (some ⟨X, 0, none⟩), .bool false, u6, u7, u8, u9, u10, u11, u12, u13, u14, u15, u16, u17, u18, u19, u20, u21], []⟩ ∧ SkIn w p X t ls ms wr) (fun _ wr => curN wr p) rfl ?_ ?_
  · go_wp2_with fail
    go_step3
    have HI := Hid.mk9 HI0.out
    clear HI0
    obtain ⟨ms, HI⟩ : ∃ ms, Hid (SkIn w p X t ls ms w1) := ⟨ls, HI⟩
    cases ms with
    | nil =>
      have HN : Hid (Calls Tryd.prog 4 #[.pointer (some ⟨p, 0, none⟩)] w1 fun e w' => KpB p w1 w' ∧ CurAt w' p [] ∧ e = .returned (.tuple #[.agg #[.int .i64 0, .int .i64 0], .bool false])) := next_end p w1 HI.out.cur
      have HE : Hid (skL t ls = []) := HI.out.eq
      go_upto_region 2 with (go_at_call 4; refine HN.out.mono ?_; rintro e w2 ⟨hk2, hc2, rfl⟩; have HK2 := Hid.mk9 (HI.out.kp.trans hk2); have HC2 := Hid.mk9 hc2; have HX2 := Hid.mk9 (KpB.cur hk2 HI.out.bx (by have := HI.out.le; omega)); have HLe := Hid.mk9 HI.out.le; clear hk2 hc2 HI HN)
      obtain ⟨D, hD⟩ : ∃ D, D = w2.heap.size := ⟨_, rfl⟩
      have HKs : Hid (∀ u0 u1, KpB p w (set2 (w2.alloc (.cells #[.int .i64 0, .int .i64 0] 27)) X u0 u1)) := fun u0 u1 => kp_set2 (HK2.out.trans (KpB.of_below (below_alloc w2 _) (Nat.le_of_lt HC2.out.lt))) HLe.out u0 u1
      have HX3 := Hid.mk9 (HX2.out.below (below_alloc w2 (.cells #[.int .i64 0, .int .i64 0] 27)))
      have HC3 := Hid.mk9 (HC2.out.below (below_alloc w2 (.cells #[.int .i64 0, .int .i64 0] 27)))
      have HD3 := Hid.mk9 (B2.new w2 27 (.int .i64 0) (.int .i64 0))
      rw [← hD] at HD3 ⊢
      clear hD HX2 HC2 HK2
      generalize w2.alloc (.cells #[.int .i64 0, .int .i64 0] 27) = w3 at *
      obtain ⟨x0, x1⟩ := HX3.out.cells
      obtain ⟨y0, y1⟩ := HX3.out.frz
      obtain ⟨z0, z1⟩ := HD3.out.cells
      go_wp2_with fail
      try simp only [Exit.jump]
      refine bodyPost_ret (ret_smb rfl _ _ X (.int .i64 0) (.int .i64 0) (.bool false) rfl rfl (HX3.out.set (.int .i64 0) (.int .i64 0))) rfl ?_
      rw [HE.out]
      exact ⟨HKs.out _ _, cur_set2 HC3.out (by have := HLe.out; omega) _ _, rfl⟩
    | cons s ms =>
      have HN : Hid (Calls Tryd.prog 4 #[.pointer (some ⟨p, 0, none⟩)] w1 fun e w' => KpB p w1 w' ∧ CurAt w' p ms ∧ e = .returned (.tuple #[.agg #[.int .i64 s.1, .int .i64 s.2], .bool true])) := next_some p s ms w1 HI.out.cur
      have HMe : Hid (curN w1 p = ms.length + 1) := cur_len HI.out.cur
      have HE := Hid.mk9 HI.out.eq
      go_upto_region 2 with (go_at_call 4; refine HN.out.mono ?_; rintro e w2 ⟨hk2, hc2, rfl⟩; have HK2 := Hid.mk9 (HI.out.kp.trans hk2); have HC2 := Hid.mk9 hc2; have HX2 := Hid.mk9 (KpB.cur hk2 HI.out.bx (by have := HI.out.le; omega)); have HLe := Hid.mk9 HI.out.le; clear hk2 hc2 HI HN)
      have HKs : Hid (∀ u0 u1, KpB p w (set2 (w2.alloc (.cells #[.int .i64 s.1, .int .i64 s.2] 27)) X u0 u1)) := fun u0 u1 => kp_set2 (HK2.out.trans (KpB.of_below (below_alloc w2 _) (Nat.le_of_lt HC2.out.lt))) HLe.out u0 u1
      have HK3 := Hid.mk9 (HK2.out.trans (KpB.of_below (below_alloc w2 (.cells #[.int .i64 s.1, .int .i64 s.2] 27)) (Nat.le_of_lt HC2.out.lt)))
      have HX3 := Hid.mk9 (HX2.out.below (below_alloc w2 (.cells #[.int .i64 s.1, .int .i64 s.2] 27)))
      have HC3 := Hid.mk9 (HC2.out.below (below_alloc w2 (.cells #[.int .i64 s.1, .int .i64 s.2] 27)))
      have HD3 := Hid.mk9 (B2.new w2 27 (.int .i64 s.1) (.int .i64 s.2))
      clear HX2 HC2 HK2
      generalize hw3 : w2.alloc (.cells #[.int .i64 s.1, .int .i64 s.2] 27) = w3 at *
      generalize hD3 : w2.heap.size = D at *
      clear hw3 hD3
      obtain ⟨x0, x1⟩ := HX3.out.cells
      obtain ⟨y0, y1⟩ := HX3.out.frz
      obtain ⟨z0, z1⟩ := HD3.out.cells
      by_cases hlt : s.1 < t
      · go_wp2_with fail
        go_step3
        exact ⟨rfl, ms, _, _, _, _, _, _, _, _, _, _, _, _, _, _, _, _, rfl, HK3.out, HX3.out, HC3.out, by rw [HE.out, skL_lt hlt], HLe.out⟩
      · go_wp2_with fail
        try simp only [Exit.jump]
        refine bodyPost_ret (ret_smb rfl _ _ X (.int .i64 s.1) (.int .i64 s.2) (.bool true) rfl rfl (HX3.out.set (.int .i64 s.1) (.int .i64 s.2))) rfl ?_
        rw [HE.out, skL_ge (by omega)]
        exact ⟨HKs.out _ _, cur_set2 HC3.out (by have := HLe.out; omega) _ _, rfl⟩
  · rintro a' wr ⟨ms, u6, u7, u8, u9, u10, u11, u12, u13, u14, u15, u16, u17, u18, u19, u20, u21, rfl, hI⟩
    have HI := Hid.mk9 hI
    clear hI HI0
    cases ms with
    | nil =>
      have HN : Hid (Calls Tryd.prog 4 #[.pointer (some ⟨p, 0, none⟩)] wr fun e w' => KpB p wr w' ∧ CurAt w' p [] ∧ e = .returned (.tuple #[.agg #[.int .i64 0, .int .i64 0], .bool false])) := next_end p wr HI.out.cur
      have HE : Hid (skL t ls = []) := HI.out.eq
      go_upto_region 2 with (go_at_call 4; refine HN.out.mono ?_; rintro e w2 ⟨hk2, hc2, rfl⟩; have HK2 := Hid.mk9 (HI.out.kp.trans hk2); have HC2 := Hid.mk9 hc2; have HX2 := Hid.mk9 (KpB.cur hk2 HI.out.bx (by have := HI.out.le; omega)); have HLe := Hid.mk9 HI.out.le; clear hk2 hc2 HI HN)
      obtain ⟨D, hD⟩ : ∃ D, D = w2.heap.size := ⟨_, rfl⟩
      have HKs : Hid (∀ u0 u1, KpB p w (set2 (w2.alloc (.cells #[.int .i64 0, .int .i64 0] 27)) X u0 u1)) := fun u0 u1 => kp_set2 (HK2.out.trans (KpB.of_below (below_alloc w2 _) (Nat.le_of_lt HC2.out.lt))) HLe.out u0 u1
      have HX3 := Hid.mk9 (HX2.out.below (below_alloc w2 (.cells #[.int .i64 0, .int .i64 0] 27)))
      have HC3 := Hid.mk9 (HC2.out.below (below_alloc w2 (.cells #[.int .i64 0, .int .i64 0] 27)))
      have HD3 := Hid.mk9 (B2.new w2 27 (.int .i64 0) (.int .i64 0))
      rw [← hD] at HD3 ⊢
      clear hD HX2 HC2 HK2
      generalize w2.alloc (.cells #[.int .i64 0, .int .i64 0] 27) = w3 at *
      obtain ⟨x0, x1⟩ := HX3.out.cells
      obtain ⟨y0, y1⟩ := HX3.out.frz
      obtain ⟨z0, z1⟩ := HD3.out.cells
      go_wp2_with fail
      try simp only [Exit.jump]
      refine bodyPost_ret (ret_smb rfl _ _ X (.int .i64 0) (.int .i64 0) (.bool false) rfl rfl (HX3.out.set (.int .i64 0) (.int .i64 0))) rfl ?_
      rw [HE.out]
      exact ⟨HKs.out _ _, cur_set2 HC3.out (by have := HLe.out; omega) _ _, rfl⟩
    | cons s ms =>
      have HN : Hid (Calls Tryd.prog 4 #[.pointer (some ⟨p, 0, none⟩)] wr fun e w' => KpB p wr w' ∧ CurAt w' p ms ∧ e = .returned (.tuple #[.agg #[.int .i64 s.1, .int .i64 s.2], .bool true])) := next_some p s ms wr HI.out.cur
      have HMe : Hid (curN wr p = ms.length + 1) := cur_len HI.out.cur
      have HE := Hid.mk9 HI.out.eq
      go_upto_region 2 with (go_at_call 4; refine HN.out.mono ?_; rintro e w2 ⟨hk2, hc2, rfl⟩; have HK2 := Hid.mk9 (HI.out.kp.trans hk2); have HC2 := Hid.mk9 hc2; have HX2 := Hid.mk9 (KpB.cur hk2 HI.out.bx (by have := HI.out.le; omega)); have HLe := Hid.mk9 HI.out.le; clear hk2 hc2 HI HN)
      have HKs : Hid (∀ u0 u1, KpB p w (set2 (w2.alloc (.cells #[.int .i64 s.1, .int .i64 s.2] 27)) X u0 u1)) := fun u0 u1 => kp_set2 (HK2.out.trans (KpB.of_below (below_alloc w2 _) (Nat.le_of_lt HC2.out.lt))) HLe.out u0 u1
      have HK3 := Hid.mk9 (HK2.out.trans (KpB.of_below (below_alloc w2 (.cells #[.int .i64 s.1, .int .i64 s.2] 27)) (Nat.le_of_lt HC2.out.lt)))
      have HX3 := Hid.mk9 (HX2.out.below (below_alloc w2 (.cells #[.int .i64 s.1, .int .i64 s.2] 27)))
      have HC3 := Hid.mk9 (HC2.out.below (below_alloc w2 (.cells #[.int .i64 s.1, .int .i64 s.2] 27)))
      have HD3 := Hid.mk9 (B2.new w2 27 (.int .i64 s.1) (.int .i64 s.2))
      clear HX2 HC2 HK2
      generalize hw3 : w2.alloc (.cells #[.int .i64 s.1, .int .i64 s.2] 27) = w3 at *
      generalize hD3 : w2.heap.size = D at *
      clear hw3 hD3
      obtain ⟨x0, x1⟩ := HX3.out.cells
      obtain ⟨y0, y1⟩ := HX3.out.frz
      obtain ⟨z0, z1⟩ := HD3.out.cells
      by_cases hlt : s.1 < t
      · go_wp2_with fail
        go_step3
        exact ⟨rfl, ⟨ms, _, _, _, _, _, _, _, _, _, _, _, _, _, _, _, _, rfl, HK3.out, HX3.out, HC3.out, by rw [HE.out, skL_lt hlt], HLe.out⟩, by rw [cur_len HC3.out, HMe.out]; exact Nat.lt_succ_self _⟩
      · go_wp2_with fail
        try simp only [Exit.jump]
        refine bodyPost_ret (ret_smb rfl _ _ X (.int .i64 s.1) (.int .i64 s.2) (.bool true) rfl rfl (HX3.out.set (.int .i64 s.1) (.int .i64 s.2))) rfl ?_
        rw [HE.out, skL_ge (by omega)]
        exact ⟨HKs.out _ _, cur_set2 HC3.out (by have := HLe.out; omega) _ _, rfl⟩
end Go.Proofs.YtcdlkdbnlomghabDoor.Gl
