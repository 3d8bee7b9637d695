/-
  The law told.
-/
import Derived.Test.YtjdgcbdpeooogaaDoorBiU
import Derived.Test.YtjdgcbdpeooogaaDoorBiSa
namespace Go.Proofs.YtjdgcbdpeooogaaDoor.Bi
open Go.ChangeShapes Go.WideShapes Go.ChangeAt Go.RowKit
/-- the law's told -/
noncomputable def toldP (bs : List Nat) (N er f : Int) (l : List Bool) (n : Nat) : Bool := decide (er = f) && sameP bs (pack l (need n)) N (n : Int)
set_option maxHeartbeats 1000000 in
set_option maxRecDepth 60000 in
theorem told_any (a : Option Addr) (len cap : Nat) (N : Int) (bs : List Nat) (er f : Int) (al : Option Addr) (lenl capl : Nat) (l : List Bool) (w : World) (h : ByAt w a len cap bs) (hl : BoAt w al lenl capl l) (h9 : lenl ≤ 20000) : Calls Tryd.prog 14 #[.agg #[.slice a len cap, .int .i64 N], .int .i64 er, .slice al lenl capl, .int .i64 f] w fun e w' => e = .returned (.bool (toldP bs N er f l lenl)) ∧ Below w.heap.size w w' := by
  have hb1 := below_alloc w (.cells #[.slice a len cap, .int .i64 N] 24)
  have HB := Hid.mk9 hb1
  have HX := Hid.mk9 (B2.new w 24 (.slice a len cap) (.int .i64 N))
  have HR := Hid.mk9 (h.below hb1)
  have HL := Hid.mk9 (hl.below hb1)
  have HL9 := Hid.mk9 h9
  clear hb1 h hl h9
  go_enter Tryd.func14, Tryd.ntmps14
  go_upto_region 1 with fail
  generalize w.alloc (.cells #[.slice a len cap, .int .i64 N] 24) = w1 at *
  obtain ⟨X, hX⟩ : ∃ X, w.heap.size = X := ⟨_, rfl⟩
  rw [hX] at HX
  rw [show (.pointer (some ⟨w.heap.size, 0, none⟩) : Value) = .pointer (some ⟨X, 0, none⟩) by rw [hX]]
  clear hX
  by_cases hf : er = f
  · subst hf
    have HQ : Hid (toldP bs N er er l lenl = sameP bs (pack l (need lenl)) N (lenl : Int)) := by unfold Hid toldP; simp
    have hS : (fun w' => Below w1.heap.size w1 w') w1.drew := below_drew w1
    refine held_start (S := fun w' => Below w1.heap.size w1 w') mixed9 ?_
    refine held_take (i := 0) (v := .int .i64 er) rfl (by kernel_rfl) (fun _ _ _ h => h) (.inl ⟨rfl, fun w hS => ?_⟩) hS ?_
    · clear hS
      go_simp
    try simp only [Act.put, List.setIfInBounds_toArray, List.set_cons_zero, List.set_cons_succ]
    refine held_take (i := 1) (v := .int .i64 er) rfl (by kernel_rfl) (fun _ _ _ h => h) (.inl ⟨rfl, fun w hS => ?_⟩) hS ?_
    · clear hS
      go_simp
    try simp only [Act.put, List.setIfInBounds_toArray, List.set_cons_zero, List.set_cons_succ]
    refine held_take (i := 2) (v := .bool true) rfl (by kernel_rfl) (fun _ _ _ h => h) (.inl ⟨rfl, fun w hS => ?_⟩) hS ?_
    · clear hS
      go_simp
    try simp only [Act.put, List.setIfInBounds_toArray, List.set_cons_zero, List.set_cons_succ]
    refine held_take (i := 3) (v := .bool true) rfl (by kernel_rfl) (fun _ _ _ h => h) (.inl ⟨rfl, fun w hS => ?_⟩) hS ?_
    · clear hS
      go_simp
    try simp only [Act.put, List.setIfInBounds_toArray, List.set_cons_zero, List.set_cons_succ]
    refine held_take (i := 4) (v := .agg #[.slice a len cap, .int .i64 N]) rfl (by kernel_rfl) (fun _ _ _ h => h) (.inl ⟨rfl, fun w hS => ?_⟩) hS ?_
    · obtain ⟨q0, q1⟩ := (HX.out.below hS).cells
      go_simp
    try simp only [Act.put, List.setIfInBounds_toArray, List.set_cons_zero, List.set_cons_succ]
    refine held_take (i := 5) (v := .slice al lenl capl) rfl (by kernel_rfl) (fun _ _ _ h => h) (.inl ⟨rfl, fun w hS => ?_⟩) hS ?_
    · clear hS
      go_simp
    try simp only [Act.put, List.setIfInBounds_toArray, List.set_cons_zero, List.set_cons_succ]
    refine held_one (i := 6) (by kernel_rfl) rfl rfl ?_
    intro K hK
    go_simp
    go_at_call 38
    refine (of_any al lenl capl l _ (HL.out.below hS) HL9.out).mono ?_
    rintro en w3 ⟨hb3, g, hg3, rfl, hr3⟩
    have hN := below2 hS hb3
    have HR3 := Hid.mk9 hr3
    clear hb3 hg3 hr3
    refine hK.out _ _ hN ?_
    clear hK hS
    have hS := hN
    clear hN
    try simp only [Act.put, List.setIfInBounds_toArray, List.set_cons_zero, List.set_cons_succ]
    refine held_one (i := 7) (by kernel_rfl) rfl rfl ?_
    intro K hK
    go_simp
    go_at_call 37
    refine (same_any a len cap N bs _ _ _ _ (pack l (need lenl)) _ (HR.out.below hS) (by
      have h5 := HR3.out.bytes (by rw [pack_len]; have := HL9.out; unfold need maxLen; omega) (pack_lt l (need lenl))
      rwa [pack_len] at h5)).mono ?_
    rintro en w4 ⟨rfl, hb4⟩
    have hN := below2 hS hb4
    clear hb4
    refine hK.out _ _ hN ?_
    clear hK hS
    have hS := hN
    clear hN
    try simp only [Act.put, List.setIfInBounds_toArray, List.set_cons_zero, List.set_cons_succ]
    refine held_take (i := 8) (v := .bool (sameP bs (pack l (need lenl)) N (lenl : Int))) rfl (by kernel_rfl) (fun _ _ _ h => h) (.inl ⟨rfl, fun w hS => ?_⟩) hS ?_
    · clear hS
      go_simp
    try simp only [Act.put, List.setIfInBounds_toArray, List.set_cons_zero, List.set_cons_succ]
    refine held_take (i := 9) (v := .bool (sameP bs (pack l (need lenl)) N (lenl : Int))) rfl (by kernel_rfl) (fun _ _ _ h => h) (.inl ⟨rfl, fun w hS => ?_⟩) hS ?_
    · clear hS
      go_simp
    try simp only [Act.put, List.setIfInBounds_toArray, List.set_cons_zero, List.set_cons_succ]
    refine wpAnyH_done (by kernel_rfl) ?_ _
    refine NoPanic.normal ?_
    go_wp2_with fail
    go_ret
    exact ⟨by rw [HQ.out]; rfl, below2 HB.out hS⟩
  · have HQ : Hid (toldP bs N er f l lenl = false) := by unfold Hid toldP; simp [hf]
    have hne : (er == f) = false := by rw [beq_eq_false_iff_ne]; exact hf
    clear hf
    obtain ⟨y0, y1⟩ := HX.out.cells
    have x0 := cell_grown (a := ⟨X, 0, none⟩) HX.out.lt y0
    have x1 := cell_grown (a := ⟨X, 1, none⟩) HX.out.lt y1
    clear y0 y1
    refine wp_region_QW mixed5 (by kernel_rfl) ?_
    repeat (refine QW_step (fun K hK => ?_); go_simp; first | (refine hK _ ?_; clear hK K) | (apply Exists.intro; refine ⟨fun _ => ?_, hK _ ?_⟩; fail; clear hK K))
    refine QW_nil ?_
    intro _ hw9
    obtain ⟨⟨nq, osq⟩, hw8⟩ := hw9
    subst hw8
    go_wp2_with fail
    go_ret
    exact ⟨by rw [HQ.out]; rfl, below2 HB.out (below_grow _ _ _)⟩
end Go.Proofs.YtjdgcbdpeooogaaDoor.Bi
