/-
  Awake.
-/
import Derived.Test.YtejhmacbbdnlbaaAcN
namespace Go.Proofs.Ytejhmacbbdnlbaa.Ac
open Go.ChangeShapes Go.WideShapes Go.ChangeAt Go.RowKit
def AwakePost (w : World) (e : Ending) (w' : World) : Prop := e = .returned (.bool true) ∧ Below w.heap.size w w'
theorem aw1 : prepE 0 [] 5 1 = 0 := by rfl
theorem aw2 : prepP 0 [] 5 1 = 5 := by rfl
theorem aw3 : accE 5 [] 3 1 ⟨9, 0, 0, 0, 0, 0, []⟩ = 9 := by rfl
theorem aw4 : accE 5 [] 5 2 ⟨3, 3, 0, 0, 0, 0, []⟩ = 0 := by rfl
theorem aw5 : accP 5 [] 5 2 ⟨3, 3, 0, 0, 0, 0, []⟩ = 5 := by rfl
theorem aw6 : accL 5 [] 5 2 ⟨3, 3, 0, 0, 0, 0, []⟩ = [acd0, ⟨5, ⟨3, 3, 0, 0, 0, 0, []⟩⟩] := by rfl
theorem aw7 : accP 5 [] 3 1 ⟨9, 0, 0, 0, 0, 0, []⟩ = 5 := by rfl
theorem aw8 : prepT 0 [] 5 1 = [] := by rfl
theorem aw9 : accL 5 [] 3 1 ⟨9, 0, 0, 0, 0, 0, []⟩ = [] := by rfl
theorem aw10 : prepL 0 [] = [] := by rfl
set_option maxHeartbeats 4000000 in
set_option maxRecDepth 60000 in
theorem awake_any (w : World) : Calls Try.prog 6 #[] w fun e w' => AwakePost w e w' := by
  go_enter Try.func6, Try.ntmps6
  go_upto_region 2 with (go_at_call 7; refine (prepare_any 0 none 0 0 [] 5 1 _ (AcsAt.nil _)).mono ?_; rw [aw1, aw2, aw8, aw10]; rintro en w1 ⟨hb1, v1, u1, rfl, ho1, hu1⟩; have HB1 := Hid.mk9 hb1; obtain ⟨a1, c1, rfl, ha1⟩ := ho1.at; obtain ⟨a2, c2, rfl, ha2⟩ := hu1.at; have HA1 := Hid.mk9 ha1; clear ho1 hu1 ha1 ha2 hb1)
  have hba := below_alloc w1 (.cells #[.int .i64 5, .slice a1 0 c1] 24)
  have HX := Hid.mk9 (B2.new w1 24 (.int .i64 5) (.slice a1 0 c1))
  have HA := Hid.mk9 (HA1.out.below hba)
  have HB := Hid.mk9 (below2 HB1.out hba)
  have HSz := Hid.mk9 HB1.out.size
  clear hba HA1 HB1
  generalize w1.alloc (.cells #[.int .i64 5, .slice a1 0 c1] 24) = w2 at *
  obtain ⟨X, hX⟩ : ∃ X, w1.heap.size = X := ⟨_, rfl⟩
  have HXw : Hid (w.heap.size ≤ X) := Hid.mk9 (by rw [← hX]; exact HSz.out)
  rw [hX] at HX ⊢
  obtain ⟨p0, p1⟩ := HX.out.cells
  go_upto_region 3 with (go_at_call 8; refine (accept_any 5 a1 0 c1 [] 3 1 ⟨9, 0, 0, 0, 0, 0, []⟩ none 0 0 _ HA.out (RowI.nil _)).mono ?_; rw [aw3, aw7, aw9]; rintro en w3 ⟨hb3, v3, rfl, ho3⟩; have HB3 := Hid.mk9 (below2 HB.out hb3); have HX3 := Hid.mk9 (HX.out.below hb3); have HA3 := Hid.mk9 (HA.out.below hb3); obtain ⟨a3, c3, rfl, ha3⟩ := ho3.at; clear ho3 ha3 hb3 p0 p1)
  have hba := below_alloc w3 (.cells #[.int .i64 5, .slice a3 0 c3] 24)
  have HX4 := Hid.mk9 (HX3.out.below hba)
  have HA4 := Hid.mk9 (HA3.out.below hba)
  have HB4 := Hid.mk9 (below2 HB3.out hba)
  clear hba HX3 HA3 HB3 HX HA HB
  generalize w3.alloc (.cells #[.int .i64 5, .slice a3 0 c3] 24) = w4 at *
  generalize w3.heap.size = Y at *
  obtain ⟨p0, p1⟩ := HX4.out.cells
  go_upto_region 4 with (go_at_call 8; refine (accept_any 5 a1 0 c1 [] 5 2 ⟨3, 3, 0, 0, 0, 0, []⟩ none 0 0 _ HA4.out (RowI.nil _)).mono ?_; rw [aw4, aw5, aw6]; rintro en w5 ⟨hb5, v5, rfl, ho5⟩; have HB5 := Hid.mk9 (below2 HB4.out hb5); have HX5 := Hid.mk9 (HX4.out.below hb5); have HO5 := Hid.mk9 ho5; obtain ⟨a5, c5, rfl, -⟩ := HO5.out.at; clear ho5 hb5 p0 p1; obtain ⟨p0, p1⟩ := HX5.out.cells; obtain ⟨f0, f1⟩ := HX5.out.frz)
  have HX6 := Hid.mk9 (HX5.out.set (.int .i64 5) (.slice a5 2 c5))
  have HB6 := Hid.mk9 (set2_below HB5.out (b := X) HXw.out (.int .i64 5) (.slice a5 2 c5))
  have ho6 := HO5.out.grown (set2_grownBy w5 X (.int .i64 5) (.slice a5 2 c5)) HX5.out (by decide) (by decide)
  obtain ⟨g, cg, ev, -, -, c, hc, ⟨-, -, x2, -, -, -, -, -⟩, -⟩ := (OwnA.part (w0 := w) ho6).at (i := 1) (by decide)
  have hc2 : c.x = ⟨5, ⟨3, 3, 0, 0, 0, 0, []⟩⟩ := hc.symm
  rw [hc2] at x2
  have x10 : (set2 w5 X (.int .i64 5) (.slice a5 2 c5)).cell? ⟨g, 10, none⟩ = some (.int .i64 3) := x2
  have ev1 := congrArg (fun v => match v with | .slice a _ _ => a | _ => none) ev
  simp only at ev1
  subst ev1
  clear ev hc hc2 x2 ho6 HO5 p0 p1 f0 f1 HX5 HB5
  unfold set2 at x10 HX6 HB6
  generalize (w5.setCell ⟨X, 0, none⟩ (.int .i64 5)).setCell ⟨X, 1, none⟩ (.slice (some ⟨g, 0, none⟩) 2 c5) = w6 at *
  obtain ⟨p0, p1⟩ := HX6.out.cells
  go_wp2_with fail
  go_ret
  exact ⟨rfl, HB6.out⟩
end Go.Proofs.Ytejhmacbbdnlbaa.Ac
