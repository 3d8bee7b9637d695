/-
  What refuses a delta of a node that is there: refusalOfNode.
-/
import Derived.Test.YtcncbjknfcjnmaaGreatPr23
namespace Go.Proofs.YtcncbjknfcjnmaaGreat.Tp
open Go.ChangeShapes Go.WideShapes Go.ChangeAt Go.RowKit
set_option maxHeartbeats 4000000 in
set_option maxRecDepth 60000 in
theorem refuseNode_2s (m : Mp) (s : MV) (c1 c2 c3 : Int) (c5 c6 : Bool) (id z r wt g : Int) (hwt : 0 <= wt /\ wt <= 65536) (a : Option Addr) (len cap : Nat) (w : World) : Calls Tryz.prog 69 #[.agg (mapCells m s).toArray,.agg #[.int .i64 c1,.int .i64 c2,.int .i64 c3,.int .i64 wt,.bool c5,.bool c6],.agg #[.int .i64 2,.int .i64 id,.int .i64 z,.int .i64 r,.int .i64 wt,.int .i64 g,.slice a len cap]] w fun e w' => e = .returned (.int .i64 7) /\ Grown w w' := by
 rw [map_split]
 obtain ⟨aN,lN,cN,aT,lT,cT,aR,lR,cR⟩ := s
 simp only at *
 have HWI : Hid (∀ w : World,Calls Tryz.prog 39 #[.int .i64 wt,.int .i64 0,.int .i64 65536] w fun e w' => e = .returned (.bool true) /\ w' = w) := mwithin_yes hwt.1 hwt.2
 obtain ⟨w1,hw1⟩ : ∃ w1,w1 = (((w.alloc (.cells #[.int .i64 m.ep,.int .i64 m.size,.int .i64 m.mn,.int .i64 m.gr,.slice aN lN cN,.slice aT lT cT,.slice aR lR cR] 26)).alloc (.cells #[.int .i64 c1,.int .i64 c2,.int .i64 c3,.int .i64 wt,.bool c5,.bool c6] 72)).alloc (.cells #[.int .i64 2,.int .i64 id,.int .i64 z,.int .i64 r,.int .i64 wt,.int .i64 g,.slice a len cap] 37)) := ⟨_,rfl⟩
 have hg1 : Grown w w1 := by rw [hw1]; exact grown2 (grown2 (grown_alloc _ _) (grown_alloc _ _)) (grown_alloc _ _)
 have hb1 := grown_below hg1
 have HBA : Hid (Box7 w1 w.heap.size (.int .i64 m.ep) (.int .i64 m.size) (.int .i64 m.mn) (.int .i64 m.gr) (.slice aN lN cN) (.slice aT lT cT) (.slice aR lR cR)) := by
  rw [hw1]
  exact ((Box7.new w _ _ _ _ _ _ _ _).below (below_alloc _ _)).below (below_alloc _ _)
 have HS : Hid (Six w1 (w.heap.size + 1) (.int .i64 c1) (.int .i64 c2) (.int .i64 c3) (.int .i64 wt) (.bool c5) (.bool c6)) := by
  rw [hw1]
  have := (six_new (w.alloc (.cells #[.int .i64 m.ep,.int .i64 m.size,.int .i64 m.mn,.int .i64 m.gr,.slice aN lN cN,.slice aT lT cT,.slice aR lR cR] 26)) (.int .i64 c1) (.int .i64 c2) (.int .i64 c3) (.int .i64 wt) (.bool c5) (.bool c6) 72).below (below_alloc _ (.cells #[.int .i64 2,.int .i64 id,.int .i64 z,.int .i64 r,.int .i64 wt,.int .i64 g,.slice a len cap] 37))
  rwa [show (w.alloc (.cells #[.int .i64 m.ep,.int .i64 m.size,.int .i64 m.mn,.int .i64 m.gr,.slice aN lN cN,.slice aT lT cT,.slice aR lR cR] 26)).heap.size = w.heap.size + 1 by simp] at this
 have HBD : Hid (Box7 w1 (w.heap.size + 1 + 1) (.int .i64 2) (.int .i64 id) (.int .i64 z) (.int .i64 r) (.int .i64 wt) (.int .i64 g) (.slice a len cap)) := by
  rw [hw1]
  have := Box7.new ((w.alloc (.cells #[.int .i64 m.ep,.int .i64 m.size,.int .i64 m.mn,.int .i64 m.gr,.slice aN lN cN,.slice aT lT cT,.slice aR lR cR] 26)).alloc (.cells #[.int .i64 c1,.int .i64 c2,.int .i64 c3,.int .i64 wt,.bool c5,.bool c6] 72)) (.int .i64 2) (.int .i64 id) (.int .i64 z) (.int .i64 r) (.int .i64 wt) (.int .i64 g) (.slice a len cap) 37
  rwa [show ((w.alloc (.cells #[.int .i64 m.ep,.int .i64 m.size,.int .i64 m.mn,.int .i64 m.gr,.slice aN lN cN,.slice aT lT cT,.slice aR lR cR] 26)).alloc (.cells #[.int .i64 c1,.int .i64 c2,.int .i64 c3,.int .i64 wt,.bool c5,.bool c6] 72)).heap.size = w.heap.size + 1 + 1 by simp] at this
 have HW1 : Hid (w1 = (((w.alloc (.cells #[.int .i64 m.ep,.int .i64 m.size,.int .i64 m.mn,.int .i64 m.gr,.slice aN lN cN,.slice aT lT cT,.slice aR lR cR] 26)).alloc (.cells #[.int .i64 c1,.int .i64 c2,.int .i64 c3,.int .i64 wt,.bool c5,.bool c6] 72)).alloc (.cells #[.int .i64 2,.int .i64 id,.int .i64 z,.int .i64 r,.int .i64 wt,.int .i64 g,.slice a len cap] 37))) := hw1
 have HG1 : Hid (Grown w w1) := hg1
 clear hw1 hg1
 have HT : Hid (∀ W,Calls Tryz.prog 93 #[.agg #[.int .i64 c1,.int .i64 c2,.int .i64 c3,.int .i64 wt,.bool c5,.bool c6],.agg #[.int .i64 2,.int .i64 id,.int .i64 z,.int .i64 r,.int .i64 wt,.int .i64 g,.slice a len cap]] W fun e w' => e = .returned (.agg #[.int .i64 c1,.int .i64 c2,.int .i64 c3,.int .i64 wt,.bool c5,.bool c6]) /\ Grown W w') := fun W => turned_2 c1 c2 c3 wt c5 c6 id z r wt g a len cap W
 go_enter Tryz.func69,Tryz.ntmps69
 go_upto_region 1 with fail
 rw [<- HW1.out]
 clear HW1
 have hl2 := HBD.out.lt
 have hl1 : w.heap.size + 1 < w1.heap.size := by omega
 obtain ⟨s0,s1,s2,s3,s4,s5⟩ := HS.out
 obtain ⟨⟨d0,d1,d2,d3,d4,d5,d6⟩,-⟩ := HBD.out
 have HGR : Hid (∀ n os,Grown w (Go.Sort.grow (w1.drewN n) os)) := fun n os => grown2 HG1.out ⟨n,os,rfl⟩
 have x0 := cell_grown (w := w1) (a := ⟨w.heap.size + 1,0,none⟩) hl1 s0
 have x1 := cell_grown (w := w1) (a := ⟨w.heap.size + 1,1,none⟩) hl1 s1
 have x2 := cell_grown (w := w1) (a := ⟨w.heap.size + 1,2,none⟩) hl1 s2
 have x3 := cell_grown (w := w1) (a := ⟨w.heap.size + 1,3,none⟩) hl1 s3
 have x4 := cell_grown (w := w1) (a := ⟨w.heap.size + 1,4,none⟩) hl1 s4
 have x5 := cell_grown (w := w1) (a := ⟨w.heap.size + 1,5,none⟩) hl1 s5
 have y0 := cell_grown (w := w1) (a := ⟨w.heap.size + 1 + 1,0,none⟩) hl2 d0
 have y1 := cell_grown (w := w1) (a := ⟨w.heap.size + 1 + 1,1,none⟩) hl2 d1
 have y2 := cell_grown (w := w1) (a := ⟨w.heap.size + 1 + 1,2,none⟩) hl2 d2
 have y3 := cell_grown (w := w1) (a := ⟨w.heap.size + 1 + 1,3,none⟩) hl2 d3
 have y4 := cell_grown (w := w1) (a := ⟨w.heap.size + 1 + 1,4,none⟩) hl2 d4
 have y5 := cell_grown (w := w1) (a := ⟨w.heap.size + 1 + 1,5,none⟩) hl2 d5
 have y6 := cell_grown (w := w1) (a := ⟨w.heap.size + 1 + 1,6,none⟩) hl2 d6
 go_wp2_with (go_at_call 39; refine (HWI.out _).mono ?_; rintro e w7 ⟨rfl,hw7⟩; obtain rfl := hw7.symm)
 refine wp_region_QW mixed5 (by kernel_rfl) ?_
 repeat (refine QW_step (fun K hK => ?_); go_simp; first | (refine hK _ ?_; clear hK K) | (apply Exists.intro; refine ⟨fun _ => ?_,hK _ ?_⟩; (go_at_call 93; refine Calls.grown_of (HT.out _)); clear hK K))
 refine QW_nil ?_
 intro _ hw9
 obtain ⟨⟨nq,osq⟩,hw8⟩ := hw9
 subst hw8
 have hgf := HGR.out nq osq
 go_wp2_with fail
 go_ret
 exact ⟨rfl,hgf⟩
set_option maxHeartbeats 4000000 in
set_option maxRecDepth 60000 in
theorem refuseNode_2d (m : Mp) (s : MV) (c1 c2 c3 c4 : Int) (c5 c6 : Bool) (id z r wt g : Int) (hwt : 0 <= wt /\ wt <= 65536) (hne : wt ≠ c4) (a : Option Addr) (len cap : Nat) (w : World) : Calls Tryz.prog 69 #[.agg (mapCells m s).toArray,.agg #[.int .i64 c1,.int .i64 c2,.int .i64 c3,.int .i64 c4,.bool c5,.bool c6],.agg #[.int .i64 2,.int .i64 id,.int .i64 z,.int .i64 r,.int .i64 wt,.int .i64 g,.slice a len cap]] w fun e w' => e = .returned (.int .i64 0) /\ Grown w w' := by
 rw [map_split]
 obtain ⟨aN,lN,cN,aT,lT,cT,aR,lR,cR⟩ := s
 simp only at *
 have HWI : Hid (∀ w : World,Calls Tryz.prog 39 #[.int .i64 wt,.int .i64 0,.int .i64 65536] w fun e w' => e = .returned (.bool true) /\ w' = w) := mwithin_yes hwt.1 hwt.2
 have bne : (wt == c4) = false := by simpa using hne
 obtain ⟨w1,hw1⟩ : ∃ w1,w1 = (((w.alloc (.cells #[.int .i64 m.ep,.int .i64 m.size,.int .i64 m.mn,.int .i64 m.gr,.slice aN lN cN,.slice aT lT cT,.slice aR lR cR] 26)).alloc (.cells #[.int .i64 c1,.int .i64 c2,.int .i64 c3,.int .i64 c4,.bool c5,.bool c6] 72)).alloc (.cells #[.int .i64 2,.int .i64 id,.int .i64 z,.int .i64 r,.int .i64 wt,.int .i64 g,.slice a len cap] 37)) := ⟨_,rfl⟩
 have hg1 : Grown w w1 := by rw [hw1]; exact grown2 (grown2 (grown_alloc _ _) (grown_alloc _ _)) (grown_alloc _ _)
 have hb1 := grown_below hg1
 have HBA : Hid (Box7 w1 w.heap.size (.int .i64 m.ep) (.int .i64 m.size) (.int .i64 m.mn) (.int .i64 m.gr) (.slice aN lN cN) (.slice aT lT cT) (.slice aR lR cR)) := by
  rw [hw1]
  exact ((Box7.new w _ _ _ _ _ _ _ _).below (below_alloc _ _)).below (below_alloc _ _)
 have HS : Hid (Six w1 (w.heap.size + 1) (.int .i64 c1) (.int .i64 c2) (.int .i64 c3) (.int .i64 c4) (.bool c5) (.bool c6)) := by
  rw [hw1]
  have := (six_new (w.alloc (.cells #[.int .i64 m.ep,.int .i64 m.size,.int .i64 m.mn,.int .i64 m.gr,.slice aN lN cN,.slice aT lT cT,.slice aR lR cR] 26)) (.int .i64 c1) (.int .i64 c2) (.int .i64 c3) (.int .i64 c4) (.bool c5) (.bool c6) 72).below (below_alloc _ (.cells #[.int .i64 2,.int .i64 id,.int .i64 z,.int .i64 r,.int .i64 wt,.int .i64 g,.slice a len cap] 37))
  rwa [show (w.alloc (.cells #[.int .i64 m.ep,.int .i64 m.size,.int .i64 m.mn,.int .i64 m.gr,.slice aN lN cN,.slice aT lT cT,.slice aR lR cR] 26)).heap.size = w.heap.size + 1 by simp] at this
 have HBD : Hid (Box7 w1 (w.heap.size + 1 + 1) (.int .i64 2) (.int .i64 id) (.int .i64 z) (.int .i64 r) (.int .i64 wt) (.int .i64 g) (.slice a len cap)) := by
  rw [hw1]
  have := Box7.new ((w.alloc (.cells #[.int .i64 m.ep,.int .i64 m.size,.int .i64 m.mn,.int .i64 m.gr,.slice aN lN cN,.slice aT lT cT,.slice aR lR cR] 26)).alloc (.cells #[.int .i64 c1,.int .i64 c2,.int .i64 c3,.int .i64 c4,.bool c5,.bool c6] 72)) (.int .i64 2) (.int .i64 id) (.int .i64 z) (.int .i64 r) (.int .i64 wt) (.int .i64 g) (.slice a len cap) 37
  rwa [show ((w.alloc (.cells #[.int .i64 m.ep,.int .i64 m.size,.int .i64 m.mn,.int .i64 m.gr,.slice aN lN cN,.slice aT lT cT,.slice aR lR cR] 26)).alloc (.cells #[.int .i64 c1,.int .i64 c2,.int .i64 c3,.int .i64 c4,.bool c5,.bool c6] 72)).heap.size = w.heap.size + 1 + 1 by simp] at this
 have HW1 : Hid (w1 = (((w.alloc (.cells #[.int .i64 m.ep,.int .i64 m.size,.int .i64 m.mn,.int .i64 m.gr,.slice aN lN cN,.slice aT lT cT,.slice aR lR cR] 26)).alloc (.cells #[.int .i64 c1,.int .i64 c2,.int .i64 c3,.int .i64 c4,.bool c5,.bool c6] 72)).alloc (.cells #[.int .i64 2,.int .i64 id,.int .i64 z,.int .i64 r,.int .i64 wt,.int .i64 g,.slice a len cap] 37))) := hw1
 have HG1 : Hid (Grown w w1) := hg1
 clear hw1 hg1
 have HT : Hid (∀ W,Calls Tryz.prog 93 #[.agg #[.int .i64 c1,.int .i64 c2,.int .i64 c3,.int .i64 c4,.bool c5,.bool c6],.agg #[.int .i64 2,.int .i64 id,.int .i64 z,.int .i64 r,.int .i64 wt,.int .i64 g,.slice a len cap]] W fun e w' => e = .returned (.agg #[.int .i64 c1,.int .i64 c2,.int .i64 c3,.int .i64 wt,.bool c5,.bool c6]) /\ Grown W w') := fun W => turned_2 c1 c2 c3 c4 c5 c6 id z r wt g a len cap W
 go_enter Tryz.func69,Tryz.ntmps69
 go_upto_region 1 with fail
 rw [<- HW1.out]
 clear HW1
 have hl2 := HBD.out.lt
 have hl1 : w.heap.size + 1 < w1.heap.size := by omega
 obtain ⟨s0,s1,s2,s3,s4,s5⟩ := HS.out
 obtain ⟨⟨d0,d1,d2,d3,d4,d5,d6⟩,-⟩ := HBD.out
 have HGR : Hid (∀ n os,Grown w (Go.Sort.grow (w1.drewN n) os)) := fun n os => grown2 HG1.out ⟨n,os,rfl⟩
 have x0 := cell_grown (w := w1) (a := ⟨w.heap.size + 1,0,none⟩) hl1 s0
 have x1 := cell_grown (w := w1) (a := ⟨w.heap.size + 1,1,none⟩) hl1 s1
 have x2 := cell_grown (w := w1) (a := ⟨w.heap.size + 1,2,none⟩) hl1 s2
 have x3 := cell_grown (w := w1) (a := ⟨w.heap.size + 1,3,none⟩) hl1 s3
 have x4 := cell_grown (w := w1) (a := ⟨w.heap.size + 1,4,none⟩) hl1 s4
 have x5 := cell_grown (w := w1) (a := ⟨w.heap.size + 1,5,none⟩) hl1 s5
 have y0 := cell_grown (w := w1) (a := ⟨w.heap.size + 1 + 1,0,none⟩) hl2 d0
 have y1 := cell_grown (w := w1) (a := ⟨w.heap.size + 1 + 1,1,none⟩) hl2 d1
 have y2 := cell_grown (w := w1) (a := ⟨w.heap.size + 1 + 1,2,none⟩) hl2 d2
 have y3 := cell_grown (w := w1) (a := ⟨w.heap.size + 1 + 1,3,none⟩) hl2 d3
 have y4 := cell_grown (w := w1) (a := ⟨w.heap.size + 1 + 1,4,none⟩) hl2 d4
 have y5 := cell_grown (w := w1) (a := ⟨w.heap.size + 1 + 1,5,none⟩) hl2 d5
 have y6 := cell_grown (w := w1) (a := ⟨w.heap.size + 1 + 1,6,none⟩) hl2 d6
 go_wp2_with (go_at_call 39; refine (HWI.out _).mono ?_; rintro e w7 ⟨rfl,hw7⟩; obtain rfl := hw7.symm)
 refine wp_region_QW mixed5 (by kernel_rfl) ?_
 repeat (refine QW_step (fun K hK => ?_); go_simp; first | (refine hK _ ?_; clear hK K) | (apply Exists.intro; refine ⟨fun _ => ?_,hK _ ?_⟩; (go_at_call 93; refine Calls.grown_of (HT.out _)); clear hK K))
 refine QW_nil ?_
 intro _ hw9
 obtain ⟨⟨nq,osq⟩,hw8⟩ := hw9
 subst hw8
 have hgf := HGR.out nq osq
 go_wp2_with fail
 go_ret
 exact ⟨rfl,hgf⟩
set_option maxHeartbeats 4000000 in
set_option maxRecDepth 60000 in
theorem refuseNode_3s (m : Mp) (s : MV) (c1 c2 c3 c4 : Int) (c6 : Bool) (id z r wt g : Int) (a : Option Addr) (len cap : Nat) (w : World) : Calls Tryz.prog 69 #[.agg (mapCells m s).toArray,.agg #[.int .i64 c1,.int .i64 c2,.int .i64 c3,.int .i64 c4,.bool true,.bool c6],.agg #[.int .i64 3,.int .i64 id,.int .i64 z,.int .i64 r,.int .i64 wt,.int .i64 g,.slice a len cap]] w fun e w' => e = .returned (.int .i64 7) /\ Grown w w' := by
 rw [map_split]
 obtain ⟨aN,lN,cN,aT,lT,cT,aR,lR,cR⟩ := s
 simp only at *
 obtain ⟨w1,hw1⟩ : ∃ w1,w1 = (((w.alloc (.cells #[.int .i64 m.ep,.int .i64 m.size,.int .i64 m.mn,.int .i64 m.gr,.slice aN lN cN,.slice aT lT cT,.slice aR lR cR] 26)).alloc (.cells #[.int .i64 c1,.int .i64 c2,.int .i64 c3,.int .i64 c4,.bool true,.bool c6] 72)).alloc (.cells #[.int .i64 3,.int .i64 id,.int .i64 z,.int .i64 r,.int .i64 wt,.int .i64 g,.slice a len cap] 37)) := ⟨_,rfl⟩
 have hg1 : Grown w w1 := by rw [hw1]; exact grown2 (grown2 (grown_alloc _ _) (grown_alloc _ _)) (grown_alloc _ _)
 have hb1 := grown_below hg1
 have HBA : Hid (Box7 w1 w.heap.size (.int .i64 m.ep) (.int .i64 m.size) (.int .i64 m.mn) (.int .i64 m.gr) (.slice aN lN cN) (.slice aT lT cT) (.slice aR lR cR)) := by
  rw [hw1]
  exact ((Box7.new w _ _ _ _ _ _ _ _).below (below_alloc _ _)).below (below_alloc _ _)
 have HS : Hid (Six w1 (w.heap.size + 1) (.int .i64 c1) (.int .i64 c2) (.int .i64 c3) (.int .i64 c4) (.bool true) (.bool c6)) := by
  rw [hw1]
  have := (six_new (w.alloc (.cells #[.int .i64 m.ep,.int .i64 m.size,.int .i64 m.mn,.int .i64 m.gr,.slice aN lN cN,.slice aT lT cT,.slice aR lR cR] 26)) (.int .i64 c1) (.int .i64 c2) (.int .i64 c3) (.int .i64 c4) (.bool true) (.bool c6) 72).below (below_alloc _ (.cells #[.int .i64 3,.int .i64 id,.int .i64 z,.int .i64 r,.int .i64 wt,.int .i64 g,.slice a len cap] 37))
  rwa [show (w.alloc (.cells #[.int .i64 m.ep,.int .i64 m.size,.int .i64 m.mn,.int .i64 m.gr,.slice aN lN cN,.slice aT lT cT,.slice aR lR cR] 26)).heap.size = w.heap.size + 1 by simp] at this
 have HBD : Hid (Box7 w1 (w.heap.size + 1 + 1) (.int .i64 3) (.int .i64 id) (.int .i64 z) (.int .i64 r) (.int .i64 wt) (.int .i64 g) (.slice a len cap)) := by
  rw [hw1]
  have := Box7.new ((w.alloc (.cells #[.int .i64 m.ep,.int .i64 m.size,.int .i64 m.mn,.int .i64 m.gr,.slice aN lN cN,.slice aT lT cT,.slice aR lR cR] 26)).alloc (.cells #[.int .i64 c1,.int .i64 c2,.int .i64 c3,.int .i64 c4,.bool true,.bool c6] 72)) (.int .i64 3) (.int .i64 id) (.int .i64 z) (.int .i64 r) (.int .i64 wt) (.int .i64 g) (.slice a len cap) 37
  rwa [show ((w.alloc (.cells #[.int .i64 m.ep,.int .i64 m.size,.int .i64 m.mn,.int .i64 m.gr,.slice aN lN cN,.slice aT lT cT,.slice aR lR cR] 26)).alloc (.cells #[.int .i64 c1,.int .i64 c2,.int .i64 c3,.int .i64 c4,.bool true,.bool c6] 72)).heap.size = w.heap.size + 1 + 1 by simp] at this
 have HW1 : Hid (w1 = (((w.alloc (.cells #[.int .i64 m.ep,.int .i64 m.size,.int .i64 m.mn,.int .i64 m.gr,.slice aN lN cN,.slice aT lT cT,.slice aR lR cR] 26)).alloc (.cells #[.int .i64 c1,.int .i64 c2,.int .i64 c3,.int .i64 c4,.bool true,.bool c6] 72)).alloc (.cells #[.int .i64 3,.int .i64 id,.int .i64 z,.int .i64 r,.int .i64 wt,.int .i64 g,.slice a len cap] 37))) := hw1
 have HG1 : Hid (Grown w w1) := hg1
 clear hw1 hg1
 have HT : Hid (∀ W,Calls Tryz.prog 93 #[.agg #[.int .i64 c1,.int .i64 c2,.int .i64 c3,.int .i64 c4,.bool true,.bool c6],.agg #[.int .i64 3,.int .i64 id,.int .i64 z,.int .i64 r,.int .i64 wt,.int .i64 g,.slice a len cap]] W fun e w' => e = .returned (.agg #[.int .i64 c1,.int .i64 c2,.int .i64 c3,.int .i64 c4,.bool true,.bool c6]) /\ Grown W w') := fun W => turned_3 c1 c2 c3 c4 true c6 id z r wt g a len cap W
 go_enter Tryz.func69,Tryz.ntmps69
 go_upto_region 1 with fail
 rw [<- HW1.out]
 clear HW1
 have hl2 := HBD.out.lt
 have hl1 : w.heap.size + 1 < w1.heap.size := by omega
 obtain ⟨s0,s1,s2,s3,s4,s5⟩ := HS.out
 obtain ⟨⟨d0,d1,d2,d3,d4,d5,d6⟩,-⟩ := HBD.out
 have HGR : Hid (∀ n os,Grown w (Go.Sort.grow (w1.drewN n) os)) := fun n os => grown2 HG1.out ⟨n,os,rfl⟩
 have x0 := cell_grown (w := w1) (a := ⟨w.heap.size + 1,0,none⟩) hl1 s0
 have x1 := cell_grown (w := w1) (a := ⟨w.heap.size + 1,1,none⟩) hl1 s1
 have x2 := cell_grown (w := w1) (a := ⟨w.heap.size + 1,2,none⟩) hl1 s2
 have x3 := cell_grown (w := w1) (a := ⟨w.heap.size + 1,3,none⟩) hl1 s3
 have x4 := cell_grown (w := w1) (a := ⟨w.heap.size + 1,4,none⟩) hl1 s4
 have x5 := cell_grown (w := w1) (a := ⟨w.heap.size + 1,5,none⟩) hl1 s5
 have y0 := cell_grown (w := w1) (a := ⟨w.heap.size + 1 + 1,0,none⟩) hl2 d0
 have y1 := cell_grown (w := w1) (a := ⟨w.heap.size + 1 + 1,1,none⟩) hl2 d1
 have y2 := cell_grown (w := w1) (a := ⟨w.heap.size + 1 + 1,2,none⟩) hl2 d2
 have y3 := cell_grown (w := w1) (a := ⟨w.heap.size + 1 + 1,3,none⟩) hl2 d3
 have y4 := cell_grown (w := w1) (a := ⟨w.heap.size + 1 + 1,4,none⟩) hl2 d4
 have y5 := cell_grown (w := w1) (a := ⟨w.heap.size + 1 + 1,5,none⟩) hl2 d5
 have y6 := cell_grown (w := w1) (a := ⟨w.heap.size + 1 + 1,6,none⟩) hl2 d6
 go_wp2_with fail
 refine wp_region_QW mixed5 (by kernel_rfl) ?_
 repeat (refine QW_step (fun K hK => ?_); go_simp; first | (refine hK _ ?_; clear hK K) | (apply Exists.intro; refine ⟨fun _ => ?_,hK _ ?_⟩; (go_at_call 93; refine Calls.grown_of (HT.out _)); clear hK K))
 refine QW_nil ?_
 intro _ hw9
 obtain ⟨⟨nq,osq⟩,hw8⟩ := hw9
 subst hw8
 have hgf := HGR.out nq osq
 go_wp2_with fail
 go_ret
 exact ⟨rfl,hgf⟩
set_option maxHeartbeats 4000000 in
set_option maxRecDepth 60000 in
theorem refuseNode_3d (m : Mp) (s : MV) (c1 c2 c3 c4 : Int) (c6 : Bool) (id z r wt g : Int) (a : Option Addr) (len cap : Nat) (w : World) : Calls Tryz.prog 69 #[.agg (mapCells m s).toArray,.agg #[.int .i64 c1,.int .i64 c2,.int .i64 c3,.int .i64 c4,.bool false,.bool c6],.agg #[.int .i64 3,.int .i64 id,.int .i64 z,.int .i64 r,.int .i64 wt,.int .i64 g,.slice a len cap]] w fun e w' => e = .returned (.int .i64 0) /\ Grown w w' := by
 rw [map_split]
 obtain ⟨aN,lN,cN,aT,lT,cT,aR,lR,cR⟩ := s
 simp only at *
 obtain ⟨w1,hw1⟩ : ∃ w1,w1 = (((w.alloc (.cells #[.int .i64 m.ep,.int .i64 m.size,.int .i64 m.mn,.int .i64 m.gr,.slice aN lN cN,.slice aT lT cT,.slice aR lR cR] 26)).alloc (.cells #[.int .i64 c1,.int .i64 c2,.int .i64 c3,.int .i64 c4,.bool false,.bool c6] 72)).alloc (.cells #[.int .i64 3,.int .i64 id,.int .i64 z,.int .i64 r,.int .i64 wt,.int .i64 g,.slice a len cap] 37)) := ⟨_,rfl⟩
 have hg1 : Grown w w1 := by rw [hw1]; exact grown2 (grown2 (grown_alloc _ _) (grown_alloc _ _)) (grown_alloc _ _)
 have hb1 := grown_below hg1
 have HBA : Hid (Box7 w1 w.heap.size (.int .i64 m.ep) (.int .i64 m.size) (.int .i64 m.mn) (.int .i64 m.gr) (.slice aN lN cN) (.slice aT lT cT) (.slice aR lR cR)) := by
  rw [hw1]
  exact ((Box7.new w _ _ _ _ _ _ _ _).below (below_alloc _ _)).below (below_alloc _ _)
 have HS : Hid (Six w1 (w.heap.size + 1) (.int .i64 c1) (.int .i64 c2) (.int .i64 c3) (.int .i64 c4) (.bool false) (.bool c6)) := by
  rw [hw1]
  have := (six_new (w.alloc (.cells #[.int .i64 m.ep,.int .i64 m.size,.int .i64 m.mn,.int .i64 m.gr,.slice aN lN cN,.slice aT lT cT,.slice aR lR cR] 26)) (.int .i64 c1) (.int .i64 c2) (.int .i64 c3) (.int .i64 c4) (.bool false) (.bool c6) 72).below (below_alloc _ (.cells #[.int .i64 3,.int .i64 id,.int .i64 z,.int .i64 r,.int .i64 wt,.int .i64 g,.slice a len cap] 37))
  rwa [show (w.alloc (.cells #[.int .i64 m.ep,.int .i64 m.size,.int .i64 m.mn,.int .i64 m.gr,.slice aN lN cN,.slice aT lT cT,.slice aR lR cR] 26)).heap.size = w.heap.size + 1 by simp] at this
 have HBD : Hid (Box7 w1 (w.heap.size + 1 + 1) (.int .i64 3) (.int .i64 id) (.int .i64 z) (.int .i64 r) (.int .i64 wt) (.int .i64 g) (.slice a len cap)) := by
  rw [hw1]
  have := Box7.new ((w.alloc (.cells #[.int .i64 m.ep,.int .i64 m.size,.int .i64 m.mn,.int .i64 m.gr,.slice aN lN cN,.slice aT lT cT,.slice aR lR cR] 26)).alloc (.cells #[.int .i64 c1,.int .i64 c2,.int .i64 c3,.int .i64 c4,.bool false,.bool c6] 72)) (.int .i64 3) (.int .i64 id) (.int .i64 z) (.int .i64 r) (.int .i64 wt) (.int .i64 g) (.slice a len cap) 37
  rwa [show ((w.alloc (.cells #[.int .i64 m.ep,.int .i64 m.size,.int .i64 m.mn,.int .i64 m.gr,.slice aN lN cN,.slice aT lT cT,.slice aR lR cR] 26)).alloc (.cells #[.int .i64 c1,.int .i64 c2,.int .i64 c3,.int .i64 c4,.bool false,.bool c6] 72)).heap.size = w.heap.size + 1 + 1 by simp] at this
 have HW1 : Hid (w1 = (((w.alloc (.cells #[.int .i64 m.ep,.int .i64 m.size,.int .i64 m.mn,.int .i64 m.gr,.slice aN lN cN,.slice aT lT cT,.slice aR lR cR] 26)).alloc (.cells #[.int .i64 c1,.int .i64 c2,.int .i64 c3,.int .i64 c4,.bool false,.bool c6] 72)).alloc (.cells #[.int .i64 3,.int .i64 id,.int .i64 z,.int .i64 r,.int .i64 wt,.int .i64 g,.slice a len cap] 37))) := hw1
 have HG1 : Hid (Grown w w1) := hg1
 clear hw1 hg1
 have HT : Hid (∀ W,Calls Tryz.prog 93 #[.agg #[.int .i64 c1,.int .i64 c2,.int .i64 c3,.int .i64 c4,.bool false,.bool c6],.agg #[.int .i64 3,.int .i64 id,.int .i64 z,.int .i64 r,.int .i64 wt,.int .i64 g,.slice a len cap]] W fun e w' => e = .returned (.agg #[.int .i64 c1,.int .i64 c2,.int .i64 c3,.int .i64 c4,.bool true,.bool c6]) /\ Grown W w') := fun W => turned_3 c1 c2 c3 c4 false c6 id z r wt g a len cap W
 go_enter Tryz.func69,Tryz.ntmps69
 go_upto_region 1 with fail
 rw [<- HW1.out]
 clear HW1
 have hl2 := HBD.out.lt
 have hl1 : w.heap.size + 1 < w1.heap.size := by omega
 obtain ⟨s0,s1,s2,s3,s4,s5⟩ := HS.out
 obtain ⟨⟨d0,d1,d2,d3,d4,d5,d6⟩,-⟩ := HBD.out
 have HGR : Hid (∀ n os,Grown w (Go.Sort.grow (w1.drewN n) os)) := fun n os => grown2 HG1.out ⟨n,os,rfl⟩
 have x0 := cell_grown (w := w1) (a := ⟨w.heap.size + 1,0,none⟩) hl1 s0
 have x1 := cell_grown (w := w1) (a := ⟨w.heap.size + 1,1,none⟩) hl1 s1
 have x2 := cell_grown (w := w1) (a := ⟨w.heap.size + 1,2,none⟩) hl1 s2
 have x3 := cell_grown (w := w1) (a := ⟨w.heap.size + 1,3,none⟩) hl1 s3
 have x4 := cell_grown (w := w1) (a := ⟨w.heap.size + 1,4,none⟩) hl1 s4
 have x5 := cell_grown (w := w1) (a := ⟨w.heap.size + 1,5,none⟩) hl1 s5
 have y0 := cell_grown (w := w1) (a := ⟨w.heap.size + 1 + 1,0,none⟩) hl2 d0
 have y1 := cell_grown (w := w1) (a := ⟨w.heap.size + 1 + 1,1,none⟩) hl2 d1
 have y2 := cell_grown (w := w1) (a := ⟨w.heap.size + 1 + 1,2,none⟩) hl2 d2
 have y3 := cell_grown (w := w1) (a := ⟨w.heap.size + 1 + 1,3,none⟩) hl2 d3
 have y4 := cell_grown (w := w1) (a := ⟨w.heap.size + 1 + 1,4,none⟩) hl2 d4
 have y5 := cell_grown (w := w1) (a := ⟨w.heap.size + 1 + 1,5,none⟩) hl2 d5
 have y6 := cell_grown (w := w1) (a := ⟨w.heap.size + 1 + 1,6,none⟩) hl2 d6
 go_wp2_with fail
 refine wp_region_QW mixed5 (by kernel_rfl) ?_
 repeat (refine QW_step (fun K hK => ?_); go_simp; first | (refine hK _ ?_; clear hK K) | (apply Exists.intro; refine ⟨fun _ => ?_,hK _ ?_⟩; (go_at_call 93; refine Calls.grown_of (HT.out _)); clear hK K))
 refine QW_nil ?_
 intro _ hw9
 obtain ⟨⟨nq,osq⟩,hw8⟩ := hw9
 subst hw8
 have hgf := HGR.out nq osq
 go_wp2_with fail
 go_ret
 exact ⟨rfl,hgf⟩
set_option maxHeartbeats 4000000 in
set_option maxRecDepth 60000 in
theorem refuseNode_4s (m : Mp) (s : MV) (c1 c2 c3 c4 : Int) (c6 : Bool) (id z r wt g : Int) (a : Option Addr) (len cap : Nat) (w : World) : Calls Tryz.prog 69 #[.agg (mapCells m s).toArray,.agg #[.int .i64 c1,.int .i64 c2,.int .i64 c3,.int .i64 c4,.bool false,.bool c6],.agg #[.int .i64 4,.int .i64 id,.int .i64 z,.int .i64 r,.int .i64 wt,.int .i64 g,.slice a len cap]] w fun e w' => e = .returned (.int .i64 7) /\ Grown w w' := by
 rw [map_split]
 obtain ⟨aN,lN,cN,aT,lT,cT,aR,lR,cR⟩ := s
 simp only at *
 obtain ⟨w1,hw1⟩ : ∃ w1,w1 = (((w.alloc (.cells #[.int .i64 m.ep,.int .i64 m.size,.int .i64 m.mn,.int .i64 m.gr,.slice aN lN cN,.slice aT lT cT,.slice aR lR cR] 26)).alloc (.cells #[.int .i64 c1,.int .i64 c2,.int .i64 c3,.int .i64 c4,.bool false,.bool c6] 72)).alloc (.cells #[.int .i64 4,.int .i64 id,.int .i64 z,.int .i64 r,.int .i64 wt,.int .i64 g,.slice a len cap] 37)) := ⟨_,rfl⟩
 have hg1 : Grown w w1 := by rw [hw1]; exact grown2 (grown2 (grown_alloc _ _) (grown_alloc _ _)) (grown_alloc _ _)
 have hb1 := grown_below hg1
 have HBA : Hid (Box7 w1 w.heap.size (.int .i64 m.ep) (.int .i64 m.size) (.int .i64 m.mn) (.int .i64 m.gr) (.slice aN lN cN) (.slice aT lT cT) (.slice aR lR cR)) := by
  rw [hw1]
  exact ((Box7.new w _ _ _ _ _ _ _ _).below (below_alloc _ _)).below (below_alloc _ _)
 have HS : Hid (Six w1 (w.heap.size + 1) (.int .i64 c1) (.int .i64 c2) (.int .i64 c3) (.int .i64 c4) (.bool false) (.bool c6)) := by
  rw [hw1]
  have := (six_new (w.alloc (.cells #[.int .i64 m.ep,.int .i64 m.size,.int .i64 m.mn,.int .i64 m.gr,.slice aN lN cN,.slice aT lT cT,.slice aR lR cR] 26)) (.int .i64 c1) (.int .i64 c2) (.int .i64 c3) (.int .i64 c4) (.bool false) (.bool c6) 72).below (below_alloc _ (.cells #[.int .i64 4,.int .i64 id,.int .i64 z,.int .i64 r,.int .i64 wt,.int .i64 g,.slice a len cap] 37))
  rwa [show (w.alloc (.cells #[.int .i64 m.ep,.int .i64 m.size,.int .i64 m.mn,.int .i64 m.gr,.slice aN lN cN,.slice aT lT cT,.slice aR lR cR] 26)).heap.size = w.heap.size + 1 by simp] at this
 have HBD : Hid (Box7 w1 (w.heap.size + 1 + 1) (.int .i64 4) (.int .i64 id) (.int .i64 z) (.int .i64 r) (.int .i64 wt) (.int .i64 g) (.slice a len cap)) := by
  rw [hw1]
  have := Box7.new ((w.alloc (.cells #[.int .i64 m.ep,.int .i64 m.size,.int .i64 m.mn,.int .i64 m.gr,.slice aN lN cN,.slice aT lT cT,.slice aR lR cR] 26)).alloc (.cells #[.int .i64 c1,.int .i64 c2,.int .i64 c3,.int .i64 c4,.bool false,.bool c6] 72)) (.int .i64 4) (.int .i64 id) (.int .i64 z) (.int .i64 r) (.int .i64 wt) (.int .i64 g) (.slice a len cap) 37
  rwa [show ((w.alloc (.cells #[.int .i64 m.ep,.int .i64 m.size,.int .i64 m.mn,.int .i64 m.gr,.slice aN lN cN,.slice aT lT cT,.slice aR lR cR] 26)).alloc (.cells #[.int .i64 c1,.int .i64 c2,.int .i64 c3,.int .i64 c4,.bool false,.bool c6] 72)).heap.size = w.heap.size + 1 + 1 by simp] at this
 have HW1 : Hid (w1 = (((w.alloc (.cells #[.int .i64 m.ep,.int .i64 m.size,.int .i64 m.mn,.int .i64 m.gr,.slice aN lN cN,.slice aT lT cT,.slice aR lR cR] 26)).alloc (.cells #[.int .i64 c1,.int .i64 c2,.int .i64 c3,.int .i64 c4,.bool false,.bool c6] 72)).alloc (.cells #[.int .i64 4,.int .i64 id,.int .i64 z,.int .i64 r,.int .i64 wt,.int .i64 g,.slice a len cap] 37))) := hw1
 have HG1 : Hid (Grown w w1) := hg1
 clear hw1 hg1
 have HT : Hid (∀ W,Calls Tryz.prog 93 #[.agg #[.int .i64 c1,.int .i64 c2,.int .i64 c3,.int .i64 c4,.bool false,.bool c6],.agg #[.int .i64 4,.int .i64 id,.int .i64 z,.int .i64 r,.int .i64 wt,.int .i64 g,.slice a len cap]] W fun e w' => e = .returned (.agg #[.int .i64 c1,.int .i64 c2,.int .i64 c3,.int .i64 c4,.bool false,.bool c6]) /\ Grown W w') := fun W => turned_4 c1 c2 c3 c4 false c6 id z r wt g a len cap W
 go_enter Tryz.func69,Tryz.ntmps69
 go_upto_region 1 with fail
 rw [<- HW1.out]
 clear HW1
 have hl2 := HBD.out.lt
 have hl1 : w.heap.size + 1 < w1.heap.size := by omega
 obtain ⟨s0,s1,s2,s3,s4,s5⟩ := HS.out
 obtain ⟨⟨d0,d1,d2,d3,d4,d5,d6⟩,-⟩ := HBD.out
 have HGR : Hid (∀ n os,Grown w (Go.Sort.grow (w1.drewN n) os)) := fun n os => grown2 HG1.out ⟨n,os,rfl⟩
 have x0 := cell_grown (w := w1) (a := ⟨w.heap.size + 1,0,none⟩) hl1 s0
 have x1 := cell_grown (w := w1) (a := ⟨w.heap.size + 1,1,none⟩) hl1 s1
 have x2 := cell_grown (w := w1) (a := ⟨w.heap.size + 1,2,none⟩) hl1 s2
 have x3 := cell_grown (w := w1) (a := ⟨w.heap.size + 1,3,none⟩) hl1 s3
 have x4 := cell_grown (w := w1) (a := ⟨w.heap.size + 1,4,none⟩) hl1 s4
 have x5 := cell_grown (w := w1) (a := ⟨w.heap.size + 1,5,none⟩) hl1 s5
 have y0 := cell_grown (w := w1) (a := ⟨w.heap.size + 1 + 1,0,none⟩) hl2 d0
 have y1 := cell_grown (w := w1) (a := ⟨w.heap.size + 1 + 1,1,none⟩) hl2 d1
 have y2 := cell_grown (w := w1) (a := ⟨w.heap.size + 1 + 1,2,none⟩) hl2 d2
 have y3 := cell_grown (w := w1) (a := ⟨w.heap.size + 1 + 1,3,none⟩) hl2 d3
 have y4 := cell_grown (w := w1) (a := ⟨w.heap.size + 1 + 1,4,none⟩) hl2 d4
 have y5 := cell_grown (w := w1) (a := ⟨w.heap.size + 1 + 1,5,none⟩) hl2 d5
 have y6 := cell_grown (w := w1) (a := ⟨w.heap.size + 1 + 1,6,none⟩) hl2 d6
 go_wp2_with fail
 refine wp_region_QW mixed5 (by kernel_rfl) ?_
 repeat (refine QW_step (fun K hK => ?_); go_simp; first | (refine hK _ ?_; clear hK K) | (apply Exists.intro; refine ⟨fun _ => ?_,hK _ ?_⟩; (go_at_call 93; refine Calls.grown_of (HT.out _)); clear hK K))
 refine QW_nil ?_
 intro _ hw9
 obtain ⟨⟨nq,osq⟩,hw8⟩ := hw9
 subst hw8
 have hgf := HGR.out nq osq
 go_wp2_with fail
 go_ret
 exact ⟨rfl,hgf⟩
set_option maxHeartbeats 4000000 in
set_option maxRecDepth 60000 in
theorem refuseNode_4d (m : Mp) (s : MV) (c1 c2 c3 c4 : Int) (c6 : Bool) (id z r wt g : Int) (a : Option Addr) (len cap : Nat) (w : World) : Calls Tryz.prog 69 #[.agg (mapCells m s).toArray,.agg #[.int .i64 c1,.int .i64 c2,.int .i64 c3,.int .i64 c4,.bool true,.bool c6],.agg #[.int .i64 4,.int .i64 id,.int .i64 z,.int .i64 r,.int .i64 wt,.int .i64 g,.slice a len cap]] w fun e w' => e = .returned (.int .i64 0) /\ Grown w w' := by
 rw [map_split]
 obtain ⟨aN,lN,cN,aT,lT,cT,aR,lR,cR⟩ := s
 simp only at *
 obtain ⟨w1,hw1⟩ : ∃ w1,w1 = (((w.alloc (.cells #[.int .i64 m.ep,.int .i64 m.size,.int .i64 m.mn,.int .i64 m.gr,.slice aN lN cN,.slice aT lT cT,.slice aR lR cR] 26)).alloc (.cells #[.int .i64 c1,.int .i64 c2,.int .i64 c3,.int .i64 c4,.bool true,.bool c6] 72)).alloc (.cells #[.int .i64 4,.int .i64 id,.int .i64 z,.int .i64 r,.int .i64 wt,.int .i64 g,.slice a len cap] 37)) := ⟨_,rfl⟩
 have hg1 : Grown w w1 := by rw [hw1]; exact grown2 (grown2 (grown_alloc _ _) (grown_alloc _ _)) (grown_alloc _ _)
 have hb1 := grown_below hg1
 have HBA : Hid (Box7 w1 w.heap.size (.int .i64 m.ep) (.int .i64 m.size) (.int .i64 m.mn) (.int .i64 m.gr) (.slice aN lN cN) (.slice aT lT cT) (.slice aR lR cR)) := by
  rw [hw1]
  exact ((Box7.new w _ _ _ _ _ _ _ _).below (below_alloc _ _)).below (below_alloc _ _)
 have HS : Hid (Six w1 (w.heap.size + 1) (.int .i64 c1) (.int .i64 c2) (.int .i64 c3) (.int .i64 c4) (.bool true) (.bool c6)) := by
  rw [hw1]
  have := (six_new (w.alloc (.cells #[.int .i64 m.ep,.int .i64 m.size,.int .i64 m.mn,.int .i64 m.gr,.slice aN lN cN,.slice aT lT cT,.slice aR lR cR] 26)) (.int .i64 c1) (.int .i64 c2) (.int .i64 c3) (.int .i64 c4) (.bool true) (.bool c6) 72).below (below_alloc _ (.cells #[.int .i64 4,.int .i64 id,.int .i64 z,.int .i64 r,.int .i64 wt,.int .i64 g,.slice a len cap] 37))
  rwa [show (w.alloc (.cells #[.int .i64 m.ep,.int .i64 m.size,.int .i64 m.mn,.int .i64 m.gr,.slice aN lN cN,.slice aT lT cT,.slice aR lR cR] 26)).heap.size = w.heap.size + 1 by simp] at this
 have HBD : Hid (Box7 w1 (w.heap.size + 1 + 1) (.int .i64 4) (.int .i64 id) (.int .i64 z) (.int .i64 r) (.int .i64 wt) (.int .i64 g) (.slice a len cap)) := by
  rw [hw1]
  have := Box7.new ((w.alloc (.cells #[.int .i64 m.ep,.int .i64 m.size,.int .i64 m.mn,.int .i64 m.gr,.slice aN lN cN,.slice aT lT cT,.slice aR lR cR] 26)).alloc (.cells #[.int .i64 c1,.int .i64 c2,.int .i64 c3,.int .i64 c4,.bool true,.bool c6] 72)) (.int .i64 4) (.int .i64 id) (.int .i64 z) (.int .i64 r) (.int .i64 wt) (.int .i64 g) (.slice a len cap) 37
  rwa [show ((w.alloc (.cells #[.int .i64 m.ep,.int .i64 m.size,.int .i64 m.mn,.int .i64 m.gr,.slice aN lN cN,.slice aT lT cT,.slice aR lR cR] 26)).alloc (.cells #[.int .i64 c1,.int .i64 c2,.int .i64 c3,.int .i64 c4,.bool true,.bool c6] 72)).heap.size = w.heap.size + 1 + 1 by simp] at this
 have HW1 : Hid (w1 = (((w.alloc (.cells #[.int .i64 m.ep,.int .i64 m.size,.int .i64 m.mn,.int .i64 m.gr,.slice aN lN cN,.slice aT lT cT,.slice aR lR cR] 26)).alloc (.cells #[.int .i64 c1,.int .i64 c2,.int .i64 c3,.int .i64 c4,.bool true,.bool c6] 72)).alloc (.cells #[.int .i64 4,.int .i64 id,.int .i64 z,.int .i64 r,.int .i64 wt,.int .i64 g,.slice a len cap] 37))) := hw1
 have HG1 : Hid (Grown w w1) := hg1
 clear hw1 hg1
 have HT : Hid (∀ W,Calls Tryz.prog 93 #[.agg #[.int .i64 c1,.int .i64 c2,.int .i64 c3,.int .i64 c4,.bool true,.bool c6],.agg #[.int .i64 4,.int .i64 id,.int .i64 z,.int .i64 r,.int .i64 wt,.int .i64 g,.slice a len cap]] W fun e w' => e = .returned (.agg #[.int .i64 c1,.int .i64 c2,.int .i64 c3,.int .i64 c4,.bool false,.bool c6]) /\ Grown W w') := fun W => turned_4 c1 c2 c3 c4 true c6 id z r wt g a len cap W
 go_enter Tryz.func69,Tryz.ntmps69
 go_upto_region 1 with fail
 rw [<- HW1.out]
 clear HW1
 have hl2 := HBD.out.lt
 have hl1 : w.heap.size + 1 < w1.heap.size := by omega
 obtain ⟨s0,s1,s2,s3,s4,s5⟩ := HS.out
 obtain ⟨⟨d0,d1,d2,d3,d4,d5,d6⟩,-⟩ := HBD.out
 have HGR : Hid (∀ n os,Grown w (Go.Sort.grow (w1.drewN n) os)) := fun n os => grown2 HG1.out ⟨n,os,rfl⟩
 have x0 := cell_grown (w := w1) (a := ⟨w.heap.size + 1,0,none⟩) hl1 s0
 have x1 := cell_grown (w := w1) (a := ⟨w.heap.size + 1,1,none⟩) hl1 s1
 have x2 := cell_grown (w := w1) (a := ⟨w.heap.size + 1,2,none⟩) hl1 s2
 have x3 := cell_grown (w := w1) (a := ⟨w.heap.size + 1,3,none⟩) hl1 s3
 have x4 := cell_grown (w := w1) (a := ⟨w.heap.size + 1,4,none⟩) hl1 s4
 have x5 := cell_grown (w := w1) (a := ⟨w.heap.size + 1,5,none⟩) hl1 s5
 have y0 := cell_grown (w := w1) (a := ⟨w.heap.size + 1 + 1,0,none⟩) hl2 d0
 have y1 := cell_grown (w := w1) (a := ⟨w.heap.size + 1 + 1,1,none⟩) hl2 d1
 have y2 := cell_grown (w := w1) (a := ⟨w.heap.size + 1 + 1,2,none⟩) hl2 d2
 have y3 := cell_grown (w := w1) (a := ⟨w.heap.size + 1 + 1,3,none⟩) hl2 d3
 have y4 := cell_grown (w := w1) (a := ⟨w.heap.size + 1 + 1,4,none⟩) hl2 d4
 have y5 := cell_grown (w := w1) (a := ⟨w.heap.size + 1 + 1,5,none⟩) hl2 d5
 have y6 := cell_grown (w := w1) (a := ⟨w.heap.size + 1 + 1,6,none⟩) hl2 d6
 go_wp2_with fail
 refine wp_region_QW mixed5 (by kernel_rfl) ?_
 repeat (refine QW_step (fun K hK => ?_); go_simp; first | (refine hK _ ?_; clear hK K) | (apply Exists.intro; refine ⟨fun _ => ?_,hK _ ?_⟩; (go_at_call 93; refine Calls.grown_of (HT.out _)); clear hK K))
 refine QW_nil ?_
 intro _ hw9
 obtain ⟨⟨nq,osq⟩,hw8⟩ := hw9
 subst hw8
 have hgf := HGR.out nq osq
 go_wp2_with fail
 go_ret
 exact ⟨rfl,hgf⟩
set_option maxHeartbeats 4000000 in
set_option maxRecDepth 60000 in
theorem refuseNode_5s (m : Mp) (s : MV) (c1 c2 c3 c4 : Int) (c5 : Bool) (id z r wt g : Int) (a : Option Addr) (len cap : Nat) (w : World) : Calls Tryz.prog 69 #[.agg (mapCells m s).toArray,.agg #[.int .i64 c1,.int .i64 c2,.int .i64 c3,.int .i64 c4,.bool c5,.bool false],.agg #[.int .i64 5,.int .i64 id,.int .i64 z,.int .i64 r,.int .i64 wt,.int .i64 g,.slice a len cap]] w fun e w' => e = .returned (.int .i64 7) /\ Grown w w' := by
 rw [map_split]
 obtain ⟨aN,lN,cN,aT,lT,cT,aR,lR,cR⟩ := s
 simp only at *
 obtain ⟨w1,hw1⟩ : ∃ w1,w1 = (((w.alloc (.cells #[.int .i64 m.ep,.int .i64 m.size,.int .i64 m.mn,.int .i64 m.gr,.slice aN lN cN,.slice aT lT cT,.slice aR lR cR] 26)).alloc (.cells #[.int .i64 c1,.int .i64 c2,.int .i64 c3,.int .i64 c4,.bool c5,.bool false] 72)).alloc (.cells #[.int .i64 5,.int .i64 id,.int .i64 z,.int .i64 r,.int .i64 wt,.int .i64 g,.slice a len cap] 37)) := ⟨_,rfl⟩
 have hg1 : Grown w w1 := by rw [hw1]; exact grown2 (grown2 (grown_alloc _ _) (grown_alloc _ _)) (grown_alloc _ _)
 have hb1 := grown_below hg1
 have HBA : Hid (Box7 w1 w.heap.size (.int .i64 m.ep) (.int .i64 m.size) (.int .i64 m.mn) (.int .i64 m.gr) (.slice aN lN cN) (.slice aT lT cT) (.slice aR lR cR)) := by
  rw [hw1]
  exact ((Box7.new w _ _ _ _ _ _ _ _).below (below_alloc _ _)).below (below_alloc _ _)
 have HS : Hid (Six w1 (w.heap.size + 1) (.int .i64 c1) (.int .i64 c2) (.int .i64 c3) (.int .i64 c4) (.bool c5) (.bool false)) := by
  rw [hw1]
  have := (six_new (w.alloc (.cells #[.int .i64 m.ep,.int .i64 m.size,.int .i64 m.mn,.int .i64 m.gr,.slice aN lN cN,.slice aT lT cT,.slice aR lR cR] 26)) (.int .i64 c1) (.int .i64 c2) (.int .i64 c3) (.int .i64 c4) (.bool c5) (.bool false) 72).below (below_alloc _ (.cells #[.int .i64 5,.int .i64 id,.int .i64 z,.int .i64 r,.int .i64 wt,.int .i64 g,.slice a len cap] 37))
  rwa [show (w.alloc (.cells #[.int .i64 m.ep,.int .i64 m.size,.int .i64 m.mn,.int .i64 m.gr,.slice aN lN cN,.slice aT lT cT,.slice aR lR cR] 26)).heap.size = w.heap.size + 1 by simp] at this
 have HBD : Hid (Box7 w1 (w.heap.size + 1 + 1) (.int .i64 5) (.int .i64 id) (.int .i64 z) (.int .i64 r) (.int .i64 wt) (.int .i64 g) (.slice a len cap)) := by
  rw [hw1]
  have := Box7.new ((w.alloc (.cells #[.int .i64 m.ep,.int .i64 m.size,.int .i64 m.mn,.int .i64 m.gr,.slice aN lN cN,.slice aT lT cT,.slice aR lR cR] 26)).alloc (.cells #[.int .i64 c1,.int .i64 c2,.int .i64 c3,.int .i64 c4,.bool c5,.bool false] 72)) (.int .i64 5) (.int .i64 id) (.int .i64 z) (.int .i64 r) (.int .i64 wt) (.int .i64 g) (.slice a len cap) 37
  rwa [show ((w.alloc (.cells #[.int .i64 m.ep,.int .i64 m.size,.int .i64 m.mn,.int .i64 m.gr,.slice aN lN cN,.slice aT lT cT,.slice aR lR cR] 26)).alloc (.cells #[.int .i64 c1,.int .i64 c2,.int .i64 c3,.int .i64 c4,.bool c5,.bool false] 72)).heap.size = w.heap.size + 1 + 1 by simp] at this
 have HW1 : Hid (w1 = (((w.alloc (.cells #[.int .i64 m.ep,.int .i64 m.size,.int .i64 m.mn,.int .i64 m.gr,.slice aN lN cN,.slice aT lT cT,.slice aR lR cR] 26)).alloc (.cells #[.int .i64 c1,.int .i64 c2,.int .i64 c3,.int .i64 c4,.bool c5,.bool false] 72)).alloc (.cells #[.int .i64 5,.int .i64 id,.int .i64 z,.int .i64 r,.int .i64 wt,.int .i64 g,.slice a len cap] 37))) := hw1
 have HG1 : Hid (Grown w w1) := hg1
 clear hw1 hg1
 have HT : Hid (∀ W,Calls Tryz.prog 93 #[.agg #[.int .i64 c1,.int .i64 c2,.int .i64 c3,.int .i64 c4,.bool c5,.bool false],.agg #[.int .i64 5,.int .i64 id,.int .i64 z,.int .i64 r,.int .i64 wt,.int .i64 g,.slice a len cap]] W fun e w' => e = .returned (.agg #[.int .i64 c1,.int .i64 c2,.int .i64 c3,.int .i64 c4,.bool c5,.bool false]) /\ Grown W w') := fun W => turned_5 c1 c2 c3 c4 c5 false id z r wt g a len cap W
 go_enter Tryz.func69,Tryz.ntmps69
 go_upto_region 1 with fail
 rw [<- HW1.out]
 clear HW1
 have hl2 := HBD.out.lt
 have hl1 : w.heap.size + 1 < w1.heap.size := by omega
 obtain ⟨s0,s1,s2,s3,s4,s5⟩ := HS.out
 obtain ⟨⟨d0,d1,d2,d3,d4,d5,d6⟩,-⟩ := HBD.out
 have HGR : Hid (∀ n os,Grown w (Go.Sort.grow (w1.drewN n) os)) := fun n os => grown2 HG1.out ⟨n,os,rfl⟩
 have x0 := cell_grown (w := w1) (a := ⟨w.heap.size + 1,0,none⟩) hl1 s0
 have x1 := cell_grown (w := w1) (a := ⟨w.heap.size + 1,1,none⟩) hl1 s1
 have x2 := cell_grown (w := w1) (a := ⟨w.heap.size + 1,2,none⟩) hl1 s2
 have x3 := cell_grown (w := w1) (a := ⟨w.heap.size + 1,3,none⟩) hl1 s3
 have x4 := cell_grown (w := w1) (a := ⟨w.heap.size + 1,4,none⟩) hl1 s4
 have x5 := cell_grown (w := w1) (a := ⟨w.heap.size + 1,5,none⟩) hl1 s5
 have y0 := cell_grown (w := w1) (a := ⟨w.heap.size + 1 + 1,0,none⟩) hl2 d0
 have y1 := cell_grown (w := w1) (a := ⟨w.heap.size + 1 + 1,1,none⟩) hl2 d1
 have y2 := cell_grown (w := w1) (a := ⟨w.heap.size + 1 + 1,2,none⟩) hl2 d2
 have y3 := cell_grown (w := w1) (a := ⟨w.heap.size + 1 + 1,3,none⟩) hl2 d3
 have y4 := cell_grown (w := w1) (a := ⟨w.heap.size + 1 + 1,4,none⟩) hl2 d4
 have y5 := cell_grown (w := w1) (a := ⟨w.heap.size + 1 + 1,5,none⟩) hl2 d5
 have y6 := cell_grown (w := w1) (a := ⟨w.heap.size + 1 + 1,6,none⟩) hl2 d6
 go_wp2_with fail
 refine wp_region_QW mixed5 (by kernel_rfl) ?_
 repeat (refine QW_step (fun K hK => ?_); go_simp; first | (refine hK _ ?_; clear hK K) | (apply Exists.intro; refine ⟨fun _ => ?_,hK _ ?_⟩; (go_at_call 93; refine Calls.grown_of (HT.out _)); clear hK K))
 refine QW_nil ?_
 intro _ hw9
 obtain ⟨⟨nq,osq⟩,hw8⟩ := hw9
 subst hw8
 have hgf := HGR.out nq osq
 go_wp2_with fail
 go_ret
 exact ⟨rfl,hgf⟩
set_option maxHeartbeats 4000000 in
set_option maxRecDepth 60000 in
theorem refuseNode_5d (m : Mp) (s : MV) (c1 c2 c3 c4 : Int) (c5 : Bool) (id z r wt g : Int) (a : Option Addr) (len cap : Nat) (w : World) : Calls Tryz.prog 69 #[.agg (mapCells m s).toArray,.agg #[.int .i64 c1,.int .i64 c2,.int .i64 c3,.int .i64 c4,.bool c5,.bool true],.agg #[.int .i64 5,.int .i64 id,.int .i64 z,.int .i64 r,.int .i64 wt,.int .i64 g,.slice a len cap]] w fun e w' => e = .returned (.int .i64 0) /\ Grown w w' := by
 rw [map_split]
 obtain ⟨aN,lN,cN,aT,lT,cT,aR,lR,cR⟩ := s
 simp only at *
 obtain ⟨w1,hw1⟩ : ∃ w1,w1 = (((w.alloc (.cells #[.int .i64 m.ep,.int .i64 m.size,.int .i64 m.mn,.int .i64 m.gr,.slice aN lN cN,.slice aT lT cT,.slice aR lR cR] 26)).alloc (.cells #[.int .i64 c1,.int .i64 c2,.int .i64 c3,.int .i64 c4,.bool c5,.bool true] 72)).alloc (.cells #[.int .i64 5,.int .i64 id,.int .i64 z,.int .i64 r,.int .i64 wt,.int .i64 g,.slice a len cap] 37)) := ⟨_,rfl⟩
 have hg1 : Grown w w1 := by rw [hw1]; exact grown2 (grown2 (grown_alloc _ _) (grown_alloc _ _)) (grown_alloc _ _)
 have hb1 := grown_below hg1
 have HBA : Hid (Box7 w1 w.heap.size (.int .i64 m.ep) (.int .i64 m.size) (.int .i64 m.mn) (.int .i64 m.gr) (.slice aN lN cN) (.slice aT lT cT) (.slice aR lR cR)) := by
  rw [hw1]
  exact ((Box7.new w _ _ _ _ _ _ _ _).below (below_alloc _ _)).below (below_alloc _ _)
 have HS : Hid (Six w1 (w.heap.size + 1) (.int .i64 c1) (.int .i64 c2) (.int .i64 c3) (.int .i64 c4) (.bool c5) (.bool true)) := by
  rw [hw1]
  have := (six_new (w.alloc (.cells #[.int .i64 m.ep,.int .i64 m.size,.int .i64 m.mn,.int .i64 m.gr,.slice aN lN cN,.slice aT lT cT,.slice aR lR cR] 26)) (.int .i64 c1) (.int .i64 c2) (.int .i64 c3) (.int .i64 c4) (.bool c5) (.bool true) 72).below (below_alloc _ (.cells #[.int .i64 5,.int .i64 id,.int .i64 z,.int .i64 r,.int .i64 wt,.int .i64 g,.slice a len cap] 37))
  rwa [show (w.alloc (.cells #[.int .i64 m.ep,.int .i64 m.size,.int .i64 m.mn,.int .i64 m.gr,.slice aN lN cN,.slice aT lT cT,.slice aR lR cR] 26)).heap.size = w.heap.size + 1 by simp] at this
 have HBD : Hid (Box7 w1 (w.heap.size + 1 + 1) (.int .i64 5) (.int .i64 id) (.int .i64 z) (.int .i64 r) (.int .i64 wt) (.int .i64 g) (.slice a len cap)) := by
  rw [hw1]
  have := Box7.new ((w.alloc (.cells #[.int .i64 m.ep,.int .i64 m.size,.int .i64 m.mn,.int .i64 m.gr,.slice aN lN cN,.slice aT lT cT,.slice aR lR cR] 26)).alloc (.cells #[.int .i64 c1,.int .i64 c2,.int .i64 c3,.int .i64 c4,.bool c5,.bool true] 72)) (.int .i64 5) (.int .i64 id) (.int .i64 z) (.int .i64 r) (.int .i64 wt) (.int .i64 g) (.slice a len cap) 37
  rwa [show ((w.alloc (.cells #[.int .i64 m.ep,.int .i64 m.size,.int .i64 m.mn,.int .i64 m.gr,.slice aN lN cN,.slice aT lT cT,.slice aR lR cR] 26)).alloc (.cells #[.int .i64 c1,.int .i64 c2,.int .i64 c3,.int .i64 c4,.bool c5,.bool true] 72)).heap.size = w.heap.size + 1 + 1 by simp] at this
 have HW1 : Hid (w1 = (((w.alloc (.cells #[.int .i64 m.ep,.int .i64 m.size,.int .i64 m.mn,.int .i64 m.gr,.slice aN lN cN,.slice aT lT cT,.slice aR lR cR] 26)).alloc (.cells #[.int .i64 c1,.int .i64 c2,.int .i64 c3,.int .i64 c4,.bool c5,.bool true] 72)).alloc (.cells #[.int .i64 5,.int .i64 id,.int .i64 z,.int .i64 r,.int .i64 wt,.int .i64 g,.slice a len cap] 37))) := hw1
 have HG1 : Hid (Grown w w1) := hg1
 clear hw1 hg1
 have HT : Hid (∀ W,Calls Tryz.prog 93 #[.agg #[.int .i64 c1,.int .i64 c2,.int .i64 c3,.int .i64 c4,.bool c5,.bool true],.agg #[.int .i64 5,.int .i64 id,.int .i64 z,.int .i64 r,.int .i64 wt,.int .i64 g,.slice a len cap]] W fun e w' => e = .returned (.agg #[.int .i64 c1,.int .i64 c2,.int .i64 c3,.int .i64 c4,.bool c5,.bool false]) /\ Grown W w') := fun W => turned_5 c1 c2 c3 c4 c5 true id z r wt g a len cap W
 go_enter Tryz.func69,Tryz.ntmps69
 go_upto_region 1 with fail
 rw [<- HW1.out]
 clear HW1
 have hl2 := HBD.out.lt
 have hl1 : w.heap.size + 1 < w1.heap.size := by omega
 obtain ⟨s0,s1,s2,s3,s4,s5⟩ := HS.out
 obtain ⟨⟨d0,d1,d2,d3,d4,d5,d6⟩,-⟩ := HBD.out
 have HGR : Hid (∀ n os,Grown w (Go.Sort.grow (w1.drewN n) os)) := fun n os => grown2 HG1.out ⟨n,os,rfl⟩
 have x0 := cell_grown (w := w1) (a := ⟨w.heap.size + 1,0,none⟩) hl1 s0
 have x1 := cell_grown (w := w1) (a := ⟨w.heap.size + 1,1,none⟩) hl1 s1
 have x2 := cell_grown (w := w1) (a := ⟨w.heap.size + 1,2,none⟩) hl1 s2
 have x3 := cell_grown (w := w1) (a := ⟨w.heap.size + 1,3,none⟩) hl1 s3
 have x4 := cell_grown (w := w1) (a := ⟨w.heap.size + 1,4,none⟩) hl1 s4
 have x5 := cell_grown (w := w1) (a := ⟨w.heap.size + 1,5,none⟩) hl1 s5
 have y0 := cell_grown (w := w1) (a := ⟨w.heap.size + 1 + 1,0,none⟩) hl2 d0
 have y1 := cell_grown (w := w1) (a := ⟨w.heap.size + 1 + 1,1,none⟩) hl2 d1
 have y2 := cell_grown (w := w1) (a := ⟨w.heap.size + 1 + 1,2,none⟩) hl2 d2
 have y3 := cell_grown (w := w1) (a := ⟨w.heap.size + 1 + 1,3,none⟩) hl2 d3
 have y4 := cell_grown (w := w1) (a := ⟨w.heap.size + 1 + 1,4,none⟩) hl2 d4
 have y5 := cell_grown (w := w1) (a := ⟨w.heap.size + 1 + 1,5,none⟩) hl2 d5
 have y6 := cell_grown (w := w1) (a := ⟨w.heap.size + 1 + 1,6,none⟩) hl2 d6
 go_wp2_with fail
 refine wp_region_QW mixed5 (by kernel_rfl) ?_
 repeat (refine QW_step (fun K hK => ?_); go_simp; first | (refine hK _ ?_; clear hK K) | (apply Exists.intro; refine ⟨fun _ => ?_,hK _ ?_⟩; (go_at_call 93; refine Calls.grown_of (HT.out _)); clear hK K))
 refine QW_nil ?_
 intro _ hw9
 obtain ⟨⟨nq,osq⟩,hw8⟩ := hw9
 subst hw8
 have hgf := HGR.out nq osq
 go_wp2_with fail
 go_ret
 exact ⟨rfl,hgf⟩
set_option maxHeartbeats 4000000 in
set_option maxRecDepth 60000 in
theorem refuseNode_6s (m : Mp) (s : MV) (c1 c2 c3 c4 : Int) (c5 : Bool) (id z r wt g : Int) (a : Option Addr) (len cap : Nat) (w : World) : Calls Tryz.prog 69 #[.agg (mapCells m s).toArray,.agg #[.int .i64 c1,.int .i64 c2,.int .i64 c3,.int .i64 c4,.bool c5,.bool true],.agg #[.int .i64 6,.int .i64 id,.int .i64 z,.int .i64 r,.int .i64 wt,.int .i64 g,.slice a len cap]] w fun e w' => e = .returned (.int .i64 7) /\ Grown w w' := by
 rw [map_split]
 obtain ⟨aN,lN,cN,aT,lT,cT,aR,lR,cR⟩ := s
 simp only at *
 obtain ⟨w1,hw1⟩ : ∃ w1,w1 = (((w.alloc (.cells #[.int .i64 m.ep,.int .i64 m.size,.int .i64 m.mn,.int .i64 m.gr,.slice aN lN cN,.slice aT lT cT,.slice aR lR cR] 26)).alloc (.cells #[.int .i64 c1,.int .i64 c2,.int .i64 c3,.int .i64 c4,.bool c5,.bool true] 72)).alloc (.cells #[.int .i64 6,.int .i64 id,.int .i64 z,.int .i64 r,.int .i64 wt,.int .i64 g,.slice a len cap] 37)) := ⟨_,rfl⟩
 have hg1 : Grown w w1 := by rw [hw1]; exact grown2 (grown2 (grown_alloc _ _) (grown_alloc _ _)) (grown_alloc _ _)
 have hb1 := grown_below hg1
 have HBA : Hid (Box7 w1 w.heap.size (.int .i64 m.ep) (.int .i64 m.size) (.int .i64 m.mn) (.int .i64 m.gr) (.slice aN lN cN) (.slice aT lT cT) (.slice aR lR cR)) := by
  rw [hw1]
  exact ((Box7.new w _ _ _ _ _ _ _ _).below (below_alloc _ _)).below (below_alloc _ _)
 have HS : Hid (Six w1 (w.heap.size + 1) (.int .i64 c1) (.int .i64 c2) (.int .i64 c3) (.int .i64 c4) (.bool c5) (.bool true)) := by
  rw [hw1]
  have := (six_new (w.alloc (.cells #[.int .i64 m.ep,.int .i64 m.size,.int .i64 m.mn,.int .i64 m.gr,.slice aN lN cN,.slice aT lT cT,.slice aR lR cR] 26)) (.int .i64 c1) (.int .i64 c2) (.int .i64 c3) (.int .i64 c4) (.bool c5) (.bool true) 72).below (below_alloc _ (.cells #[.int .i64 6,.int .i64 id,.int .i64 z,.int .i64 r,.int .i64 wt,.int .i64 g,.slice a len cap] 37))
  rwa [show (w.alloc (.cells #[.int .i64 m.ep,.int .i64 m.size,.int .i64 m.mn,.int .i64 m.gr,.slice aN lN cN,.slice aT lT cT,.slice aR lR cR] 26)).heap.size = w.heap.size + 1 by simp] at this
 have HBD : Hid (Box7 w1 (w.heap.size + 1 + 1) (.int .i64 6) (.int .i64 id) (.int .i64 z) (.int .i64 r) (.int .i64 wt) (.int .i64 g) (.slice a len cap)) := by
  rw [hw1]
  have := Box7.new ((w.alloc (.cells #[.int .i64 m.ep,.int .i64 m.size,.int .i64 m.mn,.int .i64 m.gr,.slice aN lN cN,.slice aT lT cT,.slice aR lR cR] 26)).alloc (.cells #[.int .i64 c1,.int .i64 c2,.int .i64 c3,.int .i64 c4,.bool c5,.bool true] 72)) (.int .i64 6) (.int .i64 id) (.int .i64 z) (.int .i64 r) (.int .i64 wt) (.int .i64 g) (.slice a len cap) 37
  rwa [show ((w.alloc (.cells #[.int .i64 m.ep,.int .i64 m.size,.int .i64 m.mn,.int .i64 m.gr,.slice aN lN cN,.slice aT lT cT,.slice aR lR cR] 26)).alloc (.cells #[.int .i64 c1,.int .i64 c2,.int .i64 c3,.int .i64 c4,.bool c5,.bool true] 72)).heap.size = w.heap.size + 1 + 1 by simp] at this
 have HW1 : Hid (w1 = (((w.alloc (.cells #[.int .i64 m.ep,.int .i64 m.size,.int .i64 m.mn,.int .i64 m.gr,.slice aN lN cN,.slice aT lT cT,.slice aR lR cR] 26)).alloc (.cells #[.int .i64 c1,.int .i64 c2,.int .i64 c3,.int .i64 c4,.bool c5,.bool true] 72)).alloc (.cells #[.int .i64 6,.int .i64 id,.int .i64 z,.int .i64 r,.int .i64 wt,.int .i64 g,.slice a len cap] 37))) := hw1
 have HG1 : Hid (Grown w w1) := hg1
 clear hw1 hg1
 have HT : Hid (∀ W,Calls Tryz.prog 93 #[.agg #[.int .i64 c1,.int .i64 c2,.int .i64 c3,.int .i64 c4,.bool c5,.bool true],.agg #[.int .i64 6,.int .i64 id,.int .i64 z,.int .i64 r,.int .i64 wt,.int .i64 g,.slice a len cap]] W fun e w' => e = .returned (.agg #[.int .i64 c1,.int .i64 c2,.int .i64 c3,.int .i64 c4,.bool c5,.bool true]) /\ Grown W w') := fun W => turned_6 c1 c2 c3 c4 c5 true id z r wt g a len cap W
 go_enter Tryz.func69,Tryz.ntmps69
 go_upto_region 1 with fail
 rw [<- HW1.out]
 clear HW1
 have hl2 := HBD.out.lt
 have hl1 : w.heap.size + 1 < w1.heap.size := by omega
 obtain ⟨s0,s1,s2,s3,s4,s5⟩ := HS.out
 obtain ⟨⟨d0,d1,d2,d3,d4,d5,d6⟩,-⟩ := HBD.out
 have HGR : Hid (∀ n os,Grown w (Go.Sort.grow (w1.drewN n) os)) := fun n os => grown2 HG1.out ⟨n,os,rfl⟩
 have x0 := cell_grown (w := w1) (a := ⟨w.heap.size + 1,0,none⟩) hl1 s0
 have x1 := cell_grown (w := w1) (a := ⟨w.heap.size + 1,1,none⟩) hl1 s1
 have x2 := cell_grown (w := w1) (a := ⟨w.heap.size + 1,2,none⟩) hl1 s2
 have x3 := cell_grown (w := w1) (a := ⟨w.heap.size + 1,3,none⟩) hl1 s3
 have x4 := cell_grown (w := w1) (a := ⟨w.heap.size + 1,4,none⟩) hl1 s4
 have x5 := cell_grown (w := w1) (a := ⟨w.heap.size + 1,5,none⟩) hl1 s5
 have y0 := cell_grown (w := w1) (a := ⟨w.heap.size + 1 + 1,0,none⟩) hl2 d0
 have y1 := cell_grown (w := w1) (a := ⟨w.heap.size + 1 + 1,1,none⟩) hl2 d1
 have y2 := cell_grown (w := w1) (a := ⟨w.heap.size + 1 + 1,2,none⟩) hl2 d2
 have y3 := cell_grown (w := w1) (a := ⟨w.heap.size + 1 + 1,3,none⟩) hl2 d3
 have y4 := cell_grown (w := w1) (a := ⟨w.heap.size + 1 + 1,4,none⟩) hl2 d4
 have y5 := cell_grown (w := w1) (a := ⟨w.heap.size + 1 + 1,5,none⟩) hl2 d5
 have y6 := cell_grown (w := w1) (a := ⟨w.heap.size + 1 + 1,6,none⟩) hl2 d6
 go_wp2_with fail
 refine wp_region_QW mixed5 (by kernel_rfl) ?_
 repeat (refine QW_step (fun K hK => ?_); go_simp; first | (refine hK _ ?_; clear hK K) | (apply Exists.intro; refine ⟨fun _ => ?_,hK _ ?_⟩; (go_at_call 93; refine Calls.grown_of (HT.out _)); clear hK K))
 refine QW_nil ?_
 intro _ hw9
 obtain ⟨⟨nq,osq⟩,hw8⟩ := hw9
 subst hw8
 have hgf := HGR.out nq osq
 go_wp2_with fail
 go_ret
 exact ⟨rfl,hgf⟩
set_option maxHeartbeats 4000000 in
set_option maxRecDepth 60000 in
theorem refuseNode_6d (m : Mp) (s : MV) (c1 c2 c3 c4 : Int) (c5 : Bool) (id z r wt g : Int) (a : Option Addr) (len cap : Nat) (w : World) : Calls Tryz.prog 69 #[.agg (mapCells m s).toArray,.agg #[.int .i64 c1,.int .i64 c2,.int .i64 c3,.int .i64 c4,.bool c5,.bool false],.agg #[.int .i64 6,.int .i64 id,.int .i64 z,.int .i64 r,.int .i64 wt,.int .i64 g,.slice a len cap]] w fun e w' => e = .returned (.int .i64 0) /\ Grown w w' := by
 rw [map_split]
 obtain ⟨aN,lN,cN,aT,lT,cT,aR,lR,cR⟩ := s
 simp only at *
 obtain ⟨w1,hw1⟩ : ∃ w1,w1 = (((w.alloc (.cells #[.int .i64 m.ep,.int .i64 m.size,.int .i64 m.mn,.int .i64 m.gr,.slice aN lN cN,.slice aT lT cT,.slice aR lR cR] 26)).alloc (.cells #[.int .i64 c1,.int .i64 c2,.int .i64 c3,.int .i64 c4,.bool c5,.bool false] 72)).alloc (.cells #[.int .i64 6,.int .i64 id,.int .i64 z,.int .i64 r,.int .i64 wt,.int .i64 g,.slice a len cap] 37)) := ⟨_,rfl⟩
 have hg1 : Grown w w1 := by rw [hw1]; exact grown2 (grown2 (grown_alloc _ _) (grown_alloc _ _)) (grown_alloc _ _)
 have hb1 := grown_below hg1
 have HBA : Hid (Box7 w1 w.heap.size (.int .i64 m.ep) (.int .i64 m.size) (.int .i64 m.mn) (.int .i64 m.gr) (.slice aN lN cN) (.slice aT lT cT) (.slice aR lR cR)) := by
  rw [hw1]
  exact ((Box7.new w _ _ _ _ _ _ _ _).below (below_alloc _ _)).below (below_alloc _ _)
 have HS : Hid (Six w1 (w.heap.size + 1) (.int .i64 c1) (.int .i64 c2) (.int .i64 c3) (.int .i64 c4) (.bool c5) (.bool false)) := by
  rw [hw1]
  have := (six_new (w.alloc (.cells #[.int .i64 m.ep,.int .i64 m.size,.int .i64 m.mn,.int .i64 m.gr,.slice aN lN cN,.slice aT lT cT,.slice aR lR cR] 26)) (.int .i64 c1) (.int .i64 c2) (.int .i64 c3) (.int .i64 c4) (.bool c5) (.bool false) 72).below (below_alloc _ (.cells #[.int .i64 6,.int .i64 id,.int .i64 z,.int .i64 r,.int .i64 wt,.int .i64 g,.slice a len cap] 37))
  rwa [show (w.alloc (.cells #[.int .i64 m.ep,.int .i64 m.size,.int .i64 m.mn,.int .i64 m.gr,.slice aN lN cN,.slice aT lT cT,.slice aR lR cR] 26)).heap.size = w.heap.size + 1 by simp] at this
 have HBD : Hid (Box7 w1 (w.heap.size + 1 + 1) (.int .i64 6) (.int .i64 id) (.int .i64 z) (.int .i64 r) (.int .i64 wt) (.int .i64 g) (.slice a len cap)) := by
  rw [hw1]
  have := Box7.new ((w.alloc (.cells #[.int .i64 m.ep,.int .i64 m.size,.int .i64 m.mn,.int .i64 m.gr,.slice aN lN cN,.slice aT lT cT,.slice aR lR cR] 26)).alloc (.cells #[.int .i64 c1,.int .i64 c2,.int .i64 c3,.int .i64 c4,.bool c5,.bool false] 72)) (.int .i64 6) (.int .i64 id) (.int .i64 z) (.int .i64 r) (.int .i64 wt) (.int .i64 g) (.slice a len cap) 37
  rwa [show ((w.alloc (.cells #[.int .i64 m.ep,.int .i64 m.size,.int .i64 m.mn,.int .i64 m.gr,.slice aN lN cN,.slice aT lT cT,.slice aR lR cR] 26)).alloc (.cells #[.int .i64 c1,.int .i64 c2,.int .i64 c3,.int .i64 c4,.bool c5,.bool false] 72)).heap.size = w.heap.size + 1 + 1 by simp] at this
 have HW1 : Hid (w1 = (((w.alloc (.cells #[.int .i64 m.ep,.int .i64 m.size,.int .i64 m.mn,.int .i64 m.gr,.slice aN lN cN,.slice aT lT cT,.slice aR lR cR] 26)).alloc (.cells #[.int .i64 c1,.int .i64 c2,.int .i64 c3,.int .i64 c4,.bool c5,.bool false] 72)).alloc (.cells #[.int .i64 6,.int .i64 id,.int .i64 z,.int .i64 r,.int .i64 wt,.int .i64 g,.slice a len cap] 37))) := hw1
 have HG1 : Hid (Grown w w1) := hg1
 clear hw1 hg1
 have HT : Hid (∀ W,Calls Tryz.prog 93 #[.agg #[.int .i64 c1,.int .i64 c2,.int .i64 c3,.int .i64 c4,.bool c5,.bool false],.agg #[.int .i64 6,.int .i64 id,.int .i64 z,.int .i64 r,.int .i64 wt,.int .i64 g,.slice a len cap]] W fun e w' => e = .returned (.agg #[.int .i64 c1,.int .i64 c2,.int .i64 c3,.int .i64 c4,.bool c5,.bool true]) /\ Grown W w') := fun W => turned_6 c1 c2 c3 c4 c5 false id z r wt g a len cap W
 go_enter Tryz.func69,Tryz.ntmps69
 go_upto_region 1 with fail
 rw [<- HW1.out]
 clear HW1
 have hl2 := HBD.out.lt
 have hl1 : w.heap.size + 1 < w1.heap.size := by omega
 obtain ⟨s0,s1,s2,s3,s4,s5⟩ := HS.out
 obtain ⟨⟨d0,d1,d2,d3,d4,d5,d6⟩,-⟩ := HBD.out
 have HGR : Hid (∀ n os,Grown w (Go.Sort.grow (w1.drewN n) os)) := fun n os => grown2 HG1.out ⟨n,os,rfl⟩
 have x0 := cell_grown (w := w1) (a := ⟨w.heap.size + 1,0,none⟩) hl1 s0
 have x1 := cell_grown (w := w1) (a := ⟨w.heap.size + 1,1,none⟩) hl1 s1
 have x2 := cell_grown (w := w1) (a := ⟨w.heap.size + 1,2,none⟩) hl1 s2
 have x3 := cell_grown (w := w1) (a := ⟨w.heap.size + 1,3,none⟩) hl1 s3
 have x4 := cell_grown (w := w1) (a := ⟨w.heap.size + 1,4,none⟩) hl1 s4
 have x5 := cell_grown (w := w1) (a := ⟨w.heap.size + 1,5,none⟩) hl1 s5
 have y0 := cell_grown (w := w1) (a := ⟨w.heap.size + 1 + 1,0,none⟩) hl2 d0
 have y1 := cell_grown (w := w1) (a := ⟨w.heap.size + 1 + 1,1,none⟩) hl2 d1
 have y2 := cell_grown (w := w1) (a := ⟨w.heap.size + 1 + 1,2,none⟩) hl2 d2
 have y3 := cell_grown (w := w1) (a := ⟨w.heap.size + 1 + 1,3,none⟩) hl2 d3
 have y4 := cell_grown (w := w1) (a := ⟨w.heap.size + 1 + 1,4,none⟩) hl2 d4
 have y5 := cell_grown (w := w1) (a := ⟨w.heap.size + 1 + 1,5,none⟩) hl2 d5
 have y6 := cell_grown (w := w1) (a := ⟨w.heap.size + 1 + 1,6,none⟩) hl2 d6
 go_wp2_with fail
 refine wp_region_QW mixed5 (by kernel_rfl) ?_
 repeat (refine QW_step (fun K hK => ?_); go_simp; first | (refine hK _ ?_; clear hK K) | (apply Exists.intro; refine ⟨fun _ => ?_,hK _ ?_⟩; (go_at_call 93; refine Calls.grown_of (HT.out _)); clear hK K))
 refine QW_nil ?_
 intro _ hw9
 obtain ⟨⟨nq,osq⟩,hw8⟩ := hw9
 subst hw8
 have hgf := HGR.out nq osq
 go_wp2_with fail
 go_ret
 exact ⟨rfl,hgf⟩
set_option maxHeartbeats 2000000 in
set_option maxRecDepth 60000 in
theorem refuseNode_2w (m : Mp) (s : MV) (c1 c2 c3 c4 : Int) (c5 c6 : Bool) (id z r wt g : Int) (hwt : ¬ (0 <= wt /\ wt <= 65536)) (a : Option Addr) (len cap : Nat) (w : World) : Calls Tryz.prog 69 #[.agg (mapCells m s).toArray,.agg #[.int .i64 c1,.int .i64 c2,.int .i64 c3,.int .i64 c4,.bool c5,.bool c6],.agg #[.int .i64 2,.int .i64 id,.int .i64 z,.int .i64 r,.int .i64 wt,.int .i64 g,.slice a len cap]] w fun e w' => e = .returned (.int .i64 1) /\ Below w.heap.size w w' := by
 rw [map_split]
 obtain ⟨aN,lN,cN,aT,lT,cT,aR,lR,cR⟩ := s
 simp only at *
 have HWI : Hid (∀ w : World,Calls Tryz.prog 39 #[.int .i64 wt,.int .i64 0,.int .i64 65536] w fun e w' => e = .returned (.bool false) /\ w' = w) := fun w => by
  have := mwithin_any wt 0 65536 w
  rwa [inB_no hwt] at this
 obtain ⟨w1,hw1⟩ : ∃ w1,w1 = (((w.alloc (.cells #[.int .i64 m.ep,.int .i64 m.size,.int .i64 m.mn,.int .i64 m.gr,.slice aN lN cN,.slice aT lT cT,.slice aR lR cR] 26)).alloc (.cells #[.int .i64 c1,.int .i64 c2,.int .i64 c3,.int .i64 c4,.bool c5,.bool c6] 72)).alloc (.cells #[.int .i64 2,.int .i64 id,.int .i64 z,.int .i64 r,.int .i64 wt,.int .i64 g,.slice a len cap] 37)) := ⟨_,rfl⟩
 have hg1 : Grown w w1 := by rw [hw1]; exact grown2 (grown2 (grown_alloc _ _) (grown_alloc _ _)) (grown_alloc _ _)
 have hb1 := grown_below hg1
 have HBA : Hid (Box7 w1 w.heap.size (.int .i64 m.ep) (.int .i64 m.size) (.int .i64 m.mn) (.int .i64 m.gr) (.slice aN lN cN) (.slice aT lT cT) (.slice aR lR cR)) := by
  rw [hw1]
  exact ((Box7.new w _ _ _ _ _ _ _ _).below (below_alloc _ _)).below (below_alloc _ _)
 have HS : Hid (Six w1 (w.heap.size + 1) (.int .i64 c1) (.int .i64 c2) (.int .i64 c3) (.int .i64 c4) (.bool c5) (.bool c6)) := by
  rw [hw1]
  have := (six_new (w.alloc (.cells #[.int .i64 m.ep,.int .i64 m.size,.int .i64 m.mn,.int .i64 m.gr,.slice aN lN cN,.slice aT lT cT,.slice aR lR cR] 26)) (.int .i64 c1) (.int .i64 c2) (.int .i64 c3) (.int .i64 c4) (.bool c5) (.bool c6) 72).below (below_alloc _ (.cells #[.int .i64 2,.int .i64 id,.int .i64 z,.int .i64 r,.int .i64 wt,.int .i64 g,.slice a len cap] 37))
  rwa [show (w.alloc (.cells #[.int .i64 m.ep,.int .i64 m.size,.int .i64 m.mn,.int .i64 m.gr,.slice aN lN cN,.slice aT lT cT,.slice aR lR cR] 26)).heap.size = w.heap.size + 1 by simp] at this
 have HBD : Hid (Box7 w1 (w.heap.size + 1 + 1) (.int .i64 2) (.int .i64 id) (.int .i64 z) (.int .i64 r) (.int .i64 wt) (.int .i64 g) (.slice a len cap)) := by
  rw [hw1]
  have := Box7.new ((w.alloc (.cells #[.int .i64 m.ep,.int .i64 m.size,.int .i64 m.mn,.int .i64 m.gr,.slice aN lN cN,.slice aT lT cT,.slice aR lR cR] 26)).alloc (.cells #[.int .i64 c1,.int .i64 c2,.int .i64 c3,.int .i64 c4,.bool c5,.bool c6] 72)) (.int .i64 2) (.int .i64 id) (.int .i64 z) (.int .i64 r) (.int .i64 wt) (.int .i64 g) (.slice a len cap) 37
  rwa [show ((w.alloc (.cells #[.int .i64 m.ep,.int .i64 m.size,.int .i64 m.mn,.int .i64 m.gr,.slice aN lN cN,.slice aT lT cT,.slice aR lR cR] 26)).alloc (.cells #[.int .i64 c1,.int .i64 c2,.int .i64 c3,.int .i64 c4,.bool c5,.bool c6] 72)).heap.size = w.heap.size + 1 + 1 by simp] at this
 have HW1 : Hid (w1 = (((w.alloc (.cells #[.int .i64 m.ep,.int .i64 m.size,.int .i64 m.mn,.int .i64 m.gr,.slice aN lN cN,.slice aT lT cT,.slice aR lR cR] 26)).alloc (.cells #[.int .i64 c1,.int .i64 c2,.int .i64 c3,.int .i64 c4,.bool c5,.bool c6] 72)).alloc (.cells #[.int .i64 2,.int .i64 id,.int .i64 z,.int .i64 r,.int .i64 wt,.int .i64 g,.slice a len cap] 37))) := hw1
 have HG1 : Hid (Grown w w1) := hg1
 clear hw1 hg1
 go_enter Tryz.func69,Tryz.ntmps69
 go_upto_region 1 with fail
 rw [<- HW1.out]
 clear HW1
 obtain ⟨⟨d0,d1,d2,d3,d4,d5,d6⟩,-⟩ := HBD.out
 go_wp2_with (go_at_call 39; refine (HWI.out _).mono ?_; rintro e w7 ⟨rfl,hw7⟩; obtain rfl := hw7.symm)
 go_ret
 exact ⟨rfl,hb1⟩
set_option maxHeartbeats 2000000 in
set_option maxRecDepth 60000 in
theorem refuseNode_7u (m : Mp) (s : MV) (c1 c2 c3 c4 : Int) (c6 : Bool) (id z r wt g : Int) (a : Option Addr) (len cap : Nat) (w : World) : Calls Tryz.prog 69 #[.agg (mapCells m s).toArray,.agg #[.int .i64 c1,.int .i64 c2,.int .i64 c3,.int .i64 c4,.bool true,.bool c6],.agg #[.int .i64 7,.int .i64 id,.int .i64 z,.int .i64 r,.int .i64 wt,.int .i64 g,.slice a len cap]] w fun e w' => e = .returned (.int .i64 11) /\ Below w.heap.size w w' := by
 rw [map_split]
 obtain ⟨aN,lN,cN,aT,lT,cT,aR,lR,cR⟩ := s
 simp only at *
 obtain ⟨w1,hw1⟩ : ∃ w1,w1 = (((w.alloc (.cells #[.int .i64 m.ep,.int .i64 m.size,.int .i64 m.mn,.int .i64 m.gr,.slice aN lN cN,.slice aT lT cT,.slice aR lR cR] 26)).alloc (.cells #[.int .i64 c1,.int .i64 c2,.int .i64 c3,.int .i64 c4,.bool true,.bool c6] 72)).alloc (.cells #[.int .i64 7,.int .i64 id,.int .i64 z,.int .i64 r,.int .i64 wt,.int .i64 g,.slice a len cap] 37)) := ⟨_,rfl⟩
 have hg1 : Grown w w1 := by rw [hw1]; exact grown2 (grown2 (grown_alloc _ _) (grown_alloc _ _)) (grown_alloc _ _)
 have hb1 := grown_below hg1
 have HBA : Hid (Box7 w1 w.heap.size (.int .i64 m.ep) (.int .i64 m.size) (.int .i64 m.mn) (.int .i64 m.gr) (.slice aN lN cN) (.slice aT lT cT) (.slice aR lR cR)) := by
  rw [hw1]
  exact ((Box7.new w _ _ _ _ _ _ _ _).below (below_alloc _ _)).below (below_alloc _ _)
 have HS : Hid (Six w1 (w.heap.size + 1) (.int .i64 c1) (.int .i64 c2) (.int .i64 c3) (.int .i64 c4) (.bool true) (.bool c6)) := by
  rw [hw1]
  have := (six_new (w.alloc (.cells #[.int .i64 m.ep,.int .i64 m.size,.int .i64 m.mn,.int .i64 m.gr,.slice aN lN cN,.slice aT lT cT,.slice aR lR cR] 26)) (.int .i64 c1) (.int .i64 c2) (.int .i64 c3) (.int .i64 c4) (.bool true) (.bool c6) 72).below (below_alloc _ (.cells #[.int .i64 7,.int .i64 id,.int .i64 z,.int .i64 r,.int .i64 wt,.int .i64 g,.slice a len cap] 37))
  rwa [show (w.alloc (.cells #[.int .i64 m.ep,.int .i64 m.size,.int .i64 m.mn,.int .i64 m.gr,.slice aN lN cN,.slice aT lT cT,.slice aR lR cR] 26)).heap.size = w.heap.size + 1 by simp] at this
 have HBD : Hid (Box7 w1 (w.heap.size + 1 + 1) (.int .i64 7) (.int .i64 id) (.int .i64 z) (.int .i64 r) (.int .i64 wt) (.int .i64 g) (.slice a len cap)) := by
  rw [hw1]
  have := Box7.new ((w.alloc (.cells #[.int .i64 m.ep,.int .i64 m.size,.int .i64 m.mn,.int .i64 m.gr,.slice aN lN cN,.slice aT lT cT,.slice aR lR cR] 26)).alloc (.cells #[.int .i64 c1,.int .i64 c2,.int .i64 c3,.int .i64 c4,.bool true,.bool c6] 72)) (.int .i64 7) (.int .i64 id) (.int .i64 z) (.int .i64 r) (.int .i64 wt) (.int .i64 g) (.slice a len cap) 37
  rwa [show ((w.alloc (.cells #[.int .i64 m.ep,.int .i64 m.size,.int .i64 m.mn,.int .i64 m.gr,.slice aN lN cN,.slice aT lT cT,.slice aR lR cR] 26)).alloc (.cells #[.int .i64 c1,.int .i64 c2,.int .i64 c3,.int .i64 c4,.bool true,.bool c6] 72)).heap.size = w.heap.size + 1 + 1 by simp] at this
 have HW1 : Hid (w1 = (((w.alloc (.cells #[.int .i64 m.ep,.int .i64 m.size,.int .i64 m.mn,.int .i64 m.gr,.slice aN lN cN,.slice aT lT cT,.slice aR lR cR] 26)).alloc (.cells #[.int .i64 c1,.int .i64 c2,.int .i64 c3,.int .i64 c4,.bool true,.bool c6] 72)).alloc (.cells #[.int .i64 7,.int .i64 id,.int .i64 z,.int .i64 r,.int .i64 wt,.int .i64 g,.slice a len cap] 37))) := hw1
 have HG1 : Hid (Grown w w1) := hg1
 clear hw1 hg1
 go_enter Tryz.func69,Tryz.ntmps69
 go_upto_region 1 with fail
 rw [<- HW1.out]
 clear HW1
 obtain ⟨⟨d0,d1,d2,d3,d4,d5,d6⟩,-⟩ := HBD.out
 obtain ⟨s0,s1,s2,s3,s4,s5⟩ := HS.out
 go_wp2_with fail
 go_ret
 exact ⟨rfl,hb1⟩
set_option maxHeartbeats 2000000 in
set_option maxRecDepth 60000 in
theorem refuseNode_7w (m : Mp) (s : MV) (c1 c2 c3 c4 : Int) (id z r wt g : Int) (hw0 : 0 < c4) (a : Option Addr) (len cap : Nat) (w : World) : Calls Tryz.prog 69 #[.agg (mapCells m s).toArray,.agg #[.int .i64 c1,.int .i64 c2,.int .i64 c3,.int .i64 c4,.bool false,.bool true],.agg #[.int .i64 7,.int .i64 id,.int .i64 z,.int .i64 r,.int .i64 wt,.int .i64 g,.slice a len cap]] w fun e w' => e = .returned (.int .i64 11) /\ Below w.heap.size w w' := by
 rw [map_split]
 obtain ⟨aN,lN,cN,aT,lT,cT,aR,lR,cR⟩ := s
 simp only at *
 obtain ⟨w1,hw1⟩ : ∃ w1,w1 = (((w.alloc (.cells #[.int .i64 m.ep,.int .i64 m.size,.int .i64 m.mn,.int .i64 m.gr,.slice aN lN cN,.slice aT lT cT,.slice aR lR cR] 26)).alloc (.cells #[.int .i64 c1,.int .i64 c2,.int .i64 c3,.int .i64 c4,.bool false,.bool true] 72)).alloc (.cells #[.int .i64 7,.int .i64 id,.int .i64 z,.int .i64 r,.int .i64 wt,.int .i64 g,.slice a len cap] 37)) := ⟨_,rfl⟩
 have hg1 : Grown w w1 := by rw [hw1]; exact grown2 (grown2 (grown_alloc _ _) (grown_alloc _ _)) (grown_alloc _ _)
 have hb1 := grown_below hg1
 have HBA : Hid (Box7 w1 w.heap.size (.int .i64 m.ep) (.int .i64 m.size) (.int .i64 m.mn) (.int .i64 m.gr) (.slice aN lN cN) (.slice aT lT cT) (.slice aR lR cR)) := by
  rw [hw1]
  exact ((Box7.new w _ _ _ _ _ _ _ _).below (below_alloc _ _)).below (below_alloc _ _)
 have HS : Hid (Six w1 (w.heap.size + 1) (.int .i64 c1) (.int .i64 c2) (.int .i64 c3) (.int .i64 c4) (.bool false) (.bool true)) := by
  rw [hw1]
  have := (six_new (w.alloc (.cells #[.int .i64 m.ep,.int .i64 m.size,.int .i64 m.mn,.int .i64 m.gr,.slice aN lN cN,.slice aT lT cT,.slice aR lR cR] 26)) (.int .i64 c1) (.int .i64 c2) (.int .i64 c3) (.int .i64 c4) (.bool false) (.bool true) 72).below (below_alloc _ (.cells #[.int .i64 7,.int .i64 id,.int .i64 z,.int .i64 r,.int .i64 wt,.int .i64 g,.slice a len cap] 37))
  rwa [show (w.alloc (.cells #[.int .i64 m.ep,.int .i64 m.size,.int .i64 m.mn,.int .i64 m.gr,.slice aN lN cN,.slice aT lT cT,.slice aR lR cR] 26)).heap.size = w.heap.size + 1 by simp] at this
 have HBD : Hid (Box7 w1 (w.heap.size + 1 + 1) (.int .i64 7) (.int .i64 id) (.int .i64 z) (.int .i64 r) (.int .i64 wt) (.int .i64 g) (.slice a len cap)) := by
  rw [hw1]
  have := Box7.new ((w.alloc (.cells #[.int .i64 m.ep,.int .i64 m.size,.int .i64 m.mn,.int .i64 m.gr,.slice aN lN cN,.slice aT lT cT,.slice aR lR cR] 26)).alloc (.cells #[.int .i64 c1,.int .i64 c2,.int .i64 c3,.int .i64 c4,.bool false,.bool true] 72)) (.int .i64 7) (.int .i64 id) (.int .i64 z) (.int .i64 r) (.int .i64 wt) (.int .i64 g) (.slice a len cap) 37
  rwa [show ((w.alloc (.cells #[.int .i64 m.ep,.int .i64 m.size,.int .i64 m.mn,.int .i64 m.gr,.slice aN lN cN,.slice aT lT cT,.slice aR lR cR] 26)).alloc (.cells #[.int .i64 c1,.int .i64 c2,.int .i64 c3,.int .i64 c4,.bool false,.bool true] 72)).heap.size = w.heap.size + 1 + 1 by simp] at this
 have HW1 : Hid (w1 = (((w.alloc (.cells #[.int .i64 m.ep,.int .i64 m.size,.int .i64 m.mn,.int .i64 m.gr,.slice aN lN cN,.slice aT lT cT,.slice aR lR cR] 26)).alloc (.cells #[.int .i64 c1,.int .i64 c2,.int .i64 c3,.int .i64 c4,.bool false,.bool true] 72)).alloc (.cells #[.int .i64 7,.int .i64 id,.int .i64 z,.int .i64 r,.int .i64 wt,.int .i64 g,.slice a len cap] 37))) := hw1
 have HG1 : Hid (Grown w w1) := hg1
 clear hw1 hg1
 go_enter Tryz.func69,Tryz.ntmps69
 go_upto_region 1 with fail
 rw [<- HW1.out]
 clear HW1
 obtain ⟨⟨d0,d1,d2,d3,d4,d5,d6⟩,-⟩ := HBD.out
 obtain ⟨s0,s1,s2,s3,s4,s5⟩ := HS.out
 go_wp2_with fail
 go_ret
 exact ⟨rfl,hb1⟩
set_option maxHeartbeats 2000000 in
set_option maxRecDepth 60000 in
theorem refuseNode_7n (m : Mp) (s : MV) (c1 c2 c3 c4 : Int) (id z r wt g : Int) (a : Option Addr) (len cap : Nat) (w : World) (h : MapAt w m s) : Calls Tryz.prog 69 #[.agg (mapCells m s).toArray,.agg #[.int .i64 c1,.int .i64 c2,.int .i64 c3,.int .i64 c4,.bool false,.bool false],.agg #[.int .i64 7,.int .i64 id,.int .i64 z,.int .i64 r,.int .i64 wt,.int .i64 g,.slice a len cap]] w fun e w' => ((NeedP m c1 /\ e = .returned (.int .i64 11)) ∨ (¬ NeedP m c1 /\ e = .returned (.int .i64 0))) /\ Below w.heap.size w w' := by
 have HN : Hid (∀ W,Below w.heap.size w W -> Calls Tryz.prog 92 #[.agg (mapCells m s).toArray,.int .i64 c1] W fun e w' => BoolPost (NeedP m c1) W e w') := fun W hb => needed_any m s c1 W (h.below hb)
 rw [map_split] at HN
 rw [map_split]
 obtain ⟨aN,lN,cN,aT,lT,cT,aR,lR,cR⟩ := s
 simp only at *
 clear h
 obtain ⟨w1,hw1⟩ : ∃ w1,w1 = (((w.alloc (.cells #[.int .i64 m.ep,.int .i64 m.size,.int .i64 m.mn,.int .i64 m.gr,.slice aN lN cN,.slice aT lT cT,.slice aR lR cR] 26)).alloc (.cells #[.int .i64 c1,.int .i64 c2,.int .i64 c3,.int .i64 c4,.bool false,.bool false] 72)).alloc (.cells #[.int .i64 7,.int .i64 id,.int .i64 z,.int .i64 r,.int .i64 wt,.int .i64 g,.slice a len cap] 37)) := ⟨_,rfl⟩
 have hg1 : Grown w w1 := by rw [hw1]; exact grown2 (grown2 (grown_alloc _ _) (grown_alloc _ _)) (grown_alloc _ _)
 have hb1 := grown_below hg1
 have HBA : Hid (Box7 w1 w.heap.size (.int .i64 m.ep) (.int .i64 m.size) (.int .i64 m.mn) (.int .i64 m.gr) (.slice aN lN cN) (.slice aT lT cT) (.slice aR lR cR)) := by
  rw [hw1]
  exact ((Box7.new w _ _ _ _ _ _ _ _).below (below_alloc _ _)).below (below_alloc _ _)
 have HS : Hid (Six w1 (w.heap.size + 1) (.int .i64 c1) (.int .i64 c2) (.int .i64 c3) (.int .i64 c4) (.bool false) (.bool false)) := by
  rw [hw1]
  have := (six_new (w.alloc (.cells #[.int .i64 m.ep,.int .i64 m.size,.int .i64 m.mn,.int .i64 m.gr,.slice aN lN cN,.slice aT lT cT,.slice aR lR cR] 26)) (.int .i64 c1) (.int .i64 c2) (.int .i64 c3) (.int .i64 c4) (.bool false) (.bool false) 72).below (below_alloc _ (.cells #[.int .i64 7,.int .i64 id,.int .i64 z,.int .i64 r,.int .i64 wt,.int .i64 g,.slice a len cap] 37))
  rwa [show (w.alloc (.cells #[.int .i64 m.ep,.int .i64 m.size,.int .i64 m.mn,.int .i64 m.gr,.slice aN lN cN,.slice aT lT cT,.slice aR lR cR] 26)).heap.size = w.heap.size + 1 by simp] at this
 have HBD : Hid (Box7 w1 (w.heap.size + 1 + 1) (.int .i64 7) (.int .i64 id) (.int .i64 z) (.int .i64 r) (.int .i64 wt) (.int .i64 g) (.slice a len cap)) := by
  rw [hw1]
  have := Box7.new ((w.alloc (.cells #[.int .i64 m.ep,.int .i64 m.size,.int .i64 m.mn,.int .i64 m.gr,.slice aN lN cN,.slice aT lT cT,.slice aR lR cR] 26)).alloc (.cells #[.int .i64 c1,.int .i64 c2,.int .i64 c3,.int .i64 c4,.bool false,.bool false] 72)) (.int .i64 7) (.int .i64 id) (.int .i64 z) (.int .i64 r) (.int .i64 wt) (.int .i64 g) (.slice a len cap) 37
  rwa [show ((w.alloc (.cells #[.int .i64 m.ep,.int .i64 m.size,.int .i64 m.mn,.int .i64 m.gr,.slice aN lN cN,.slice aT lT cT,.slice aR lR cR] 26)).alloc (.cells #[.int .i64 c1,.int .i64 c2,.int .i64 c3,.int .i64 c4,.bool false,.bool false] 72)).heap.size = w.heap.size + 1 + 1 by simp] at this
 have HW1 : Hid (w1 = (((w.alloc (.cells #[.int .i64 m.ep,.int .i64 m.size,.int .i64 m.mn,.int .i64 m.gr,.slice aN lN cN,.slice aT lT cT,.slice aR lR cR] 26)).alloc (.cells #[.int .i64 c1,.int .i64 c2,.int .i64 c3,.int .i64 c4,.bool false,.bool false] 72)).alloc (.cells #[.int .i64 7,.int .i64 id,.int .i64 z,.int .i64 r,.int .i64 wt,.int .i64 g,.slice a len cap] 37))) := hw1
 have HG1 : Hid (Grown w w1) := hg1
 clear hw1 hg1
 go_enter Tryz.func69,Tryz.ntmps69
 go_upto_region 1 with fail
 rw [<- HW1.out]
 clear HW1
 obtain ⟨⟨c0',c1',c2',c3',c4',c5',c6'⟩,-⟩ := HBA.out
 obtain ⟨⟨d0,d1,d2,d3,d4,d5,d6⟩,-⟩ := HBD.out
 obtain ⟨s0,s1,s2,s3,s4,s5⟩ := HS.out
 by_cases hn : NeedP m c1
 ·have HN2 := bool_is (HN.out w1 hb1) hn
  have HNN : Hid (NeedP m c1) := hn
  clear HN hn
  go_wp2_with (go_at_call 92; refine HN2.mono ?_; rintro e w2 ⟨rfl,hb2⟩)
  go_ret
  exact ⟨.inl ⟨HNN.out,rfl⟩,below2 hb1 hb2⟩
 ·have HN2 := bool_isnt (HN.out w1 hb1) hn
  have HNN : Hid (¬ NeedP m c1) := hn
  clear HN hn
  go_wp2_with (go_at_call 92; refine HN2.mono ?_; rintro e w2 ⟨rfl,hb2⟩)
  go_ret
  exact ⟨.inr ⟨HNN.out,rfl⟩,below2 hb1 hb2⟩
set_option maxHeartbeats 2000000 in
set_option maxRecDepth 60000 in
theorem refuseNode_7m (m : Mp) (s : MV) (c1 c2 c3 c4 : Int) (id z r wt g : Int) (hw0 : ¬ 0 < c4) (a : Option Addr) (len cap : Nat) (w : World) (h : MapAt w m s) : Calls Tryz.prog 69 #[.agg (mapCells m s).toArray,.agg #[.int .i64 c1,.int .i64 c2,.int .i64 c3,.int .i64 c4,.bool false,.bool true],.agg #[.int .i64 7,.int .i64 id,.int .i64 z,.int .i64 r,.int .i64 wt,.int .i64 g,.slice a len cap]] w fun e w' => ((NeedP m c1 /\ e = .returned (.int .i64 11)) ∨ (¬ NeedP m c1 /\ e = .returned (.int .i64 0))) /\ Below w.heap.size w w' := by
 have HN : Hid (∀ W,Below w.heap.size w W -> Calls Tryz.prog 92 #[.agg (mapCells m s).toArray,.int .i64 c1] W fun e w' => BoolPost (NeedP m c1) W e w') := fun W hb => needed_any m s c1 W (h.below hb)
 rw [map_split] at HN
 rw [map_split]
 obtain ⟨aN,lN,cN,aT,lT,cT,aR,lR,cR⟩ := s
 simp only at *
 clear h
 obtain ⟨w1,hw1⟩ : ∃ w1,w1 = (((w.alloc (.cells #[.int .i64 m.ep,.int .i64 m.size,.int .i64 m.mn,.int .i64 m.gr,.slice aN lN cN,.slice aT lT cT,.slice aR lR cR] 26)).alloc (.cells #[.int .i64 c1,.int .i64 c2,.int .i64 c3,.int .i64 c4,.bool false,.bool true] 72)).alloc (.cells #[.int .i64 7,.int .i64 id,.int .i64 z,.int .i64 r,.int .i64 wt,.int .i64 g,.slice a len cap] 37)) := ⟨_,rfl⟩
 have hg1 : Grown w w1 := by rw [hw1]; exact grown2 (grown2 (grown_alloc _ _) (grown_alloc _ _)) (grown_alloc _ _)
 have hb1 := grown_below hg1
 have HBA : Hid (Box7 w1 w.heap.size (.int .i64 m.ep) (.int .i64 m.size) (.int .i64 m.mn) (.int .i64 m.gr) (.slice aN lN cN) (.slice aT lT cT) (.slice aR lR cR)) := by
  rw [hw1]
  exact ((Box7.new w _ _ _ _ _ _ _ _).below (below_alloc _ _)).below (below_alloc _ _)
 have HS : Hid (Six w1 (w.heap.size + 1) (.int .i64 c1) (.int .i64 c2) (.int .i64 c3) (.int .i64 c4) (.bool false) (.bool true)) := by
  rw [hw1]
  have := (six_new (w.alloc (.cells #[.int .i64 m.ep,.int .i64 m.size,.int .i64 m.mn,.int .i64 m.gr,.slice aN lN cN,.slice aT lT cT,.slice aR lR cR] 26)) (.int .i64 c1) (.int .i64 c2) (.int .i64 c3) (.int .i64 c4) (.bool false) (.bool true) 72).below (below_alloc _ (.cells #[.int .i64 7,.int .i64 id,.int .i64 z,.int .i64 r,.int .i64 wt,.int .i64 g,.slice a len cap] 37))
  rwa [show (w.alloc (.cells #[.int .i64 m.ep,.int .i64 m.size,.int .i64 m.mn,.int .i64 m.gr,.slice aN lN cN,.slice aT lT cT,.slice aR lR cR] 26)).heap.size = w.heap.size + 1 by simp] at this
 have HBD : Hid (Box7 w1 (w.heap.size + 1 + 1) (.int .i64 7) (.int .i64 id) (.int .i64 z) (.int .i64 r) (.int .i64 wt) (.int .i64 g) (.slice a len cap)) := by
  rw [hw1]
  have := Box7.new ((w.alloc (.cells #[.int .i64 m.ep,.int .i64 m.size,.int .i64 m.mn,.int .i64 m.gr,.slice aN lN cN,.slice aT lT cT,.slice aR lR cR] 26)).alloc (.cells #[.int .i64 c1,.int .i64 c2,.int .i64 c3,.int .i64 c4,.bool false,.bool true] 72)) (.int .i64 7) (.int .i64 id) (.int .i64 z) (.int .i64 r) (.int .i64 wt) (.int .i64 g) (.slice a len cap) 37
  rwa [show ((w.alloc (.cells #[.int .i64 m.ep,.int .i64 m.size,.int .i64 m.mn,.int .i64 m.gr,.slice aN lN cN,.slice aT lT cT,.slice aR lR cR] 26)).alloc (.cells #[.int .i64 c1,.int .i64 c2,.int .i64 c3,.int .i64 c4,.bool false,.bool true] 72)).heap.size = w.heap.size + 1 + 1 by simp] at this
 have HW1 : Hid (w1 = (((w.alloc (.cells #[.int .i64 m.ep,.int .i64 m.size,.int .i64 m.mn,.int .i64 m.gr,.slice aN lN cN,.slice aT lT cT,.slice aR lR cR] 26)).alloc (.cells #[.int .i64 c1,.int .i64 c2,.int .i64 c3,.int .i64 c4,.bool false,.bool true] 72)).alloc (.cells #[.int .i64 7,.int .i64 id,.int .i64 z,.int .i64 r,.int .i64 wt,.int .i64 g,.slice a len cap] 37))) := hw1
 have HG1 : Hid (Grown w w1) := hg1
 clear hw1 hg1
 go_enter Tryz.func69,Tryz.ntmps69
 go_upto_region 1 with fail
 rw [<- HW1.out]
 clear HW1
 obtain ⟨⟨c0',c1',c2',c3',c4',c5',c6'⟩,-⟩ := HBA.out
 obtain ⟨⟨d0,d1,d2,d3,d4,d5,d6⟩,-⟩ := HBD.out
 obtain ⟨s0,s1,s2,s3,s4,s5⟩ := HS.out
 by_cases hn : NeedP m c1
 ·have HN2 := bool_is (HN.out w1 hb1) hn
  have HNN : Hid (NeedP m c1) := hn
  clear HN hn
  go_wp2_with (go_at_call 92; refine HN2.mono ?_; rintro e w2 ⟨rfl,hb2⟩)
  go_ret
  exact ⟨.inl ⟨HNN.out,rfl⟩,below2 hb1 hb2⟩
 ·have HN2 := bool_isnt (HN.out w1 hb1) hn
  have HNN : Hid (¬ NeedP m c1) := hn
  clear HN hn
  go_wp2_with (go_at_call 92; refine HN2.mono ?_; rintro e w2 ⟨rfl,hb2⟩)
  go_ret
  exact ⟨.inr ⟨HNN.out,rfl⟩,below2 hb1 hb2⟩
end Go.Proofs.YtcncbjknfcjnmaaGreat.Tp
