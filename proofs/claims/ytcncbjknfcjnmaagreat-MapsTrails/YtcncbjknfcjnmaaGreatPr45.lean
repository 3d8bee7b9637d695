/-
  The contract of the answer's May: which nodes may be.
-/
import Derived.Test.YtcncbjknfcjnmaaGreatPr00
namespace Go.Proofs.YtcncbjknfcjnmaaGreat.Tp
open Go.ChangeShapes Go.WideShapes Go.ChangeAt Go.RowKit
set_option maxHeartbeats 2000000 in
set_option maxRecDepth 60000 in
theorem refMay_any (a : Option Addr) (len cap : Nat) (ls : List Nd) (w : World) (h : NdsAt w a len cap ls) :
  Calls Tryz.prog 33 #[.slice a len cap] w fun e w' => BoolPost (MayN ls) w e w' := by
 have hl : ls.length = len := h.1
 have hm : len <= maxLen := Nat.le_trans h.2.1 h.2.2.1
 unfold maxLen at hm
 have HL : Hid (NdsAt w a len cap ls) := h
 clear h
 go_enter Tryz.func33,Tryz.ntmps33
 go_wp2_with fail
 go_loopw [3] (fun i wr => ∃ k : Nat,k <= len /\ i = .int .i64 k /\ Hid (∀ j,j < k -> OkN ls j) /\ Below w.heap.size w wr) (fun i _ => len - (intOf i).toNat)
 case atStart => exact ⟨0,Nat.zero_le _,rfl,(fun j hj => absurd hj (Nat.not_lt_zero _)),Below.refl _ _⟩
 case round =>
  obtain ⟨k,hk,rfl,hT,hbel⟩ := hrel
  by_cases hlt : k < len
  ·obtain ⟨b,off,rfl,hbs,hcell⟩ := (HL.out.below hbel).some (by omega)
   obtain ⟨e0,e1,e2,e3,e4,e5⟩ := hcell k hlt
   have hk1 : (k : Int) < (len : Int) := by omega
   have hk0' : (0 : Int) <= (k : Int) := by omega
   have HPV : Hid (0 < k -> wr.cell? ⟨b,off + (k - 1) * 6,none⟩ = some (.int .i64 (ls.getD (k - 1) nd0).id)) := fun h => (hcell (k - 1) (by omega)).1
   clear hcell
   have HOK : Hid (OkN ls k ↔ InN (ls.getD k nd0) /\ (0 < k -> (ls.getD (k - 1) nd0).id < (ls.getD k nd0).id)) := Iff.rfl
   have HNO : Hid (¬ OkN ls k -> ¬ MayN ls) := fun hn hM => hn (hM.2 k (by omega))
   have HYES : Hid (OkN ls k -> ∀ j,j < k + 1 -> OkN ls j) := fun h j hj => by
    rcases Nat.lt_succ_iff_lt_or_eq.1 hj with h' | rfl
    ·exact hT.out j h'
    ·exact h
   generalize ls.getD k nd0 = x at *
   obtain ⟨c1,c2,c3,c4,c5,c6⟩ := x
   simp only at e0 e1 e2 e3 e4 e5
   have HB1 : Hid (∀ n os,Below w.heap.size w (Go.Sort.grow ((wr.alloc (.cells #[.int .i64 c1,.int .i64 c2,.int .i64 c3,.int .i64 c4,.bool c5,.bool c6] 72)).drewN n) os)) := fun n os => below2 (below2 hbel (below_alloc _ _)) (below_grow _ _ _)
   have x0 := cell_grown (w := wr.alloc (.cells #[.int .i64 c1,.int .i64 c2,.int .i64 c3,.int .i64 c4,.bool c5,.bool c6] 72)) (a := ⟨wr.heap.size,0,none⟩) (v := .int .i64 c1) (by simp) (by simp)
   have x1 := cell_grown (w := wr.alloc (.cells #[.int .i64 c1,.int .i64 c2,.int .i64 c3,.int .i64 c4,.bool c5,.bool c6] 72)) (a := ⟨wr.heap.size,1,none⟩) (v := .int .i64 c2) (by simp) (by simp)
   have x2 := cell_grown (w := wr.alloc (.cells #[.int .i64 c1,.int .i64 c2,.int .i64 c3,.int .i64 c4,.bool c5,.bool c6] 72)) (a := ⟨wr.heap.size,2,none⟩) (v := .int .i64 c3) (by simp) (by simp)
   have x3 := cell_grown (w := wr.alloc (.cells #[.int .i64 c1,.int .i64 c2,.int .i64 c3,.int .i64 c4,.bool c5,.bool c6] 72)) (a := ⟨wr.heap.size,3,none⟩) (v := .int .i64 c4) (by simp) (by simp)
   have x4 := cell_grown (w := wr.alloc (.cells #[.int .i64 c1,.int .i64 c2,.int .i64 c3,.int .i64 c4,.bool c5,.bool c6] 72)) (a := ⟨wr.heap.size,4,none⟩) (v := .bool c5) (by simp) (by simp)
   have x5 := cell_grown (w := wr.alloc (.cells #[.int .i64 c1,.int .i64 c2,.int .i64 c3,.int .i64 c4,.bool c5,.bool c6] 72)) (a := ⟨wr.heap.size,5,none⟩) (v := .bool c6) (by simp) (by simp)
   have HNI : Hid (¬ InN ⟨c1,c2,c3,c4,c5,c6⟩ -> ¬ MayN ls) := fun h => HNO.out fun h' => h (HOK.out.1 h').1
   by_cases q1 : c1 < 1
   ·have HN : Hid (¬ MayN ls) := HNI.out fun h => by have := h.1.1; simp only at this; omega
    clear HNO HOK HYES HPV HNI hT
    go_wp2_with fail
    generalize hw1 : wr.alloc (.cells #[.int .i64 c1,.int .i64 c2,.int .i64 c3,.int .i64 c4,.bool c5,.bool c6] 72) = w1 at *
    clear hw1
    refine wp_region_QW mixed5 (by kernel_rfl) ?_
    repeat (refine QW_step (fun K hK => ?_); go_simp; first | (refine hK _ ?_; clear hK K) | (apply Exists.intro; refine ⟨fun _ => ?_,hK _ ?_⟩; fail; clear hK K))
    refine QW_nil ?_
    intro _ hw9
    obtain ⟨⟨nq,osq⟩,hw8⟩ := hw9
    subst hw8
    have hb := HB1.out nq osq
    go_wp2_with fail
    go_ret
    exact bool_no hb HN.out
   by_cases q2 : 999 < c1
   ·have HN : Hid (¬ MayN ls) := HNI.out fun h => by have := h.1.2; simp only at this; omega
    clear HNO HOK HYES HPV HNI hT
    go_wp2_with fail
    generalize hw1 : wr.alloc (.cells #[.int .i64 c1,.int .i64 c2,.int .i64 c3,.int .i64 c4,.bool c5,.bool c6] 72) = w1 at *
    clear hw1
    refine wp_region_QW mixed5 (by kernel_rfl) ?_
    repeat (refine QW_step (fun K hK => ?_); go_simp; first | (refine hK _ ?_; clear hK K) | (apply Exists.intro; refine ⟨fun _ => ?_,hK _ ?_⟩; fail; clear hK K))
    refine QW_nil ?_
    intro _ hw9
    obtain ⟨⟨nq,osq⟩,hw8⟩ := hw9
    subst hw8
    have hb := HB1.out nq osq
    go_wp2_with fail
    go_ret
    exact bool_no hb HN.out
   by_cases q3 : c2 < 1
   ·have HN : Hid (¬ MayN ls) := HNI.out fun h => by have := h.2.1.1; simp only at this; omega
    clear HNO HOK HYES HPV HNI hT
    go_wp2_with fail
    generalize hw1 : wr.alloc (.cells #[.int .i64 c1,.int .i64 c2,.int .i64 c3,.int .i64 c4,.bool c5,.bool c6] 72) = w1 at *
    clear hw1
    refine wp_region_QW mixed5 (by kernel_rfl) ?_
    repeat (refine QW_step (fun K hK => ?_); go_simp; first | (refine hK _ ?_; clear hK K) | (apply Exists.intro; refine ⟨fun _ => ?_,hK _ ?_⟩; fail; clear hK K))
    refine QW_nil ?_
    intro _ hw9
    obtain ⟨⟨nq,osq⟩,hw8⟩ := hw9
    subst hw8
    have hb := HB1.out nq osq
    go_wp2_with fail
    go_ret
    exact bool_no hb HN.out
   by_cases q4 : 9 < c2
   ·have HN : Hid (¬ MayN ls) := HNI.out fun h => by have := h.2.1.2; simp only at this; omega
    clear HNO HOK HYES HPV HNI hT
    go_wp2_with fail
    generalize hw1 : wr.alloc (.cells #[.int .i64 c1,.int .i64 c2,.int .i64 c3,.int .i64 c4,.bool c5,.bool c6] 72) = w1 at *
    clear hw1
    refine wp_region_QW mixed5 (by kernel_rfl) ?_
    repeat (refine QW_step (fun K hK => ?_); go_simp; first | (refine hK _ ?_; clear hK K) | (apply Exists.intro; refine ⟨fun _ => ?_,hK _ ?_⟩; fail; clear hK K))
    refine QW_nil ?_
    intro _ hw9
    obtain ⟨⟨nq,osq⟩,hw8⟩ := hw9
    subst hw8
    have hb := HB1.out nq osq
    go_wp2_with fail
    go_ret
    exact bool_no hb HN.out
   by_cases q5 : c3 < 1
   ·have HN : Hid (¬ MayN ls) := HNI.out fun h => by have := h.2.2.1.1; simp only at this; omega
    clear HNO HOK HYES HPV HNI hT
    go_wp2_with fail
    generalize hw1 : wr.alloc (.cells #[.int .i64 c1,.int .i64 c2,.int .i64 c3,.int .i64 c4,.bool c5,.bool c6] 72) = w1 at *
    clear hw1
    refine wp_region_QW mixed5 (by kernel_rfl) ?_
    repeat (refine QW_step (fun K hK => ?_); go_simp; first | (refine hK _ ?_; clear hK K) | (apply Exists.intro; refine ⟨fun _ => ?_,hK _ ?_⟩; fail; clear hK K))
    refine QW_nil ?_
    intro _ hw9
    obtain ⟨⟨nq,osq⟩,hw8⟩ := hw9
    subst hw8
    have hb := HB1.out nq osq
    go_wp2_with fail
    go_ret
    exact bool_no hb HN.out
   by_cases q6 : 9 < c3
   ·have HN : Hid (¬ MayN ls) := HNI.out fun h => by have := h.2.2.1.2; simp only at this; omega
    clear HNO HOK HYES HPV HNI hT
    go_wp2_with fail
    generalize hw1 : wr.alloc (.cells #[.int .i64 c1,.int .i64 c2,.int .i64 c3,.int .i64 c4,.bool c5,.bool c6] 72) = w1 at *
    clear hw1
    refine wp_region_QW mixed5 (by kernel_rfl) ?_
    repeat (refine QW_step (fun K hK => ?_); go_simp; first | (refine hK _ ?_; clear hK K) | (apply Exists.intro; refine ⟨fun _ => ?_,hK _ ?_⟩; fail; clear hK K))
    refine QW_nil ?_
    intro _ hw9
    obtain ⟨⟨nq,osq⟩,hw8⟩ := hw9
    subst hw8
    have hb := HB1.out nq osq
    go_wp2_with fail
    go_ret
    exact bool_no hb HN.out
   by_cases q7 : c4 < 0
   ·have HN : Hid (¬ MayN ls) := HNI.out fun h => by have := h.2.2.2.1; simp only at this; omega
    clear HNO HOK HYES HPV HNI hT
    go_wp2_with fail
    generalize hw1 : wr.alloc (.cells #[.int .i64 c1,.int .i64 c2,.int .i64 c3,.int .i64 c4,.bool c5,.bool c6] 72) = w1 at *
    clear hw1
    refine wp_region_QW mixed5 (by kernel_rfl) ?_
    repeat (refine QW_step (fun K hK => ?_); go_simp; first | (refine hK _ ?_; clear hK K) | (apply Exists.intro; refine ⟨fun _ => ?_,hK _ ?_⟩; fail; clear hK K))
    refine QW_nil ?_
    intro _ hw9
    obtain ⟨⟨nq,osq⟩,hw8⟩ := hw9
    subst hw8
    have hb := HB1.out nq osq
    go_wp2_with fail
    go_ret
    exact bool_no hb HN.out
   by_cases q8 : 65536 < c4
   ·have HN : Hid (¬ MayN ls) := HNI.out fun h => by have := h.2.2.2.2; simp only at this; omega
    clear HNO HOK HYES HPV HNI hT
    go_wp2_with fail
    generalize hw1 : wr.alloc (.cells #[.int .i64 c1,.int .i64 c2,.int .i64 c3,.int .i64 c4,.bool c5,.bool c6] 72) = w1 at *
    clear hw1
    refine wp_region_QW mixed5 (by kernel_rfl) ?_
    repeat (refine QW_step (fun K hK => ?_); go_simp; first | (refine hK _ ?_; clear hK K) | (apply Exists.intro; refine ⟨fun _ => ?_,hK _ ?_⟩; fail; clear hK K))
    refine QW_nil ?_
    intro _ hw9
    obtain ⟨⟨nq,osq⟩,hw8⟩ := hw9
    subst hw8
    have hb := HB1.out nq osq
    go_wp2_with fail
    go_ret
    exact bool_no hb HN.out
   have HIN : Hid (InN ⟨c1,c2,c3,c4,c5,c6⟩) := ⟨⟨by show 1 <= c1; omega,by show c1 <= 999; omega⟩,⟨by show 1 <= c2; omega,by show c2 <= 9; omega⟩,⟨by show 1 <= c3; omega,by show c3 <= 9; omega⟩,by show 0 <= c4; omega,by show c4 <= 65536; omega⟩
   by_cases hk0 : k = 0
   ·have HY : Hid (∀ j,j < k + 1 -> OkN ls j) := HYES.out (HOK.out.2 ⟨HIN.out,fun h => absurd h (by omega)⟩)
    have hkz : decide (0 < k) = false := by simp; omega
    clear hk0 HNO HOK HYES HPV HNI HIN hT
    go_wp2_with fail
    generalize hw1 : wr.alloc (.cells #[.int .i64 c1,.int .i64 c2,.int .i64 c3,.int .i64 c4,.bool c5,.bool c6] 72) = w1 at *
    clear hw1
    refine wp_region_QW mixed5 (by kernel_rfl) ?_
    repeat (refine QW_step (fun K hK => ?_); go_simp; first | (refine hK _ ?_; clear hK K) | (apply Exists.intro; refine ⟨fun _ => ?_,hK _ ?_⟩; fail; clear hK K))
    refine QW_nil ?_
    intro _ hw9
    obtain ⟨⟨nq,osq⟩,hw8⟩ := hw9
    subst hw8
    have hb := HB1.out nq osq
    go_wp2_with fail
    exact ⟨⟨k + 1,by omega,by go_num,HY,hb⟩,by simp [intOf]; omega⟩
   ·obtain ⟨m,hmk⟩ : ∃ m,k = m + 1 := ⟨k - 1,by omega⟩
    have ep : wr.cell? ⟨b,off + m * 6,none⟩ = some (.int .i64 (ls.getD m nd0).id) := by have := HPV.out (by omega); rw [hmk] at this; exact this
    have em : IntKind.i64.wrap ((k : Int) - 1) = (m : Int) := by
     rw [show (k : Int) - 1 = (m : Int) from by omega]; simp [IntKind.wrap,IntKind.bits,IntKind.signed]; omega
    have em0 : (0 : Int) <= (m : Int) := by omega
    have em1 : (m : Int) < (len : Int) := by omega
    have ek0 : decide (0 < k) = true := by simp; omega
    have HOK2 : Hid (OkN ls k ↔ (ls.getD m nd0).id < c1) := by
     have em2 : k - 1 = m := by omega
     have := HOK.out
     rw [em2] at this
     exact ⟨fun h => (this.1 h).2 (by omega),fun h => this.2 ⟨HIN.out,fun _ => h⟩⟩
    have x6 := cell_grown (w := wr.alloc (.cells #[.int .i64 c1,.int .i64 c2,.int .i64 c3,.int .i64 c4,.bool c5,.bool c6] 72)) (a := ⟨b,off + m * 6,none⟩) (by simp; omega) (((below_alloc wr _).cell (p := ⟨b,off + m * 6,none⟩) hbs).trans ep)
    clear HOK HPV hmk hk0 ep HIN
    generalize (ls.getD m nd0).id = y at *
    by_cases hy : y < c1
    ·have HY : Hid (∀ j,j < k + 1 -> OkN ls j) := HYES.out (HOK2.out.2 hy)
     have hd : decide (c1 <= y) = false := by simp; omega
     clear HNO HOK2 HYES HNI hT
     go_wp2_with fail
     generalize hw1 : wr.alloc (.cells #[.int .i64 c1,.int .i64 c2,.int .i64 c3,.int .i64 c4,.bool c5,.bool c6] 72) = w1 at *
     clear hw1
     refine wp_region_QW mixed5 (by kernel_rfl) ?_
     repeat (refine QW_step (fun K hK => ?_); go_simp; first | (refine hK _ ?_; clear hK K) | (apply Exists.intro; refine ⟨fun _ => ?_,hK _ ?_⟩; fail; clear hK K))
     refine QW_nil ?_
     intro _ hw9
     obtain ⟨⟨nq,osq⟩,hw8⟩ := hw9
     subst hw8
     have hb := HB1.out nq osq
     go_wp2_with fail
     exact ⟨⟨k + 1,by omega,by go_num,HY,hb⟩,by simp [intOf]; omega⟩
    ·have HN : Hid (¬ MayN ls) := HNO.out fun h => hy (HOK2.out.1 h)
     have hd : decide (c1 <= y) = true := by simp; omega
     clear HNO HOK2 HYES HNI hT
     go_wp2_with fail
     generalize hw1 : wr.alloc (.cells #[.int .i64 c1,.int .i64 c2,.int .i64 c3,.int .i64 c4,.bool c5,.bool c6] 72) = w1 at *
     clear hw1
     refine wp_region_QW mixed5 (by kernel_rfl) ?_
     repeat (refine QW_step (fun K hK => ?_); go_simp; first | (refine hK _ ?_; clear hK K) | (apply Exists.intro; refine ⟨fun _ => ?_,hK _ ?_⟩; fail; clear hK K))
     refine QW_nil ?_
     intro _ hw9
     obtain ⟨⟨nq,osq⟩,hw8⟩ := hw9
     subst hw8
     have hb := HB1.out nq osq
     go_wp2_with fail
     go_ret
     exact bool_no hb HN.out
  ·obtain rfl : k = len := by omega
   by_cases h12 : (k : Int) <= 12
   ·have HM : Hid (MayN ls) := ⟨by omega,fun i hi => hT.out i (by omega)⟩
    clear hT HL
    go_wp2_with fail
    go_ret
    exact bool_yes hbel HM.out
   ·have HM : Hid (¬ MayN ls) := fun h => by have := h.1; omega
    have h12' : decide ((k : Int) <= 12) = false := decide_eq_false h12
    clear hT HL
    go_wp2_with fail
    go_ret
    exact bool_no hbel HM.out
theorem refMay_yes {a : Option Addr} {len cap : Nat} {ls : List Nd} {w : World} (h : NdsAt w a len cap ls) (hM : MayN ls) : Calls Tryz.prog 33 #[.slice a len cap] w fun e w' => e = .returned (.bool true) /\ Below w.heap.size w w' :=
 (refMay_any a len cap ls w h).mono fun _ _ ⟨hb,q,he,hq⟩ => ⟨by rw [he,hq.2 hM],hb⟩
theorem refMay_no {a : Option Addr} {len cap : Nat} {ls : List Nd} {w : World} (h : NdsAt w a len cap ls) (hM : ¬ MayN ls) : Calls Tryz.prog 33 #[.slice a len cap] w fun e w' => e = .returned (.bool false) /\ Below w.heap.size w w' :=
 (refMay_any a len cap ls w h).mono fun _ _ ⟨hb,q,he,hq⟩ => ⟨by rw [he]; cases q with | false => rfl | true => exact absurd (hq.1 rfl) hM,hb⟩
end Go.Proofs.YtcncbjknfcjnmaaGreat.Tp
