/-
  The contract of the law's set: the same numbers, as many.
  The contract of the law's Deltas: where it tells yes, they are few.
-/
import Derived.Test.YtcncbjknfcjnmaaGreatPr38
import Derived.Test.YtcncbjknfcjnmaaGreatPr22
import Derived.Test.YtcncbjknfcjnmaaGreatPr01
namespace Go.Proofs.YtcncbjknfcjnmaaGreat.Tp
open Go.ChangeShapes Go.WideShapes Go.ChangeAt Go.RowKit
def SetPost (l r : List Int) (w : World) (e : Ending) (w' : World) : Prop := Grown w w' /\ ∃ q : Bool,e = .returned (.bool q) /\ (q = true ↔ SetP l r)
theorem mem_getD0 {r : List Int} {x : Int} : x ∈ r ↔ ∃ j,j < r.length /\ r.getD j 0 = x := by
 constructor
 ·intro h
  obtain ⟨j,hj,e⟩ := List.mem_iff_getElem.1 h
  exact ⟨j,hj,by rw [intGetD hj]; exact e⟩
 ·rintro ⟨j,hj,e⟩
  rw [<- e,intGetD hj]
  exact List.getElem_mem hj
theorem setP_of {l r : List Int} (h : ∀ j,j < l.length -> l.getD j 0 ∈ r) (hl : l.length = r.length) : SetP l r :=
 ⟨fun x hx => by obtain ⟨j,hj,e⟩ := mem_getD0.1 hx; rw [<- e]; exact h j hj,hl⟩
set_option maxHeartbeats 2000000 in
set_option maxRecDepth 60000 in
theorem set_any (a b : Option Addr) (la ca lb cb : Nat) (l r : List Int) (w : World) (hl : RowL w a la l) (hr : RowL w b lb r) :
  Calls Tryz.prog 29 #[.slice a la ca,.slice b lb cb] w fun e w' => SetPost l r w e w' := by
 have hla := hl.1
 have hlb := hr.1
 have hma : la <= maxLen := hl.2.1
 have hmb : lb <= maxLen := hr.2.1
 unfold maxLen at hma hmb
 have HL : Hid (RowL w a la l) := hl
 have HR : Hid (RowL w b lb r) := hr
 clear hl hr
 go_enter Tryz.func29,Tryz.ntmps29
 go_wp2_with fail
 go_loopw [5] (fun i wr => ∃ k : Nat,k <= la /\ i = .int .i64 k /\ Grown w wr /\ Hid (∀ j,j < k -> l.getD j 0 ∈ r)) (fun i _ => la - (intOf i).toNat)
 case atStart => exact ⟨0,Nat.zero_le _,rfl,grown_refl _,fun j hj => absurd hj (Nat.not_lt_zero _)⟩
 case round =>
  obtain ⟨k,hk,rfl,hgr,hT⟩ := hrel
  by_cases hlt : k < la
  ·have hk1 : (k : Int) < (la : Int) := by omega
   have hk0 : (0 : Int) <= (k : Int) := by omega
   obtain ⟨p,po,rfl,hp,hcp⟩ := (HL.out.below (grown_below hgr)).some (by omega)
   have HX : Hid (wr.cell? ⟨p,po + k,none⟩ = some (.int .i64 (l.getD k 0))) := hcp k hlt
   have HNX : Hid (l.getD k 0 ∈ r -> ∀ j,j < k + 1 -> l.getD j 0 ∈ r) := fun h j hj => by
    by_cases e : j = k
    ·rw [e]; exact h
    ·exact hT.out j (by omega)
   have HNO : Hid (¬ l.getD k 0 ∈ r -> ¬ SetP l r) := fun h hs => h (hs.1 _ (mem_getD0.2 ⟨k,by omega,rfl⟩))
   clear hcp hT
   generalize l.getD k 0 = y at *
   have HG := Hid.mk9 hgr
   clear hgr
   go_wp2_with fail
   generalize wr = wA at *
   go_loopw [6,7] (fun f i wr => ∃ kk : Nat,∃ q : Bool,kk <= lb /\ i = .int .i64 kk /\ f = .bool q /\ Grown wA wr /\ Hid (q = true ↔ ∃ j,j < kk /\ r.getD j 0 = y)) (fun _ i _ => lb - (intOf i).toNat)
   case atStart => exact ⟨0,false,Nat.zero_le _,rfl,rfl,grown_refl _,by constructor <;> intro h <;> simp at h⟩
   case round =>
    obtain ⟨kk,q,hkk,rfl,rfl,hgq,hQ⟩ := hrel
    by_cases hlt2 : kk < lb
    ·have hkk1 : (kk : Int) < (lb : Int) := by omega
     have hkk0 : (0 : Int) <= (kk : Int) := by omega
     obtain ⟨q2,qo,rfl,hq2,hcq⟩ := ((HR.out.below (grown_below HG.out)).below (grown_below hgq)).some (by omega)
     have e1 := hcq kk hlt2
     have e0 := ((grown_below hgq).cell (p := ⟨p,po + k,none⟩) hp).trans HX.out
     have hp2 : p < wr.heap.size := Nat.lt_of_lt_of_le hp (grown_below hgq).size
     have x0 := cell_grown (a := ⟨p,po + k,none⟩) hp2 e0
     have x1 := cell_grown (a := ⟨q2,qo + kk,none⟩) hq2 e1
     have HGG : Hid (∀ n os,Grown wA (Go.Sort.grow (wr.drewN n) os)) := fun n os => grown2 hgq ⟨n,os,rfl⟩
     have HST : Hid (∀ q9 : Bool,(q9 = true ↔ q = true ∨ r.getD kk 0 = y) -> (q9 = true ↔ ∃ j,j < kk + 1 /\ r.getD j 0 = y)) := fun q9 h9 => by
      rw [h9,hQ.out]
      constructor
      ·rintro (⟨j,hj,e⟩ | e)
       ·exact ⟨j,by omega,e⟩
       ·exact ⟨kk,by omega,e⟩
      ·rintro ⟨j,hj,e⟩
       by_cases hje : j = kk
       ·right; rw [<- hje]; exact e
       ·exact .inl ⟨j,by omega,e⟩
     clear hcq hQ
     generalize r.getD kk 0 = z at *
     cases q with
     | true =>
      have HE := Hid.mk9 (HST.out true (by simp))
      clear HST
      go_wp2_with fail
      refine wp_region_QW mixed5 (by kernel_rfl) ?_
      repeat (refine QW_step (fun K hK => ?_); go_simp; first | (refine hK _ ?_; clear hK K) | (apply Exists.intro; refine ⟨fun _ => ?_,hK _ ?_⟩; fail; clear hK K))
      refine QW_nil ?_
      intro _ hw9
      obtain ⟨⟨nq,osq⟩,hw8⟩ := hw9
      subst hw8
      have hb := HGG.out nq osq
      go_wp2_with fail
      exact ⟨⟨kk + 1,true,by omega,by go_num,rfl,hb,Hid.mk9 (by simpa using HE.out)⟩,by simp [intOf]; omega⟩
     | false =>
      by_cases hyz : y = z
      ·subst hyz
       have HE := Hid.mk9 (HST.out true (by simp))
       clear HST
       go_wp2_with fail
       refine wp_region_QW mixed5 (by kernel_rfl) ?_
       repeat (refine QW_step (fun K hK => ?_); go_simp; first | (refine hK _ ?_; clear hK K) | (apply Exists.intro; refine ⟨fun _ => ?_,hK _ ?_⟩; fail; clear hK K))
       refine QW_nil ?_
       intro _ hw9
       obtain ⟨⟨nq,osq⟩,hw8⟩ := hw9
       subst hw8
       have hb := HGG.out nq osq
       go_wp2_with fail
       exact ⟨⟨kk + 1,true,by omega,by go_num,rfl,hb,Hid.mk9 (by simpa using HE.out)⟩,by simp [intOf]; omega⟩
      ·have hyd : (y == z) = false := by simpa using hyz
       have HE := Hid.mk9 (HST.out false (by simp; exact fun e => hyz e.symm))
       clear HST
       go_wp2_with fail
       refine wp_region_QW mixed5 (by kernel_rfl) ?_
       repeat (refine QW_step (fun K hK => ?_); go_simp; first | (refine hK _ ?_; clear hK K) | (apply Exists.intro; refine ⟨fun _ => ?_,hK _ ?_⟩; fail; clear hK K))
       refine QW_nil ?_
       intro _ hw9
       obtain ⟨⟨nq,osq⟩,hw8⟩ := hw9
       subst hw8
       have hb := HGG.out nq osq
       go_wp2_with fail
       exact ⟨⟨kk + 1,false,by omega,by go_num,rfl,hb,Hid.mk9 (by simpa using HE.out)⟩,by simp [intOf]; omega⟩
    ·obtain rfl : kk = lb := by omega
     have hkk2 : decide ((kk : Int) < (kk : Int)) = false := by simp
     have HM : Hid (q = true ↔ y ∈ r) := Hid.mk9 (by rw [hQ.out,mem_getD0,hlb])
     have HG2 := Hid.mk9 (grown2 HG.out hgq)
     clear hQ hgq HG
     cases q with
     | true =>
      have HY := Hid.mk9 (HNX.out (HM.out.1 rfl))
      go_wp2_with fail
      exact ⟨⟨k + 1,by omega,by go_num,HG2.out,HY⟩,by simp [intOf]; omega⟩
     | false =>
      have HY := Hid.mk9 (HNO.out (fun h => by have := HM.out.2 h; cases this))
      go_wp2_with fail
      go_ret
      exact ⟨HG2.out,false,rfl,by simp; exact HY.out⟩
  ·obtain rfl : k = la := by omega
   by_cases he : k = lb
   ·subst he
    have HY : Hid (SetP l r) := setP_of (fun j hj => hT.out j (by omega)) (by omega)
    clear hT
    go_wp2_with fail
    go_ret
    exact ⟨hgr,true,rfl,by simp; exact HY.out⟩
   ·have HN : Hid (¬ SetP l r) := fun h => he (by have := h.2; omega)
    have he' : ((k : Int) == (lb : Int)) = false := by simp; omega
    have he2 : ¬ (k : Int) = (lb : Int) := by omega
    clear hT
    go_wp2_with fail
    go_ret
    exact ⟨hgr,false,rfl,by simp; exact HN.out⟩
end Go.Proofs.YtcncbjknfcjnmaaGreat.Tp
namespace Go.Proofs.YtcncbjknfcjnmaaGreat.Tp
open Go.ChangeShapes Go.WideShapes Go.ChangeAt Go.RowKit
def FewPost (len : Nat) (w : World) (e : Ending) (w' : World) : Prop := ∃ q,e = .returned (.bool q) /\ (q = true -> (len : Int) <= 60) /\ Below w.heap.size w w'
set_option maxHeartbeats 1000000 in
set_option maxRecDepth 60000 in
theorem deltas_few {a : Option Addr} {len cap : Nat} {ls : List Dl} (w : World) (h : DlsAt w a len cap ls) : Calls Tryz.prog 27 #[.slice a len cap] w fun e w' => FewPost len w e w' := by
 have HD : Hid (DlsAt w a len cap ls) := h
 have hm : len <= maxLen := Nat.le_trans h.2.1 h.2.2.1
 unfold maxLen at hm
 have hb1 : Below w.heap.size w w := Below.refl _ _
 clear h
 go_enter Tryz.func27,Tryz.ntmps27
 go_wp2_with fail
 go_loopw [3] (fun i wr => ∃ k : Nat,k <= len /\ i = .int .i64 k /\ Hid (wr = w)) (fun i _ => len - (intOf i).toNat)
 case atStart => exact ⟨0,Nat.zero_le _,rfl,rfl⟩
 case round =>
  obtain ⟨k,hk,rfl,hwr⟩ := hrel
  obtain rfl := hwr.out
  clear hwr
  by_cases hlt : k < len
  ·have hk1 : (k : Int) < (len : Int) := by omega
   have hk0 : (0 : Int) <= (k : Int) := by omega
   by_cases h60 : (k : Int) < 60
   ·obtain ⟨b,off,hae,hbs,hcell⟩ := HD.out.some (by omega)
    subst hae
    obtain ⟨-,aq,lq,cq,e6,-⟩ := hcell k hlt
    clear hcell
    by_cases hl20 : (20 : Int) < (lq : Int)
    ·go_wp2_with fail
     go_ret
     exact ⟨_,rfl,fun hq => (by first | exact absurd hq (by decide) | (simp at hq; omega)),hb1⟩
    ·have hl20' : decide ((20 : Int) < (lq : Int)) = false := by simpa using hl20
     go_wp2_with fail
     exact ⟨⟨k + 1,by omega,by go_num,by unfold Hid; trivial⟩,by simp [intOf]; omega⟩
   ·have h60' : decide ((k : Int) < 60) = false := by simpa using h60
    go_wp2_with fail
    go_ret
    exact ⟨_,rfl,fun hq => (by first | exact absurd hq (by decide) | (simp at hq; omega)),hb1⟩
  ·have hlt' : decide ((k : Int) < (len : Int)) = false := by simp; omega
   go_wp2_with fail
   go_ret
   exact ⟨_,rfl,fun hq => (by first | exact absurd hq (by decide) | (simp at hq; omega)),hb1⟩
end Go.Proofs.YtcncbjknfcjnmaaGreat.Tp
