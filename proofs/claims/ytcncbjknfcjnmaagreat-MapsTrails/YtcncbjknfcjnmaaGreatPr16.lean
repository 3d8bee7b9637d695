/-
  The contracts of Run by the common rule, of Of, and of awake.
  The contracts of raw and acting.
  The contract of clone, of bare maps.
-/
import Derived.Test.YtcncbjknfcjnmaaGreatPr15
import Derived.Test.YtcncbjknfcjnmaaGreatPr02
import Derived.Deep.Cut
namespace Go.Proofs.YtcncbjknfcjnmaaGreat.Tp
open Go.ChangeShapes Go.WideShapes Go.ChangeAt Go.RowKit
theorem choose_len (ls : List Nd) (g lev : Int) (n : Nat) (H : List Sp) : (chooseP ls g lev n H).length <= H.length * n := by
 unfold chooseP
 induction H with
 | nil => simp
 | cons x H ih =>
  rw [List.flatMap_cons,List.length_append,List.length_cons]
  have : (chosen1 ls g lev n x).length <= n := by
   unfold chosen1 idsOf
   rw [List.length_map,List.length_take]
   omega
  rw [Nat.add_mul]
  omega
theorem hand1_len (ls : List Nd) (g : Int) (size : Nat) : (hand1 ls g size).length <= size := by
 have := choose_len ls g 1 size [(0,0,0)]
 simp at this
 exact this
theorem hand2_len (ls : List Nd) (g : Int) (size : Nat) : (hand2 ls g size).length <= size := by
 have := choose_len ls g 2 1 (hand1 ls g size)
 have := hand1_len ls g size
 unfold hand2
 omega
theorem hand3_len (ls : List Nd) (g : Int) (size : Nat) : (hand3 ls g size).length <= size := by
 have := choose_len ls g 3 1 (hand2 ls g size)
 have := hand2_len ls g size
 unfold hand3
 omega
theorem hand1_zone {ls : List Nd} (hM : MayN ls) (g : Int) (size : Nat) : ∀ x ∈ hand1 ls g size,x.1 ≠ 0 := fun x hx => by
 rw [hand1_eq] at hx
 obtain ⟨z,hz,rfl⟩ := List.mem_map.1 hx
 obtain ⟨c,hc,_,rfl⟩ := zs_mem hM hz
 have := ((mem_upTo _ _ c 999).1 hc).1.1
 show c.1 ≠ 0
 omega
def RunAt (B : Nat) (ls : List Nd) (g : Int) (size : Nat) (w : World) (hand told : Value) : Nat -> Prop
 | 0 => hand = .slice none 0 0 /\ told = .slice none 0 0
 | 1 => told = .slice none 0 0 /\ ∃ a c,hand = .slice a 1 c /\ HandAt w a [(0,0,0)]
 | 2 => told = .slice none 0 0 /\ ∃ a c,hand = .slice a (hand1 ls g size).length c /\ HandAt w a (hand1 ls g size)
 | 3 => told = .slice none 0 0 /\ ∃ a c,hand = .slice a (hand2 ls g size).length c /\ HandAt w a (hand2 ls g size)
 | 4 => told = .slice none 0 0 /\ ∃ a c,hand = .slice a (hand3 ls g size).length c /\ HandAt w a (hand3 ls g size)
 | _ => ∃ a c,told = .slice a (ofP ls g size).length c /\ IntsOwn B w a c (ofP ls g size)
def GoodR (ls : List Nd) (g : Int) : Prop := MayN ls /\ 0 <= g /\ g <= 7
def RunPost (ls : List Nd) (g : Int) (size : Nat) (w : World) (e : Ending) (w' : World) : Prop :=
 Below w.heap.size w w' /\ ((GoodR ls g /\ ∃ a cap,e = .returned (.tuple #[.slice a (ofP ls g size).length cap,.int .i64 0]) /\ IntsOwn w.heap.size w' a cap (ofP ls g size)) ∨ (¬ GoodR ls g /\ e = .returned (.tuple #[.slice none 0 0,.int .i64 1])))
theorem run_nil (a : Option Addr) (len cap : Nat) (ls : List Nd) (g size : Int) (w : World) (h : NdsAt w a len cap ls) : Calls Tryz.prog 103 #[.slice a len cap,.slice none 0 0,.int .i64 g,.int .i64 size] w fun e w' => e = .returned (.tuple #[.slice none 0 0,.int .i64 1]) /\ Below w.heap.size w w' := by
 have HC : Hid (Calls Tryz.prog 40 #[.slice a len cap] w fun e w' => ErrPost (MayN ls) w e w') := check_any a len cap ls w h
 clear h
 go_enter Tryz.func103,Tryz.ntmps103
 go_wp2_with fail
 refine HC.out.mono ?_
 rintro e w2 ⟨hb2,⟨rfl,-⟩ | ⟨rfl,-⟩⟩
 ·go_wp2_with (go_at_call 120; refine (pcheck_nil _).mono ?_; rintro e w3 ⟨rfl,hb3⟩)
  go_returns
  exact ⟨rfl,below2 hb2 hb3⟩
 ·go_wp2_with fail
  go_returns
  exact ⟨rfl,hb2⟩
theorem hand_one (w : World) : HandAt (w.alloc (.cells #[.int .i64 0,.int .i64 0,.int .i64 0] 143)) (some ⟨w.heap.size,0,none⟩) [(0,0,0)] := by
 refine .inr ⟨w.heap.size,rfl,by simp,fun i hi => ?_⟩
 have : i = 0 := by simp at hi; omega
 subst this
 exact ⟨by simp,by simp,by simp⟩
set_option maxHeartbeats 4000000 in
set_option maxRecDepth 60000 in
theorem run_com (a : Option Addr) (len cap : Nat) (ls : List Nd) (b : Nat) (g : Int) (size : Nat) (w : World) (h : NdsAt w a len cap ls) (hC : ComAt w b (size : Int)) (h1 : 1 <= size) (h3 : size <= 3) :
  Calls Tryz.prog 103 #[.slice a len cap,.slice (some ⟨b,0,none⟩) 5 5,.int .i64 g,.int .i64 (size : Int)] w fun e w' => RunPost ls g size w e w' := by
 have HC : Hid (Calls Tryz.prog 40 #[.slice a len cap] w fun e w' => ErrPost (MayN ls) w e w') := check_any a len cap ls w h
 have HR : Hid (∀ w',Below w.heap.size w w' -> Calls Tryz.prog 120 #[.slice (some ⟨b,0,none⟩) 5 5] w' fun e w'' => e = .returned (.int .i64 0) /\ Below w'.heap.size w' w'') := fun w' hb => pcheck_com (by omega) (by omega) b w' (hC.below hb)
 have HL : Hid (NdsAt w a len cap ls) := h
 have HCO : Hid (ComAt w b (size : Int)) := hC
 have HS : Hid (∀ w : World,Calls Tryz.prog 121 #[.int .i64 (size : Int),.int .i64 1,.int .i64 3] w fun e w' => e = .returned (.bool true) /\ w' = w) := pwithin_yes (by omega) (by omega)
 have H3 : Hid (size <= 3) := h3
 have hs3 : (size : Int) <= 3 := by omega
 clear h hC h1 h3
 go_enter Tryz.func103,Tryz.ntmps103
 go_wp2_with fail
 refine HC.out.mono ?_
 rintro e w2 ⟨hb2,⟨rfl,hM⟩ | ⟨rfl,hN⟩⟩
 ·have HM : Hid (MayN ls) := hM
  clear hM HC
  by_cases hg : 0 <= g /\ g <= 7
  ·have HG : Hid (∀ w : World,Calls Tryz.prog 121 #[.int .i64 g,.int .i64 0,.int .i64 7] w fun e w' => e = .returned (.bool true) /\ w' = w) := pwithin_yes hg.1 hg.2
   have HGD : Hid (GoodR ls g) := ⟨HM.out,hg⟩
   clear hg
   go_wp2_with (first
    | (go_at_call 120; refine (HR.out _ hb2).mono ?_; rintro e w3 ⟨rfl,hb3⟩)
    | (go_at_call_of 121 g; refine (HG.out _).mono ?_; rintro e w' ⟨rfl,hw'⟩; obtain rfl := hw'.symm)
    | (go_at_call_of 121 size; refine (HS.out _).mono ?_; rintro e w' ⟨rfl,hw'⟩; obtain rfl := hw'.symm))
   have hb03 : Below w.heap.size w w3 := below2 hb2 hb3
   clear hb2 hb3 HR HG HS
   go_loopw [10,11,34] (fun hd td i wr => ∃ k : Nat,k <= 5 /\ i = .int .i64 k /\ Hid (RunAt w.heap.size ls g size wr hd td k) /\ Below w.heap.size w wr) (fun _ _ i _ => 5 - (intOf i).toNat)
   case atStart => exact ⟨0,Nat.zero_le _,rfl,⟨rfl,rfl⟩,hb03⟩
   case round =>
    obtain ⟨k,hk,rfl,hT,hbel⟩ := hrel
    have hNW : Hid (NdsAt wr a len cap ls) := HL.out.below hbel
    have hCW : Hid (ComAt wr b (size : Int)) := HCO.out.below hbel
    have hbs := hCW.out.1
    have hcase : k = 0 ∨ k = 1 ∨ k = 2 ∨ k = 3 ∨ k = 4 ∨ k = 5 := by omega
    rcases hcase with rfl | rfl | rfl | rfl | rfl | rfl
    ·obtain ⟨rfl,rfl⟩ := hT.out
     obtain ⟨e0,e1,e2⟩ := hCW.out.step (k := 0) (by decide)
     simp only [stepK] at e0 e1 e2
     have hb1 : Below w.heap.size w ((wr.alloc (.cells #[.int .i64 1,.int .i64 0,.int .i64 0] 121)).alloc (.cells #[.int .i64 0,.int .i64 0,.int .i64 0] 143)) := below2 hbel (below2 (below_alloc _ _) (below_alloc _ _))
     have HO : Hid (HandAt ((wr.alloc (.cells #[.int .i64 1,.int .i64 0,.int .i64 0] 121)).alloc (.cells #[.int .i64 0,.int .i64 0,.int .i64 0] 143)) (some ⟨wr.heap.size + 1,0,none⟩) [(0,0,0)]) := by
      have := hand_one (wr.alloc (.cells #[.int .i64 1,.int .i64 0,.int .i64 0] 121))
      rw [show (wr.alloc (.cells #[.int .i64 1,.int .i64 0,.int .i64 0] 121)).heap.size = wr.heap.size + 1 by simp] at this
      exact this
     clear hT
     go_wp2_with fail
     exact ⟨⟨1,by decide,rfl,⟨rfl,_,_,rfl,HO.out⟩,hb1⟩,by simp [intOf]⟩
    ·obtain ⟨rfl,ah,ch,rfl,hHa⟩ := hT.out
     obtain ⟨e0,e1,e2⟩ := hCW.out.step (k := 1) (by decide)
     simp only [stepK] at e0 e1 e2
     have hb1 := below2 hbel (below_alloc wr (.cells #[.int .i64 2,.int .i64 1,.int .i64 (size : Int)] 121))
     have HCH : Hid (Calls Tryz.prog 122 #[.slice a len cap,.agg #[.int .i64 2,.int .i64 1,.int .i64 (size : Int)],.int .i64 g,.slice ah 1 ch] (wr.alloc (.cells #[.int .i64 2,.int .i64 1,.int .i64 (size : Int)] 121)) fun e w' => HandPost (hand1 ls g size) (wr.alloc (.cells #[.int .i64 2,.int .i64 1,.int .i64 (size : Int)] 121)) e w') := choose_any HM.out _ (hNW.out.below (below_alloc _ _)) 2 g 1 size (by have := H3.out; omega) ah ch ([(0,0,0)]) (hHa.below (below_alloc _ _)) (by decide) (fun h => absurd h (by decide))
     clear hT hHa
     go_wp2_with (go_at_call 122; refine HCH.out.mono ?_; rintro e w4 ⟨hb4,a4,c4,rfl,hH4⟩; have HH4 : Hid (HandAt w4 a4 (hand1 ls g size)) := hH4; clear hH4)
     exact ⟨⟨2,by decide,rfl,⟨rfl,a4,c4,rfl,HH4.out⟩,below2 hb1 hb4⟩,by simp [intOf]⟩
    ·obtain ⟨rfl,ah,ch,rfl,hHa⟩ := hT.out
     obtain ⟨e0,e1,e2⟩ := hCW.out.step (k := 2) (by decide)
     simp only [stepK] at e0 e1 e2
     have hb1 := below2 hbel (below_alloc wr (.cells #[.int .i64 2,.int .i64 2,.int .i64 1] 121))
     have HCH : Hid (Calls Tryz.prog 122 #[.slice a len cap,.agg #[.int .i64 2,.int .i64 2,.int .i64 1],.int .i64 g,.slice ah (hand1 ls g size).length ch] (wr.alloc (.cells #[.int .i64 2,.int .i64 2,.int .i64 1] 121)) fun e w' => HandPost (hand2 ls g size) (wr.alloc (.cells #[.int .i64 2,.int .i64 2,.int .i64 1] 121)) e w') := choose_any HM.out _ (hNW.out.below (below_alloc _ _)) 2 g 2 1 (by decide) ah ch (hand1 ls g size) (hHa.below (below_alloc _ _)) (by have := hand1_len ls g size; have := H3.out; omega) (fun _ => hand1_zone HM.out g size)
     clear hT hHa
     go_wp2_with (go_at_call 122; refine HCH.out.mono ?_; rintro e w4 ⟨hb4,a4,c4,rfl,hH4⟩; have HH4 : Hid (HandAt w4 a4 (hand2 ls g size)) := hH4; clear hH4)
     exact ⟨⟨3,by decide,rfl,⟨rfl,a4,c4,rfl,HH4.out⟩,below2 hb1 hb4⟩,by simp [intOf]⟩
    ·obtain ⟨rfl,ah,ch,rfl,hHa⟩ := hT.out
     obtain ⟨e0,e1,e2⟩ := hCW.out.step (k := 3) (by decide)
     simp only [stepK] at e0 e1 e2
     have hb1 := below2 hbel (below_alloc wr (.cells #[.int .i64 2,.int .i64 3,.int .i64 1] 121))
     have HCH : Hid (Calls Tryz.prog 122 #[.slice a len cap,.agg #[.int .i64 2,.int .i64 3,.int .i64 1],.int .i64 g,.slice ah (hand2 ls g size).length ch] (wr.alloc (.cells #[.int .i64 2,.int .i64 3,.int .i64 1] 121)) fun e w' => HandPost (hand3 ls g size) (wr.alloc (.cells #[.int .i64 2,.int .i64 3,.int .i64 1] 121)) e w') := choose_any HM.out _ (hNW.out.below (below_alloc _ _)) 2 g 3 1 (by decide) ah ch (hand2 ls g size) (hHa.below (below_alloc _ _)) (by have := hand2_len ls g size; have := H3.out; omega) (fun h => absurd h (by decide))
     clear hT hHa
     go_wp2_with (go_at_call 122; refine HCH.out.mono ?_; rintro e w4 ⟨hb4,a4,c4,rfl,hH4⟩; have HH4 : Hid (HandAt w4 a4 (hand3 ls g size)) := hH4; clear hH4)
     exact ⟨⟨4,by decide,rfl,⟨rfl,a4,c4,rfl,HH4.out⟩,below2 hb1 hb4⟩,by simp [intOf]⟩
    ·obtain ⟨rfl,ah,ch,rfl,hHa⟩ := hT.out
     obtain ⟨e0,e1,e2⟩ := hCW.out.step (k := 4) (by decide)
     simp only [stepK] at e0 e1 e2
     have hb1 := below2 hbel (below_alloc wr (.cells #[.int .i64 3,.int .i64 0,.int .i64 0] 121))
     have HCH : Hid (Calls Tryz.prog 123 #[.slice none 0 0,.slice ah (hand3 ls g size).length ch,.int .i64 (size : Int)] (wr.alloc (.cells #[.int .i64 3,.int .i64 0,.int .i64 0] 121)) fun e w' => IntsPost (ofP ls g size) (wr.alloc (.cells #[.int .i64 3,.int .i64 0,.int .i64 0] 121)) e w') := emit_any ah ch (hand3 ls g size) size _ (hHa.below (below_alloc _ _)) (by have := hand3_len ls g size; have := H3.out; omega)
     clear hT hHa
     go_wp2_with (go_at_call 123; refine HCH.out.mono ?_; rintro e w4 ⟨hb4,a4,c4,rfl,hH4⟩; have HH4 : Hid (IntsOwn w.heap.size w4 a4 c4 (ofP ls g size)) := hH4.base hb1.size; clear hH4)
     exact ⟨⟨5,by decide,rfl,⟨a4,c4,rfl,HH4.out⟩,below2 hb1 hb4⟩,by simp [intOf]⟩
    ·obtain ⟨ah,ch,rfl,hI⟩ := hT.out
     have HI : Hid (IntsOwn w.heap.size wr ah ch (ofP ls g size)) := hI
     clear hT hI
     go_wp2_with fail
     go_returns
     exact ⟨hbel,.inl ⟨HGD.out,ah,ch,rfl,HI.out⟩⟩
  ·have HG : Hid (∀ w : World,Calls Tryz.prog 121 #[.int .i64 g,.int .i64 0,.int .i64 7] w fun e w' => e = .returned (.bool false) /\ w' = w) := pwithin_no hg
   have HGD : Hid (¬ GoodR ls g) := fun h => hg h.2
   clear hg
   go_wp2_with (first
    | (go_at_call 120; refine (HR.out _ hb2).mono ?_; rintro e w3 ⟨rfl,hb3⟩)
    | (go_at_call_of 121 g; refine (HG.out _).mono ?_; rintro e w' ⟨rfl,hw'⟩; obtain rfl := hw'.symm)
    | (go_at_call_of 121 size; refine (HS.out _).mono ?_; rintro e w' ⟨rfl,hw'⟩; obtain rfl := hw'.symm))
   go_returns
   exact ⟨below2 hb2 hb3,.inr ⟨HGD.out,rfl⟩⟩
 ·have HGD : Hid (¬ GoodR ls g) := fun h => hN h.1
  clear hN HC
  go_wp2_with fail
  go_returns
  exact ⟨hb2,.inr ⟨HGD.out,rfl⟩⟩
def OfIs (ls : List Nd) (g size : Int) (out : List Int) : Prop := ((GoodR ls g /\ 1 <= size /\ size <= 3) /\ out = ofP ls g size.toNat) ∨ (¬ (GoodR ls g /\ 1 <= size /\ size <= 3) /\ out = [])
def OfPost (ls : List Nd) (g size : Int) (w : World) (e : Ending) (w' : World) : Prop := Below w.heap.size w w' /\ ∃ a cap out,e = .returned (.slice a out.length cap) /\ IntsOwn w.heap.size w' a cap out /\ OfIs ls g size out
theorem of_any (a : Option Addr) (len cap : Nat) (ls : List Nd) (g size : Int) (w : World) (h : NdsAt w a len cap ls) : Calls Tryz.prog 83 #[.slice a len cap,.int .i64 g,.int .i64 size] w fun e w' => OfPost ls g size w e w' := by
 by_cases hs : 1 <= size /\ size <= 3
 ·obtain ⟨n,rfl⟩ : ∃ n : Nat,size = (n : Int) := ⟨size.toNat,by omega⟩
  have HCM : Hid (Calls Tryz.prog 104 #[.int .i64 (n : Int)] w fun e w' => e = .returned (.slice (some ⟨w.heap.size,0,none⟩) 5 5) /\ w' = w.alloc (.cells (comCells (n : Int)).toArray 121)) := common_yes hs.1 hs.2 w
  have HRN : Hid (Calls Tryz.prog 103 #[.slice a len cap,.slice (some ⟨w.heap.size,0,none⟩) 5 5,.int .i64 g,.int .i64 (n : Int)] (w.alloc (.cells (comCells (n : Int)).toArray 121)) fun e w' => RunPost ls g n (w.alloc (.cells (comCells (n : Int)).toArray 121)) e w') := run_com a len cap ls w.heap.size g n _ (h.below (below_alloc _ _)) (com_new w n) (by omega) (by omega)
  have hb1 := below_alloc w (.cells (comCells (n : Int)).toArray 121)
  have HY : Hid (GoodR ls g -> OfIs ls g (n : Int) (ofP ls g n)) := fun hg => .inl ⟨⟨hg,hs⟩,rfl⟩
  have HN : Hid (¬ GoodR ls g -> OfIs ls g (n : Int) []) := fun hg => .inr ⟨fun hh => hg hh.1,rfl⟩
  generalize w.alloc (.cells (comCells (n : Int)).toArray 121) = w1 at *
  clear h hs
  go_enter Tryz.func83,Tryz.ntmps83
  go_wp2_with fail
  refine HCM.out.mono ?_
  rintro e w' ⟨rfl,hw'⟩
  obtain rfl := hw'.symm
  go_wp2_with fail
  refine HRN.out.mono ?_
  rintro e w2 ⟨hb2,⟨hg,a2,c2,rfl,hI⟩ | ⟨hg,rfl⟩⟩
  ·have HI : Hid (IntsOwn w.heap.size w2 a2 c2 (ofP ls g n)) := hI.base hb1.size
   have HO : Hid (OfIs ls g (n : Int) (ofP ls g n)) := HY.out hg
   clear hI hg HRN HCM HY HN
   go_wp2_with fail
   go_ret
   exact ⟨below2 hb1 hb2,a2,c2,_,rfl,HI.out,HO.out⟩
  ·have HO : Hid (OfIs ls g (n : Int) []) := HN.out hg
   clear hg HRN HCM HY HN
   go_wp2_with fail
   go_ret
   exact ⟨below2 hb1 hb2,none,0,[],rfl,IntsOwn.nil _ _,HO.out⟩
 ·have HCM : Hid (∀ w : World,Calls Tryz.prog 104 #[.int .i64 size] w fun e w' => e = .returned (.slice none 0 0) /\ w' = w) := common_no hs
  have HRN : Hid (Calls Tryz.prog 103 #[.slice a len cap,.slice none 0 0,.int .i64 g,.int .i64 size] w fun e w' => e = .returned (.tuple #[.slice none 0 0,.int .i64 1]) /\ Below w.heap.size w w') := run_nil a len cap ls g size w h
  have HO : Hid (OfIs ls g size []) := .inr ⟨fun hh => hs hh.2,rfl⟩
  clear h hs
  go_enter Tryz.func83,Tryz.ntmps83
  go_wp2_with (first
   | (go_at_call 104; refine (HCM.out _).mono ?_; rintro e w' ⟨rfl,hw'⟩; obtain rfl := hw'.symm)
   | (go_at_call 103; refine HRN.out.mono ?_; rintro e w2 ⟨rfl,hb2⟩))
  go_ret
  exact ⟨hb2,none,0,[],rfl,IntsOwn.nil _ _,HO.out⟩
end Go.Proofs.YtcncbjknfcjnmaaGreat.Tp
namespace Go.Proofs.YtcncbjknfcjnmaaGreat.Tp
open Go.ChangeShapes Go.WideShapes Go.ChangeAt Go.RowKit
def rawP (m : Mp) (g : Int) : List Int := match m.tms.find? (fun t => t.g == g) with | some t => t.ns | none => ofP m.nds g m.size.toNat
def actP (m : Mp) (g : Int) : List Int := (rawP m g).filter (upB m.nds)
structure StandOk (m : Mp) : Prop where
 size : 1 <= m.size /\ m.size <= 3
 nds : MayN m.nds
 rise : Rising (m.tms.map (·.g))
 few : m.tms.length <= 8
 ns : ∀ t ∈ m.tms,(t.ns.length : Int) <= m.size
theorem srch_find {ls : List Tm} {g : Int} {p : Nat} {t : Bool} (hR : Rising (ls.map (·.g))) (h : SrchIs (ls.map (·.g)) g p t) : (t = true -> p < ls.length /\ ls.find? (fun t => t.g == g) = some (ls.getD p tm0)) /\ (t = false -> ls.find? (fun t => t.g == g) = none) := by
 obtain ⟨h1,h2,h3,h4⟩ := h
 have key : ∀ j,j < ls.length -> (ls.map (·.g)).getD j 0 = (ls.getD j tm0).g := fun j hj => by simp [hj]
 simp only [List.length_map] at h1 h3 h4
 constructor
 ·intro ht
  obtain ⟨hp,he⟩ := h4.1 ht
  refine ⟨hp,?_⟩
  rw [List.find?_eq_some_iff_getElem,show ls.getD p tm0 = ls[p] by simp [hp]]
  have he' := (key p hp).symm.trans he
  rw [show ls.getD p tm0 = ls[p] by simp [hp]] at he'
  refine ⟨by simpa using he',p,hp,rfl,fun j hj => ?_⟩
  have := h2 j hj
  rw [key j (by omega),show ls.getD j tm0 = ls[j] by simp [show j < ls.length by omega]] at this
  simp
  omega
 ·intro ht
  rw [List.find?_eq_none]
  intro x hx
  obtain ⟨j,hj,rfl⟩ := List.getElem_of_mem hx
  have kj := key j hj
  rw [show ls.getD j tm0 = ls[j] by simp [hj]] at kj
  intro e
  have e' : (ls[j]).g = g := by simpa using e
  by_cases hjp : j < p
  ·have := h2 j hjp
   omega
  ·by_cases hpe : j = p
   ·subst hpe
    have := h4.2 ⟨hj,kj.trans e'⟩
    rw [ht] at this
    exact absurd this (by decide)
   ·have h5 := h3 p (Nat.le_refl _) (by omega)
    have h6 := hR p j (by omega) (by rw [List.length_map]; exact hj)
    omega
theorem RowI.lies {w : World} {a : Option Addr} {len cap : Nat} {l : List Int} (h : RowI w a len cap l) : Lies w a len (intCells l) := by
 rcases h.2.2.2.2 with h0 | ⟨b,off,e,hc⟩
 ·exact .inl h0
 ·refine .inr ⟨b,off,e,fun j u hj => ?_⟩
  have hl := h.1
  have hlt : j < (intCells l).length := (List.getElem?_eq_some_iff.1 hj).1
  have hlt' : j < l.length := by simpa [intCells] using hlt
  rw [hc j (by omega)]
  rw [show (intCells l)[j]? = Option.some (Value.int .i64 (l.getD j 0)) by simp [intCells,hlt']] at hj
  exact hj
theorem intCells_one (l : List Int) : ∀ u ∈ intCells l,u.oneCell' = true := fun u hu => by
 obtain ⟨x,_,rfl⟩ := List.mem_map.1 hu
 rfl
theorem copyInts (a : Option Addr) (len cap : Nat) (l : List Int) (w : World) (h : RowI w a len cap l) (hm : len <= 1000) : Calls Tryz.prog 61 #[.slice a len cap] w fun e w' => IntsPost l w e w' :=
 (copiedInt a len cap (intCells l) w (by simp [intCells,h.1]) hm h.lies h.2.2.2.1 (intCells_one l)).mono fun e w' ⟨hb,v,he,ho,_⟩ => by
  obtain ⟨a',cap',rfl,hc⟩ := own_slice ho
  have hl := h.1
  subst hl
  exact ⟨hb,a',cap',he,ints_own ho rfl,ho⟩
set_option maxRecDepth 60000 in
theorem raw_any {m : Mp} {s : MV} (hS : StandOk m) {g : Int} (hg : 0 <= g /\ g <= 7) (w : World) (hN : NdsAt w s.aN s.lN s.cN m.nds) (hT : TmsAt w s.aT s.lT s.cT m.tms) :
  Calls Tryz.prog 53 #[.agg (mapCells m s).toArray,.int .i64 g] w fun e w' => IntsPost (rawP m g) w e w' := by
 have hb1 := below_alloc w (.cells (mapCells m s).toArray 26)
 have HC : Hid (Calls Tryz.prog 82 #[.agg (mapCells m s).toArray,.int .i64 g] (w.alloc (.cells (mapCells m s).toArray 26)) fun e w' => SrchPost (m.tms.map (·.g)) g (w.alloc (.cells (mapCells m s).toArray 26)) e w') := temp_any m s g _ (hT.below hb1) hS.rise hS.few
 have HO : Hid (∀ W,Below w.heap.size w W -> Calls Tryz.prog 83 #[.slice s.aN s.lN s.cN,.int .i64 g,.int .i64 m.size] W fun e w' => OfPost m.nds g m.size W e w') := fun W hb => of_any _ _ _ m.nds g m.size W (hN.below hb)
 have HOF : Hid (∀ out,OfIs m.nds g m.size out -> out = ofP m.nds g m.size.toNat) := fun out h => by
  rcases h with ⟨_,h⟩ | ⟨h,_⟩
  ·exact h
  ·exact absurd ⟨⟨hS.nds,hg⟩,hS.size⟩ h
 have HT : Hid (TmsAt w s.aT s.lT s.cT m.tms) := hT
 have HF : Hid (∀ p t,SrchIs (m.tms.map (·.g)) g p t -> (t = true -> p < m.tms.length /\ rawP m g = (m.tms.getD p tm0).ns) /\ (t = false -> rawP m g = ofP m.nds g m.size.toNat)) := fun p t h => ⟨fun e => ⟨((srch_find hS.rise h).1 e).1,by unfold rawP; rw [((srch_find hS.rise h).1 e).2]⟩,fun e => by unfold rawP; rw [(srch_find hS.rise h).2 e]⟩
 have H3 : Hid (∀ p,p < m.tms.length -> ((m.tms.getD p tm0).ns.length : Int) <= 3) := fun p hp => by
  rw [show m.tms.getD p tm0 = m.tms[p] by simp [hp]]
  exact Int.le_trans (hS.ns _ (List.getElem_mem _)) hS.size.2
 have h8 : (s.lT : Int) <= 8 := by have := hT.1; have := hS.few; omega
 have HTL : Hid (m.tms.length = s.lT) := hT.1
 clear hS hN hT hg
 rw [map_split] at *
 generalize rawP m g = rw0 at *
 obtain ⟨ep,sz,mn,gr,nds,tms,trs⟩ := m
 obtain ⟨aN,lN,cN,aT,lT,cT,aR,lR,cR⟩ := s
 simp only [mapCells] at *
 have HBX : Hid (Box7 (w.alloc (.cells #[.int .i64 ep,.int .i64 sz,.int .i64 mn,.int .i64 gr,.slice aN lN cN,.slice aT lT cT,.slice aR lR cR] 26)) w.heap.size (.int .i64 ep) (.int .i64 sz) (.int .i64 mn) (.int .i64 gr) (.slice aN lN cN) (.slice aT lT cT) (.slice aR lR cR)) := Box7.new w _ _ _ _ _ _ _ _
 go_enter Tryz.func53,Tryz.ntmps53
 go_upto_region 2 with (go_at_call 82; refine HC.out.mono ?_; rintro e w2 ⟨hb2,p,t,rfl,hIs⟩; have HI : Hid (SrchIs (tms.map (·.g)) g p t) := hIs; clear hIs)
 obtain ⟨⟨c0,c1,c2,c3,c4,c5,c6⟩,-⟩ := HBX.out.below hb2
 have hbw2 := below2 hb1 hb2
 clear HC HBX
 cases t with
 | true =>
  obtain ⟨hp,hr⟩ := (HF.out p true HI.out).1 rfl
  have hpl : p < lT := by have := HTL.out; omega
  obtain ⟨bb,off,rfl,hbs,hcell⟩ := (HT.out.below hbw2).some (by omega)
  obtain ⟨e0,aq,lq,cq,e1,hrow⟩ := hcell p hpl
  have hp0 : (0 : Int) <= (p : Int) := by omega
  have hp1 : (p : Int) < (lT : Int) := by omega
  have h3 := H3.out p hp
  have hrl := hrow.1
  have HCI : Hid (Calls Tryz.prog 61 #[.slice aq lq cq] w2 fun e w' => IntsPost rw0 w2 e w') := by
   rw [hr]
   exact copyInts aq lq cq _ w2 hrow (by omega)
  clear hcell hrow h3 hrl hr HF HI H3 HO HOF e0 hp
  go_wp2_with (go_at_call 61; refine HCI.out.mono ?_; rintro e w3 ⟨hb3,a3,c3',rfl,hO3⟩; have HO3 : Hid (IntsOwn w2.heap.size w3 a3 c3' rw0) := hO3; clear hO3)
  go_ret
  exact ⟨below2 hbw2 hb3,a3,c3',rfl,HO3.out.base hbw2.size⟩
 | false =>
  have hr := (HF.out p false HI.out).2 rfl
  have HOO : Hid (Calls Tryz.prog 83 #[.slice aN lN cN,.int .i64 g,.int .i64 sz] w2 fun e w' => IntsPost rw0 w2 e w') := (HO.out w2 hbw2).mono fun e w' ⟨hb,a,cap,out,he,hI,hOf⟩ => by
   obtain rfl := HOF.out out hOf
   rw [hr]
   exact ⟨hb,a,cap,he,hI⟩
  clear HF HI H3 HO HOF hr
  go_wp2_with (go_at_call 83; refine HOO.out.mono ?_; rintro e w3 ⟨hb3,a3,c3',rfl,hO3⟩; have HO3 : Hid (IntsOwn w2.heap.size w3 a3 c3' rw0) := hO3; clear hO3)
  go_ret
  exact ⟨below2 hbw2 hb3,a3,c3',rfl,HO3.out.base hbw2.size⟩
theorem raw_len {m : Mp} (hS : StandOk m) (g : Int) : ((rawP m g).length : Int) <= m.size := by
 unfold rawP
 cases h : m.tms.find? (fun t => t.g == g) with
 | some t => exact hS.ns t (List.mem_of_find?_eq_some h)
 | none =>
  have := of_len hS.nds g m.size.toNat
  have := hS.size
  show ((ofP m.nds g m.size.toNat).length : Int) <= _
  omega
set_option maxRecDepth 60000 in
theorem acting_any {m : Mp} {s : MV} (hS : StandOk m) {g : Int} (hg : 0 <= g /\ g <= 7) (w : World) (hN : NdsAt w s.aN s.lN s.cN m.nds) (hT : TmsAt w s.aT s.lT s.cT m.tms) :
  Calls Tryz.prog 56 #[.agg (mapCells m s).toArray,.int .i64 g] w fun e w' => IntsPost (actP m g) w e w' := by
 have hb1 := below_alloc w (.cells (mapCells m s).toArray 26)
 have HC : Hid (Calls Tryz.prog 53 #[.agg (mapCells m s).toArray,.int .i64 g] (w.alloc (.cells (mapCells m s).toArray 26)) fun e w' => IntsPost (rawP m g) (w.alloc (.cells (mapCells m s).toArray 26)) e w') := raw_any hS hg _ (hN.below hb1) (hT.below hb1)
 have HBX : Hid (Box7 (w.alloc (.cells (mapCells m s).toArray 26)) w.heap.size (.int .i64 m.ep) (.int .i64 m.size) (.int .i64 m.mn) (.int .i64 m.gr) (.slice s.aN s.lN s.cN) (.slice s.aT s.lT s.cT) (.slice s.aR s.lR s.cR)) := Box7.new w _ _ _ _ _ _ _ _
 have HD : Hid (∀ (w2 : World) (a : Option Addr) (cap : Nat),Below (w.alloc (.cells (mapCells m s).toArray 26)).heap.size (w.alloc (.cells (mapCells m s).toArray 26)) w2 -> IntsOwn (w.alloc (.cells (mapCells m s).toArray 26)).heap.size w2 a cap (rawP m g) ->
   Calls Tryz.prog 86 #[.slice a (rawP m g).length cap,.func (.func 87) #[] #[.pointer (some ⟨w.heap.size,0,none⟩)]] w2 fun e w' => IntsPost (actP m g) w e w') := fun w2 a cap hb2 hO => by
  have hl := raw_len hS g
  have h3 := hS.size
  refine (deleteFunc_any w.heap.size _ _ (fun x => !upB m.nds x) (fun W x hb => up_closure m s w.heap.size x W ((hN.below hb1).below hb) hS.nds (HBX.out.below hb)) (Nat.le_refl _) a cap (rawP m g) w2 hb2 hO (by omega)).mono ?_
  rintro e w3 ⟨hb3,rfl,hO3⟩
  have ef : ((rawP m g).filter fun x => !(!upB m.nds x)) = actP m g := by unfold actP; congr 1; funext x; simp
  rw [ef] at hO3 ⊢
  exact ⟨below2 hb1 hb3,a,cap,rfl,hO3.base (by simp)⟩
 clear hS hN hT hg HBX
 rw [map_split] at *
 generalize rawP m g = rw0 at *
 generalize actP m g = ac0 at *
 obtain ⟨ep,sz,mn,gr,nds,tms,trs⟩ := m
 obtain ⟨aN,lN,cN,aT,lT,cT,aR,lR,cR⟩ := s
 simp only [mapCells] at *
 go_enter Tryz.func56,Tryz.ntmps56
 go_wp2_with (first
  | (go_at_call 53; refine HC.out.mono ?_; rintro e w2 ⟨hb2,a2,c2',rfl,hO2⟩; have HO2 : Hid (IntsOwn _ w2 a2 c2' rw0) := hO2; clear hO2)
  | (go_at_call 86; refine (HD.out _ _ _ hb2 HO2.out).mono ?_; rintro e w3 ⟨hb3,a3,c3',rfl,hO3⟩; have HO3 : Hid (IntsOwn w.heap.size w3 a3 c3' ac0) := hO3; clear hO3))
 go_ret
 exact ⟨hb3,a3,c3',rfl,HO3.out⟩
end Go.Proofs.YtcncbjknfcjnmaaGreat.Tp
namespace Go.Proofs.YtcncbjknfcjnmaaGreat.Tp
open Go.ChangeShapes Go.WideShapes Go.ChangeAt Go.RowKit
theorem ret_map {fn : Func} {p : Tmp} (h : fn.results = #[.cell p 26]) (tmps : Array Value) (w : World) (b : Nat) (v0 v1 v2 v3 v4 v5 v6 : Value) (hp : tmps.getD p undef = .pointer (some ⟨b,0,none⟩))
  (hb : Box7 w b v0 v1 v2 v3 v4 v5 v6) : (results fn tmps).run Tryz.prog w = .ok (.agg #[v0,v1,v2,v3,v4,v5,v6]) w := by
 obtain ⟨⟨h0,h1,h2,h3,h4,h5,h6⟩,-⟩ := hb
 simp only [Array.getD_eq_getD_getElem?] at hp
 simp only [results,h]
 simp [go_sem,hp,h0,h1,h2,h3,h4,h5,h6]
end Go.Proofs.YtcncbjknfcjnmaaGreat.Tp
