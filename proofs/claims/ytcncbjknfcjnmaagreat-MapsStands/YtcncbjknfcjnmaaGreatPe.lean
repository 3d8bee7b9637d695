/-
  The contracts of Run by the common rule, of Of, and of awake.
-/
import Derived.Test.YtcncbjknfcjnmaaGreatPd
namespace Go.Proofs.YtcncbjknfcjnmaaGreat.Tp
open Go.ChangeShapes Go.WideShapes Go.ChangeAt Go.RowKit
theorem choose_len (ls : List Nd) (g lev : Int) (n : Nat) (H : List Sp) : (chooseP ls g lev n H).length ≤ H.length * n := by
  unfold chooseP
  induction H with
  | nil => simp
  | cons x H ih =>
    rw [List.flatMap_cons, List.length_append, List.length_cons]
    have : (chosen1 ls g lev n x).length ≤ n := by
      unfold chosen1 idsOf
      rw [List.length_map, List.length_take]
      omega
    rw [Nat.add_mul]
    omega
theorem hand1_len (ls : List Nd) (g : Int) (size : Nat) : (hand1 ls g size).length ≤ size := by
  have := choose_len ls g 1 size [(0, 0, 0)]
  simp at this
  exact this
theorem hand2_len (ls : List Nd) (g : Int) (size : Nat) : (hand2 ls g size).length ≤ size := by
  have := choose_len ls g 2 1 (hand1 ls g size)
  have := hand1_len ls g size
  unfold hand2
  omega
theorem hand3_len (ls : List Nd) (g : Int) (size : Nat) : (hand3 ls g size).length ≤ size := by
  have := choose_len ls g 3 1 (hand2 ls g size)
  have := hand2_len ls g size
  unfold hand3
  omega
theorem hand1_zone {ls : List Nd} (hM : MayN ls) (g : Int) (size : Nat) : ∀ x ∈ hand1 ls g size, x.1 ≠ 0 := fun x hx => by
  rw [hand1_eq] at hx
  obtain ⟨z, hz, rfl⟩ := List.mem_map.1 hx
  obtain ⟨c, hc, _, rfl⟩ := zs_mem hM hz
  have := ((mem_upTo _ _ c 999).1 hc).1.1
  show c.1 ≠ 0
  omega
/-- what is at hand and what is told ahead of step k -/
def RunAt (B : Nat) (ls : List Nd) (g : Int) (size : Nat) (w : World) (hand told : Value) : Nat → Prop
  | 0 => hand = .slice none 0 0 ∧ told = .slice none 0 0
  | 1 => told = .slice none 0 0 ∧ ∃ a c, hand = .slice a 1 c ∧ HandAt w a [(0, 0, 0)]
  | 2 => told = .slice none 0 0 ∧ ∃ a c, hand = .slice a (hand1 ls g size).length c ∧ HandAt w a (hand1 ls g size)
  | 3 => told = .slice none 0 0 ∧ ∃ a c, hand = .slice a (hand2 ls g size).length c ∧ HandAt w a (hand2 ls g size)
  | 4 => told = .slice none 0 0 ∧ ∃ a c, hand = .slice a (hand3 ls g size).length c ∧ HandAt w a (hand3 ls g size)
  | _ => ∃ a c, told = .slice a (ofP ls g size).length c ∧ IntsOwn B w a c (ofP ls g size)
def GoodR (ls : List Nd) (g : Int) : Prop := MayN ls ∧ 0 ≤ g ∧ g ≤ 7
def RunPost (ls : List Nd) (g : Int) (size : Nat) (w : World) (e : Ending) (w' : World) : Prop :=
  Below w.heap.size w w' ∧ ((GoodR ls g ∧ ∃ a cap, e = .returned (.tuple #[.slice a (ofP ls g size).length cap, .int .i64 0]) ∧ IntsOwn w.heap.size w' a cap (ofP ls g size)) ∨ (¬ GoodR ls g ∧ e = .returned (.tuple #[.slice none 0 0, .int .i64 1])))
theorem run_nil (a : Option Addr) (len cap : Nat) (ls : List Nd) (g size : Int) (w : World) (h : NdsAt w a len cap ls) : Calls Tryz.prog 103 #[.slice a len cap, .slice none 0 0, .int .i64 g, .int .i64 size] w fun e w' => e = .returned (.tuple #[.slice none 0 0, .int .i64 1]) ∧ Below w.heap.size w w' := by
  have HC : Hid (Calls Tryz.prog 40 #[.slice a len cap] w fun e w' => ErrPost (MayN ls) w e w') := check_any a len cap ls w h
  clear h
  go_enter Tryz.func103, Tryz.ntmps103
  go_wp2_with fail
  refine HC.out.mono ?_
  rintro e w2 ⟨hb2, ⟨rfl, -⟩ | ⟨rfl, -⟩⟩
  · go_wp2_with (go_at_call 120; refine (pcheck_nil _).mono ?_; rintro e w3 ⟨rfl, hb3⟩)
    go_returns
    exact ⟨rfl, below2 hb2 hb3⟩
  · go_wp2_with fail
    go_returns
    exact ⟨rfl, hb2⟩
theorem hand_one (w : World) : HandAt (w.alloc (.cells #[.int .i64 0, .int .i64 0, .int .i64 0] 143)) (some ⟨w.heap.size, 0, none⟩) [(0, 0, 0)] := by
  refine .inr ⟨w.heap.size, rfl, by simp, fun i hi => ?_⟩
  have : i = 0 := by simp at hi; omega
  subst this
  exact ⟨by simp, by simp, by simp⟩
set_option maxHeartbeats 4000000 in
set_option maxRecDepth 60000 in
theorem run_com (a : Option Addr) (len cap : Nat) (ls : List Nd) (b : Nat) (g : Int) (size : Nat) (w : World) (h : NdsAt w a len cap ls) (hC : ComAt w b (size : Int)) (h1 : 1 ≤ size) (h3 : size ≤ 3) :
    Calls Tryz.prog 103 #[.slice a len cap, .slice (some ⟨b, 0, none⟩) 5 5, .int .i64 g, .int .i64 (size : Int)] w fun e w' => RunPost ls g size w e w' := by
  have HC : Hid (Calls Tryz.prog 40 #[.slice a len cap] w fun e w' => ErrPost (MayN ls) w e w') := check_any a len cap ls w h
  have HR : Hid (∀ w', Below w.heap.size w w' → Calls Tryz.prog 120 #[.slice (some ⟨b, 0, none⟩) 5 5] w' fun e w'' => e = .returned (.int .i64 0) ∧ Below w'.heap.size w' w'') := fun w' hb => pcheck_com (by omega) (by omega) b w' (hC.below hb)
  have HL : Hid (NdsAt w a len cap ls) := h
  have HCO : Hid (ComAt w b (size : Int)) := hC
  have HS : Hid (∀ w : World, Calls Tryz.prog 121 #[.int .i64 (size : Int), .int .i64 1, .int .i64 3] w fun e w' => e = .returned (.bool true) ∧ w' = w) := pwithin_yes (by omega) (by omega)
  have H3 : Hid (size ≤ 3) := h3
  have hs3 : (size : Int) ≤ 3 := by omega
  clear h hC h1 h3
  go_enter Tryz.func103, Tryz.ntmps103
  go_wp2_with fail
  refine HC.out.mono ?_
  rintro e w2 ⟨hb2, ⟨rfl, hM⟩ | ⟨rfl, hN⟩⟩
  · have HM : Hid (MayN ls) := hM
    clear hM HC
    by_cases hg : 0 ≤ g ∧ g ≤ 7
    · have HG : Hid (∀ w : World, Calls Tryz.prog 121 #[.int .i64 g, .int .i64 0, .int .i64 7] w fun e w' => e = .returned (.bool true) ∧ w' = w) := pwithin_yes hg.1 hg.2
      have HGD : Hid (GoodR ls g) := ⟨HM.out, hg⟩
      clear hg
      go_wp2_with (first
        | (go_at_call 120; refine (HR.out _ hb2).mono ?_; rintro e w3 ⟨rfl, hb3⟩)
        | (go_at_call_of 121 g; refine (HG.out _).mono ?_; rintro e w' ⟨rfl, hw'⟩; obtain rfl := hw'.symm)
        | (go_at_call_of 121 size; refine (HS.out _).mono ?_; rintro e w' ⟨rfl, hw'⟩; obtain rfl := hw'.symm))
      have hb03 : Below w.heap.size w w3 := below2 hb2 hb3
      clear hb2 hb3 HR HG HS
      go_loopw [10, 11, 34] (fun hd td i wr => ∃ k : Nat, k ≤ 5 ∧ i = .int .i64 k ∧ Hid (RunAt w.heap.size ls g size wr hd td k) ∧ Below w.heap.size w wr) (fun _ _ i _ => 5 - (intOf i).toNat)
      case atStart => exact ⟨0, Nat.zero_le _, rfl, ⟨rfl, rfl⟩, hb03⟩
      case round =>
        obtain ⟨k, hk, rfl, hT, hbel⟩ := hrel
        have hNW : Hid (NdsAt wr a len cap ls) := HL.out.below hbel
        have hCW : Hid (ComAt wr b (size : Int)) := HCO.out.below hbel
        have hbs := hCW.out.1
        have hcase : k = 0 ∨ k = 1 ∨ k = 2 ∨ k = 3 ∨ k = 4 ∨ k = 5 := by omega
        rcases hcase with rfl | rfl | rfl | rfl | rfl | rfl
        · obtain ⟨rfl, rfl⟩ := hT.out
          obtain ⟨e0, e1, e2⟩ := hCW.out.step (k := 0) (by decide)
          simp only [stepK] at e0 e1 e2
          have hb1 : Below w.heap.size w ((wr.alloc (.cells #[.int .i64 1, .int .i64 0, .int .i64 0] 121)).alloc (.cells #[.int .i64 0, .int .i64 0, .int .i64 0] 143)) := below2 hbel (below2 (below_alloc _ _) (below_alloc _ _))
          have HO : Hid (HandAt ((wr.alloc (.cells #[.int .i64 1, .int .i64 0, .int .i64 0] 121)).alloc (.cells #[.int .i64 0, .int .i64 0, .int .i64 0] 143)) (some ⟨wr.heap.size + 1, 0, none⟩) [(0, 0, 0)]) := by
            have := hand_one (wr.alloc (.cells #[.int .i64 1, .int .i64 0, .int .i64 0] 121))
            rw [show (wr.alloc (.cells #[.int .i64 1, .int .i64 0, .int .i64 0] 121)).heap.size = wr.heap.size + 1 by simp] at this
            exact this
          clear hT
          go_wp2_with fail
          exact ⟨⟨1, by decide, rfl, ⟨rfl, _, _, rfl, HO.out⟩, hb1⟩, by simp [intOf]⟩
        · obtain ⟨rfl, ah, ch, rfl, hHa⟩ := hT.out
          obtain ⟨e0, e1, e2⟩ := hCW.out.step (k := 1) (by decide)
          simp only [stepK] at e0 e1 e2
          have hb1 := below2 hbel (below_alloc wr (.cells #[.int .i64 2, .int .i64 1, .int .i64 (size : Int)] 121))
          have HCH : Hid (Calls Tryz.prog 122 #[.slice a len cap, .agg #[.int .i64 2, .int .i64 1, .int .i64 (size : Int)], .int .i64 g, .slice ah 1 ch] (wr.alloc (.cells #[.int .i64 2, .int .i64 1, .int .i64 (size : Int)] 121)) fun e w' => HandPost (hand1 ls g size) (wr.alloc (.cells #[.int .i64 2, .int .i64 1, .int .i64 (size : Int)] 121)) e w') := choose_any HM.out _ (hNW.out.below (below_alloc _ _)) 2 g 1 size (by have := H3.out; omega) ah ch ([(0, 0, 0)]) (hHa.below (below_alloc _ _)) (by decide) (fun h => absurd h (by decide))
          clear hT hHa
          go_wp2_with (go_at_call 122; refine HCH.out.mono ?_; rintro e w4 ⟨hb4, a4, c4, rfl, hH4⟩; have HH4 : Hid (HandAt w4 a4 (hand1 ls g size)) := hH4; clear hH4)
          exact ⟨⟨2, by decide, rfl, ⟨rfl, a4, c4, rfl, HH4.out⟩, below2 hb1 hb4⟩, by simp [intOf]⟩
        · obtain ⟨rfl, ah, ch, rfl, hHa⟩ := hT.out
          obtain ⟨e0, e1, e2⟩ := hCW.out.step (k := 2) (by decide)
          simp only [stepK] at e0 e1 e2
          have hb1 := below2 hbel (below_alloc wr (.cells #[.int .i64 2, .int .i64 2, .int .i64 1] 121))
          have HCH : Hid (Calls Tryz.prog 122 #[.slice a len cap, .agg #[.int .i64 2, .int .i64 2, .int .i64 1], .int .i64 g, .slice ah (hand1 ls g size).length ch] (wr.alloc (.cells #[.int .i64 2, .int .i64 2, .int .i64 1] 121)) fun e w' => HandPost (hand2 ls g size) (wr.alloc (.cells #[.int .i64 2, .int .i64 2, .int .i64 1] 121)) e w') := choose_any HM.out _ (hNW.out.below (below_alloc _ _)) 2 g 2 1 (by decide) ah ch (hand1 ls g size) (hHa.below (below_alloc _ _)) (by have := hand1_len ls g size; have := H3.out; omega) (fun _ => hand1_zone HM.out g size)
          clear hT hHa
          go_wp2_with (go_at_call 122; refine HCH.out.mono ?_; rintro e w4 ⟨hb4, a4, c4, rfl, hH4⟩; have HH4 : Hid (HandAt w4 a4 (hand2 ls g size)) := hH4; clear hH4)
          exact ⟨⟨3, by decide, rfl, ⟨rfl, a4, c4, rfl, HH4.out⟩, below2 hb1 hb4⟩, by simp [intOf]⟩
        · obtain ⟨rfl, ah, ch, rfl, hHa⟩ := hT.out
          obtain ⟨e0, e1, e2⟩ := hCW.out.step (k := 3) (by decide)
          simp only [stepK] at e0 e1 e2
          have hb1 := below2 hbel (below_alloc wr (.cells #[.int .i64 2, .int .i64 3, .int .i64 1] 121))
          have HCH : Hid (Calls Tryz.prog 122 #[.slice a len cap, .agg #[.int .i64 2, .int .i64 3, .int .i64 1], .int .i64 g, .slice ah (hand2 ls g size).length ch] (wr.alloc (.cells #[.int .i64 2, .int .i64 3, .int .i64 1] 121)) fun e w' => HandPost (hand3 ls g size) (wr.alloc (.cells #[.int .i64 2, .int .i64 3, .int .i64 1] 121)) e w') := choose_any HM.out _ (hNW.out.below (below_alloc _ _)) 2 g 3 1 (by decide) ah ch (hand2 ls g size) (hHa.below (below_alloc _ _)) (by have := hand2_len ls g size; have := H3.out; omega) (fun h => absurd h (by decide))
          clear hT hHa
          go_wp2_with (go_at_call 122; refine HCH.out.mono ?_; rintro e w4 ⟨hb4, a4, c4, rfl, hH4⟩; have HH4 : Hid (HandAt w4 a4 (hand3 ls g size)) := hH4; clear hH4)
          exact ⟨⟨4, by decide, rfl, ⟨rfl, a4, c4, rfl, HH4.out⟩, below2 hb1 hb4⟩, by simp [intOf]⟩
        · obtain ⟨rfl, ah, ch, rfl, hHa⟩ := hT.out
          obtain ⟨e0, e1, e2⟩ := hCW.out.step (k := 4) (by decide)
          simp only [stepK] at e0 e1 e2
          have hb1 := below2 hbel (below_alloc wr (.cells #[.int .i64 3, .int .i64 0, .int .i64 0] 121))
          have HCH : Hid (Calls Tryz.prog 123 #[.slice none 0 0, .slice ah (hand3 ls g size).length ch, .int .i64 (size : Int)] (wr.alloc (.cells #[.int .i64 3, .int .i64 0, .int .i64 0] 121)) fun e w' => IntsPost (ofP ls g size) (wr.alloc (.cells #[.int .i64 3, .int .i64 0, .int .i64 0] 121)) e w') := emit_any ah ch (hand3 ls g size) size _ (hHa.below (below_alloc _ _)) (by have := hand3_len ls g size; have := H3.out; omega)
          clear hT hHa
          go_wp2_with (go_at_call 123; refine HCH.out.mono ?_; rintro e w4 ⟨hb4, a4, c4, rfl, hH4⟩; have HH4 : Hid (IntsOwn w.heap.size w4 a4 c4 (ofP ls g size)) := hH4.base hb1.size; clear hH4)
          exact ⟨⟨5, by decide, rfl, ⟨a4, c4, rfl, HH4.out⟩, below2 hb1 hb4⟩, by simp [intOf]⟩
        · obtain ⟨ah, ch, rfl, hI⟩ := hT.out
          have HI : Hid (IntsOwn w.heap.size wr ah ch (ofP ls g size)) := hI
          clear hT hI
          go_wp2_with fail
          go_returns
          exact ⟨hbel, .inl ⟨HGD.out, ah, ch, rfl, HI.out⟩⟩
    · have HG : Hid (∀ w : World, Calls Tryz.prog 121 #[.int .i64 g, .int .i64 0, .int .i64 7] w fun e w' => e = .returned (.bool false) ∧ w' = w) := pwithin_no hg
      have HGD : Hid (¬ GoodR ls g) := fun h => hg h.2
      clear hg
      go_wp2_with (first
        | (go_at_call 120; refine (HR.out _ hb2).mono ?_; rintro e w3 ⟨rfl, hb3⟩)
        | (go_at_call_of 121 g; refine (HG.out _).mono ?_; rintro e w' ⟨rfl, hw'⟩; obtain rfl := hw'.symm)
        | (go_at_call_of 121 size; refine (HS.out _).mono ?_; rintro e w' ⟨rfl, hw'⟩; obtain rfl := hw'.symm))
      go_returns
      exact ⟨below2 hb2 hb3, .inr ⟨HGD.out, rfl⟩⟩
  · have HGD : Hid (¬ GoodR ls g) := fun h => hN h.1
    clear hN HC
    go_wp2_with fail
    go_returns
    exact ⟨hb2, .inr ⟨HGD.out, rfl⟩⟩
/-- what Of tells -/
def OfIs (ls : List Nd) (g size : Int) (out : List Int) : Prop := ((GoodR ls g ∧ 1 ≤ size ∧ size ≤ 3) ∧ out = ofP ls g size.toNat) ∨ (¬ (GoodR ls g ∧ 1 ≤ size ∧ size ≤ 3) ∧ out = [])
def OfPost (ls : List Nd) (g size : Int) (w : World) (e : Ending) (w' : World) : Prop := Below w.heap.size w w' ∧ ∃ a cap out, e = .returned (.slice a out.length cap) ∧ IntsOwn w.heap.size w' a cap out ∧ OfIs ls g size out
theorem of_any (a : Option Addr) (len cap : Nat) (ls : List Nd) (g size : Int) (w : World) (h : NdsAt w a len cap ls) : Calls Tryz.prog 83 #[.slice a len cap, .int .i64 g, .int .i64 size] w fun e w' => OfPost ls g size w e w' := by
  by_cases hs : 1 ≤ size ∧ size ≤ 3
  · obtain ⟨n, rfl⟩ : ∃ n : Nat, size = (n : Int) := ⟨size.toNat, by omega⟩
    have HCM : Hid (Calls Tryz.prog 104 #[.int .i64 (n : Int)] w fun e w' => e = .returned (.slice (some ⟨w.heap.size, 0, none⟩) 5 5) ∧ w' = w.alloc (.cells (comCells (n : Int)).toArray 121)) := common_yes hs.1 hs.2 w
    have HRN : Hid (Calls Tryz.prog 103 #[.slice a len cap, .slice (some ⟨w.heap.size, 0, none⟩) 5 5, .int .i64 g, .int .i64 (n : Int)] (w.alloc (.cells (comCells (n : Int)).toArray 121)) fun e w' => RunPost ls g n (w.alloc (.cells (comCells (n : Int)).toArray 121)) e w') := run_com a len cap ls w.heap.size g n _ (h.below (below_alloc _ _)) (com_new w n) (by omega) (by omega)
    have hb1 := below_alloc w (.cells (comCells (n : Int)).toArray 121)
    have HY : Hid (GoodR ls g → OfIs ls g (n : Int) (ofP ls g n)) := fun hg => .inl ⟨⟨hg, hs⟩, rfl⟩
    have HN : Hid (¬ GoodR ls g → OfIs ls g (n : Int) []) := fun hg => .inr ⟨fun hh => hg hh.1, rfl⟩
    generalize w.alloc (.cells (comCells (n : Int)).toArray 121) = w1 at *
    clear h hs
    go_enter Tryz.func83, Tryz.ntmps83
    go_wp2_with fail
    refine HCM.out.mono ?_
    rintro e w' ⟨rfl, hw'⟩
    obtain rfl := hw'.symm
    go_wp2_with fail
    refine HRN.out.mono ?_
    rintro e w2 ⟨hb2, ⟨hg, a2, c2, rfl, hI⟩ | ⟨hg, rfl⟩⟩
    · have HI : Hid (IntsOwn w.heap.size w2 a2 c2 (ofP ls g n)) := hI.base hb1.size
      have HO : Hid (OfIs ls g (n : Int) (ofP ls g n)) := HY.out hg
      clear hI hg HRN HCM HY HN
      go_wp2_with fail
      go_ret
      exact ⟨below2 hb1 hb2, a2, c2, _, rfl, HI.out, HO.out⟩
    · have HO : Hid (OfIs ls g (n : Int) []) := HN.out hg
      clear hg HRN HCM HY HN
      go_wp2_with fail
      go_ret
      exact ⟨below2 hb1 hb2, none, 0, [], rfl, IntsOwn.nil _ _, HO.out⟩
  · have HCM : Hid (∀ w : World, Calls Tryz.prog 104 #[.int .i64 size] w fun e w' => e = .returned (.slice none 0 0) ∧ w' = w) := common_no hs
    have HRN : Hid (Calls Tryz.prog 103 #[.slice a len cap, .slice none 0 0, .int .i64 g, .int .i64 size] w fun e w' => e = .returned (.tuple #[.slice none 0 0, .int .i64 1]) ∧ Below w.heap.size w w') := run_nil a len cap ls g size w h
    have HO : Hid (OfIs ls g size []) := .inr ⟨fun hh => hs hh.2, rfl⟩
    clear h hs
    go_enter Tryz.func83, Tryz.ntmps83
    go_wp2_with (first
      | (go_at_call 104; refine (HCM.out _).mono ?_; rintro e w' ⟨rfl, hw'⟩; obtain rfl := hw'.symm)
      | (go_at_call 103; refine HRN.out.mono ?_; rintro e w2 ⟨rfl, hb2⟩))
    go_ret
    exact ⟨hb2, none, 0, [], rfl, IntsOwn.nil _ _, HO.out⟩
end Go.Proofs.YtcncbjknfcjnmaaGreat.Tp
