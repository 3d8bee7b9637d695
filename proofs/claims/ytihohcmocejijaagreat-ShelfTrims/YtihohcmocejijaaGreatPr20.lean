/-
  The contracts of growth, sum, byValue.
  slices.BinarySearchFunc of what was told, of lines; done, line.
-/
import Derived.Test.YtihohcmocejijaaGreatPr09
import Derived.Test.YtihohcmocejijaaGreatPr07
import Derived.Test.YtihohcmocejijaaGreatPr19
import Derived.Test.YtihohcmocejijaaGreatPr13
import Derived.Test.YtihohcmocejijaaGreatPr04
namespace Go.Proofs.YtihohcmocejijaaGreat.Bk
open Go.ChangeShapes Go.WideShapes Go.ChangeAt Go.RowKit
theorem growth_any (a v : Int) (w : World) (ha : -1099511627776 ≤ a ∧ a ≤ 1099511627776) (hv : -1099511627776 ≤ v ∧ v ≤ 1099511627776) : Calls Tryz.prog 117 #[.int .i64 a, .int .i64 v] w fun e w' => e = .returned (.int .i64 (gr a v)) ∧ Grown w w' := by
  have HG := Hid.mk9 (grown_refl w)
  by_cases h : v < a
  · have HR : Hid (gr a v = max v 0) := by show _ = _; unfold gr; rw [if_pos h]
    clear ha hv
    go_enter Tryz.func117, Tryz.ntmps117
    go_wp2
    go_ret
    exact ⟨ret_int HR.out.symm, HG.out⟩
  · have HR : Hid (gr a v = v - a) := by show _ = _; unfold gr; rw [if_neg h]
    have hd : decide (v < a) = false := decide_eq_false h
    have hw : wrap64 (v - a) = v - a := w64_id (by omega) (by omega)
    clear ha hv
    go_enter Tryz.func117, Tryz.ntmps117
    go_wp2
    go_ret
    exact ⟨ret_int (by rw [HR.out]), HG.out⟩
def cmpI (x y : Int) : Int := if x < y then -1 else if y < x then 1 else 0
theorem isNaN_any (x : Int) (w : World) : Calls Tryz.prog 93 #[.int .i64 x] w fun e w' => e = .returned (.bool false) ∧ w' = w := by
  go_enter Tryz.func93, Tryz.ntmps93
  go_wp2
  go_ret
  exact ⟨rfl, rfl⟩
set_option maxHeartbeats 1000000 in
theorem cmpInt_any (x y : Int) (w : World) : Calls Tryz.prog 68 #[.int .i64 x, .int .i64 y] w fun e w' => e = .returned (.int .i64 (cmpI x y)) ∧ w' = w := by
  by_cases h1 : x < y
  · have hc : cmpI x y = -1 := by unfold cmpI; rw [if_pos h1]
    rw [hc]
    go_enter Tryz.func68, Tryz.ntmps68
    go_wp2_with (go_at_call 93; refine (isNaN_any _ _).mono ?_; rintro e w' ⟨rfl, rfl⟩)
    go_ret
    exact ⟨rfl, rfl⟩
  · have d1 : decide (x < y) = false := decide_eq_false h1
    by_cases h2 : y < x
    · have hc : cmpI x y = 1 := by unfold cmpI; rw [if_neg h1, if_pos h2]
      rw [hc]
      go_enter Tryz.func68, Tryz.ntmps68
      go_wp2_with (go_at_call 93; refine (isNaN_any _ _).mono ?_; rintro e w' ⟨rfl, rfl⟩)
      go_ret
      exact ⟨rfl, rfl⟩
    · have d2 : decide (y < x) = false := decide_eq_false h2
      have hc : cmpI x y = 0 := by unfold cmpI; rw [if_neg h1, if_neg h2]
      rw [hc]
      go_enter Tryz.func68, Tryz.ntmps68
      go_wp2_with (go_at_call 93; refine (isNaN_any _ _).mono ?_; rintro e w' ⟨rfl, rfl⟩)
      go_ret
      exact ⟨rfl, rfl⟩
set_option maxRecDepth 60000 in
theorem byValue_any (a b c d : Int) (w : World) : Calls Tryz.prog 85 #[.agg #[.int .i64 a, .int .i64 b], .agg #[.int .i64 c, .int .i64 d]] w fun e w' => e = .returned (.int .i64 (cmpI b d)) ∧ Grown w w' := by
  have HG : Hid (Grown w ((w.alloc (.cells #[.int .i64 a, .int .i64 b] 27)).alloc (.cells #[.int .i64 c, .int .i64 d] 27))) := grown2 (grown_alloc _ _) (grown_alloc _ _)
  go_enter Tryz.func85, Tryz.ntmps85
  go_wp2_with (go_at_call 68; refine (cmpInt_any _ _ _).mono ?_; rintro e w' ⟨rfl, rfl⟩)
  go_ret
  exact ⟨rfl, HG.out⟩
def IntPost (n : Int) (w : World) (e : Ending) (w' : World) : Prop := e = .returned (.int .i64 n) ∧ Below w.heap.size w w'
set_option maxHeartbeats 1000000 in
set_option maxRecDepth 60000 in
theorem sum_any (a : Option Addr) (len cap : Nat) (ls : List Sm) (w : World) (h : SmsAt w a len cap ls) (hM : MayS ls) :
    Calls Tryz.prog 83 #[.slice a len cap] w fun e w' => IntPost (sumN ls ls.length) w e w' := by
  have hl : ls.length = len := h.1
  have h64 : ls.length ≤ 64 := hM.1
  rw [hl]
  have hm : (len : Int) ≤ 64 := by omega
  have HL : Hid (SmsAt w a len cap ls) := h
  have HI : Hid (∀ k, k ≤ len → -(1099511627776 * (k : Int)) ≤ sumN ls k ∧ sumN ls k ≤ 1099511627776 * (k : Int)) := fun k hk => sumN_in hM k (by omega)
  have HV : Hid (∀ k, k < len → -1099511627776 ≤ vAt ls k ∧ vAt ls k ≤ 1099511627776) := fun k hk => vAt_in hM (by omega)
  clear h hM h64
  go_enter Tryz.func83, Tryz.ntmps83
  go_wp2_with fail
  go_loopw [3, 8] (fun s i wr => ∃ (k : Nat) (x : Int), k ≤ len ∧ i = .int .i64 k ∧ s = .int .i64 x ∧ Hid (x = sumN ls k) ∧ Below w.heap.size w wr) (fun _ i _ => len - (intOf i).toNat)
  case atStart => exact ⟨0, 0, Nat.zero_le _, rfl, rfl, rfl, Below.refl _ _⟩
  case round =>
    obtain ⟨k, x, hk, rfl, rfl, hT, hbel⟩ := hrel
    by_cases hlt : k < len
    · obtain ⟨b, off, rfl, hbs, hcell⟩ := (HL.out.below hbel).some (by omega)
      obtain ⟨e0, e1⟩ := hcell k hlt
      clear hcell
      have hk1 : (k : Int) < (len : Int) := by omega
      have hk0 : (0 : Int) ≤ (k : Int) := by omega
      have HN : Hid (x + (ls.getD k sm0).2 = sumN ls (k + 1)) := by show _ = _; rw [hT.out]; rfl
      have hx := HI.out k (by omega)
      rw [← hT.out] at hx
      have hv : -1099511627776 ≤ (ls.getD k sm0).2 ∧ (ls.getD k sm0).2 ≤ 1099511627776 := HV.out k hlt
      generalize ls.getD k sm0 = c at *
      obtain ⟨c1, c2⟩ := c
      simp only at hv
      have hw : wrap64 (x + c2) = x + c2 := w64_id (by omega) (by omega)
      clear hx hv hT
      have HB := Hid.mk9 (below2 hbel (below_alloc wr (.cells #[.int .i64 c1, .int .i64 c2] 27)))
      go_wp2_with fail
      exact ⟨⟨k + 1, x + c2, by omega, by go_num, by rw [hw], HN, HB.out⟩, by simp [intOf]; omega⟩
    · obtain rfl : k = len := by omega
      have HN := Hid.mk9 hT.out
      clear hT HL
      go_wp2_with fail
      go_ret
      exact ⟨ret_int HN.out, hbel⟩
end Go.Proofs.YtihohcmocejijaaGreat.Bk
namespace Go.Proofs.YtihohcmocejijaaGreat.Bk
open Go.ChangeShapes Go.WideShapes Go.ChangeAt Go.RowKit
def Pl (n : Nat) (lt : Nat → Bool) (k : Nat) : Prop := k ≤ n ∧ (∀ j, j < k → lt j = true) ∧ (∀ j, k ≤ j → j < n → lt j = false)
theorem cmpD_neg (x c : Int) : decide (cmpI x c < 0) = decide (x < c) ∧ (cmpI x c == 0) = decide (x = c) := by
  unfold cmpI
  by_cases h1 : x < c
  · simp [h1]; omega
  · by_cases h2 : c < x
    · simp [h1, h2]; omega
    · simp [h1, h2]; omega
set_option maxRecDepth 60000 in
theorem cloD_any (x1 x2 x3 : Int) (x4 : Bool) (x5 : Int) (c : Int) (w : World) : Calls Tryz.prog 67 #[.agg #[.int .i64 x1, .int .i64 x2, .int .i64 x3, .bool x4, .int .i64 x5], .int .i64 c] w fun e w' => e = .returned (.int .i64 (cmpI x1 c)) ∧ Below w.heap.size w w' := by
  go_enter Tryz.func67, Tryz.ntmps67
  go_wp2_with (go_at_call 68; refine (cmpInt_any _ _ _).mono ?_; rintro e w1 ⟨rfl, rfl⟩)
  go_ret
  exact ⟨rfl, below_alloc _ _⟩
def BsD (ds : List Dn) (c : Int) (w : World) (e : Ending) (w' : World) : Prop := Below w.heap.size w w' ∧ ∃ (k : Nat) (q : Bool), Pl ds.length (fun j => decide ((ds.getD j dn0).cl < c)) k ∧ (q = true ↔ k < ds.length ∧ (ds.getD k dn0).cl = c) ∧ e = .returned (.tuple #[.int .i64 (k : Int), .bool q])
set_option maxHeartbeats 2000000 in
set_option maxRecDepth 60000 in
theorem bsD_any (a : Option Addr) (len cap : Nat) (ds : List Dn) (c : Int) (w : World) (h : DnsAt w a len cap ds) (h16 : (len : Int) ≤ 1000) (hmono : ∀ i j, i ≤ j → j < ds.length → decide ((ds.getD j dn0).cl < c) = true → decide ((ds.getD i dn0).cl < c) = true) :
    Calls Tryz.prog 66 #[.slice a len cap, .int .i64 c, .func (.func 67) #[] #[]] w fun e w' => BsD ds c w e w' := by
  have hl : ds.length = len := h.1
  have HL := Hid.mk9 h
  have HM := Hid.mk9 hmono
  clear h hmono
  go_enter Tryz.func66, Tryz.ntmps66
  go_wp2_with fail
  go_loopw [9, 10] (fun si sj wr => ∃ i j : Nat, i ≤ j ∧ j ≤ len ∧ si = .int .i64 i ∧ sj = .int .i64 j ∧ Hid (∀ t, t < i → decide ((ds.getD t dn0).cl < c) = true) ∧ Hid (∀ t, j ≤ t → t < len → decide ((ds.getD t dn0).cl < c) = false) ∧ Hid (Below w.heap.size w wr)) (fun si sj _ => (intOf sj).toNat - (intOf si).toNat)
  case atStart => exact ⟨0, len, Nat.zero_le _, Nat.le_refl _, rfl, rfl, (fun t ht => absurd ht (Nat.not_lt_zero _)), (fun t h1 h2 => by omega), Below.refl _ _⟩
  case round =>
    obtain ⟨i, j, hij, hjl, rfl, rfl, HI, HJ, HB⟩ := hrel
    by_cases hlt : i < j
    · obtain ⟨m, hm⟩ : ∃ m, m = (i + j) / 2 := ⟨_, rfl⟩
      have hm1 : i ≤ m := by omega
      have hm2 : m < j := by omega
      obtain ⟨b, off, rfl, hbs, hcell⟩ := (HL.out.below HB.out).some (by omega)
      obtain ⟨e0, e1, e2, e3, e4⟩ := hcell m (by omega)
      have HLT : Hid (decide ((ds.getD m dn0).cl < c) = true → ∀ t, t < m + 1 → decide ((ds.getD t dn0).cl < c) = true) := Hid.mk9 fun h t ht => HM.out t m (by omega) (by omega) h
      have HGE : Hid (decide ((ds.getD m dn0).cl < c) = false → ∀ t, m ≤ t → t < len → decide ((ds.getD t dn0).cl < c) = false) := Hid.mk9 fun h t h1 h2 => by
        cases hx : decide ((ds.getD t dn0).cl < c) with
        | false => rfl
        | true => rw [HM.out m t h1 (by omega) hx] at h; cases h
      clear hcell
      generalize ds.getD m dn0 = x at *
      obtain ⟨x1, x2, x3, x4, x5⟩ := x
      have HC : Hid (∀ W, Calls Tryz.prog 67 #[.agg #[.int .i64 x1, .int .i64 x2, .int .i64 x3, .bool x4, .int .i64 x5], .int .i64 c] W fun e w' => e = .returned (.int .i64 (cmpI x1 c)) ∧ Below W.heap.size W w') := fun W => cloD_any x1 x2 x3 x4 x5 c W
      have HNE := Hid.mk9 (cmpD_neg x1 c).1
      generalize cmpI x1 c = z9 at *
      simp only at e0 e1 e2 e3 e4 HLT HGE
      have HMI : Hid (∃ q : Int, q = (m : Int) ∧ (i : Int) ≤ q ∧ q < (j : Int)) := Hid.mk9 ⟨m, rfl, by omega, by omega⟩
      have hmi : (m : Int) < (len : Int) := by omega
      have hm0 : (0 : Int) ≤ (m : Int) := by omega
      have hij' : (i : Int) < (j : Int) := by omega
      have hsum : (i : Int) + (j : Int) ≤ 2000 := by omega
      have hsum0 : (0 : Int) ≤ (i : Int) + (j : Int) := by omega
      subst hm
      by_cases hz : z9 < 0
      · have HY := Hid.mk9 (HLT.out (by rw [← HNE.out]; simp [hz]))
        clear HLT HGE HNE HM
        go_wp2_with (go_at_call 67; refine (HC.out _).mono ?_; rintro e w2 ⟨rfl, hb2⟩; have HB2 := Hid.mk9 (below2 HB.out hb2); clear hb2)
        exact ⟨⟨(i + j) / 2 + 1, j, by omega, by omega, by go_num, rfl, HY, HJ, HB2⟩, by simp [intOf]; omega⟩
      · have HY := Hid.mk9 (HGE.out (by rw [← HNE.out]; simp [hz]))
        have hz' : decide (z9 < 0) = false := by simp [hz]
        clear HLT HGE HNE hz HM
        go_wp2_with (go_at_call 67; refine (HC.out _).mono ?_; rintro e w2 ⟨rfl, hb2⟩; have HB2 := Hid.mk9 (below2 HB.out hb2); clear hb2)
        exact ⟨⟨i, (i + j) / 2, by omega, by omega, rfl, by go_num, HI, HY, HB2⟩, by simp [intOf]; omega⟩
    · obtain rfl : i = j := by omega
      have HP : Hid (Pl ds.length (fun t => decide ((ds.getD t dn0).cl < c)) i) := Hid.mk9 ⟨by omega, HI.out, fun t h1 h2 => HJ.out t h1 (by omega)⟩
      by_cases hil : i < len
      · obtain ⟨b, off, rfl, hbs, hcell⟩ := (HL.out.below HB.out).some (by omega)
        obtain ⟨e0, e1, e2, e3, e4⟩ := hcell i hil
        clear hcell
        have HQ : Hid (i < ds.length) := Hid.mk9 (by omega)
        have hil' : (i : Int) < (len : Int) := by omega
        obtain ⟨x, hx⟩ : ∃ x, ds.getD i dn0 = x := ⟨_, rfl⟩
        rw [hx] at e0 e1 e2 e3 e4
        have HXX := Hid.mk9 hx
        clear hx
        obtain ⟨x1, x2, x3, x4, x5⟩ := x
        have HC : Hid (∀ W, Calls Tryz.prog 67 #[.agg #[.int .i64 x1, .int .i64 x2, .int .i64 x3, .bool x4, .int .i64 x5], .int .i64 c] W fun e w' => e = .returned (.int .i64 (cmpI x1 c)) ∧ Below W.heap.size W w') := fun W => cloD_any x1 x2 x3 x4 x5 c W
        have HNE := Hid.mk9 (cmpD_neg x1 c).2
        generalize cmpI x1 c = z9 at *
        simp only at e0 e1 e2 e3 e4
        clear HM HI HJ
        go_wp2_with (go_at_call 67; refine (HC.out _).mono ?_; rintro e w2 ⟨rfl, hb2⟩; have HB2 := Hid.mk9 (below2 HB.out hb2); clear hb2)
        go_returns
        exact ⟨HB2.out, i, (z9 == 0), HP.out, by rw [HNE.out, HXX.out, decide_eq_true_iff]; exact ⟨fun h => ⟨HQ.out, h⟩, fun h => h.2⟩, rfl⟩
      · have HQ : Hid (¬ i < ds.length) := Hid.mk9 (by omega)
        clear HM HI HJ
        go_wp2_with fail
        go_returns
        exact ⟨HB.out, i, false, HP.out, ⟨fun h => absurd h (by decide), fun h => absurd h.1 HQ.out⟩, rfl⟩
theorem cmpL_neg (x c : ByteArray) : decide (Lb.cfB x c < 0) = Lb.ltB x c ∧ (Lb.cfB x c == 0) = decide (x = c) := by
  unfold Lb.cfB
  cases h1 : Lb.ltB x c with
  | true => refine ⟨by simp, ?_⟩; have : ¬ x = c := fun e => by rw [e, Lb.ltB_irrefl] at h1; cases h1
            simp [this]
  | false =>
    cases h2 : Lb.ltB c x with
    | true => refine ⟨by simp, ?_⟩; have : ¬ x = c := fun e => by rw [e, Lb.ltB_irrefl] at h2; cases h2
              simp [this]
    | false => refine ⟨by simp, ?_⟩; simp [Lb.ltB_total h1 h2]
set_option maxRecDepth 60000 in
theorem cloL_any (x1 : ByteArray) (xa : Option Addr) (xn xc : Nat) (c : ByteArray) (w : World) : Calls Tryz.prog 111 #[.agg #[.string x1, .slice xa xn xc], .string c] w fun e w' => e = .returned (.int .i64 (Lb.cfB x1 c)) ∧ Below w.heap.size w w' := by
  go_enter Tryz.func111, Tryz.ntmps111
  go_wp2_with (go_at_call 112; refine (Lb.compare_any _ _ _).mono ?_; rintro e w1 ⟨rfl, rfl⟩)
  go_ret
  exact ⟨rfl, below_alloc _ _⟩
def BsL (ls : List Ln) (c : ByteArray) (w : World) (e : Ending) (w' : World) : Prop := Below w.heap.size w w' ∧ ∃ (k : Nat) (q : Bool), Pl ls.length (fun j => Lb.ltB (ls.getD j ln0).1 c) k ∧ (q = true ↔ k < ls.length ∧ (ls.getD k ln0).1 = c) ∧ e = .returned (.tuple #[.int .i64 (k : Int), .bool q])
set_option maxHeartbeats 2000000 in
set_option maxRecDepth 60000 in
theorem bsL_any (a : Option Addr) (len cap : Nat) (ls : List Ln) (c : ByteArray) (w : World) (h : LnsAt w a len cap ls) (h16 : (len : Int) ≤ 1000) (hmono : ∀ i j, i ≤ j → j < ls.length → Lb.ltB (ls.getD j ln0).1 c = true → Lb.ltB (ls.getD i ln0).1 c = true) :
    Calls Tryz.prog 110 #[.slice a len cap, .string c, .func (.func 111) #[] #[]] w fun e w' => BsL ls c w e w' := by
  have hl : ls.length = len := h.1
  have HL := Hid.mk9 h
  have HM := Hid.mk9 hmono
  clear h hmono
  go_enter Tryz.func110, Tryz.ntmps110
  go_wp2_with fail
  go_loopw [9, 10] (fun si sj wr => ∃ i j : Nat, i ≤ j ∧ j ≤ len ∧ si = .int .i64 i ∧ sj = .int .i64 j ∧ Hid (∀ t, t < i → Lb.ltB (ls.getD t ln0).1 c = true) ∧ Hid (∀ t, j ≤ t → t < len → Lb.ltB (ls.getD t ln0).1 c = false) ∧ Hid (Below w.heap.size w wr)) (fun si sj _ => (intOf sj).toNat - (intOf si).toNat)
  case atStart => exact ⟨0, len, Nat.zero_le _, Nat.le_refl _, rfl, rfl, (fun t ht => absurd ht (Nat.not_lt_zero _)), (fun t h1 h2 => by omega), Below.refl _ _⟩
  case round =>
    obtain ⟨i, j, hij, hjl, rfl, rfl, HI, HJ, HB⟩ := hrel
    by_cases hlt : i < j
    · obtain ⟨m, hm⟩ : ∃ m, m = (i + j) / 2 := ⟨_, rfl⟩
      have hm1 : i ≤ m := by omega
      have hm2 : m < j := by omega
      obtain ⟨b, off, rfl, hbs, hcell⟩ := (HL.out.below HB.out).some (by omega)
      obtain ⟨e0, xa, xn, xc, e1, -⟩ := hcell m (by omega)
      have HLT : Hid (Lb.ltB (ls.getD m ln0).1 c = true → ∀ t, t < m + 1 → Lb.ltB (ls.getD t ln0).1 c = true) := Hid.mk9 fun h t ht => HM.out t m (by omega) (by omega) h
      have HGE : Hid (Lb.ltB (ls.getD m ln0).1 c = false → ∀ t, m ≤ t → t < len → Lb.ltB (ls.getD t ln0).1 c = false) := Hid.mk9 fun h t h1 h2 => by
        cases hx : Lb.ltB (ls.getD t ln0).1 c with
        | false => rfl
        | true => rw [HM.out m t h1 (by omega) hx] at h; cases h
      clear hcell
      generalize ls.getD m ln0 = x at *
      obtain ⟨x1, xL⟩ := x
      have HC : Hid (∀ W, Calls Tryz.prog 111 #[.agg #[.string x1, .slice xa xn xc], .string c] W fun e w' => e = .returned (.int .i64 (Lb.cfB x1 c)) ∧ Below W.heap.size W w') := fun W => cloL_any x1 xa xn xc c W
      have HNE := Hid.mk9 (cmpL_neg x1 c).1
      generalize Lb.cfB x1 c = z9 at *
      simp only at e0 e1 HLT HGE
      have HMI : Hid (∃ q : Int, q = (m : Int) ∧ (i : Int) ≤ q ∧ q < (j : Int)) := Hid.mk9 ⟨m, rfl, by omega, by omega⟩
      have hmi : (m : Int) < (len : Int) := by omega
      have hm0 : (0 : Int) ≤ (m : Int) := by omega
      have hij' : (i : Int) < (j : Int) := by omega
      have hsum : (i : Int) + (j : Int) ≤ 2000 := by omega
      have hsum0 : (0 : Int) ≤ (i : Int) + (j : Int) := by omega
      subst hm
      by_cases hz : z9 < 0
      · have HY := Hid.mk9 (HLT.out (by rw [← HNE.out]; simp [hz]))
        clear HLT HGE HNE HM
        go_wp2_with (go_at_call 111; refine (HC.out _).mono ?_; rintro e w2 ⟨rfl, hb2⟩; have HB2 := Hid.mk9 (below2 HB.out hb2); clear hb2)
        exact ⟨⟨(i + j) / 2 + 1, j, by omega, by omega, by go_num, rfl, HY, HJ, HB2⟩, by simp [intOf]; omega⟩
      · have HY := Hid.mk9 (HGE.out (by rw [← HNE.out]; simp [hz]))
        have hz' : decide (z9 < 0) = false := by simp [hz]
        clear HLT HGE HNE hz HM
        go_wp2_with (go_at_call 111; refine (HC.out _).mono ?_; rintro e w2 ⟨rfl, hb2⟩; have HB2 := Hid.mk9 (below2 HB.out hb2); clear hb2)
        exact ⟨⟨i, (i + j) / 2, by omega, by omega, rfl, by go_num, HI, HY, HB2⟩, by simp [intOf]; omega⟩
    · obtain rfl : i = j := by omega
      have HP : Hid (Pl ls.length (fun t => Lb.ltB (ls.getD t ln0).1 c) i) := Hid.mk9 ⟨by omega, HI.out, fun t h1 h2 => HJ.out t h1 (by omega)⟩
      by_cases hil : i < len
      · obtain ⟨b, off, rfl, hbs, hcell⟩ := (HL.out.below HB.out).some (by omega)
        obtain ⟨e0, xa, xn, xc, e1, -⟩ := hcell i hil
        clear hcell
        have HQ : Hid (i < ls.length) := Hid.mk9 (by omega)
        have hil' : (i : Int) < (len : Int) := by omega
        obtain ⟨x, hx⟩ : ∃ x, ls.getD i ln0 = x := ⟨_, rfl⟩
        rw [hx] at e0
        have HXX := Hid.mk9 hx
        clear hx
        obtain ⟨x1, xL⟩ := x
        have HC : Hid (∀ W, Calls Tryz.prog 111 #[.agg #[.string x1, .slice xa xn xc], .string c] W fun e w' => e = .returned (.int .i64 (Lb.cfB x1 c)) ∧ Below W.heap.size W w') := fun W => cloL_any x1 xa xn xc c W
        have HNE := Hid.mk9 (cmpL_neg x1 c).2
        generalize Lb.cfB x1 c = z9 at *
        simp only at e0
        clear HM HI HJ
        go_wp2_with (go_at_call 111; refine (HC.out _).mono ?_; rintro e w2 ⟨rfl, hb2⟩; have HB2 := Hid.mk9 (below2 HB.out hb2); clear hb2)
        go_returns
        exact ⟨HB2.out, i, (z9 == 0), HP.out, by rw [HNE.out, HXX.out, decide_eq_true_iff]; exact ⟨fun h => ⟨HQ.out, h⟩, fun h => h.2⟩, rfl⟩
      · have HQ : Hid (¬ i < ls.length) := Hid.mk9 (by omega)
        clear HM HI HJ
        go_wp2_with fail
        go_returns
        exact ⟨HB.out, i, false, HP.out, ⟨fun h => absurd h (by decide), fun h => absurd h.1 HQ.out⟩, rfl⟩
end Go.Proofs.YtihohcmocejijaaGreat.Bk
