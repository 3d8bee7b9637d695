/-
  The theorem of parts, plainly; the law TotalParts.
-/
import Derived.Test.YthdeemaanndggaaToG
namespace Go.Proofs.Ythdeemaanndggaa.Bk
open Go.ChangeShapes Go.WideShapes Go.ChangeAt Go.RowKit
theorem may_take {ls : List Sm} (h : MayS ls) (k : Nat) : MayS (ls.take k) := by
  obtain ⟨h1, h2, h3⟩ := (may_iff ls).1 h
  exact (may_iff _).2 ⟨by simp; omega, fun x hx => h2 x (List.mem_of_mem_take hx), List.Pairwise.sublist (List.take_sublist k ls) h3⟩
theorem may_drop {ls : List Sm} (h : MayS ls) (k : Nat) : MayS (ls.drop k) := by
  obtain ⟨h1, h2, h3⟩ := (may_iff ls).1 h
  exact (may_iff _).2 ⟨by simp; omega, fun x hx => h2 x (List.mem_of_mem_drop hx), List.Pairwise.sublist (List.drop_sublist k ls) h3⟩
theorem foldB_in {a : Int} (h : -70368744177664 ≤ a ∧ a ≤ 70368744177664) : foldB a = true := foldB_yes (by omega) (by omega)
/-- what the law asks of the three totals -/
def PartsP (kind : Int) (o1 o2 o : Option Int) (len : Nat) : Prop :=
  (∃ x y z, o1 = some x ∧ o2 = some y ∧ o = some z ∧ foldP kind x y = some z) ∨
  (o1 = none ∧ o2 = none ∧ o = none ∧ len = 0) ∨
  (∃ x, o1 = some x ∧ o2 = none ∧ o = some x ∧ 0 < len) ∨
  (∃ x, o1 = none ∧ o2 = some x ∧ o = some x ∧ 0 < len)
theorem parts_plain {ls : List Sm} {kind : Int} {k : Nat} (h : MayS ls) (hk : k ≤ ls.length) (h1 : 1 ≤ kind) (h4 : kind ≤ 4) : PartsP kind (totP kind (ls.take k)) (totP kind (ls.drop k)) (totP kind ls) ls.length := by
  have h64 : ls.length ≤ 64 := h.1
  have hlt : (ls.take k).length = k := by simp; omega
  have hld : (ls.drop k).length = ls.length - k := by simp
  rcases (show kind = 1 ∨ kind = 4 ∨ kind = 2 ∨ kind = 3 from by omega) with rfl | rfl | rfl | rfl
  · refine .inl ⟨sumN ls k, sumN (ls.drop k) (ls.length - k), sumN ls ls.length, ?_, ?_, ?_, ?_⟩
    · unfold totP; rw [if_pos rfl, hlt, sumN_take k (Nat.le_refl _)]
    · unfold totP; rw [if_pos rfl, hld]
    · unfold totP; rw [if_pos rfl]
    · have b1 := sumN_in h k hk
      have b2 := sumN_in (may_drop h k) (ls.length - k) (by omega)
      rw [foldP_yes (foldB_in (by omega)) (foldB_in (by omega)), if_pos rfl, sumN_drop, show k + (ls.length - k) = ls.length from by omega]
  · refine .inl ⟨(k : Int), ((ls.length - k : Nat) : Int), (ls.length : Int), ?_, ?_, ?_, ?_⟩
    · unfold totP; rw [if_neg (by decide), if_pos rfl, hlt]
    · unfold totP; rw [if_neg (by decide), if_pos rfl, hld]
    · unfold totP; rw [if_neg (by decide), if_pos rfl]
    · rw [foldP_yes (foldB_in (by omega)) (foldB_in (by omega)), if_neg (by decide), if_pos rfl, show ((k : Int) + ((ls.length - k : Nat) : Int)) = (ls.length : Int) from by omega]
  · have e : ∀ l : List Sm, totP 2 l = if l.length = 0 then none else some (minN l (l.length - 1)) := fun l => by
      unfold totP; rw [if_neg (by decide), if_neg (by decide), if_pos rfl]
    rw [e, e, e, hlt, hld]
    by_cases hk0 : k = 0
    · subst hk0
      rw [if_pos rfl]
      by_cases hl0 : ls.length = 0
      · rw [if_pos (by omega), if_pos hl0]
        exact .inr (.inl ⟨rfl, rfl, rfl, hl0⟩)
      · rw [if_neg (by omega), if_neg hl0]
        exact .inr (.inr (.inr ⟨_, rfl, rfl, rfl, by omega⟩))
    · rw [if_neg hk0, if_neg (show ¬ ls.length = 0 from by omega), minN_take (k - 1) (by omega)]
      by_cases hkl : ls.length - k = 0
      · rw [if_pos hkl, show k - 1 = ls.length - 1 from by omega]
        exact .inr (.inr (.inl ⟨_, rfl, rfl, rfl, by omega⟩))
      · rw [if_neg hkl]
        refine .inl ⟨_, _, _, rfl, rfl, rfl, ?_⟩
        have b1 := minN_in h (k - 1) (by omega)
        have b2 := minN_in (may_drop h k) (ls.length - k - 1) (by omega)
        rw [foldP_yes (foldB_in (by omega)) (foldB_in (by omega)), if_neg (by decide), if_neg (by decide), if_pos rfl]
        have := minN_drop ls (k - 1) (ls.length - k - 1)
        rw [show k - 1 + 1 = k from by omega, show k + (ls.length - k - 1) = ls.length - 1 from by omega] at this
        rw [this]
  · have e : ∀ l : List Sm, totP 3 l = if l.length = 0 then none else some (maxN l (l.length - 1)) := fun l => by
      unfold totP; rw [if_neg (by decide), if_neg (by decide), if_neg (by decide), if_pos rfl]
    rw [e, e, e, hlt, hld]
    by_cases hk0 : k = 0
    · subst hk0
      rw [if_pos rfl]
      by_cases hl0 : ls.length = 0
      · rw [if_pos (by omega), if_pos hl0]
        exact .inr (.inl ⟨rfl, rfl, rfl, hl0⟩)
      · rw [if_neg (by omega), if_neg hl0]
        exact .inr (.inr (.inr ⟨_, rfl, rfl, rfl, by omega⟩))
    · rw [if_neg hk0, if_neg (show ¬ ls.length = 0 from by omega), maxN_take (k - 1) (by omega)]
      by_cases hkl : ls.length - k = 0
      · rw [if_pos hkl, show k - 1 = ls.length - 1 from by omega]
        exact .inr (.inr (.inl ⟨_, rfl, rfl, rfl, by omega⟩))
      · rw [if_neg hkl]
        refine .inl ⟨_, _, _, rfl, rfl, rfl, ?_⟩
        have b1 := maxN_in h (k - 1) (by omega)
        have b2 := maxN_in (may_drop h k) (ls.length - k - 1) (by omega)
        rw [foldP_yes (foldB_in (by omega)) (foldB_in (by omega)), if_neg (by decide), if_neg (by decide), if_neg (by decide), if_pos rfl]
        have := maxN_drop ls (k - 1) (ls.length - k - 1)
        rw [show k - 1 + 1 = k from by omega, show k + (ls.length - k - 1) = ls.length - 1 from by omega] at this
        rw [this]
theorem slice_fromT (a : Option Addr) (len cap : Nat) (ls : List Sm) (k : Nat) (hk : k ≤ len) :
    ∃ a', (if cap = k then a else Option.map (fun x => x.add (k * 2)) a) = a' ∧ ∀ w, SmsAt w a len cap ls → SmsAt w a' (len - k) (cap - k) (ls.drop k) :=
  ⟨_, rfl, fun _ h => sms_drop h k hk⟩
def OfArm (kind : Int) (a : Option Addr) (len cap : Nat) (o : Option Int) (w0 : World) : Prop := ∀ W, Below w0.heap.size w0 W → Calls Try.prog 7 #[.int .i64 kind, .slice a len cap] W fun e w' => Below W.heap.size W w' ∧ e = .returned (.tuple #[.int .i64 (o.getD 0), .bool o.isSome])
theorem of_arm {kind : Int} {a : Option Addr} {len cap : Nat} {ls : List Sm} {w0 : World} {o : Option Int} (h : SmsAt w0 a len cap ls) (hM : MayS ls) (ho : totP kind ls = o) : OfArm kind a len cap o w0 := fun W hb => by
  have := of_yes kind a len cap ls W (h.below hb) hM
  rw [ho] at this
  exact this
set_option maxHeartbeats 2000000 in
set_option maxRecDepth 60000 in
theorem totalParts_any (kind : Int) (a : Option Addr) (len cap : Nat) (ls : List Sm) (c : Int) (w : World) (h : SmsAt w a len cap ls) (hc0 : 0 ≤ c) (hc1 : c < 256) :
    Calls Try.prog 5 #[.int .i64 kind, .slice a len cap, .int .u8 c] w fun e w' => TruePost w e w' := by
  have hl : ls.length = len := h.1
  have hca : len ≤ cap := h.2.1
  have hm : cap ≤ maxLen := h.2.2.1
  unfold maxLen at hm
  have HL := Hid.mk9 h
  have HB := Hid.mk9 (Below.refl w.heap.size w)
  clear h
  by_cases hbig : 64 < len
  · have hb' : (64 : Int) < (len : Int) := by omega
    go_enter Try.func5, Try.ntmps5
    go_wp2_with (go_at_call 6; refine (awake_t _).mono ?_; rintro e w3 ⟨rfl, hb1⟩; replace HB := Hid.mk9 (below2 HB.out hb1); clear hb1)
    go_ret
    exact ⟨rfl, HB.out⟩
  have hb' : (len : Int) ≤ 64 := by omega
  clear hbig
  by_cases hM : MayS ls
  rotate_left
  · have HM := Hid.mk9 (mayS_false HL.out hM)
    clear hM
    go_enter Try.func5, Try.ntmps5
    go_wp2_with (first | (go_at_call 10; refine HM.out.mono ?_; rintro e w1 ⟨rfl, hb1⟩; replace HB := Hid.mk9 (below2 HB.out hb1); clear hb1) | (go_at_call 6; refine (awake_t _).mono ?_; rintro e w3 ⟨rfl, hb1⟩; replace HB := Hid.mk9 (below2 HB.out hb1); clear hb1))
    go_ret
    exact ⟨rfl, HB.out⟩
  have HM := Hid.mk9 (mayS_true HL.out hM)
  by_cases h1 : kind < 1
  · clear hM
    go_enter Try.func5, Try.ntmps5
    go_wp2_with (first | (go_at_call 10; refine HM.out.mono ?_; rintro e w1 ⟨rfl, hb1⟩; replace HB := Hid.mk9 (below2 HB.out hb1); clear hb1) | (go_at_call 6; refine (awake_t _).mono ?_; rintro e w3 ⟨rfl, hb1⟩; replace HB := Hid.mk9 (below2 HB.out hb1); clear hb1))
    go_ret
    exact ⟨rfl, HB.out⟩
  have d1 : decide (kind < 1) = false := decide_eq_false h1
  by_cases h4 : 4 < kind
  · clear hM h1
    go_enter Try.func5, Try.ntmps5
    go_wp2_with (first | (go_at_call 10; refine HM.out.mono ?_; rintro e w1 ⟨rfl, hb1⟩; replace HB := Hid.mk9 (below2 HB.out hb1); clear hb1) | (go_at_call 6; refine (awake_t _).mono ?_; rintro e w3 ⟨rfl, hb1⟩; replace HB := Hid.mk9 (below2 HB.out hb1); clear hb1))
    go_ret
    exact ⟨rfl, HB.out⟩
  have d4 : decide (4 < kind) = false := decide_eq_false h4
  obtain ⟨c', rfl⟩ : ∃ c' : Nat, c = (c' : Int) := ⟨c.toNat, by omega⟩
  have wk : (c' : Int) % ((len : Int) + 1) = ((c' % (len + 1) : Nat) : Int) := (Int.natCast_emod c' (len + 1)).symm
  have hk : c' % (len + 1) ≤ len := Nat.le_of_lt_succ (Nat.mod_lt _ (by omega))
  generalize c' % (len + 1) = k at *
  have HP := parts_plain (kind := kind) (k := k) hM (by omega) (by omega) (by omega)
  obtain ⟨a', hif, hrow⟩ := slice_fromT a len cap ls k hk
  have A1 := Hid.mk9 (of_arm (kind := kind) (sms_first HL.out k hk) (may_take hM k) rfl)
  have A2 := Hid.mk9 (of_arm (kind := kind) (hrow w HL.out) (may_drop hM k) rfl)
  have A3 := Hid.mk9 (of_arm (kind := kind) HL.out hM rfl)
  have hk1 : (k : Int) ≤ (len : Int) := by omega
  have hk2 : (k : Int) ≤ (cap : Int) := by omega
  have hk3 : (0 : Int) ≤ (k : Int) := by omega
  have hlc : (len : Int) ≤ (cap : Int) := by omega
  have hlr : Hid (ls.length = len) := hl
  generalize totP kind (ls.take k) = o1 at *
  generalize totP kind (ls.drop k) = o2 at *
  generalize totP kind ls = o at *
  clear hrow hM h1 h4
  rw [hl] at HP
  rcases HP with ⟨x, y, z, rfl, rfl, rfl, hf⟩ | ⟨rfl, rfl, rfl, h0⟩ | ⟨x, rfl, rfl, rfl, h0⟩ | ⟨x, rfl, rfl, rfl, h0⟩
  · have HF := Hid.mk9 (fold_arm hf)
    clear hf
    go_enter Try.func5, Try.ntmps5
    go_wp2_with (first
      | (go_at_call 10; refine HM.out.mono ?_; rintro e w1 ⟨rfl, hb1⟩; replace HB := Hid.mk9 (below2 HB.out hb1); clear hb1)
      | (go_at_call_of 7 a'; refine (A2.out _ HB.out).mono ?_; rintro e w1 ⟨hb1, rfl⟩; replace HB := Hid.mk9 (below2 HB.out hb1); clear hb1)
      | (go_at_call_of 7 k; refine (A1.out _ HB.out).mono ?_; rintro e w1 ⟨hb1, rfl⟩; replace HB := Hid.mk9 (below2 HB.out hb1); clear hb1)
      | (go_at_call 7; refine (A3.out _ HB.out).mono ?_; rintro e w1 ⟨hb1, rfl⟩; replace HB := Hid.mk9 (below2 HB.out hb1); clear hb1)
      | (go_at_call 9; refine (HF.out _).mono ?_; rintro e w1 ⟨rfl, hb1⟩; replace HB := Hid.mk9 (below2 HB.out hb1); clear hb1)
      | (go_at_call 6; refine (awake_t _).mono ?_; rintro e w3 ⟨rfl, hb1⟩; replace HB := Hid.mk9 (below2 HB.out hb1); clear hb1))
    go_ret
    exact ⟨rfl, HB.out⟩
  · have hz : decide (0 < len) = false := by simp [h0]
    clear h0
    go_enter Try.func5, Try.ntmps5
    go_wp2_with (first
      | (go_at_call 10; refine HM.out.mono ?_; rintro e w1 ⟨rfl, hb1⟩; replace HB := Hid.mk9 (below2 HB.out hb1); clear hb1)
      | (go_at_call_of 7 a'; refine (A2.out _ HB.out).mono ?_; rintro e w1 ⟨hb1, rfl⟩; replace HB := Hid.mk9 (below2 HB.out hb1); clear hb1)
      | (go_at_call_of 7 k; refine (A1.out _ HB.out).mono ?_; rintro e w1 ⟨hb1, rfl⟩; replace HB := Hid.mk9 (below2 HB.out hb1); clear hb1)
      | (go_at_call 7; refine (A3.out _ HB.out).mono ?_; rintro e w1 ⟨hb1, rfl⟩; replace HB := Hid.mk9 (below2 HB.out hb1); clear hb1)
      | (go_at_call 6; refine (awake_t _).mono ?_; rintro e w3 ⟨rfl, hb1⟩; replace HB := Hid.mk9 (below2 HB.out hb1); clear hb1))
    go_ret
    exact ⟨rfl, HB.out⟩
  · go_enter Try.func5, Try.ntmps5
    go_wp2_with (first
      | (go_at_call 10; refine HM.out.mono ?_; rintro e w1 ⟨rfl, hb1⟩; replace HB := Hid.mk9 (below2 HB.out hb1); clear hb1)
      | (go_at_call_of 7 a'; refine (A2.out _ HB.out).mono ?_; rintro e w1 ⟨hb1, rfl⟩; replace HB := Hid.mk9 (below2 HB.out hb1); clear hb1)
      | (go_at_call_of 7 k; refine (A1.out _ HB.out).mono ?_; rintro e w1 ⟨hb1, rfl⟩; replace HB := Hid.mk9 (below2 HB.out hb1); clear hb1)
      | (go_at_call 7; refine (A3.out _ HB.out).mono ?_; rintro e w1 ⟨hb1, rfl⟩; replace HB := Hid.mk9 (below2 HB.out hb1); clear hb1)
      | (go_at_call 6; refine (awake_t _).mono ?_; rintro e w3 ⟨rfl, hb1⟩; replace HB := Hid.mk9 (below2 HB.out hb1); clear hb1))
    go_ret
    exact ⟨rfl, HB.out⟩
  · go_enter Try.func5, Try.ntmps5
    go_wp2_with (first
      | (go_at_call 10; refine HM.out.mono ?_; rintro e w1 ⟨rfl, hb1⟩; replace HB := Hid.mk9 (below2 HB.out hb1); clear hb1)
      | (go_at_call_of 7 a'; refine (A2.out _ HB.out).mono ?_; rintro e w1 ⟨hb1, rfl⟩; replace HB := Hid.mk9 (below2 HB.out hb1); clear hb1)
      | (go_at_call_of 7 k; refine (A1.out _ HB.out).mono ?_; rintro e w1 ⟨hb1, rfl⟩; replace HB := Hid.mk9 (below2 HB.out hb1); clear hb1)
      | (go_at_call 7; refine (A3.out _ HB.out).mono ?_; rintro e w1 ⟨hb1, rfl⟩; replace HB := Hid.mk9 (below2 HB.out hb1); clear hb1)
      | (go_at_call 6; refine (awake_t _).mono ?_; rintro e w3 ⟨rfl, hb1⟩; replace HB := Hid.mk9 (below2 HB.out hb1); clear hb1))
    go_ret
    exact ⟨rfl, HB.out⟩
theorem u8_in {c : Int} (h : (Lit.int .u8 c).wf = true) : 0 ≤ c ∧ c < 256 := by
  simp only [Lit.wf, Bool.and_eq_true, decide_eq_true_eq, show IntKind.u8.min = 0 from rfl, show IntKind.u8.max = 255 from rfl] at h
  omega
end Go.Proofs.Ythdeemaanndggaa.Bk
