/-
  The plain machine of taps; the contracts of Put, Take, Next, Spread by it; awake; nobody's Next.
-/
import Derived.Test.YtpolehfkjpbofaaTaG
namespace Go.Proofs.Ytpolehfkjpbofaa.Ta
open Go.ChangeShapes Go.WideShapes Go.ChangeAt Go.RowKit
open Go.Conc (G solo rcase scase)
def putS (P : List (List Int)) (R : Nat) (pipe n : Int) : List (List Int) × Int :=
  if hasP pipe P.length = true then (if (P.getD pipe.toNat []).length < R then (P.set pipe.toNat (P.getD pipe.toNat [] ++ [n]), 0) else (P, 6)) else (P, 1)
def takeS (P : List (List Int)) (pipe : Int) : List (List Int) × Int × Int :=
  if hasP pipe P.length = true then (match P.getD pipe.toNat [] with | [] => (P, 0, 5) | x :: l => (P.set pipe.toNat l, x, 0)) else (P, 0, 1)
/-- how far behind the turn the first pipe that is not empty stands, of so many -/
def fndS (P : List (List Int)) (t : Nat) : Nat → Nat → Option Nat
  | 0, _ => none
  | f + 1, d => if P.getD ((t + d) % P.length) [] = [] then fndS P t f (d + 1) else some d
theorem fndS_some {P : List (List Int)} {t : Nat} : ∀ {f d r : Nat}, fndS P t f d = some r → d ≤ r ∧ r < d + f ∧ P.getD ((t + r) % P.length) [] ≠ [] ∧ ∀ i, d ≤ i → i < r → P.getD ((t + i) % P.length) [] = [] := by
  intro f
  induction f with
  | zero => intro d r h; simp [fndS] at h
  | succ f ih =>
    intro d r h
    unfold fndS at h
    split at h
    · rename_i he
      obtain ⟨h1, h2, h3, h4⟩ := ih h
      refine ⟨by omega, by omega, h3, fun i hi hr => ?_⟩
      rcases Nat.eq_or_lt_of_le hi with e | e
      · subst e; exact he
      · exact h4 i (by omega) hr
    · rename_i he
      injection h with h
      subst h
      exact ⟨Nat.le_refl _, by omega, he, fun i hi hr => by omega⟩
theorem fndS_none {P : List (List Int)} {t : Nat} : ∀ {f d : Nat}, fndS P t f d = none → ∀ i, d ≤ i → i < d + f → P.getD ((t + i) % P.length) [] = [] := by
  intro f
  induction f with
  | zero => intro d h i hi hd; omega
  | succ f ih =>
    intro d h i hi hd
    unfold fndS at h
    split at h
    · rename_i he
      rcases Nat.eq_or_lt_of_le hi with e | e
      · subst e; exact he
      · exact ih h i (by omega) (by omega)
    · cases h
/-- every pipe is met from the turn on -/
theorem all_met {k t i : Nat} (ht : t < k) (hi : i < k) : ∃ d, d < k ∧ (t + d) % k = i := by
  by_cases h : t ≤ i
  · exact ⟨i - t, by omega, by rw [show t + (i - t) = i by omega]; exact Nat.mod_eq_of_lt hi⟩
  · exact ⟨i + k - t, by omega, by rw [show t + (i + k - t) = i + k by omega, Nat.add_mod_right]; exact Nat.mod_eq_of_lt hi⟩
theorem fndS_all {P : List (List Int)} {t : Nat} (ht : t < P.length) (h : fndS P t P.length 0 = none) : ∀ i, i < P.length → P.getD i [] = [] := by
  intro i hi
  obtain ⟨d, hd, e⟩ := all_met ht hi
  have := fndS_none h d (Nat.zero_le _) (by omega)
  rwa [e] at this
/-- pipes, turn, which, what, error -/
def nextS (P : List (List Int)) (t : Nat) : List (List Int) × Nat × Int × Int × Int :=
  match fndS P t P.length 0 with
  | none => (P, t, -1, 0, 5)
  | some d => (P.set ((t + d) % P.length) (P.getD ((t + d) % P.length) []).tail, ((t + d) % P.length + 1) % P.length, ((t + d) % P.length : Nat), (P.getD ((t + d) % P.length) []).headD 0, 0)
def leastS (l : List Int) : Nat → Nat
  | 0 => 0
  | n + 1 => if n = 0 then 0 else if l.getD n 0 < l.getD (leastS l n) 0 then n else leastS l n
theorem leastS_to (l : List Int) : ∀ n, LeastTo l (n + 1) (leastS l (n + 1)) := by
  intro n
  induction n with
  | zero => simp [leastS]; exact leastTo_one l
  | succ n ih =>
    unfold leastS
    rw [if_neg (by omega)]
    split
    · rename_i h; exact leastTo_new ih h
    · rename_i h; exact leastTo_old ih h
def spreadS (P : List (List Int)) (R : Nat) (n : Int) : List (List Int) × Int × Int :=
  let m := leastS (cntsP P) P.length
  if (P.getD m []).length < R then (P.set m (P.getD m [] ++ [n]), (m : Nat), 0) else (P, -1, 6)
theorem hasP_nat {pipe : Int} {k : Nat} (h : hasP pipe k = true) : pipe.toNat < k ∧ pipe = (pipe.toNat : Int) := by
  simp [hasP] at h
  omega
section
variable {B p R t : Nat} {P : List (List Int)} {w : World}
theorem put_any (h : TapAt B w p P R t) (hk : P.length ≤ 8) (pipe n : Int) : Calls Try.prog 9 #[.pointer (some ⟨p, 0, none⟩), .int .i64 pipe, .int .i64 n] w fun e w' => TaPost B w p (.int .i64 (putS P R pipe n).2) (putS P R pipe n).1 R t e w' := by
  unfold putS
  split
  · rename_i hp
    obtain ⟨h1, h2⟩ := hasP_nat hp
    rw [h2]
    split
    · rename_i hr
      exact put_ok B p _ R t n P w h h1 hr hk
    · rename_i hr
      exact put_full B p _ R t n P w h h1 (Nat.le_of_not_lt hr) hk
  · rename_i hp
    exact (put_arg _ pipe n _ w (cnt_tap h) (by simpa using hp)).mono fun e w' ⟨q, q2⟩ => by subst q; subst q2; exact TaPost.same h
theorem take_any (h : TapAt B w p P R t) (hk : P.length ≤ 8) (pipe : Int) : Calls Try.prog 11 #[.pointer (some ⟨p, 0, none⟩), .int .i64 pipe] w fun e w' => TaPost B w p (.tuple #[.int .i64 (takeS P pipe).2.1, .int .i64 (takeS P pipe).2.2]) (takeS P pipe).1 R t e w' := by
  unfold takeS
  split
  · rename_i hp
    obtain ⟨h1, h2⟩ := hasP_nat hp
    rw [h2]
    cases hl : P.getD ((pipe.toNat : Int)).toNat [] with
    | nil => exact take_none B p _ R t P w h h1 hl hk
    | cons x l => exact take_ok B p _ R t x l P w h h1 hl hk
  · rename_i hp
    exact (take_arg _ pipe _ w (cnt_tap h) (by simpa using hp)).mono fun e w' ⟨q, q2⟩ => by subst q; subst q2; exact TaPost.same h
theorem next_any (h : TapAt B w p P R t) (hk : P.length ≤ 8) (ht : t < P.length) : Calls Try.prog 13 #[.pointer (some ⟨p, 0, none⟩)] w fun e w' => TaPost B w p (.tuple #[.int .i64 (nextS P t).2.2.1, .int .i64 (nextS P t).2.2.2.1, .int .i64 (nextS P t).2.2.2.2]) (nextS P t).1 R (nextS P t).2.1 e w' := by
  unfold nextS
  cases hf : fndS P t P.length 0 with
  | none => exact next_none B p R t _ P w h rfl (fndS_all ht hf) hk ht
  | some d =>
    obtain ⟨_, h2, h3, h4⟩ := fndS_some hf
    cases hl : P.getD ((t + d) % P.length) [] with
    | nil => exact absurd hl h3
    | cons x l =>
      simp only [hl, List.tail_cons, List.headD_cons]
      exact next_ok B p R t _ d x l P w h rfl (fun i hi => h4 i (Nat.zero_le _) hi) hl (by omega) hk ht
theorem spread_any (h : TapAt B w p P R t) (hk : P.length ≤ 8) (h0 : 0 < P.length) (n : Int) : Calls Try.prog 15 #[.pointer (some ⟨p, 0, none⟩), .int .i64 n] w fun e w' => TaPost B w p (.tuple #[.int .i64 (spreadS P R n).2.1, .int .i64 (spreadS P R n).2.2]) (spreadS P R n).1 R t e w' := by
  have hm := leastS_to (cntsP P) (P.length - 1)
  rw [show P.length - 1 + 1 = P.length by omega] at hm
  unfold spreadS
  simp only
  split
  · rename_i hr
    exact spread_ok B p R t _ _ n P w h rfl hk hm hr
  · rename_i hr
    exact spread_full B p R t _ _ n P w h rfl hk hm (by simpa using hr)
end
def NobPost (w : World) (e : Ending) (w' : World) : Prop := e = .returned (.tuple #[.int .i64 (-1), .int .i64 0, .int .i64 5]) ∧ w' = w
set_option maxRecDepth 60000 in
theorem next_nob (v : Value) (w : World) (h : Cnt w v 0) : Calls Try.prog 13 #[v] w fun e w' => NobPost w e w' := by
  have H := Hid.mk9 h
  clear h
  go_enter Try.func13, Try.ntmps13
  go_wp2_with fail
  go_step3
  go_wp2_with (go_at_call 21; refine H.out.mono ?_; rintro e w' ⟨rfl, rfl⟩)
  go_step3
  go_wp2_with fail
  go_loopw [12] (fun i wr => i = .int .i64 0 ∧ wr = w') (fun _ _ => 0)
  case atStart => exact ⟨rfl, rfl⟩
  case round =>
    obtain ⟨rfl, rfl⟩ := hrel
    go_wp2_with fail
    refine bodyPost_ret (results_tmp3 rfl _ _ _) rfl ?_
    exact ⟨rfl, rfl⟩
theorem aw_0 (B : Nat) (W : World) (p : Nat) (h : TapAt B W p [[], []] 3 0) : Calls Try.prog 9 #[.pointer (some ⟨p, 0, none⟩), .int .i64 0, .int .i64 5] W fun e w' => TaPost B W p (.int .i64 0) [[5], []] 3 0 e w' := by
  have := put_any h (by decide) 0 5
  rw [show putS [[], []] 3 0 5 = ([[5], []], 0) from by decide] at this
  exact this
theorem aw_1 (B : Nat) (W : World) (p : Nat) (h : TapAt B W p [[5], []] 3 0) : Calls Try.prog 9 #[.pointer (some ⟨p, 0, none⟩), .int .i64 0, .int .i64 6] W fun e w' => TaPost B W p (.int .i64 0) [[5, 6], []] 3 0 e w' := by
  have := put_any h (by decide) 0 6
  rw [show putS [[5], []] 3 0 6 = ([[5, 6], []], 0) from by decide] at this
  exact this
theorem aw_2 (B : Nat) (W : World) (p : Nat) (h : TapAt B W p [[5, 6], []] 3 0) : Calls Try.prog 9 #[.pointer (some ⟨p, 0, none⟩), .int .i64 1, .int .i64 7] W fun e w' => TaPost B W p (.int .i64 0) [[5, 6], [7]] 3 0 e w' := by
  have := put_any h (by decide) 1 7
  rw [show putS [[5, 6], []] 3 1 7 = ([[5, 6], [7]], 0) from by decide] at this
  exact this
theorem aw_3 (B : Nat) (W : World) (p : Nat) (h : TapAt B W p [[5, 6], [7]] 3 0) : Calls Try.prog 13 #[.pointer (some ⟨p, 0, none⟩)] W fun e w' => TaPost B W p (.tuple #[.int .i64 0, .int .i64 5, .int .i64 0]) [[6], [7]] 3 1 e w' := by
  have := next_any h (by decide) (by decide)
  rw [show nextS [[5, 6], [7]] 0 = ([[6], [7]], 1, 0, 5, 0) from by decide] at this
  exact this
theorem aw_4 (B : Nat) (W : World) (p : Nat) (h : TapAt B W p [[6], [7]] 3 1) : Calls Try.prog 13 #[.pointer (some ⟨p, 0, none⟩)] W fun e w' => TaPost B W p (.tuple #[.int .i64 1, .int .i64 7, .int .i64 0]) [[6], []] 3 0 e w' := by
  have := next_any h (by decide) (by decide)
  rw [show nextS [[6], [7]] 1 = ([[6], []], 0, 1, 7, 0) from by decide] at this
  exact this
theorem aw_5 (B : Nat) (W : World) (p : Nat) (h : TapAt B W p [[6], []] 3 0) : Calls Try.prog 13 #[.pointer (some ⟨p, 0, none⟩)] W fun e w' => TaPost B W p (.tuple #[.int .i64 0, .int .i64 6, .int .i64 0]) [[], []] 3 1 e w' := by
  have := next_any h (by decide) (by decide)
  rw [show nextS [[6], []] 0 = ([[], []], 1, 0, 6, 0) from by decide] at this
  exact this
set_option maxHeartbeats 2000000 in
set_option maxRecDepth 60000 in
theorem awake_any (w : World) : Calls Try.prog 8 #[] w fun e w' => e = .returned (.bool true) ∧ Below w.heap.size w w' := by
  have HN := Hid.mk9 (new_any 2 3 w ⟨by omega, by omega⟩ ⟨by omega, by omega⟩)
  have F0 := Hid.mk9 (aw_0 w.heap.size)
  have F1 := Hid.mk9 (aw_1 w.heap.size)
  have F2 := Hid.mk9 (aw_2 w.heap.size)
  have F3 := Hid.mk9 (aw_3 w.heap.size)
  have F4 := Hid.mk9 (aw_4 w.heap.size)
  have F5 := Hid.mk9 (aw_5 w.heap.size)
  have HB := Hid.mk9 (Below.refl w.heap.size w)
  go_enter Try.func8, Try.ntmps8
  go_upto_region 4 with (go_at_call 7; refine HN.out.mono ?_; rintro e w1 ⟨p, rfl, hT, hB⟩; have HT := Hid.mk9 hT; replace HB := Hid.mk9 hB; clear hT hB HN)
  go_upto_region 5 with (go_at_call 9; refine (F0.out _ _ HT.out).mono ?_; rintro e w1 ⟨rfl, hT, hB, _, _⟩; clear F0; replace HT := Hid.mk9 hT; replace HB := Hid.mk9 (HB.out.trans hB); clear hT hB)
  go_upto_region 6 with (go_at_call 9; refine (F1.out _ _ HT.out).mono ?_; rintro e w1 ⟨rfl, hT, hB, _, _⟩; clear F1; replace HT := Hid.mk9 hT; replace HB := Hid.mk9 (HB.out.trans hB); clear hT hB)
  go_upto_region 7 with (go_at_call 9; refine (F2.out _ _ HT.out).mono ?_; rintro e w1 ⟨rfl, hT, hB, _, _⟩; clear F2; replace HT := Hid.mk9 hT; replace HB := Hid.mk9 (HB.out.trans hB); clear hT hB)
  go_upto_region 8 with (go_at_call 13; refine (F3.out _ _ HT.out).mono ?_; rintro e w1 ⟨rfl, hT, hB, _, _⟩; clear F3; replace HT := Hid.mk9 hT; replace HB := Hid.mk9 (HB.out.trans hB); clear hT hB)
  go_upto_region 9 with (go_at_call 13; refine (F4.out _ _ HT.out).mono ?_; rintro e w1 ⟨rfl, hT, hB, _, _⟩; clear F4; replace HT := Hid.mk9 hT; replace HB := Hid.mk9 (HB.out.trans hB); clear hT hB)
  go_wp2_with (go_at_call 13; refine (F5.out _ _ HT.out).mono ?_; rintro e w1 ⟨rfl, hT, hB, _, _⟩; clear F5; replace HT := Hid.mk9 hT; replace HB := Hid.mk9 (HB.out.trans hB); clear hT hB)
  go_ret
  exact ⟨rfl, HB.out⟩
end Go.Proofs.Ytpolehfkjpbofaa.Ta
