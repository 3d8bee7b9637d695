/-
  The contracts of Fold and of the answer that it is held against, over any row of numbers of 64 bits.
-/
import Derived.Test.YtijnoibpebmdbaaRows
import Derived.Test.YtijnoibpebmdbaaPlain
import Derived.Test.YtijnoibpebmdbaaWalks
import Derived.WalkKit
import Derived.ProofKit
import Derived.OpenShut
import Derived.Below
namespace Go.Proofs.Ytijnoibpebmdbaa
open Go.ChangeShapes Go.WideShapes Go.ChangeAt Go.RowKit

/-- one number folded into a state -/
def stepN (s n : Nat) : Nat := mixN (((s ^^^ n) + 11400714819323198485) % 18446744073709551616)
/-- numbers folded from a seed -/
def foldN (s : Nat) (l : List Nat) : Nat := l.foldl stepN (mixN s)
theorem stepN_lt (s n : Nat) : stepN s n < 18446744073709551616 := mixN_lt _
theorem foldN_snoc (s : Nat) (l : List Nat) (n : Nat) : foldN s (l ++ [n]) = stepN (foldN s l) n := by
  unfold foldN
  rw [List.foldl_append, List.foldl_cons, List.foldl_nil]
theorem foldN_nil (s : Nat) : foldN s [] = mixN s := by
  unfold foldN
  rw [List.foldl_nil]
theorem foldl_lt (l : List Nat) : ∀ s, s < 18446744073709551616 → l.foldl stepN s < 18446744073709551616 := by
  induction l with
  | nil =>
    intro s hs
    rw [List.foldl_nil]
    exact hs
  | cons a l ih =>
    intro s _
    rw [List.foldl_cons]
    exact ih _ (stepN_lt s a)
theorem foldN_lt (s : Nat) (l : List Nat) : foldN s l < 18446744073709551616 := foldl_lt l _ (mixN_lt s)
theorem foldN_take (s : Nat) (l : List Nat) (k : Nat) (h : k < l.length) : foldN s (l.take (k + 1)) = stepN (foldN s (l.take k)) (l.getD k 0) := by
  rw [List.take_succ_eq_append_getElem h, foldN_snoc, show l.getD k 0 = l[k] from by simp [h]]
theorem getD_lt (l : List Nat) (hb : ∀ n ∈ l, n < 18446744073709551616) (k : Nat) : l.getD k 0 < 18446744073709551616 := by
  by_cases h : k < l.length
  · have := hb l[k] (List.getElem_mem h)
    simpa [h] using this
  · simp [h]
theorem step_form (s n : Nat) (hs : s < 18446744073709551616) (hn : n < 18446744073709551616) :
    IntKind.u64.wrap (bits .xor .u64 (s : Int) (n : Int) + 11400714819323198485) = ((((s ^^^ n) + 11400714819323198485) % 18446744073709551616 : Nat) : Int) := by
  rw [u64_xor_nat s n hs hn, IntKind.wrap_u64]
  omega

theorem step_any (s n : Nat) (w : World) (hs : s < 18446744073709551616) (hn : n < 18446744073709551616) :
    Calls Try.prog 21 #[.int .u64 (s : Int), .int .u64 (n : Int)] w fun e w' => e = .returned (.int .u64 ((stepN s n : Nat) : Int)) ∧ w' = w := by
  have h := step_form s n hs hn
  go_enter Try.func21, Try.ntmps21
  go_wp2_with (go_at_call 8; refine (mix_any _ _ ?_).mono ?_; (exact Nat.mod_lt _ (by decide)); rintro e w' ⟨rfl, rfl⟩)
  go_ret
  exact ⟨rfl, rfl⟩

theorem fold_none (s : Nat) (a : Option Addr) (cap : Nat) (w : World) (hs : s < 18446744073709551616) :
    Calls Try.prog 12 #[.int .u64 (s : Int), .slice a 0 cap] w fun e w' => e = .returned (.int .u64 ((foldN s [] : Nat) : Int)) ∧ w' = w := by
  go_enter Try.func12, Try.ntmps12
  go_wp2_with (go_at_call 8; refine (mix_any _ _ hs).mono ?_; rintro e w' ⟨rfl, rfl⟩)
  refine wp_loop_rounds 1 ?_
  rw [rounds_succ]
  go_wp2
  go_ret
  exact ⟨ret_int (by rw [foldN_nil]), rfl⟩

theorem refFold_none (s : Nat) (a : Option Addr) (cap : Nat) (w : World) (hs : s < 18446744073709551616) :
    Calls Try.prog 13 #[.int .u64 (s : Int), .slice a 0 cap] w fun e w' => e = .returned (.int .u64 ((foldN s [] : Nat) : Int)) ∧ w' = w := by
  go_enter Try.func13, Try.ntmps13
  go_wp2_with (go_at_call 9; refine (refMix_any _ _ hs).mono ?_; rintro e w' ⟨rfl, rfl⟩)
  refine wp_loop_rounds 1 ?_
  rw [rounds_succ]
  go_wp2
  go_ret
  exact ⟨ret_int (by rw [foldN_nil]), rfl⟩

theorem fold_some (s b off cap : Nat) (l : List Nat) (w : World) (hs : s < 18446744073709551616) (hm : l.length ≤ maxLen) (hb : ∀ n ∈ l, n < 18446744073709551616)
    (hcell : ∀ i, i < l.length → w.cell? ⟨b, off + i, none⟩ = some (.int .u64 ((l.getD i 0 : Nat) : Int))) :
    Calls Try.prog 12 #[.int .u64 (s : Int), .slice (some ⟨b, off, none⟩) l.length cap] w fun e w' => e = .returned (.int .u64 ((foldN s l : Nat) : Int)) ∧ w' = w := by
  unfold maxLen at hm
  go_enter Try.func12, Try.ntmps12
  go_wp2_with (go_at_call 8; refine (mix_any _ _ hs).mono ?_; rintro e w' ⟨rfl, rfl⟩)
  go_loop [5, 12] (fun t i => ∃ k : Nat, k ≤ l.length ∧ i = .int .i64 k ∧ t = .int .u64 ((foldN s (l.take k) : Nat) : Int)) (fun _ i => l.length - (intOf i).toNat)
  case atStart => exact ⟨0, Nat.zero_le _, rfl, by rw [List.take_zero, foldN_nil]⟩
  case round =>
    obtain ⟨k, hk, rfl, rfl⟩ := hrel
    by_cases hlt : k < l.length
    · have hc := hcell k hlt
      have h1 := foldN_lt s (l.take k)
      have h2 := getD_lt l hb k
      have HS : Hid (foldN s (l.take (k + 1)) = stepN (foldN s (l.take k)) (l.getD k 0)) := foldN_take s l k hlt
      generalize l.getD k 0 = n at hc h2 HS
      clear hcell hb
      go_wp2_with (go_at_call 21; refine (step_any _ _ _ h1 h2).mono ?_; rintro e w' ⟨rfl, rfl⟩)
      go_round
      case rel => exact ⟨k + 1, by omega, by go_num, by rw [HS.out]⟩
      case measure => simp [intOf]; omega
    · go_wp2
      go_ret
      exact ⟨ret_int (by rw [List.take_of_length_le (by omega)]), rfl⟩

theorem refFold_some (s b off cap : Nat) (l : List Nat) (w : World) (hs : s < 18446744073709551616) (hm : l.length ≤ maxLen) (hb : ∀ n ∈ l, n < 18446744073709551616)
    (hcell : ∀ i, i < l.length → w.cell? ⟨b, off + i, none⟩ = some (.int .u64 ((l.getD i 0 : Nat) : Int))) :
    Calls Try.prog 13 #[.int .u64 (s : Int), .slice (some ⟨b, off, none⟩) l.length cap] w fun e w' => e = .returned (.int .u64 ((foldN s l : Nat) : Int)) ∧ w' = w := by
  unfold maxLen at hm
  go_enter Try.func13, Try.ntmps13
  go_wp2_with (go_at_call 9; refine (refMix_any _ _ hs).mono ?_; rintro e w' ⟨rfl, rfl⟩)
  go_loop [5, 6] (fun t i => ∃ k : Nat, k ≤ l.length ∧ i = .int .i64 k ∧ t = .int .u64 ((foldN s (l.take k) : Nat) : Int)) (fun _ i => l.length - (intOf i).toNat)
  case atStart => exact ⟨0, Nat.zero_le _, rfl, by rw [List.take_zero, foldN_nil]⟩
  case round =>
    obtain ⟨k, hk, rfl, rfl⟩ := hrel
    by_cases hlt : k < l.length
    · have hc := hcell k hlt
      have h1 := foldN_lt s (l.take k)
      have h2 := getD_lt l hb k
      have HS : Hid (foldN s (l.take (k + 1)) = stepN (foldN s (l.take k)) (l.getD k 0)) := foldN_take s l k hlt
      generalize l.getD k 0 = n at hc h2 HS
      have h := step_form _ n h1 h2
      clear hcell hb
      go_wp2_with (go_at_call 9; refine (refMix_any _ _ ?_).mono ?_; (exact Nat.mod_lt _ (by decide)); rintro e w' ⟨rfl, rfl⟩)
      go_round
      case rel => exact ⟨k + 1, by omega, by go_num, by rw [HS.out, stepN]⟩
      case measure => simp [intOf]; omega
    · go_wp2
      go_ret
      exact ⟨ret_int (by rw [List.take_of_length_le (by omega)]), rfl⟩

/-- a slice value that reads, up to its length, as numbers of 64 bits -/
def NumsAt (w : World) (a : Option Addr) (len : Nat) (l : List Nat) : Prop :=
  l.length = len ∧ len ≤ maxLen ∧ (∀ n ∈ l, n < 18446744073709551616) ∧
    (len = 0 ∨ ∃ b off, a = some ⟨b, off, none⟩ ∧ ∀ i, i < l.length → w.cell? ⟨b, off + i, none⟩ = some (.int .u64 ((l.getD i 0 : Nat) : Int)))
theorem numsAt_nil (w : World) (a : Option Addr) : NumsAt w a 0 [] := ⟨rfl, by unfold maxLen; omega, by simp, .inl rfl⟩

theorem fold_any (s : Nat) (a : Option Addr) (len cap : Nat) (l : List Nat) (w : World) (hs : s < 18446744073709551616) (h : NumsAt w a len l) :
    Calls Try.prog 12 #[.int .u64 (s : Int), .slice a len cap] w fun e w' => e = .returned (.int .u64 ((foldN s l : Nat) : Int)) ∧ w' = w := by
  obtain ⟨rfl, hm, hb, h⟩ := h
  by_cases h0 : l = []
  · subst h0
    exact fold_none s a cap w hs
  · rcases h with h | ⟨b, off, rfl, hc⟩
    · exact absurd (List.length_eq_zero_iff.1 h) h0
    · exact fold_some s b off cap l w hs hm hb hc
theorem refFold_any (s : Nat) (a : Option Addr) (len cap : Nat) (l : List Nat) (w : World) (hs : s < 18446744073709551616) (h : NumsAt w a len l) :
    Calls Try.prog 13 #[.int .u64 (s : Int), .slice a len cap] w fun e w' => e = .returned (.int .u64 ((foldN s l : Nat) : Int)) ∧ w' = w := by
  obtain ⟨rfl, hm, hb, h⟩ := h
  by_cases h0 : l = []
  · subst h0
    exact refFold_none s a cap w hs
  · rcases h with h | ⟨b, off, rfl, hc⟩
    · exact absurd (List.length_eq_zero_iff.1 h) h0
    · exact refFold_some s b off cap l w hs hm hb hc

/-- a slice of integers that came in: nil, or a row of cells -/
def IsRow (k : IntKind) (w : World) (a : Option Addr) (len cap : Nat) (zs : List Int) : Prop :=
  (a = none ∧ len = 0 ∧ cap = 0 ∧ zs = []) ∨
  ∃ x, a = some x ∧ len ≤ cap ∧ cap ≤ maxLen ∧ zs.length = cap ∧ (∀ i, i < zs.length → w.cell? (x.add i) = some (.int k (zs.getD i 0))) ∧ ∀ n ∈ zs, (Lit.int k n).wf = true

theorem addr_add (b off i : Nat) : (⟨b, off, none⟩ : Addr).add i = ⟨b, off + i, none⟩ := by
  by_cases h : i = 0
  · subst h; simp [Addr.add]
  · simp [Addr.add, h]
theorem isRow_nums {w : World} {a : Option Addr} {len cap : Nat} {zs : List Int} (h : IsRow .u64 w a len cap zs) :
    ∃ l : List Nat, NumsAt w a len l := by
  rcases h with ⟨rfl, rfl, _⟩ | ⟨x, rfl, hl, hm, hz, hcell, hwz⟩
  · exact ⟨[], numsAt_nil _ _⟩
  · refine ⟨(zs.take len).map Int.toNat, by simp; omega, by omega, ?_, ?_⟩
    · intro n hn
      obtain ⟨z, hz1, rfl⟩ := List.mem_map.1 hn
      have := bounds_u64 (hwz z (List.mem_of_mem_take hz1))
      omega
    · by_cases h0 : len = 0
      · exact .inl h0
      · obtain ⟨b, off, spot⟩ := x
        have hc := hcell 0 (by omega)
        have hspot : spot = none := by simpa [Addr.add] using World.cell?_spot hc
        subst hspot
        refine .inr ⟨b, off, rfl, ?_⟩
        intro i hi
        simp at hi
        have hi1 : i < len := by omega
        have hi' : i < zs.length := by omega
        have hc := hcell i hi'
        have hb := bounds_u64 (hwz zs[i] (List.getElem_mem hi'))
        have e1 : zs.getD i 0 = zs[i] := by simp [hi']
        have e2 : ((zs.take len).map Int.toNat).getD i 0 = zs[i].toNat := by simp [hi1, hi']
        have e3 : ((zs[i].toNat : Nat) : Int) = zs[i] := by omega
        rw [e2, e3, ← e1]
        rw [← addr_add b off i]
        exact hc

theorem mixFolds_any (s : Nat) (a : Option Addr) (len cap : Nat) (l : List Nat) (w : World) (hs : s < 18446744073709551616) (hr : NumsAt w a len l) :
    Calls Try.prog 4 #[.int .u64 (s : Int), .slice a len cap] w fun e w' => e = .returned (.bool true) ∧ w' = w := by
  have e0 := foldN_nil s
  have hm := hr.2.1
  unfold maxLen at hm
  have HR : Hid (NumsAt w a len l) := hr
  clear hr
  by_cases h3 : 3000 < len
  · go_enter Try.func4, Try.ntmps4
    go_wp2_with (go_at_call 11; refine (awake_any _).mono ?_; rintro e w' ⟨rfl, rfl⟩)
    go_ret
    exact ⟨rfl, rfl⟩
  · go_enter Try.func4, Try.ntmps4
    go_wp2_with (first
      | (go_at_call 12; refine (fold_any _ _ _ _ ?_ _ hs ?_).mono ?_; rotate_left; (first | exact HR.out | exact numsAt_nil _ _); rintro e w' ⟨rfl, rfl⟩)
      | (go_at_call 13; refine (refFold_any _ _ _ _ ?_ _ hs ?_).mono ?_; rotate_left; (first | exact HR.out | exact numsAt_nil _ _); rintro e w' ⟨rfl, rfl⟩)
      | (go_at_call 9; refine (refMix_any _ _ hs).mono ?_; rintro e w' ⟨rfl, rfl⟩)
      | (go_at_call 11; refine (awake_any _).mono ?_; rintro e w' ⟨rfl, rfl⟩))
    go_ret
    exact ⟨rfl, rfl⟩
end Go.Proofs.Ytijnoibpebmdbaa
