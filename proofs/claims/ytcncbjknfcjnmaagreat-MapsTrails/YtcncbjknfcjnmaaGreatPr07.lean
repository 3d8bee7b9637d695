/-
  The contracts of place's small functions: within, Common, bare, mayChoose, follows, behind, Check of the common rule.
  Plain arithmetic: numbers mixed and folded, and costs; no Go in sight.
  The contracts of Mix and Fold, and of the answers that they are held against.
-/
import Derived.Test.YtcncbjknfcjnmaaGreatPr06
import Derived.Laws.BitsAllLaws
import Derived.Test.YtcncbjknfcjnmaaGreatRows
import Derived.WalkKit
import Derived.ProofKit
import Derived.OpenShut
import Derived.Below
namespace Go.Proofs.YtcncbjknfcjnmaaGreat.Tp
open Go.ChangeShapes Go.WideShapes Go.ChangeAt Go.RowKit
theorem pwithin_any (x lo hi : Int) (w : World) : Calls Tryz.prog 121 #[.int .i64 x,.int .i64 lo,.int .i64 hi] w fun e w' => e = .returned (.bool (inB x lo hi)) /\ w' = w := by
 by_cases h1 : lo <= x
 ·by_cases h2 : x <= hi
  ·have hr : inB x lo hi = true := by simp [inB,h1,h2]
   rw [hr]
   go_enter Tryz.func121,Tryz.ntmps121
   go_wp2
   go_ret
   exact ⟨rfl,rfl⟩
  ·have hr : inB x lo hi = false := by simp [inB,h2]
   have d : decide (x <= hi) = false := decide_eq_false h2
   rw [hr]
   go_enter Tryz.func121,Tryz.ntmps121
   go_wp2
   go_ret
   exact ⟨rfl,rfl⟩
 ·have hr : inB x lo hi = false := by simp [inB,h1]
  have d : decide (lo <= x) = false := decide_eq_false h1
  rw [hr]
  go_enter Tryz.func121,Tryz.ntmps121
  go_wp2
  go_ret
  exact ⟨rfl,rfl⟩
theorem pwithin_yes {x lo hi : Int} (h1 : lo <= x) (h2 : x <= hi) (w : World) : Calls Tryz.prog 121 #[.int .i64 x,.int .i64 lo,.int .i64 hi] w fun e w' => e = .returned (.bool true) /\ w' = w :=
 (pwithin_any x lo hi w).mono fun _ _ ⟨he,hw⟩ => ⟨by rw [he,(inB_iff x lo hi).2 ⟨h1,h2⟩],hw⟩
theorem pwithin_no {x lo hi : Int} (h : ¬ (lo <= x /\ x <= hi)) (w : World) : Calls Tryz.prog 121 #[.int .i64 x,.int .i64 lo,.int .i64 hi] w fun e w' => e = .returned (.bool false) /\ w' = w :=
 (pwithin_any x lo hi w).mono fun _ _ ⟨he,hw⟩ => ⟨by
  rw [he]
  cases hq : inB x lo hi with
  | false => rfl
  | true => exact absurd ((inB_iff x lo hi).1 hq) h,hw⟩
def comCells (size : Int) : List Value := [.int .i64 1,.int .i64 0,.int .i64 0,.int .i64 2,.int .i64 1,.int .i64 size,.int .i64 2,.int .i64 2,.int .i64 1,.int .i64 2,.int .i64 3,.int .i64 1,.int .i64 3,.int .i64 0,.int .i64 0]
theorem common_yes {size : Int} (h1 : 1 <= size) (h2 : size <= 3) (w : World) : Calls Tryz.prog 104 #[.int .i64 size] w fun e w' => e = .returned (.slice (some ⟨w.heap.size,0,none⟩) 5 5) /\ w' = w.alloc (.cells (comCells size).toArray 121) := by
 have H : Hid (∀ w : World,Calls Tryz.prog 121 #[.int .i64 size,.int .i64 1,.int .i64 3] w fun e w' => e = .returned (.bool true) /\ w' = w) := pwithin_yes h1 h2
 clear h1 h2
 go_enter Tryz.func104,Tryz.ntmps104
 go_wp2_with (go_at_call 121; refine (H.out _).mono ?_; rintro e w' ⟨rfl,rfl⟩)
 go_ret
 exact ⟨rfl,rfl⟩
theorem common_no {size : Int} (h : ¬ (1 <= size /\ size <= 3)) (w : World) : Calls Tryz.prog 104 #[.int .i64 size] w fun e w' => e = .returned (.slice none 0 0) /\ w' = w := by
 have H : Hid (∀ w : World,Calls Tryz.prog 121 #[.int .i64 size,.int .i64 1,.int .i64 3] w fun e w' => e = .returned (.bool false) /\ w' = w) := pwithin_no h
 clear h
 go_enter Tryz.func104,Tryz.ntmps104
 go_wp2_with (go_at_call 121; refine (H.out _).mono ?_; rintro e w' ⟨rfl,rfl⟩)
 go_ret
 exact ⟨rfl,rfl⟩
theorem bare_yes (k : Int) (w : World) : Calls Tryz.prog 160 #[.agg #[.int .i64 k,.int .i64 0,.int .i64 0]] w fun e w' => e = .returned (.bool true) /\ Grown w w' := by
 have HB : Hid (Grown w (w.alloc (.cells #[.int .i64 k,.int .i64 0,.int .i64 0] 121))) := grown_alloc _ _
 go_enter Tryz.func160,Tryz.ntmps160
 go_wp2
 go_ret
 exact ⟨rfl,HB.out⟩
set_option maxRecDepth 60000 in
theorem mayChoose_yes {lev l n : Int} (h1 : 1 <= n) (h2 : n <= 12) (h : (l = 1 /\ lev = 0) ∨ (l = 2 /\ lev = 1) ∨ (l = 3 /\ lev = 2)) (w : World) : Calls Tryz.prog 161 #[.int .i64 lev,.agg #[.int .i64 2,.int .i64 l,.int .i64 n]] w fun e w' => e = .returned (.bool true) /\ Grown w w' := by
 have HB : Hid (Grown w (w.alloc (.cells #[.int .i64 2,.int .i64 l,.int .i64 n] 121))) := grown_alloc _ _
 have H : Hid (∀ w : World,Calls Tryz.prog 121 #[.int .i64 n,.int .i64 1,.int .i64 12] w fun e w' => e = .returned (.bool true) /\ w' = w) := pwithin_yes h1 h2
 have H' : Hid (∀ w : World,Calls Tryz.prog 121 #[.int .i64 l,.int .i64 1,.int .i64 3] w fun e w' => e = .returned (.bool true) /\ w' = w) := pwithin_yes (by omega) (by omega)
 clear h1 h2
 rcases h with ⟨rfl,rfl⟩ | ⟨rfl,rfl⟩ | ⟨rfl,rfl⟩
 all_goals
  go_enter Tryz.func161,Tryz.ntmps161
  go_wp2_with (first | (go_at_call_of 121 n; refine (H.out _).mono ?_; rintro e w' ⟨rfl,rfl⟩) | (go_at_call 121; refine (H'.out _).mono ?_; rintro e w' ⟨rfl,rfl⟩))
  go_ret
  exact ⟨rfl,HB.out⟩
theorem follows_take (lev : Int) (w : World) : Calls Tryz.prog 145 #[.int .i64 lev,.agg #[.int .i64 1,.int .i64 0,.int .i64 0]] w fun e w' => e = .returned (.bool true) /\ Grown w w' := by
 have HB : Hid (Grown w (w.alloc (.cells #[.int .i64 1,.int .i64 0,.int .i64 0] 121))) := grown_alloc _ _
 have H : Hid (∀ w : World,Calls Tryz.prog 160 #[.agg #[.int .i64 1,.int .i64 0,.int .i64 0]] w fun e w' => e = .returned (.bool true) /\ Grown w w') := bare_yes 1
 go_enter Tryz.func145,Tryz.ntmps145
 go_wp2_with (go_at_call 160; refine (H.out _).mono ?_; rintro e w2 ⟨rfl,hg⟩)
 go_ret
 exact ⟨rfl,grown2 HB.out hg⟩
theorem follows_emit (w : World) : Calls Tryz.prog 145 #[.int .i64 3,.agg #[.int .i64 3,.int .i64 0,.int .i64 0]] w fun e w' => e = .returned (.bool true) /\ Grown w w' := by
 have HB : Hid (Grown w (w.alloc (.cells #[.int .i64 3,.int .i64 0,.int .i64 0] 121))) := grown_alloc _ _
 have H : Hid (∀ w : World,Calls Tryz.prog 160 #[.agg #[.int .i64 3,.int .i64 0,.int .i64 0]] w fun e w' => e = .returned (.bool true) /\ Grown w w') := bare_yes 3
 go_enter Tryz.func145,Tryz.ntmps145
 go_wp2_with (go_at_call 160; refine (H.out _).mono ?_; rintro e w2 ⟨rfl,hg⟩)
 go_ret
 exact ⟨rfl,grown2 HB.out hg⟩
theorem follows_choose {lev l n : Int} (h1 : 1 <= n) (h2 : n <= 12) (h : (l = 1 /\ lev = 0) ∨ (l = 2 /\ lev = 1) ∨ (l = 3 /\ lev = 2)) (w : World) : Calls Tryz.prog 145 #[.int .i64 lev,.agg #[.int .i64 2,.int .i64 l,.int .i64 n]] w fun e w' => e = .returned (.bool true) /\ Grown w w' := by
 have HB : Hid (Grown w (w.alloc (.cells #[.int .i64 2,.int .i64 l,.int .i64 n] 121))) := grown_alloc _ _
 have H : Hid (∀ w : World,Calls Tryz.prog 161 #[.int .i64 lev,.agg #[.int .i64 2,.int .i64 l,.int .i64 n]] w fun e w' => e = .returned (.bool true) /\ Grown w w') := mayChoose_yes h1 h2 h
 clear h1 h2 h
 go_enter Tryz.func145,Tryz.ntmps145
 go_wp2_with (go_at_call 161; refine (H.out _).mono ?_; rintro e w2 ⟨rfl,hg⟩)
 go_ret
 exact ⟨rfl,grown2 HB.out hg⟩
theorem behind_take (w : World) : Calls Tryz.prog 146 #[.agg #[.int .i64 1,.int .i64 0,.int .i64 0]] w fun e w' => e = .returned (.int .i64 0) /\ Grown w w' := by
 have HB : Hid (Grown w (w.alloc (.cells #[.int .i64 1,.int .i64 0,.int .i64 0] 121))) := grown_alloc _ _
 go_enter Tryz.func146,Tryz.ntmps146
 go_wp2
 go_ret
 exact ⟨rfl,HB.out⟩
theorem behind_choose (l n : Int) (w : World) : Calls Tryz.prog 146 #[.agg #[.int .i64 2,.int .i64 l,.int .i64 n]] w fun e w' => e = .returned (.int .i64 l) /\ Grown w w' := by
 have HB : Hid (Grown w (w.alloc (.cells #[.int .i64 2,.int .i64 l,.int .i64 n] 121))) := grown_alloc _ _
 go_enter Tryz.func146,Tryz.ntmps146
 go_wp2
 go_ret
 exact ⟨rfl,HB.out⟩
theorem behind_emit (w : World) : Calls Tryz.prog 146 #[.agg #[.int .i64 3,.int .i64 0,.int .i64 0]] w fun e w' => e = .returned (.int .i64 4) /\ Grown w w' := by
 have HB : Hid (Grown w (w.alloc (.cells #[.int .i64 3,.int .i64 0,.int .i64 0] 121))) := grown_alloc _ _
 go_enter Tryz.func146,Tryz.ntmps146
 go_wp2
 go_ret
 exact ⟨rfl,HB.out⟩
def ComAt (w : World) (b : Nat) (size : Int) : Prop := b < w.heap.size /\ ∀ j v,(comCells size)[j]? = some v -> w.cell? ⟨b,j,none⟩ = some v
theorem ComAt.below {w w' : World} {b : Nat} {size : Int} (h : ComAt w b size) (hb : Below w.heap.size w w') : ComAt w' b size :=
 ⟨Nat.lt_of_lt_of_le h.1 hb.size,fun j v hv => (hb.cell (p := ⟨b,j,none⟩) h.1).trans (h.2 j v hv)⟩
theorem com_new (w : World) (size : Int) : ComAt (w.alloc (.cells (comCells size).toArray 121)) w.heap.size size :=
 ⟨by simp,fun j v hv => by have := cells_lit w (comCells size) 121 j v hv; rw [addr_add,Nat.zero_add] at this; exact this⟩
def stepK (size : Int) : Nat -> Int × Int × Int
 | 0 => (1,0,0)
 | 1 => (2,1,size)
 | 2 => (2,2,1)
 | 3 => (2,3,1)
 | _ => (3,0,0)
def levK : Nat -> Int
 | 0 => 4
 | 1 => 0
 | 2 => 1
 | 3 => 2
 | 4 => 3
 | _ => 4
theorem ComAt.step {w : World} {b : Nat} {size : Int} (h : ComAt w b size) {k : Nat} (hk : k < 5) : w.cell? ⟨b,k * 3,none⟩ = some (.int .i64 (stepK size k).1) /\ w.cell? ⟨b,k * 3 + 1,none⟩ = some (.int .i64 (stepK size k).2.1) /\ w.cell? ⟨b,k * 3 + 2,none⟩ = some (.int .i64 (stepK size k).2.2) := by
 have : k = 0 ∨ k = 1 ∨ k = 2 ∨ k = 3 ∨ k = 4 := by omega
 rcases this with rfl | rfl | rfl | rfl | rfl
 ·exact ⟨h.2 0 _ rfl,h.2 1 _ rfl,h.2 2 _ rfl⟩
 ·exact ⟨h.2 3 _ rfl,h.2 4 _ rfl,h.2 5 _ rfl⟩
 ·exact ⟨h.2 6 _ rfl,h.2 7 _ rfl,h.2 8 _ rfl⟩
 ·exact ⟨h.2 9 _ rfl,h.2 10 _ rfl,h.2 11 _ rfl⟩
 ·exact ⟨h.2 12 _ rfl,h.2 13 _ rfl,h.2 14 _ rfl⟩
theorem follows_step {size : Int} (h1 : 1 <= size) (h2 : size <= 3) {k : Nat} (hk : k < 5) (w : World) : Calls Tryz.prog 145 #[.int .i64 (levK k),.agg #[.int .i64 (stepK size k).1,.int .i64 (stepK size k).2.1,.int .i64 (stepK size k).2.2]] w fun e w' => e = .returned (.bool true) /\ Grown w w' := by
 have : k = 0 ∨ k = 1 ∨ k = 2 ∨ k = 3 ∨ k = 4 := by omega
 rcases this with rfl | rfl | rfl | rfl | rfl
 ·exact follows_take 4 w
 ·exact follows_choose h1 (by omega) (.inl ⟨rfl,rfl⟩) w
 ·exact follows_choose (lev := 1) (l := 2) (n := 1) (by decide) (by decide) (.inr (.inl ⟨rfl,rfl⟩)) w
 ·exact follows_choose (lev := 2) (l := 3) (n := 1) (by decide) (by decide) (.inr (.inr ⟨rfl,rfl⟩)) w
 ·exact follows_emit w
theorem behind_step (size : Int) {k : Nat} (hk : k < 5) (w : World) : Calls Tryz.prog 146 #[.agg #[.int .i64 (stepK size k).1,.int .i64 (stepK size k).2.1,.int .i64 (stepK size k).2.2]] w fun e w' => e = .returned (.int .i64 (levK (k + 1))) /\ Grown w w' := by
 have : k = 0 ∨ k = 1 ∨ k = 2 ∨ k = 3 ∨ k = 4 := by omega
 rcases this with rfl | rfl | rfl | rfl | rfl
 ·exact behind_take w
 ·exact behind_choose 1 size w
 ·exact behind_choose 2 1 w
 ·exact behind_choose 3 1 w
 ·exact behind_emit w
theorem pcheck_nil (w : World) : Calls Tryz.prog 120 #[.slice none 0 0] w fun e w' => e = .returned (.int .i64 1) /\ Below w.heap.size w w' := by
 go_enter Tryz.func120,Tryz.ntmps120
 go_wp2
 go_ret
 exact ⟨rfl,Below.refl _ _⟩
set_option maxHeartbeats 1000000 in
set_option maxRecDepth 60000 in
theorem pcheck_com {size : Int} (h1 : 1 <= size) (h2 : size <= 3) (b : Nat) (w : World) (h : ComAt w b size) : Calls Tryz.prog 120 #[.slice (some ⟨b,0,none⟩) 5 5] w fun e w' => e = .returned (.int .i64 0) /\ Below w.heap.size w w' := by
 have HC : Hid (ComAt w b size) := h
 have HF : Hid (∀ k,k < 5 -> ∀ w : World,Calls Tryz.prog 145 #[.int .i64 (levK k),.agg #[.int .i64 (stepK size k).1,.int .i64 (stepK size k).2.1,.int .i64 (stepK size k).2.2]] w fun e w' => e = .returned (.bool true) /\ Grown w w') := fun k hk w => follows_step h1 h2 hk w
 have HBH : Hid (∀ k,k < 5 -> ∀ w : World,Calls Tryz.prog 146 #[.agg #[.int .i64 (stepK size k).1,.int .i64 (stepK size k).2.1,.int .i64 (stepK size k).2.2]] w fun e w' => e = .returned (.int .i64 (levK (k + 1))) /\ Grown w w') := fun k hk w => behind_step size hk w
 clear h h1 h2
 have hl0 : (4 : Int) = levK 0 := rfl
 go_enter Tryz.func120,Tryz.ntmps120
 go_wp2_with fail
 go_loopw [3,16] (fun l i wr => ∃ k : Nat,k <= 5 /\ i = .int .i64 k /\ l = .int .i64 (levK k) /\ Below w.heap.size w wr) (fun _ i _ => 5 - (intOf i).toNat)
 case atStart => exact ⟨0,Nat.zero_le _,rfl,rfl,Below.refl _ _⟩
 case round =>
  obtain ⟨k,hk,rfl,rfl,hbel⟩ := hrel
  by_cases hlt : k < 5
  ·have hk1 : (k : Int) < 5 := by omega
   have hk0 : (0 : Int) <= (k : Int) := by omega
   obtain ⟨e0,e1,e2⟩ := (HC.out.below hbel).step hlt
   have hbs := (HC.out.below hbel).1
   have H1 : Hid _ := HF.out k hlt
   have H2 : Hid _ := HBH.out k hlt
   have HN : Hid (levK (k + 1) = levK (k + 1)) := rfl
   generalize hnx : levK (k + 1) = nx at *
   have HNX : Hid (levK (k + 1) = nx) := hnx
   clear hnx HN
   generalize levK k = lv at *
   generalize stepK size k = s at *
   obtain ⟨s0,s1,s2⟩ := s
   simp only at e0 e1 e2
   have hba := below2 hbel (below_alloc wr (.cells #[.int .i64 s0,.int .i64 s1,.int .i64 s2] 121))
   clear hl0
   go_wp2_with (first
    | (go_at_call 145; refine (H1.out _).mono ?_; rintro e w2 ⟨rfl,hg2⟩; have hb2 := grown_below hg2; have c20 := (hb2.cell (p := ⟨wr.heap.size,0,none⟩) (by simp)).trans (show _ = some (.int .i64 s0) by simp); have c21 := (hb2.cell (p := ⟨wr.heap.size,1,none⟩) (by simp)).trans (show _ = some (.int .i64 s1) by simp); have c22 := (hb2.cell (p := ⟨wr.heap.size,2,none⟩) (by simp)).trans (show _ = some (.int .i64 s2) by simp))
    | (go_at_call 146; refine (H2.out _).mono ?_; rintro e w3 ⟨rfl,hg3⟩))
   exact ⟨⟨k + 1,by omega,by go_num,by rw [HNX.out],below2 (below2 hba hb2) (grown_below hg3)⟩,by simp [intOf]; omega⟩
  ·obtain rfl : k = 5 := by omega
   go_wp2_with fail
   go_ret
   exact ⟨rfl,hbel⟩
end Go.Proofs.YtcncbjknfcjnmaaGreat.Tp
namespace Go.Proofs.YtcncbjknfcjnmaaGreat.Dr
def cr (x : Nat) : Nat := x ^^^ x / 4294967296
theorem cr_lt {x : Nat} (hx : x < 18446744073709551616) : cr x < 18446744073709551616 := by
 unfold cr
 exact Nat.xor_lt_two_pow (n := 64) (by omega) (by omega)
def by1 (x : Nat) : Nat := x * 15485907386658061715 % 18446744073709551616
theorem by1_lt (x : Nat) : by1 x < 18446744073709551616 := Nat.mod_lt _ (by decide)
def mixN (x : Nat) : Nat := cr (by1 (cr (by1 (cr x))))
theorem mixN_lt (x : Nat) : mixN x < 18446744073709551616 := cr_lt (by1_lt _)
/-! the walk's own forms -/
theorem cross_form (x : Nat) (hx : x < 18446744073709551616) : bits .xor .u64 (x : Int) ((x : Int) / 4294967296) = ((cr x : Nat) : Int) := by
 have h := xorShift_u64 x 4294967296 hx
 simpa [cr] using h
def stepN (s n : Nat) : Nat := mixN (((s ^^^ n) + 11400714819323198485) % 18446744073709551616)
def foldN (s : Nat) (l : List Nat) : Nat := l.foldl stepN (mixN s)
theorem stepN_lt (s n : Nat) : stepN s n < 18446744073709551616 := mixN_lt _
theorem foldN_snoc (s : Nat) (l : List Nat) (n : Nat) : foldN s (l ++ [n]) = stepN (foldN s l) n := by
 unfold foldN
 rw [List.foldl_append,List.foldl_cons,List.foldl_nil]
theorem foldN_nil (s : Nat) : foldN s [] = mixN s := by
 unfold foldN
 rw [List.foldl_nil]
theorem foldl_lt (l : List Nat) : ∀ s,s < 18446744073709551616 -> l.foldl stepN s < 18446744073709551616 := by
 induction l with
 | nil =>
  intro s hs
  rw [List.foldl_nil]
  exact hs
 | cons a l ih =>
  intro s _
  rw [List.foldl_cons]
  exact ih _ (stepN_lt s a)
theorem foldN_lt (s : Nat) (l : List Nat) : foldN s l < 18446744073709551616 := foldl_lt l _ (mixN_lt s)
theorem foldN_take (s : Nat) (l : List Nat) (k : Nat) (h : k < l.length) : foldN s (l.take (k + 1)) = stepN (foldN s (l.take k)) (l.getD k 0) := by
 rw [List.take_succ_eq_append_getElem h,foldN_snoc,show l.getD k 0 = l[k] from by simp [h]]
theorem getD_lt (l : List Nat) (hb : ∀ n ∈ l,n < 18446744073709551616) (k : Nat) : l.getD k 0 < 18446744073709551616 := by
 by_cases h : k < l.length
 ·have := hb l[k] (List.getElem_mem h)
  simpa [h] using this
 ·simp [h]
theorem step_form (s n : Nat) (hs : s < 18446744073709551616) (hn : n < 18446744073709551616) :
  IntKind.u64.wrap (bits .xor .u64 (s : Int) (n : Int) + 11400714819323198485) = ((((s ^^^ n) + 11400714819323198485) % 18446744073709551616 : Nat) : Int) := by
 rw [u64_xor_nat s n hs hn,IntKind.wrap_u64]
 omega
def sqN (z : Nat) : Nat := z * z / 2147483648
def zS (z : Nat) : Nat := if sqN z <= 1073741824 then 2 * sqN z else sqN z
def fS (z f : Nat) : Nat := if sqN z <= 1073741824 then 2 * f + 1 else 2 * f
def zAt (z : Nat) : Nat -> Nat
 | 0 => z
 | k + 1 => zS (zAt z k)
def fAt (z : Nat) : Nat -> Nat
 | 0 => 0
 | k + 1 => fS (zAt z k) (fAt z k)
theorem zAt_succ (z k : Nat) : zAt z (k + 1) = zS (zAt z k) := rfl
theorem fAt_succ (z k : Nat) : fAt z (k + 1) = fS (zAt z k) (fAt z k) := rfl
theorem zS_low (z : Nat) (h : sqN z <= 1073741824) : zS z = 2 * sqN z := if_pos h
theorem zS_high (z : Nat) (h : ¬ sqN z <= 1073741824) : zS z = sqN z := if_neg h
theorem fS_low (z f : Nat) (h : sqN z <= 1073741824) : fS z f = 2 * f + 1 := if_pos h
theorem fS_high (z f : Nat) (h : ¬ sqN z <= 1073741824) : fS z f = 2 * f := if_neg h
theorem sq_le {z : Nat} (h : z <= 2147483648) : z * z <= 2147483648 * 2147483648 := Nat.mul_le_mul h h
theorem sqN_le {z : Nat} (h : z <= 2147483648) : sqN z <= 2147483648 := by
 have := sq_le h
 unfold sqN
 omega
theorem zS_le {z : Nat} (h : z <= 2147483648) : zS z <= 2147483648 := by
 have := sqN_le h
 unfold zS
 split <;> omega
theorem zAt_le {z : Nat} (h : z <= 2147483648) (k : Nat) : zAt z k <= 2147483648 := by
 induction k with
 | zero => exact h
 | succ k ih => exact zS_le ih
theorem fAt_lt (z k : Nat) : fAt z k < 2 ^ k := by
 induction k with
 | zero => exact Nat.one_pos
 | succ k ih =>
  rw [fAt_succ,Nat.pow_succ]
  unfold fS
  split <;> omega
theorem fAt_lt16 (z k : Nat) (h : k <= 16) : fAt z k < 65536 :=
 Nat.lt_of_lt_of_le (fAt_lt z k) (Nat.le_trans (Nat.pow_le_pow_right (by decide) h) (by decide))
def costK : Nat -> Nat -> Nat
 | 0,u => fAt (u * 32768) 16
 | n + 1,u => if u <= 32768 then 65536 + costK n (2 * u) else fAt (u * 32768) 16
theorem costK_low (n u : Nat) (h : u <= 32768) : costK (n + 1) u = 65536 + costK n (2 * u) := if_pos h
theorem costK_high (n u : Nat) (h : ¬ u <= 32768) : costK n u = fAt (u * 32768) 16 := by
 cases n with
 | zero => rfl
 | succ n => exact if_neg h
theorem costK_lt (n : Nat) : ∀ u,costK n u < 65536 * (n + 1) := by
 induction n with
 | zero => intro u; exact fAt_lt16 _ 16 (by decide)
 | succ n ih =>
  intro u
  by_cases h : u <= 32768
  ·rw [costK_low n u h]
   have := ih (2 * u)
   omega
  ·rw [costK_high _ u h]
   have := fAt_lt16 (u * 32768) 16 (by decide)
   omega
theorem costK_more (n : Nat) : ∀ u,32768 < u * 2 ^ n -> costK (n + 1) u = costK n u := by
 induction n with
 | zero =>
  intro u h
  rw [Nat.pow_zero,Nat.mul_one] at h
  rw [costK_high 1 u (by omega),costK_high 0 u (by omega)]
 | succ n ih =>
  intro u h
  by_cases hu : u <= 32768
  ·rw [costK_low (n + 1) u hu,costK_low n u hu,ih (2 * u) (by rw [Nat.pow_succ] at h; rw [Nat.mul_comm 2 u,Nat.mul_assoc,Nat.mul_comm 2]; exact h)]
  ·rw [costK_high (n + 2) u hu,costK_high (n + 1) u hu]
def costN (u : Nat) : Nat := costK 16 u
theorem costN_high (u : Nat) (h : ¬ u <= 32768) : costN u = fAt (u * 32768) 16 := costK_high 16 u h
theorem costN_low (u : Nat) (h1 : 1 <= u) (h : u <= 32768) : costN u = 65536 + costN (2 * u) := by
 unfold costN
 rw [costK_low 15 u h,costK_more 15 (2 * u) (by omega)]
theorem costN_lt (u : Nat) : costN u < 1114112 := costK_lt 16 u
def costI (u : Int) : Int := if u < 1 ∨ 65536 < u then 0 else (costN u.toNat : Nat)
theorem costI_of (u : Nat) (h1 : 1 <= u) (h2 : u <= 65536) : costI u = (costN u : Nat) := by
 rw [costI,if_neg (by omega)]
 rfl
theorem costI_out (u : Int) (h : u < 1 ∨ 65536 < u) : costI u = 0 := if_pos h
theorem costI_bound (u : Int) : 0 <= costI u /\ costI u < 1114112 := by
 unfold costI
 have := costN_lt u.toNat
 split <;> omega
end Go.Proofs.YtcncbjknfcjnmaaGreat.Dr
namespace Go.Proofs.YtcncbjknfcjnmaaGreat.Dr
open Go.ChangeShapes Go.WideShapes Go.ChangeAt Go.RowKit
theorem ret_int {k : IntKind} {a b : Int} (h : a = b) : Ending.returned (.int k a) = .returned (.int k b) := by rw [h]
theorem cross_any (x : Nat) (w : World) (hx : x < 18446744073709551616) :
  Calls Tryz.prog 195 #[.int .u64 (x : Int)] w fun e w' => e = .returned (.int .u64 ((cr x : Nat) : Int)) /\ w' = w := by
 go_enter Tryz.func195,Tryz.ntmps195
 go_wp2
 go_ret
 exact ⟨ret_int (cross_form x hx),rfl⟩
theorem mix_any (x : Nat) (w : World) (hx : x < 18446744073709551616) :
  Calls Tryz.prog 177 #[.int .u64 (x : Int)] w fun e w' => e = .returned (.int .u64 ((mixN x : Nat) : Int)) /\ w' = w := by
 go_enter Tryz.func177,Tryz.ntmps177
 go_wp2_with (go_at_call 195; refine (cross_any _ _ ?_).mono ?_; (first | exact hx | exact Nat.mod_lt _ (by decide)); rintro e w' ⟨rfl,rfl⟩)
 go_ret
 exact ⟨rfl,rfl⟩
theorem step_any (s n : Nat) (w : World) (hs : s < 18446744073709551616) (hn : n < 18446744073709551616) :
  Calls Tryz.prog 178 #[.int .u64 (s : Int),.int .u64 (n : Int)] w fun e w' => e = .returned (.int .u64 ((stepN s n : Nat) : Int)) /\ w' = w := by
 have h := step_form s n hs hn
 go_enter Tryz.func178,Tryz.ntmps178
 go_wp2_with (go_at_call 177; refine (mix_any _ _ ?_).mono ?_; (exact Nat.mod_lt _ (by decide)); rintro e w' ⟨rfl,rfl⟩)
 go_ret
 exact ⟨rfl,rfl⟩
theorem fold_some (s b off cap : Nat) (l : List Nat) (w : World) (hs : s < 18446744073709551616) (hm : l.length <= maxLen) (hb : ∀ n ∈ l,n < 18446744073709551616)
  (hcell : ∀ i,i < l.length -> w.cell? ⟨b,off + i,none⟩ = some (.int .u64 ((l.getD i 0 : Nat) : Int))) :
  Calls Tryz.prog 165 #[.int .u64 (s : Int),.slice (some ⟨b,off,none⟩) l.length cap] w fun e w' => e = .returned (.int .u64 ((foldN s l : Nat) : Int)) /\ w' = w := by
 unfold maxLen at hm
 go_enter Tryz.func165,Tryz.ntmps165
 go_wp2_with (go_at_call 177; refine (mix_any _ _ hs).mono ?_; rintro e w' ⟨rfl,rfl⟩)
 go_loop [5,12] (fun t i => ∃ k : Nat,k <= l.length /\ i = .int .i64 k /\ t = .int .u64 ((foldN s (l.take k) : Nat) : Int)) (fun _ i => l.length - (intOf i).toNat)
 case atStart => exact ⟨0,Nat.zero_le _,rfl,by rw [List.take_zero,foldN_nil]⟩
 case round =>
  obtain ⟨k,hk,rfl,rfl⟩ := hrel
  by_cases hlt : k < l.length
  ·have hc := hcell k hlt
   have h1 := foldN_lt s (l.take k)
   have h2 := getD_lt l hb k
   have HS : Hid (foldN s (l.take (k + 1)) = stepN (foldN s (l.take k)) (l.getD k 0)) := foldN_take s l k hlt
   generalize l.getD k 0 = n at hc h2 HS
   clear hcell hb
   go_wp2_with (go_at_call 178; refine (step_any _ _ _ h1 h2).mono ?_; rintro e w' ⟨rfl,rfl⟩)
   go_round
   case rel => exact ⟨k + 1,by omega,by go_num,by rw [HS.out]⟩
   case measure => simp [intOf]; omega
  ·go_wp2
   go_ret
   exact ⟨ret_int (by rw [List.take_of_length_le (by omega)]),rfl⟩
end Go.Proofs.YtcncbjknfcjnmaaGreat.Dr
