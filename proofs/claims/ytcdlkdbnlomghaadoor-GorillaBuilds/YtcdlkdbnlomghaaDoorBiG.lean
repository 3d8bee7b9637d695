/-
  The contracts of spread, gather, least, Class, Size; of the answer fold and Class.
-/
import Derived.Test.YtcdlkdbnlomghaaDoorBiF
namespace Go.Proofs.YtcdlkdbnlomghaaDoor.Bi
open Go.ChangeShapes Go.WideShapes Go.ChangeAt Go.RowKit
/-- a number without a sign -/
def foldN (n : Int) : Nat := if n < 0 then (-2 * n - 1).toNat else (2 * n).toNat
def gatherN (u : Nat) : Int := if u % 2 = 1 then -1 - ((u / 2 : Nat) : Int) else ((u / 2 : Nat) : Int)
/-- in an int -/
def inI (n : Int) : Prop := -9223372036854775808 ≤ n ∧ n ≤ 9223372036854775807
def inU (u : Nat) : Prop := (u : Int) < 18446744073709551616
theorem foldN_in {n : Int} (h : inI n) : inU (foldN n) := by
  unfold inI at h
  unfold inU foldN
  split <;> omega
theorem gather_fold (n : Int) : gatherN (foldN n) = n := by
  unfold gatherN foldN
  split
  · rw [if_pos (by omega)]; omega
  · rw [if_neg (by omega)]; omega
theorem fold_gather (u : Nat) : foldN (gatherN u) = u := by
  unfold gatherN foldN
  split
  · rw [if_pos (by omega)]; omega
  · rw [if_neg (by omega)]; omega
theorem gather_in {u : Nat} (h : inU u) : inI (gatherN u) := by
  unfold inU at h
  unfold inI gatherN
  split <;> omega
/-- the least class -/
def clsU (u : Nat) : Nat := if u < 1 then 0 else if u < 128 then 1 else if u < 4096 then 2 else if u < 1048576 then 3 else 4
theorem clsU_lt (u : Nat) : clsU u < 5 := by unfold clsU; split <;> (try split) <;> (try split) <;> (try split) <;> omega
theorem spread_neg (n : Int) (h : inI n) (hn : n < 0) : 18446744073709551615 - IntKind.u64.wrap (IntKind.u64.wrap n * 2) = ((foldN n : Nat) : Int) := by
  unfold inI at h
  unfold foldN
  rw [if_pos hn, IntKind.wrap_u64, IntKind.wrap_u64]
  omega
theorem spread_pos (n : Int) (h : inI n) (hn : ¬ n < 0) : IntKind.u64.wrap (IntKind.u64.wrap n * 2) = ((foldN n : Nat) : Int) := by
  unfold inI at h
  unfold foldN
  rw [if_neg hn, IntKind.wrap_u64, IntKind.wrap_u64]
  omega
theorem not_u64 (x : Nat) (h : x < 18446744073709551616) : 18446744073709551615 ^^^ x = 18446744073709551615 - x := by
  have h1 := congrArg BitVec.toNat (BitVec.allOnes_xor (x := BitVec.ofNat 64 x))
  have h2 : (BitVec.ofNat 64 x).toNat = x := Nat.mod_eq_of_lt h
  rw [BitVec.toNat_xor, BitVec.toNat_not, h2] at h1
  exact h1
theorem max_u64 : IntKind.u64.max = 18446744073709551615 := by decide
theorem spread_neg2 (n : Int) (h : inI n) (hn : n < 0) : bits .xor .u64 IntKind.u64.max (IntKind.u64.wrap (IntKind.u64.wrap n * 2)) = ((foldN n : Nat) : Int) := by
  rw [← spread_neg n h hn]
  have h0 : 0 ≤ IntKind.u64.wrap (IntKind.u64.wrap n * 2) := by rw [IntKind.wrap_u64]; omega
  have h1 : IntKind.u64.wrap (IntKind.u64.wrap n * 2) < 18446744073709551616 := by rw [IntKind.wrap_u64]; omega
  generalize IntKind.u64.wrap (IntKind.u64.wrap n * 2) = x at *
  obtain ⟨y, rfl⟩ : ∃ y : Nat, x = y := ⟨x.toNat, by omega⟩
  have hy : y < 18446744073709551616 := by omega
  have h2 := u64_xor_nat 18446744073709551615 y (by decide) hy
  rw [not_u64 y hy] at h2
  rw [max_u64]
  refine h2.trans ?_
  omega
theorem spread_any (n : Int) (h : inI n) (w : World) : Calls Tryd.prog 73 #[.int .i64 n] w fun e w' => e = .returned (.int .u64 ((foldN n : Nat) : Int)) ∧ w' = w := by
  by_cases hn : n < 0
  · have HE := Hid.mk9 (spread_neg2 n h hn)
    clear h
    go_enter Tryd.func73, Tryd.ntmps73
    go_wp2
    go_ret
    exact ⟨by rw [← HE.out]; rfl, rfl⟩
  · have HE := Hid.mk9 (spread_pos n h hn)
    clear h
    go_enter Tryd.func73, Tryd.ntmps73
    go_wp2
    go_ret
    exact ⟨by rw [← HE.out]; rfl, rfl⟩
set_option maxHeartbeats 1000000 in
set_option maxRecDepth 60000 in
theorem gather_any (u : Nat) (h : inU u) (w : World) : Calls Tryd.prog 85 #[.int .u64 u] w fun e w' => e = .returned (.int .i64 (gatherN u)) ∧ w' = w := by
  have HU := Hid.mk9 h
  obtain ⟨v, hv⟩ : ∃ v, v = u / 2 := ⟨_, rfl⟩
  have e1 : (u : Int) / 2 = (v : Int) := by omega
  have hw : IntKind.i64.wrap (v : Int) = (v : Int) := by unfold inU at h; simp [IntKind.wrap, IntKind.bits, IntKind.signed]; omega
  have HN : Hid (bits .xor .i64 (-1) (v : Int) = -1 - (v : Int)) := i64_not v (by unfold inU at h; omega)
  have HV := Hid.mk9 hv
  clear h hv
  by_cases h1 : u % 2 = 1
  · have HG : Hid (gatherN u = -1 - (v : Int)) := by unfold Hid gatherN; rw [if_pos h1, HV.out]
    have ha : bits .and .u64 (u : Int) 1 = 1 := by
      have := u64_and_nat u 1 (by have := HU.out; unfold inU at this; omega) (by decide)
      rw [Nat.and_one_is_mod, h1] at this
      exact this
    have hnot : bits .xor .i64 (-1) ((u : Int) / 2) = -1 - (u : Int) / 2 := by
      have h3 := HN.out
      rw [← e1] at h3
      exact h3
    have HG2 : Hid (gatherN u = -1 - (u : Int) / 2) := by unfold Hid; rw [HG.out, ← e1]
    have hw2 : IntKind.i64.wrap ((u : Int) / 2) = (u : Int) / 2 := by rw [e1]; exact hw
    clear h1 HN HG e1 hw HV HU
    go_enter Tryd.func85, Tryd.ntmps85
    go_wp2
    go_ret
    exact ⟨by rw [HG2.out]; rfl, rfl⟩
  · have HG : Hid (gatherN u = (v : Int)) := by unfold Hid gatherN; rw [if_neg h1, HV.out]
    have ha : bits .and .u64 (u : Int) 1 = 0 := by
      have := u64_and_nat u 1 (by have := HU.out; unfold inU at this; omega) (by decide)
      rw [Nat.and_one_is_mod, show u % 2 = 0 by omega] at this
      exact this
    clear h1
    go_enter Tryd.func85, Tryd.ntmps85
    go_wp2
    go_ret
    exact ⟨by rw [HG.out]; rfl, rfl⟩
theorem fold_any (n : Int) (h : inI n) (w : World) : Calls Tryd.prog 79 #[.int .i64 n] w fun e w' => e = .returned (.int .u64 ((foldN n : Nat) : Int)) ∧ w' = w := by
  by_cases hn : 0 ≤ n
  · have HE := Hid.mk9 (spread_pos n h (by omega))
    clear h
    go_enter Tryd.func79, Tryd.ntmps79
    go_wp2
    go_ret
    exact ⟨by rw [← HE.out]; rfl, rfl⟩
  · have HE : Hid (IntKind.u64.wrap (IntKind.u64.wrap (IntKind.u64.wrap (wrap64 (-1 - n)) * 2) + 1) = ((foldN n : Nat) : Int)) := by
      unfold inI at h
      unfold Hid foldN
      have e1 : wrap64 (-1 - n) = -1 - n := by unfold wrap64; omega
      rw [if_pos (by omega), e1, IntKind.wrap_u64, IntKind.wrap_u64, IntKind.wrap_u64]
      omega
    clear h
    go_enter Tryd.func79, Tryd.ntmps79
    go_wp2
    go_ret
    exact ⟨by rw [← HE.out]; rfl, rfl⟩
theorem wdT_small {c : Nat} (h : c < 5) : wdT c ≤ 64 := by
  rcases c with _ | _ | _ | _ | _ | c <;> first | decide | omega
theorem cls_stop {u c : Nat} (hc : c < 5 ∧ (0 < c → ¬ u < 1) ∧ (1 < c → ¬ u < 128) ∧ (2 < c → ¬ u < 4096) ∧ (3 < c → ¬ u < 1048576)) (hu : inU u) (hz : u / 2 ^ wdT c = 0) : clsU u = c := by
  have h64 := hu
  unfold inU at h64
  obtain ⟨h0, h1, h2, h3, h4⟩ := hc
  have hlt := (Nat.div_eq_zero_iff_lt (Nat.two_pow_pos (wdT c))).1 hz
  unfold clsU
  rcases c with _ | _ | _ | _ | _ | c
  · rw [if_pos (by simpa [wdT] using hlt)]
  · rw [if_neg (h1 (by decide)), if_pos (by simpa [wdT] using hlt)]
  · rw [if_neg (h1 (by decide)), if_neg (h2 (by decide)), if_pos (by simpa [wdT] using hlt)]
  · rw [if_neg (h1 (by decide)), if_neg (h2 (by decide)), if_neg (h3 (by decide)), if_pos (by simpa [wdT] using hlt)]
  · rw [if_neg (h1 (by decide)), if_neg (h2 (by decide)), if_neg (h3 (by decide)), if_neg (h4 (by decide))]
  · omega
theorem cls_go {u c : Nat} (hc : c < 5 ∧ (0 < c → ¬ u < 1) ∧ (1 < c → ¬ u < 128) ∧ (2 < c → ¬ u < 4096) ∧ (3 < c → ¬ u < 1048576)) (hu : inU u) (hz : ¬ u / 2 ^ wdT c = 0) : c + 1 < 5 ∧ (0 < c + 1 → ¬ u < 1) ∧ (1 < c + 1 → ¬ u < 128) ∧ (2 < c + 1 → ¬ u < 4096) ∧ (3 < c + 1 → ¬ u < 1048576) := by
  unfold inU at hu
  obtain ⟨h0, h1, h2, h3, h4⟩ := hc
  have hlt : ¬ u < 2 ^ wdT c := fun h => hz ((Nat.div_eq_zero_iff_lt (Nat.two_pow_pos (wdT c))).2 h)
  rcases c with _ | _ | _ | _ | _ | c
  · simp [wdT] at hlt; omega
  · simp [wdT] at hlt; omega
  · simp [wdT] at hlt; omega
  · simp [wdT] at hlt; omega
  · exfalso
    apply hlt
    show u < 2 ^ 64
    omega
  · omega
set_option maxHeartbeats 1000000 in
set_option maxRecDepth 60000 in
theorem least_any (u : Nat) (h : inU u) (w : World) (hT : Tab w) : Calls Tryd.prog 82 #[.int .u64 u] w fun e w' => e = .returned (.int .i64 ((clsU u : Nat) : Int)) ∧ w' = w := by
  have HT := Hid.mk9 hT
  have HU := Hid.mk9 h
  clear h hT
  go_enter Tryd.func82, Tryd.ntmps82
  go_wp2
  go_loopw [3] (fun i wr => ∃ c : Nat, i = .int .i64 (c : Int) ∧ Hid (c < 5 ∧ (0 < c → ¬ u < 1) ∧ (1 < c → ¬ u < 128) ∧ (2 < c → ¬ u < 4096) ∧ (3 < c → ¬ u < 1048576)) ∧ Hid (wr = w)) (fun i _ => 5 - (intOf i).toNat)
  case atStart => exact ⟨0, rfl, ⟨by decide, by omega, by omega, by omega, by omega⟩, rfl⟩
  case round =>
    obtain ⟨c, rfl, hc, hw⟩ := hrel
    obtain rfl := hw.out
    clear hw
    have h3 := (HT.out c hc.out.1).2.2
    have e1 : (c : Int) < 5 := by have := hc.out.1; omega
    have e2 : ((wdT c : Nat) : Int) ≤ 64 := by have := wdT_small hc.out.1; omega
    obtain ⟨d, hd⟩ : ∃ d, d = wdT c := ⟨_, rfl⟩
    have e3 : (u : Int) / 2 ^ d = ((u / 2 ^ d : Nat) : Int) := by rw [Int.natCast_ediv, Int.natCast_pow]; rfl
    rw [← hd] at h3 e2
    have HD := Hid.mk9 hd
    clear hd
    by_cases hz : u / 2 ^ d = 0
    · have HQ : Hid (clsU u = c) := cls_stop hc.out HU.out (by rw [← HD.out]; exact hz)
      rw [hz] at e3
      clear hz
      go_wp2_with fail
      go_ret
      exact ⟨by rw [HQ.out]; rfl, rfl⟩
    · have HQ := Hid.mk9 (cls_go hc.out HU.out (by rw [← HD.out]; exact hz))
      have e4 : (((u / 2 ^ d : Nat) : Int) != 0) = true := by rw [bne_iff_ne]; omega
      generalize u / 2 ^ d = v at *
      clear hz
      go_wp2_with fail
      exact ⟨⟨c + 1, by go_num, HQ, trivial⟩, by simp [intOf]; omega⟩
theorem class_any (n : Int) (h : inI n) (w : World) (hT : Tab w) : Calls Tryd.prog 68 #[.int .i64 n] w fun e w' => e = .returned (.int .i64 ((clsU (foldN n) : Nat) : Int)) ∧ w' = w := by
  have H1 := Hid.mk9 (spread_any n h w)
  have H2 := Hid.mk9 (least_any (foldN n) (foldN_in h) w hT)
  generalize foldN n = u at *
  generalize clsU u = c at *
  clear h hT
  go_enter Tryd.func68, Tryd.ntmps68
  go_wp2_with (first | (go_at_call 73; refine H1.out.mono ?_; rintro e w9 ⟨rfl, hw9⟩; obtain rfl := hw9.symm) | (go_at_call 82; refine H2.out.mono ?_; rintro e w9 ⟨rfl, hw9⟩; obtain rfl := hw9.symm))
  go_ret
  exact ⟨rfl, rfl⟩
end Go.Proofs.YtcdlkdbnlomghaaDoor.Bi
