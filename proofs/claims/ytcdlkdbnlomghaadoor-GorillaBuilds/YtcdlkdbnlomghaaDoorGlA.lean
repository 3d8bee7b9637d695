/-
  The program's runs: isStill, runAt.
-/
import Derived.Test.YtcdlkdbnlomghaaDoorGlP
import Derived.Test.YtcdlkdbnlomghaaDoorBkI
namespace Go.Proofs.YtcdlkdbnlomghaaDoor.Gl
open Go.ChangeShapes Go.WideShapes Go.ChangeAt Go.RowKit
open Go.Proofs.YtcdlkdbnlomghaaDoor.Bi
open Go.Proofs.YtcdlkdbnlomghaaDoor.Fr (RowAt cellsI cellsI_get)
open Go.Proofs.YtcdlkdbnlomghaaDoor.Bk (rT rV)
theorem row_pair {w : World} {a : Option Addr} {len cap n i : Nat} {R : List Int} (h : RowAt w a len cap (cellsI R)) (hl : len = 2 * n) (hi : i < n) :
    ∃ b off p q, a = some ⟨b, off, none⟩ ∧ p = 2 * i ∧ q = p + 1 ∧ p < len ∧ q < len ∧ w.cell? ⟨b, off + p, none⟩ = some (.int .i64 (rT R i)) ∧ w.cell? ⟨b, off + q, none⟩ = some (.int .i64 (rV R i)) := by
  have hR : R.length = len := by simpa [cellsI] using h.1
  obtain ⟨b, off, e, hc⟩ := h.some (by omega)
  refine ⟨b, off, 2 * i, 2 * i + 1, e, rfl, rfl, by omega, by omega, ?_, ?_⟩
  · have := hc (2 * i) (by omega); rwa [cellsI_get R (2 * i) (by omega)] at this
  · have := hc (2 * i + 1) (by omega); rwa [cellsI_get R (2 * i + 1) (by omega)] at this
set_option maxHeartbeats 1000000 in
set_option maxRecDepth 60000 in
theorem isStill_any (a : Option Addr) (len cap n i : Nat) (R : List Int) (w : World) (h : RowAt w a len cap (cellsI R)) (hl : len = 2 * n) (hn : n ≤ 64) (hi : (i : Int) ≤ 1000) :
    Calls Tryd.prog 74 #[.slice a len cap, .int .i64 (i : Int)] w fun e w' => e = .returned (.bool (decide (Still (rT R) (rV R) n i))) ∧ w' = w := by
  obtain ⟨q, hq⟩ : ∃ q, q = decide (Still (rT R) (rV R) n i) := ⟨_, rfl⟩
  rw [← hq]
  have hd : (len : Int) / 2 = (n : Int) := by omega
  have hd2 : Int.tdiv (len : Int) 2 = (n : Int) := by rw [Int.tdiv_eq_ediv_of_nonneg (by omega)]; omega
  have hlen : (len : Int) ≤ 128 := by omega
  by_cases h2 : i < 2
  · have HQ : Hid (q = false) := by rw [hq]; exact decide_eq_false (fun s => by have := s.1; omega)
    have h3 : (i : Int) < 2 := by omega
    have h4 : ¬ (i : Int) ≥ 2 := by omega
    clear hq h h2 hl hn hd hd2 hlen
    go_enter Tryd.func74, Tryd.ntmps74
    go_wp2
    go_ret
    exact ⟨by rw [HQ.out]; rfl, rfl⟩
  · have g2 : (2 : Int) ≤ (i : Int) := by omega
    by_cases h5 : i < n
    · obtain ⟨b, off, p, r, rfl, hp, hr, hp1, hr1, c0, c1⟩ := row_pair h hl h5
      have g5 : (i : Int) < (n : Int) := by omega
      have P1 : wrap64 (2 * (i : Int)) = (p : Int) := by unfold wrap64; omega
      have P1b : 2 * (i : Int) = (p : Int) := by omega
      have P2 : (p : Int) + 1 = (r : Int) := by omega
      have P3 : (p : Int) < (len : Int) := by omega
      have P4 : (r : Int) < (len : Int) := by omega
      have hbs : b < w.heap.size := World.block_lt_of_cell? w ⟨b, off + p, none⟩ c0
      have HQ : Hid (q = (decide (rT R i = 0) && decide (rV R i = 0))) := by
        rw [hq]
        have e : Still (rT R) (rV R) n i ↔ (rT R i = 0 ∧ rV R i = 0) := ⟨fun s => ⟨s.2.2.1, s.2.2.2⟩, fun s => ⟨by omega, h5, s.1, s.2⟩⟩
        rw [decide_eq_decide.2 e, Bool.decide_and]
        exact rfl
      generalize rT R i = tt at *
      generalize rV R i = vv at *
      clear hq h hl hn h2 hp hr hp1 hr1 h5
      by_cases x : tt = 0
      · subst x
        by_cases y : vv = 0
        · subst y
          have HQ2 : Hid (q = true) := HQ.out
          clear HQ
          go_enter Tryd.func74, Tryd.ntmps74
          go_wp2
          go_ret
          exact ⟨by rw [HQ2.out]; rfl, rfl⟩
        · have HQ2 : Hid (q = false) := by unfold Hid; rw [HQ.out]; simp [y]
          clear HQ
          have y2 : (vv == 0) = false := by simp [y]
          go_enter Tryd.func74, Tryd.ntmps74
          go_wp2
          go_ret
          exact ⟨by rw [HQ2.out]; rfl, rfl⟩
      · have HQ2 : Hid (q = false) := by unfold Hid; rw [HQ.out]; simp [x]
        clear HQ
        have x2 : (tt == 0) = false := by simp [x]
        go_enter Tryd.func74, Tryd.ntmps74
        go_wp2
        go_ret
        exact ⟨by rw [HQ2.out]; rfl, rfl⟩
    · have HQ : Hid (q = false) := by rw [hq]; exact decide_eq_false (fun s => h5 s.2.1)
      have g5 : ¬ (i : Int) < (n : Int) := by omega
      clear hq h hl hn h2
      go_enter Tryd.func74, Tryd.ntmps74
      go_wp2
      go_ret
      exact ⟨by rw [HQ.out]; rfl, rfl⟩
/-- how many places from i on stand in a run, so many at most -/
def runN (T V : Nat → Int) (n i : Nat) : Nat → Nat
  | 0 => 0
  | f + 1 => if Still T V n i then runN T V n (i + 1) f + 1 else 0
def runAt (T V : Nat → Int) (n i : Nat) : Nat := runN T V n i 16
theorem runN_le (T V : Nat → Int) (n : Nat) : ∀ f i, runN T V n i f ≤ f
  | 0, _ => Nat.le_refl _
  | f + 1, i => by
    unfold runN
    split
    · have := runN_le T V n f (i + 1); omega
    · omega
theorem runN_in (T V : Nat → Int) (n : Nat) : ∀ f i j, j < runN T V n i f → Still T V n (i + j)
  | 0, _, _, h => by unfold runN at h; omega
  | f + 1, i, j, h => by
    unfold runN at h
    split at h
    · rename_i hs
      rcases j with _ | j
      · exact hs
      · have := runN_in T V n f (i + 1) j (by omega)
        rwa [show i + (j + 1) = i + 1 + j by omega]
    · omega
theorem runN_out (T V : Nat → Int) (n : Nat) : ∀ f i, runN T V n i f < f → ¬ Still T V n (i + runN T V n i f)
  | 0, _, h => by omega
  | f + 1, i, h => by
    unfold runN at h ⊢
    split
    · rename_i hs
      rw [if_pos hs] at h
      have := runN_out T V n f (i + 1) (by omega)
      rwa [show i + (runN T V n (i + 1) f + 1) = i + 1 + runN T V n (i + 1) f by omega]
    · rename_i hs
      exact hs
theorem runN_is {T V : Nat → Int} {n i k f : Nat} (h : ∀ j, j < k → Still T V n (i + j)) (hk : k ≤ f) (ho : k < f → ¬ Still T V n (i + k)) : runN T V n i f = k := by
  have h1 := runN_le T V n f i
  rcases Nat.lt_trichotomy (runN T V n i f) k with h2 | h2 | h2
  · exact absurd (h _ h2) (runN_out T V n f i (by omega))
  · exact h2
  · exact absurd (runN_in T V n f i k h2) (ho (by omega))
set_option maxHeartbeats 1000000 in
set_option maxRecDepth 60000 in
theorem runAt_any (a : Option Addr) (len cap n i : Nat) (R : List Int) (w : World) (h : RowAt w a len cap (cellsI R)) (hl : len = 2 * n) (hn : n ≤ 64) (hi : (i : Int) ≤ 100) :
    Calls Tryd.prog 52 #[.slice a len cap, .int .i64 (i : Int)] w fun e w' => e = .returned (.int .i64 ((runAt (rT R) (rV R) n i : Nat) : Int)) ∧ w' = w := by
  have HS : Hid (∀ j : Nat, (j : Int) ≤ 1000 → Calls Tryd.prog 74 #[.slice a len cap, .int .i64 (j : Int)] w fun e w' => e = .returned (.bool (decide (Still (rT R) (rV R) n j))) ∧ w' = w) := fun j hj => isStill_any a len cap n j R w h hl hn hj
  clear h hl hn
  go_enter Tryd.func52, Tryd.ntmps52
  go_wp2_with fail
  go_loopw [5] (fun x wr => ∃ k : Nat, (k : Int) ≤ 16 ∧ x = .int .i64 k ∧ Hid (∀ j, j < k → Still (rT R) (rV R) n (i + j)) ∧ wr = w) (fun x _ => 16 - (intOf x).toNat)
  case atStart => exact ⟨0, by omega, rfl, fun j hj => absurd hj (Nat.not_lt_zero _), rfl⟩
  case round =>
    obtain ⟨k, hk, rfl, hP, rfl⟩ := hrel
    by_cases hlt : (k : Int) < 16
    · obtain ⟨m, hm⟩ : ∃ m, m = i + k := ⟨_, rfl⟩
      have hm2 : (i : Int) + (k : Int) = (m : Int) := by omega
      have hm3 : (m : Int) ≤ 1000 := by omega
      obtain ⟨q, hq⟩ : ∃ q, q = decide (Still (rT R) (rV R) n m) := ⟨_, rfl⟩
      have HC := Hid.mk9 (HS.out m hm3)
      have HM := Hid.mk9 hm
      rw [← hq] at HC
      have HQ := Hid.mk9 hq
      clear hq hm
      cases q with
      | true =>
        go_wp2_with (go_at_call 74; refine HC.out.mono ?_; rintro e w9 ⟨rfl, hw9⟩; obtain rfl := hw9.symm)
        refine ⟨⟨k + 1, by omega, by simp, ?_, ?_⟩, ?_⟩
        · intro j hj
          by_cases e : j = k
          · subst e; rw [← HM.out]; exact of_decide_eq_true HQ.out.symm
          · exact hP.out j (by omega)
        · trivial
        · simp [intOf]; omega
      | false =>
        go_wp2_with (go_at_call 74; refine HC.out.mono ?_; rintro e w9 ⟨rfl, hw9⟩; obtain rfl := hw9.symm)
        go_ret
        refine ⟨?_, rfl⟩
        rw [show runAt (rT R) (rV R) n i = k from runN_is hP.out (by omega) (fun _ => by rw [← HM.out]; exact of_decide_eq_false HQ.out.symm)]; rfl
    · go_wp2_with fail
      go_ret
      refine ⟨?_, rfl⟩
      rw [show runAt (rT R) (rV R) n i = k from runN_is hP.out (by omega) (fun x => absurd x (by omega))]; rfl
end Go.Proofs.YtcdlkdbnlomghaaDoor.Gl
