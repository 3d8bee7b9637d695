/-
  The contract of Best: who is drawn.
-/
import Derived.Test.YtbconflmjdpolaaJ
import Derived.Handy
namespace Go.Proofs.Ytbconflmjdpolaa
open Go.ChangeShapes Go.WideShapes Go.ChangeAt Go.RowKit
def idO : Option Ch → Int
  | none => 0
  | some c => c.1
def isO : Option Ch → Bool
  | none => false
  | some _ => true
theorem own_some {w : World} {B T m : Nat} {v : Value} {n : Nat} {xs : List Value} (h : w.ownsRow B T m v n xs) (h0 : 0 < n) : ∃ g cap, v = .slice (some ⟨g, 0, none⟩) n cap ∧ B ≤ g ∧ g < w.heap.size ∧ n ≤ cap := by
  have hlt := h.lt
  rcases h.2 with ⟨_, h1⟩ | ⟨g, cap, cur, rfl, hg, hh, hc, _⟩
  · omega
  · exact ⟨g, cap, rfl, hg, (hlt g rfl).2, hc⟩
theorem own_slice {w : World} {B T m : Nat} {v : Value} {n : Nat} {xs : List Value} (h : w.ownsRow B T m v n xs) : ∃ a cap, v = .slice a n cap ∧ n ≤ cap := by
  rcases h.2 with ⟨rfl, rfl⟩ | ⟨g, cap, cur, rfl, hg, hh, hc, _⟩
  · exact ⟨none, 0, rfl, Nat.le_refl _⟩
  · exact ⟨_, cap, rfl, hc⟩
/-- who is drawn, whether the choices may be or not -/
def DrawnC (key : Nat) (ls : List Ch) (r : Option Ch) : Prop := (MayC ls ∧ r = bestC (costOf key) ls) ∨ (¬ MayC ls ∧ r = none)
def BestPost (key : Nat) (ls : List Ch) (w : World) (e : Ending) (w' : World) : Prop := Below w.heap.size w w' ∧ ∃ r, DrawnC key ls r ∧ e = .returned (.tuple #[.int .i64 (idO r), .bool (isO r)])
theorem may_heavy {ls : List Ch} (h : MayC ls) : ∀ c ∈ heavy ls, 1 ≤ c.2 ∧ c.2 ≤ 65536 := fun c hc => by
  have h1 := heavy_mem.1 hc
  have := ((may_iff ls).1 h).2.1 c h1.1
  exact ⟨by omega, this.2.2.2⟩
theorem may_w {ls : List Ch} (h : MayC ls) : ∀ c ∈ ls, 0 ≤ c.2 := fun c hc => (((may_iff ls).1 h).2.1 c hc).2.2.1
theorem may_rise {ls : List Ch} (h : MayC ls) : Rise ls := ((may_iff ls).1 h).2.2
set_option maxHeartbeats 1000000 in
set_option maxRecDepth 60000 in
theorem best_any (key : Nat) (a : Option Addr) (len cap : Nat) (ls : List Ch) (w : World) (hkey : key < 18446744073709551616) (h : ChsAt w a len cap ls) :
    Calls Try.prog 9 #[.int .u64 (key : Int), .slice a len cap] w fun e w' => BestPost key ls w e w' := by
  have HC : Hid (Calls Try.prog 18 #[.int .u64 (key : Int), .slice a len cap] w fun e w' => LotsPost key ls w e w') := lots_any key a len cap ls w hkey h
  clear h hkey
  go_enter Try.func9, Try.ntmps9
  go_wp2_with fail
  refine HC.out.mono ?_
  rintro e w2 ⟨lv, L, rfl, hown, hb2, hL⟩
  clear HC
  cases L with
  | nil =>
    have HD : Hid (DrawnC key ls none) := by
      rcases hL with ⟨hM, hL⟩ | ⟨hN, _⟩
      · exact .inl ⟨hM, (bestC_eq _ (may_rise hM) (may_w hM) ((isBest_nobody _ (may_w hM)).2 hL.symm)).symm⟩
      · exact .inr ⟨hN, rfl⟩
    obtain ⟨al, capl, rfl, -⟩ := own_slice hown
    clear hL hown
    go_wp2_with fail
    go_returns
    exact ⟨hb2, none, HD.out, rfl⟩
  | cons c s =>
    obtain ⟨hM, hL⟩ : MayC ls ∧ c :: s = heavy ls := by
      rcases hL with h | ⟨_, h⟩
      · exact h
      · cases h
    have HD : Hid (DrawnC key ls (some (minC (costOf key) s c))) := .inl ⟨hM, (minC_best _ (may_rise hM) (may_w hM) hL.symm).symm⟩
    obtain ⟨g, capl, rfl, -, hg, -⟩ := own_some hown (by simp)
    have h64 : (c :: s).length ≤ 64 := by
      rw [hL]
      exact Nat.le_trans (heavy_len ls) hM.1
    have HMF := minFunc_any key g capl c s w2 (lots_own hown rfl) hg h64 (by rw [hL]; exact may_heavy hM)
    have h1 : 1 ≤ (c :: s).length := by simp
    generalize (c :: s).length = n at *
    generalize minC (costOf key) s c = r at *
    obtain ⟨r1, r2⟩ := r
    have HMF' : Hid (Calls Try.prog 21 #[.slice (some ⟨g, 0, none⟩) n capl, .func (.func 20) #[] #[]] w2 fun e w' => e = .returned (.agg #[.int .i64 r1, .int .i64 r2, .int .i64 (costOf key r1)]) ∧ Below w2.heap.size w2 w') := HMF
    have hn0 : ((n : Int) == 0) = false := beq_eq_false_iff_ne.2 (by omega)
    have hn1 : ¬ (n : Int) = 0 := by omega
    have hn2 : ¬ n = 0 := by omega
    generalize costOf key r1 = p at *
    have hfd : ∀ w : World, (Instr.field 46 (.agg #[.int .i64 r1, .int .i64 r2, .int .i64 p]) 0).run Try.prog w = .ok (.int .i64 r1) w := fun _ => by kernel_rfl
    clear HMF hL hown hM h64
    go_wp2_with (go_at_call 21; refine HMF'.out.mono ?_; rintro e w3 ⟨rfl, hb3⟩)
    go_returns
    exact ⟨below2 hb2 hb3, some (r1, r2), HD.out, rfl⟩
end Go.Proofs.Ytbconflmjdpolaa
