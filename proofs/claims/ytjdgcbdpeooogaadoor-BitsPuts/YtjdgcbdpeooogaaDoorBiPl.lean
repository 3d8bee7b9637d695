/-
  What the law BitsPuts asks of the calls.
-/
import Derived.Test.YtjdgcbdpeooogaaDoorBiPa
import Derived.Test.YtjdgcbdpeooogaaDoorBiMz
import Derived.Test.YtjdgcbdpeooogaaDoorBiFu
namespace Go.Proofs.YtjdgcbdpeooogaaDoor.Bi
open Go.ChangeShapes Go.WideShapes Go.ChangeAt Go.RowKit
/-- bits that a callee made, behind a letter for how many -/
def BP (l : List Bool) (er : Int) (w : World) (e : Ending) (w' : World) : Prop := Below w.heap.size w w' ∧ ∃ (a : Option Addr) (len cap k : Nat), e = .returned (.tuple #[.agg #[.slice a len cap, .int .i64 (k : Int)], .int .i64 er]) ∧ k = l.length ∧ ByAt w' a len cap (pack l len) ∧ len = need k
theorem bp_of {l : List Bool} {er : Int} {w w' : World} {e : Ending} (h : BitsPost l er w e w') : BP l er w e w' := by
  obtain ⟨hb, a, len, cap, he, hy, hl, _⟩ := h
  exact ⟨hb, a, len, cap, l.length, he, rfl, hy, hl⟩
theorem wrap_inI (x : Int) : inI (IntKind.i64.wrap x) := by
  unfold inI
  simp only [IntKind.wrap, IntKind.bits, IntKind.signed]
  simp
  omega
theorem told_nil (a : Option Addr) (len cap k : Nat) (w : World) (h : ByAt w a len cap (pack [] len)) (hl : len = need k) (hk : k = 0) : Calls Tryd.prog 14 #[.agg #[.slice a len cap, .int .i64 (k : Int)], .int .i64 1, .slice none 0 0, .int .i64 1] w fun e w' => e = .returned (.bool true) ∧ Below w.heap.size w w' := by
  subst hk
  exact told_yes a len cap 0 [] 1 none 0 w h hl (BoAt.nil _) (by decide)
theorem told_yes2 (a : Option Addr) (len cap k m : Nat) (l : List Bool) (er : Int) (al : Option Addr) (capl : Nat) (w : World) (h : ByAt w a len cap (pack l len)) (hl : len = need k) (hb : BoAt w al m capl l) (hk : k = m) (h9 : (k : Int) ≤ 20000) : Calls Tryd.prog 14 #[.agg #[.slice a len cap, .int .i64 (k : Int)], .int .i64 er, .slice al m capl, .int .i64 er] w fun e w' => e = .returned (.bool true) ∧ Below w.heap.size w w' := by
  subst hk
  exact told_yes a len cap k l er al capl w h hl hb (by omega)
/-- what Put tells of bits that may be, and not too many -/
def PutIs (L : List Bool) (u : Nat) (n : Int) (l3 : List Bool) (er3 : Int) : Prop := (isWordP n = true ∧ u / 2 ^ n.toNat = 0 ∧ l3 = L ++ low u n.toNat ∧ er3 = 0) ∨ ((isWordP n = false ∨ u / 2 ^ n.toNat ≠ 0) ∧ l3 = L ∧ er3 = 1)
theorem isWordP_yes {n : Int} (h : isWordP n = true) : 0 ≤ n ∧ n ≤ 64 := by
  unfold isWordP at h
  simp at h
  omega
theorem put_is (a : Option Addr) (len cap k : Nat) (L : List Bool) (u : Nat) (n : Int) (hk : L.length = k) (hl : len = need k) (hN : k ≤ 2400) : ∃ l3 er3, PutIs L u n l3 er3 ∧ ∀ w, ByAt w a len cap (pack L len) → Calls Tryd.prog 10 #[.agg #[.slice a len cap, .int .i64 (k : Int)], .int .u64 (u : Int), .int .i64 n] w fun e w' => BP l3 er3 w e w' := by
  by_cases hw : isWordP n = true
  · obtain ⟨h0, h9⟩ := isWordP_yes hw
    obtain ⟨m, rfl⟩ : ∃ m : Nat, n = (m : Int) := ⟨n.toNat, by omega⟩
    by_cases hu : u / 2 ^ m = 0
    · exact ⟨_, _, .inl ⟨hw, by simpa using hu, rfl, rfl⟩, fun w h => (put_yes a len cap k m u L w h hk hl (by omega) hu (by omega)).mono fun e w' hp => by simpa using bp_of hp⟩
    · exact ⟨_, _, .inr ⟨.inr (by simpa using hu), rfl, rfl⟩, fun w h => (put_back a len cap k m u L 1 w h hk hl (by omega) (.inr (.inl ⟨hw, by simpa using hu, rfl⟩))).mono fun e w' hp => bp_of hp⟩
  · have hf : isWordP n = false := by simpa using hw
    exact ⟨_, _, .inr ⟨.inl hf, rfl, rfl⟩, fun w h => (put_back a len cap k n u L 1 w h hk hl (by omega) (.inl ⟨hf, rfl⟩)).mono fun e w' hp => bp_of hp⟩
/-- what Join tells of bits that may be, with others -/
def JoinIs (L : List Bool) (z : List Nat) (N : Int) (l6 : List Bool) (er6 : Int) : Prop := (¬ MayB z N ∧ l6 = [] ∧ er6 = 1) ∨ (MayB z N ∧ ∃ k1 : Nat, N = (k1 : Int) ∧ z = pack (unpack z k1) z.length ∧ z.length = need k1 ∧ l6 = L ++ unpack z k1 ∧ er6 = 0)
theorem join_is (a a2 : Option Addr) (len cap k len2 cap2 : Nat) (N : Int) (L : List Bool) (z : List Nat) (hk : L.length = k) (hl : len = need k) (hN : k ≤ 2400) (hN2 : N ≤ 2400) (hz : ∀ i, z.getD i 0 < 256) : ∃ l6 er6, JoinIs L z N l6 er6 ∧ ∀ w, ByAt w a len cap (pack L len) → ByAt w a2 len2 cap2 z → Calls Tryd.prog 12 #[.agg #[.slice a len cap, .int .i64 (k : Int)], .agg #[.slice a2 len2 cap2, .int .i64 N]] w fun e w' => BP l6 er6 w e w' := by
  have hML : MayB (pack L len) (k : Int) := by
    have := pack_may (l := L) (by omega)
    rwa [hk, ← hl] at this
  by_cases hM : MayB z N
  · obtain ⟨k1, rfl⟩ : ∃ k1 : Nat, N = (k1 : Int) := ⟨N.toNat, by have := hM.1; omega⟩
    have hnd : z.length = need k1 := (may_iff.1 hM).2.1
    have hpk := may_pack hz hM
    refine ⟨_, _, .inr ⟨hM, k1, rfl, hpk, hnd, rfl, rfl⟩, fun w h h2 => ?_⟩
    have e2 : len2 = z.length := h2.1.symm
    rw [hpk, ← e2] at h2
    refine (join_yes2 a a2 len cap len2 cap2 k k1 L (unpack z k1) w h hk hl (by omega) h2 (unpack_len _ _) (by omega) (by omega) ?_ (by omega)).mono fun e w' hp => bp_of hp
    rcases Nat.eq_zero_or_pos len2 with h0 | h0
    · left
      unfold need at hnd
      omega
    · obtain ⟨b, off, e, hb, _⟩ := h2.some h0
      exact .inr fun p hp => by
        rw [e] at hp
        injection hp with hp
        rw [← hp]
        exact hb
  · exact ⟨_, _, .inl ⟨hM, rfl, rfl⟩, fun w h h2 => (join_no2 a a2 len cap len2 cap2 (k : Int) N (pack L len) z w h hML h2 hM).mono fun e w' hp => bp_of hp⟩
end Go.Proofs.YtjdgcbdpeooogaaDoor.Bi
