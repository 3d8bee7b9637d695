/-
  Numbers one behind the other, plainly; awake.
-/
import Derived.Test.YtcdlkdbnlomghaaDoorBiR
import Derived.Test.YtcdlkdbnlomghaaDoorBiM
import Derived.Test.YtcdlkdbnlomghaaDoorBiL
namespace Go.Proofs.YtcdlkdbnlomghaaDoor.Bi
open Go.ChangeShapes Go.WideShapes Go.ChangeAt Go.RowKit
theorem val_here (l s m : List Bool) : val (bt (l ++ (s ++ m))) l.length s.length = valL s := val_congr fun i hi => by
  rw [Nat.zero_add, bt_right, bt_left _ hi]
theorem hv_small {c : Nat} (h : c < 5) : hvT c % 2 ^ hdT c = hvT c := by
  rcases c with _ | _ | _ | _ | _ | c <;> first | decide | omega
theorem hv_apart : ∀ c, c < 5 → ∀ j, j < c → hdT j ≤ hdT c ∧ hvT c / 2 ^ (hdT c - hdT j) ≠ hvT j := by decide
theorem wd_fits {u : Nat} (h : inU u) : u % 2 ^ wdT (clsU u) = u := by
  have h9 := h
  unfold inU at h9
  refine Nat.mod_eq_of_lt ?_
  unfold clsU
  split
  · simp [wdT]; omega
  split
  · show u < 2 ^ 7; omega
  split
  · show u < 2 ^ 12; omega
  split
  · show u < 2 ^ 20; omega
  · show u < 2 ^ 64; omega
theorem num_coded (l m : List Bool) (n : Int) (hn : inI n) : NumIs (l ++ (coded n ++ m)) l.length n (szT (clsU (foldN n))) := by
  have hu := foldN_in hn
  obtain ⟨c, hc⟩ : ∃ c, c = clsU (foldN n) := ⟨_, rfl⟩
  have hlt : c < 5 := by rw [hc]; exact clsU_lt _
  have hcl := coded_len n
  have hA : val (bt (l ++ (coded n ++ m))) l.length (hdT c) = hvT c := by
    have e : l ++ (coded n ++ m) = l ++ (low (hvT c) (hdT c) ++ (low (foldN n) (wdT c) ++ m)) := by unfold coded; rw [← hc, List.append_assoc]
    rw [e]
    have h1 := val_here l (low (hvT c) (hdT c)) (low (foldN n) (wdT c) ++ m)
    rw [low_len, valL_low, hv_small hlt] at h1
    exact h1
  have hB : val (bt (l ++ (coded n ++ m))) (l.length + hdT c) (wdT c) = foldN n := by
    have e : l ++ (coded n ++ m) = (l ++ low (hvT c) (hdT c)) ++ (low (foldN n) (wdT c) ++ m) := by unfold coded; rw [← hc, List.append_assoc, List.append_assoc]
    rw [e]
    have h1 := val_here (l ++ low (hvT c) (hdT c)) (low (foldN n) (wdT c)) m
    rw [low_len, valL_low, List.length_append, low_len] at h1
    rw [h1, hc]
    exact wd_fits hu
  rw [← hc]
  refine ⟨c, ⟨hlt, ⟨?_, hA⟩, fun j hj hk => ?_⟩, ?_, rfl, by rw [hB]; exact hc.symm, by rw [hB, gather_fold]⟩
  · rw [List.length_append, List.length_append, hcl, ← hc]; unfold szT; omega
  · obtain ⟨h1, h2⟩ := hv_apart c hlt j hj
    obtain ⟨r, hr⟩ : ∃ r, hdT c = hdT j + r := ⟨hdT c - hdT j, by omega⟩
    have h3 := val_add (bt (l ++ (coded n ++ m))) l.length (hdT j) r
    rw [← hr, hA, hk.2] at h3
    have h4 := val_lt (bt_lt (l ++ (coded n ++ m))) (l.length + hdT j) r
    apply h2
    rw [show hdT c - hdT j = r by omega, h3, Nat.add_comm, Nat.add_mul_div_right _ _ (Nat.two_pow_pos r), Nat.div_eq_of_lt h4, Nat.zero_add]
  · rw [List.length_append, List.length_append, hcl, ← hc]; omega
theorem hd_pos : ∀ c, c < 5 → 0 < hdT c := by decide
theorem num_end (l : List Bool) (v : Int) (k : Nat) : ¬ NumIs l l.length v k := by
  rintro ⟨c, h1, _⟩
  have := h1.2.1.1
  have := hd_pos c h1.1
  omega
def L2 : List Bool := [false, true, false, false, false, false, false, false, false, true]
theorem awake_bits : coded 0 ++ coded (-1) = L2 := by decide
theorem awake_pack : pack L2 2 = [64, 64] := by decide
end Go.Proofs.YtcdlkdbnlomghaaDoor.Bi
