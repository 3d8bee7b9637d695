/-
  The contract of word: some bits of bytes, as a number.
-/
import Derived.Test.YtcdlkdbnlomghaaDoorBiA
namespace Go.Proofs.YtcdlkdbnlomghaaDoor.Bi
open Go.ChangeShapes Go.WideShapes Go.ChangeAt Go.RowKit
theorem word_step (l : List Bool) (at' k s p q j B : Nat) (hB : B = byteOf l j) (hp : p = at' + k) (hq : q = p % 8) (hj : j = p / 8) (h : q + s ≤ 8) (hk : k + s ≤ 64) :
    bits .or .u64 (IntKind.u64.wrap (((val (bt l) at' k : Nat) : Int) * 2 ^ s)) (IntKind.u64.wrap ((B : Int) * 2 ^ q % 256 / 2 ^ (8 - s))) = ((val (bt l) at' (k + s) : Nat) : Int) := by
  subst hB hq hj
  have h1 := word_part l p s h
  have e1 : ((byteOf l (p / 8) : Nat) : Int) * 2 ^ (p % 8) % 256 / 2 ^ (8 - s) = ((val (bt l) p s : Nat) : Int) := by
    rw [← h1]
    simp
  have hv := val_lt (bt_lt l) at' k
  have hs := val_lt (bt_lt l) p s
  have h64 : 2 ^ k * 2 ^ s ≤ 18446744073709551616 := by
    rw [← Nat.pow_add]
    exact Nat.le_trans (Nat.pow_le_pow_right (by decide) hk) (by decide)
  have hv2 : val (bt l) at' k * 2 ^ s < 18446744073709551616 := Nat.lt_of_lt_of_le (Nat.mul_lt_mul_of_pos_right hv (Nat.two_pow_pos s)) h64
  have hs2 : val (bt l) p s < 18446744073709551616 := Nat.lt_of_lt_of_le hs (Nat.le_trans (Nat.pow_le_pow_right (by decide) (by omega : s ≤ 64)) (by decide))
  have e2 : ((val (bt l) at' k : Nat) : Int) * 2 ^ s = ((val (bt l) at' k * 2 ^ s : Nat) : Int) := by simp
  rw [e1, e2, IntKind.wrap_u64, IntKind.wrap_u64, Int.emod_eq_of_lt (by omega) (by omega), Int.emod_eq_of_lt (by omega) (by omega), u64_or_nat _ _ hv2 hs2, Go.nat_join s _ _ (Nat.mul_mod_left _ _) hs, val_add, hp]
set_option maxRecDepth 60000 in
theorem word_any (a : Option Addr) (len cap at' n : Nat) (l : List Bool) (w : World) (h : ByAt w a len cap (pack l len)) (hl : at' + n ≤ 8 * len) (hn : n ≤ 64) (hB : at' + n ≤ 1000000) :
    Calls Tryd.prog 77 #[.slice a len cap, .int .i64 at', .int .i64 n] w fun e w' => e = .returned (.int .u64 ((val (bt l) at' n : Nat) : Int)) ∧ w' = w := by
  have hm : len ≤ maxLen := Nat.le_trans h.2.1 h.2.2.1
  unfold maxLen at hm
  have H := Hid.mk9 h
  have HL := Hid.mk9 hl
  have HM := Hid.mk9 hm
  have hn9 : (n : Int) ≤ 64 := by omega
  have HB := Hid.mk9 hB
  clear h hl hm hn hB
  go_enter Tryd.func77, Tryd.ntmps77
  go_wp2
  go_loopw [1, 2, 7] (fun i m u wr => ∃ k : Nat, k ≤ n ∧ Hid (i = .int .i64 ((at' + k : Nat) : Int) ∧ m = .int .i64 ((n - k : Nat) : Int) ∧ u = .int .u64 ((val (bt l) at' k : Nat) : Int)) ∧ Hid (wr = w)) (fun i m u _ => (intOf m).toNat)
  case atStart => exact ⟨0, Nat.zero_le _, ⟨rfl, rfl, rfl⟩, rfl⟩
  case round =>
    obtain ⟨k, hk, hr, hw⟩ := hrel
    obtain ⟨rfl, rfl, rfl⟩ := hr.out
    obtain rfl := hw.out
    clear hr hw
    by_cases hlt : k < n
    · obtain ⟨m, hm⟩ : ∃ m, m = n - k := ⟨_, rfl⟩
      obtain ⟨p, hp⟩ : ∃ p, p = at' + k := ⟨_, rfl⟩
      obtain ⟨q, hq⟩ : ∃ q, q = p % 8 := ⟨_, rfl⟩
      obtain ⟨j, hj⟩ : ∃ j, j = p / 8 := ⟨_, rfl⟩
      obtain ⟨s, hs⟩ : ∃ s, s = min m (8 - q) := ⟨_, rfl⟩
      rw [← hm, ← hp]
      have hL := HL.out
      have hM := HM.out
      have e1 : ((p : Nat) : Int) % 8 = (q : Int) := by omega
      have e2 : ((p : Nat) : Int) / 8 = (j : Int) := by omega
      have e3 : min (m : Int) (8 - (q : Int)) = (s : Int) := by omega
      have e4 : 0 < (m : Int) := by omega
      have hB := HB.out
      have e5 : (j : Int) < (len : Int) := by omega
      have e6 : (j : Int) ≤ 1000000 := by omega
      have e7 : (p : Int) ≤ 1000000 := by omega
      have e8 : (q : Int) < 8 := by omega
      have e9 : (s : Int) ≤ 8 := by omega
      have e10 : (m : Int) ≤ 64 := by omega
      have e11 : (s : Int) ≤ (m : Int) := by omega
      obtain ⟨b, off, rfl, hb, hc⟩ := H.out.some (by omega)
      have h1 := hc j (by omega)
      rw [pack_get l (by omega)] at h1
      obtain ⟨B, hBy⟩ : ∃ B, B = byteOf l j := ⟨_, rfl⟩
      rw [← hBy] at h1
      clear hc hb hL hM hB
      have HP := Hid.mk9 hp
      have HM2 := Hid.mk9 hm
      have HQ := Hid.mk9 hq
      have HJ := Hid.mk9 hj
      have HS := Hid.mk9 hs
      have HBy := Hid.mk9 hBy
      clear hp hm hq hj hs hlt hBy
      have HE : Hid (bits .or .u64 (IntKind.u64.wrap (((val (bt l) at' k : Nat) : Int) * 2 ^ s)) (IntKind.u64.wrap ((B : Int) * 2 ^ q % 256 / 2 ^ (8 - s))) = ((val (bt l) at' (k + s) : Nat) : Int)) := word_step l at' k s p q j B HBy.out HP.out HQ.out HJ.out (by have := HS.out; omega) (by have := HS.out; have := HM2.out; omega)
      generalize val (bt l) at' k = V at *
      go_wp2_with fail
      refine ⟨⟨k + s, by have := HS.out; have := HM2.out; omega, ⟨?_, ?_, ?_⟩, trivial⟩, by simp [intOf]; have := HS.out; omega⟩
      · have := HP.out; congr 1; omega
      · have := HM2.out; congr 1; omega
      · rw [HE.out]
    · obtain rfl : k = n := by omega
      have hz : ((k - k : Nat) : Int) = 0 := by omega
      rw [hz]
      generalize hV : val (bt l) at' k = V at *
      have HV := Hid.mk9 hV
      clear hV
      go_wp2_with fail
      go_ret
      exact ⟨by rw [HV.out]; rfl, rfl⟩
end Go.Proofs.YtcdlkdbnlomghaaDoor.Bi
