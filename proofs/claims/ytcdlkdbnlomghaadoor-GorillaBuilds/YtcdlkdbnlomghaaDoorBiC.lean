/-
  The contract of lay: a number's lowest bits laid over noughts.
-/
import Derived.Test.YtcdlkdbnlomghaaDoorBiA
namespace Go.Proofs.YtcdlkdbnlomghaaDoor.Bi
open Go.ChangeShapes Go.WideShapes Go.ChangeAt Go.RowKit
def LayPost (g : Nat) (M : Nat) (l : List Bool) (w : World) (e : Ending) (w' : World) : Prop := e = .returned (.tuple #[]) ∧ Ro w' g 5 (bytV (pack l M)) ∧ KeepR g w w'
theorem or_step (B u x s q : Nat) (hB : B < 256) (hs : s ≤ 8) (_ : q + s ≤ 8) :
    bits .or .u8 (B : Int) ((u : Int) / 2 ^ x % 256 * 2 ^ (8 - s) % 256 / 2 ^ q) = ((B ||| valL (low (u / 2 ^ x) s) * 2 ^ (8 - s) / 2 ^ q : Nat) : Int) := by
  have e1 : ((u : Int) / 2 ^ x % 256 * 2 ^ (8 - s) % 256 / 2 ^ q) = ((u / 2 ^ x % 256 * 2 ^ (8 - s) % 256 / 2 ^ q : Nat) : Int) := by
    rw [Int.natCast_ediv, Int.natCast_emod, Int.natCast_mul, Int.natCast_emod, Int.natCast_ediv, Int.natCast_pow, Int.natCast_pow, Int.natCast_pow]; rfl
  rw [e1, cut_part _ s hs, ← valL_low (u / 2 ^ x) s]
  have h1 := valL_lt (low (u / 2 ^ x) s)
  rw [low_len] at h1
  have h2 : valL (low (u / 2 ^ x) s) * 2 ^ (8 - s) < 256 := by
    have := Nat.mul_lt_mul_of_pos_right h1 (Nat.two_pow_pos (8 - s))
    rw [← Nat.pow_add, show s + (8 - s) = 8 by omega] at this
    exact this
  have h3 : valL (low (u / 2 ^ x) s) * 2 ^ (8 - s) / 2 ^ q < 256 := Nat.lt_of_le_of_lt (Nat.div_le_self _ _) h2
  rw [u8_or_nat _ _ hB h3]
theorem lay_step {w : World} {g M n u a k m p q j s x B : Nat} {l : List Bool} (h : Ro w g 5 (bytV (pack (l ++ low (u / 2 ^ (n - k)) k) M))) (ha : l.length = a) (hp : p = a + k) (hm : m = n - k) (hq : q = p % 8) (hj : j = p / 8)
    (hs : s = min m (8 - q)) (hx : x = m - s) (hk : k < n) (hB : B = byteOf (l ++ low (u / 2 ^ (n - k)) k) j) :
    Ro (w.setCell ⟨g, j, none⟩ (.int .u8 (bits .or .u8 (B : Int) ((u : Int) / 2 ^ x % 256 * 2 ^ (8 - s) % 256 / 2 ^ q)))) g 5 (bytV (pack (l ++ low (u / 2 ^ (n - (k + s))) (k + s)) M)) := by
  have hlen : (l ++ low (u / 2 ^ (n - k)) k).length = p := by rw [List.length_append, low_len, ha, hp]
  have e1 : l ++ low (u / 2 ^ (n - (k + s))) (k + s) = (l ++ low (u / 2 ^ (n - k)) k) ++ low (u / 2 ^ x) s := by
    rw [low_add, Nat.div_div_eq_div_mul, ← Nat.pow_add, show n - (k + s) + s = n - k by omega, show n - (k + s) = x by omega, List.append_assoc]
  rw [e1, or_step B u x s q (by rw [hB]; exact byteOf_lt _ _) (by omega) (by omega)]
  rw [pack_lay _ _ M (by rw [hlen, low_len]; omega), hlen, low_len, ← hj, ← hq, ← hB, ← bytV_set]
  exact h.set j _
set_option maxRecDepth 60000 in
theorem lay_any (g M n u a : Nat) (l : List Bool) (w : World) (h : Ro w g 5 (bytV (pack l M))) (ha : l.length = a) (hl : a + n ≤ 8 * M) (hM : M ≤ 100000) (hn : n ≤ 64) :
    Calls Tryd.prog 72 #[.slice (some ⟨g, 0, none⟩) M M, .int .i64 a, .int .u64 u, .int .i64 n] w fun e w' => LayPost g M (l ++ low u n) w e w' := by
  have H := Hid.mk9 h
  have HL := Hid.mk9 hl
  have HM := Hid.mk9 hM
  have HN := Hid.mk9 hn
  have HA := Hid.mk9 ha
  have hn9 : (n : Int) ≤ 64 := by omega

  clear h hl hM hn ha
  go_enter Tryd.func72, Tryd.ntmps72
  go_wp2
  go_loopw [1, 3] (fun i m wr => ∃ k : Nat, k ≤ n ∧ Hid (i = .int .i64 ((a + k : Nat) : Int) ∧ m = .int .i64 ((n - k : Nat) : Int)) ∧ Hid (Ro wr g 5 (bytV (pack (l ++ low (u / 2 ^ (n - k)) k) M)) ∧ KeepR g w wr)) (fun i m _ => (intOf m).toNat)
  case atStart => exact ⟨0, Nat.zero_le _, ⟨rfl, rfl⟩, by simpa [low] using H.out, KeepR.refl _ _⟩
  case round =>
    obtain ⟨k, hk, hr, hw⟩ := hrel
    obtain ⟨rfl, rfl⟩ := hr.out
    clear hr
    by_cases hlt : k < n
    · obtain ⟨m, hm⟩ : ∃ m, m = n - k := ⟨_, rfl⟩
      obtain ⟨p, hp⟩ : ∃ p, p = a + k := ⟨_, rfl⟩
      obtain ⟨q, hq⟩ : ∃ q, q = p % 8 := ⟨_, rfl⟩
      obtain ⟨j, hj⟩ : ∃ j, j = p / 8 := ⟨_, rfl⟩
      obtain ⟨s, hs⟩ : ∃ s, s = min m (8 - q) := ⟨_, rfl⟩
      obtain ⟨x, hx⟩ : ∃ x, x = m - s := ⟨_, rfl⟩
      rw [← hm, ← hp]
      have hL := HL.out
      have hM := HM.out
      have e1 : ((p : Nat) : Int) % 8 = (q : Int) := by omega
      have e2 : ((p : Nat) : Int) / 8 = (j : Int) := by omega
      have e3 : min (m : Int) (8 - (q : Int)) = (s : Int) := by omega
      have e4 : 0 < (m : Int) := by omega
      have e5 : (j : Int) < (M : Int) := by omega
      have e6 : (j : Int) ≤ 1000000 := by omega
      have e7 : (p : Int) ≤ 1000000 := by omega
      have e8 : (q : Int) < 8 := by omega
      have e9 : (s : Int) ≤ 8 := by omega
      have e10 : (m : Int) ≤ 64 := by omega
      have e11 : (s : Int) ≤ (m : Int) := by omega
      have e12 : (m : Int) - (s : Int) = (x : Int) := by omega
      have h1 := hw.out.1.byte (i := j) (by rw [pack_len]; omega)
      rw [pack_get _ (by omega)] at h1
      have h2 := hw.out.1.fz j
      obtain ⟨B, hBy⟩ : ∃ B, B = byteOf (l ++ low (u / 2 ^ (n - k)) k) j := ⟨_, rfl⟩
      rw [← hBy] at h1
      clear hL hM
      have HP := Hid.mk9 hp
      have HM2 := Hid.mk9 hm
      have HQ := Hid.mk9 hq
      have HJ := Hid.mk9 hj
      have HS := Hid.mk9 hs
      have HX := Hid.mk9 hx
      have HBy := Hid.mk9 hBy
      clear hp hm hq hj hs hlt hBy hx
      go_wp2_with fail
      have HR : Hid (Ro (wr.setCell ⟨g, j, none⟩ (.int .u8 (bits .or .u8 (B : Int) ((u : Int) / 2 ^ x % 256 * 2 ^ (8 - s) % 256 / 2 ^ q)))) g 5 (bytV (pack (l ++ low (u / 2 ^ (n - (k + s))) (k + s)) M))) := lay_step hw.out.1 HA.out HP.out HM2.out HQ.out HJ.out HS.out HX.out (by have := HM2.out; omega) HBy.out
      have HK := Hid.mk9 (hw.out.2.set j (.int .u8 (bits .or .u8 (B : Int) ((u : Int) / 2 ^ x % 256 * 2 ^ (8 - s) % 256 / 2 ^ q))))
      refine ⟨⟨k + s, by have := HS.out; have := HM2.out; omega, ⟨?_, ?_⟩, HR.out, HK.out⟩, by simp [intOf]; have := HS.out; have := HX.out; omega⟩
      · have := HP.out; congr 1; omega
      · have := HM2.out; have := HX.out; congr 1; omega
    · obtain rfl : k = n := by omega
      have hz : ((k - k : Nat) : Int) = 0 := by omega
      rw [hz]
      have HE : Hid (LayPost g M (l ++ low u k) w (.returned (.tuple #[])) wr) := ⟨rfl, by simpa using hw.out.1, hw.out.2⟩
      clear hw
      go_wp2_with fail
      first | go_end0 | refine bodyPost_ret (results_none rfl _ _ _) rfl ?_
      exact HE.out
end Go.Proofs.YtcdlkdbnlomghaaDoor.Bi
