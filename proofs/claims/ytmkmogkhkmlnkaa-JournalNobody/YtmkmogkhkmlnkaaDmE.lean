/-
  Write: many sectors are written, one by one.
-/
import Derived.Test.YtmkmogkhkmlnkaaMgD
namespace Go.Proofs.Ytmkmogkhkmlnkaa.Dm
open Go.ChangeShapes Go.WideShapes Go.ChangeAt Go.RowKit
/-- the i-th sector of bytes -/
def sec (l : List UInt8) (i : Nat) : List UInt8 := (l.drop (64 * i)).take 64
theorem sec_length (l : List UInt8) (i : Nat) (h : 64 * i + 64 ≤ l.length) : (sec l i).length = 64 := by simp [sec]; omega
def writesN (D : Dm) (p : Nat) (l : List UInt8) : Nat → Dm
  | 0 => D
  | i + 1 => wOneD (writesN D p l i) (p + i) (sec l i)
theorem wOneD_pend (D : Dm) (p : Nat) (c : List UInt8) : (wOneD D p c).pend.length ≤ D.pend.length + 1 := by
  unfold wOneD
  split
  · rw [spendD_pend]; exact Nat.le_succ _
  · simp [spendD_pend]
theorem writesN_pend (D : Dm) (p : Nat) (l : List UInt8) (i : Nat) : (writesN D p l i).pend.length ≤ D.pend.length + i := by
  induction i with
  | zero => exact Nat.le_refl _
  | succ i ih =>
    have := wOneD_pend (writesN D p l i) (p + i) (sec l i)
    show (wOneD (writesN D p l i) (p + i) (sec l i)).pend.length ≤ _
    omega
theorem BytesAt.sec {w : World} {g off : Nat} {l : List UInt8} (h : BytesAt w g off l) (i : Nat) : BytesAt w g (off + 64 * i) (sec l i) := fun j v hj => by
  have hj' : (cellsB l)[64 * i + j]? = some v := by
    unfold Dm.sec at hj
    rw [← cellsB_take, ← cellsB_drop, List.getElem?_take] at hj
    split at hj
    · rwa [List.getElem?_drop] at hj
    · cases hj
  have := h _ _ hj'
  rw [addr_add] at this ⊢
  rwa [show off + 64 * i + j = off + (64 * i + j) by omega]
theorem Src.sec {a s k g off : Nat} {l : List UInt8} {w : World} (h : Src a s k g off l w) (i : Nat) : Src a s k g (off + 64 * i) (sec l i) w := ⟨h.ga, h.gs, h.gk, h.ob, h.bs.sec i⟩
set_option maxHeartbeats 2000000 in
theorem write_any {B a s k n : Nat} {D : Dm} {pv : Value} (w : World) (h : DmAt B a s k n D pv w) (p m g off cap : Nat) (l : List UInt8) (hp : p + m ≤ n) (hm : 0 < m) (hl : l.length = 64 * m) (hcap : 64 * m ≤ cap) (hcap2 : (cap : Int) ≤ 9223372036854775807) (hsrc : Src a s k g off l w) (hlen : ((D.pend.length + m : Nat) : Int) ≤ 100000) :
    Calls Try.prog 28 #[.pointer (some ⟨a, 0, none⟩), .int .i64 (p : Int), .slice (some ⟨g, off, none⟩) (64 * m) cap] w fun e w' => e = .returned (.int .i64 0) ∧ DPost B a s k n (writesN D p l m) w w' := by
  have hn := h.ok.n1
  have HHas := has_any w h p m (by omega) (by omega) (by omega) (by omega)
  rw [decide_eq_true (by omega)] at HHas
  have HSr : Hid (Src a s k g off l w) := hsrc
  have HL : Hid (((D.pend.length + m : Nat) : Int) ≤ 100000) := hlen
  have HI : Hid (DPost B a s k n (writesN D p l 0) w w) := ⟨⟨pv, h⟩, Below.refl _ _, Kd.refl _ _ _ _⟩
  clear h hsrc hlen
  go_enter Try.func28, Try.ntmps28
  go_wp2_with (go_at_call 45; refine HHas.mono ?_; rintro e w1 ⟨rfl, rfl⟩)
  go_loopw [22] (fun i wr => ∃ j : Nat, j ≤ m ∧ i = .int .i64 j ∧ Hid (DPost B a s k n (writesN D p l j) w1 wr)) (fun i _ => m - (intOf i).toNat)
  case atStart => exact ⟨0, Nat.zero_le _, rfl, HI⟩
  case round =>
    obtain ⟨j, hj, rfl, HJ⟩ := hrel
    by_cases hlt : j < m
    · obtain ⟨⟨pv', hD⟩, hb, hk⟩ := HJ.out
      have hS := (HSr.out.kd hk).sec j
      have HW := writeOne_any wr hD (p + j) g (off + 64 * j) (cap - 64 * j) (sec l j) (by omega) (sec_length l j (by omega)) hS (by have := writesN_pend D p l j; have := HL.out; omega)
      have hq : ((p + j : Nat) : Int) = (p : Int) + (j : Int) := by omega
      rw [hq] at HW
      clear hq
      clear hD hb hk hS
      go_wp2_with (first | (go_at_call 47; refine (sector_any g off (64 * m) cap j (by omega) hcap hcap2 _).mono ?_; rintro e w2 ⟨rfl, rfl⟩) | (go_at_call 46; refine HW.mono ?_; rintro e w3 ⟨rfl, hP⟩; have HP : Hid (DPost B a s k n (writesN D p l (j + 1)) w1 w3) := HJ.out.trans hP; clear hP))
      go_roundw
      case rel => exact ⟨j + 1, by omega, by go_num, HP⟩
      case measure => simp [intOf]; omega
    · obtain rfl : j = m := by omega
      go_wp2
      go_ret
      exact ⟨rfl, HJ.out⟩
end Go.Proofs.Ytmkmogkhkmlnkaa.Dm
