/-
  A crash, and opened anew; awake.
-/
import Derived.Test.YtmkmogkhkmlnkaaJnU
namespace Go.Proofs.Ytmkmogkhkmlnkaa.Dm
open Go.ChangeShapes Go.WideShapes Go.ChangeAt Go.RowKit
theorem kj_drum {B a s k n : Nat} {D : Dm} {pv : Value} {w w' : World} (h : DmAt B a s k n D pv w) (hk : Kd a s k w w') : Kj w w' := fun b c T fz hb h1 h2 h3 _ =>
  hk b _ hb (fun e => h1 (heap_T (e ▸ hb) h.box)) (fun e => h3 (heap_T (e ▸ hb) h.hseen)) (fun e => h3 (heap_T (e ▸ hb) h.hkept)) (by intro c' fz' e; injection e with _ e; exact h2 e)
theorem crash_ds {B a s k n : Nat} {z : Bool} {A P : Nat} {R : List Fr.Dat} {q : Bool} (w : World) (h : DS B a s k n z A P R q w) (pa : Option Addr) (cap : Nat) (l : List Bool) (L : Nat) (hL : l.length = L) (hpat : Pat B a s k pa l w) (hl : (L : Int) ≤ 9223372036854775807) :
    Calls Try.prog 15 #[.pointer (some ⟨a, 0, none⟩), .slice pa L cap] w fun e w' => e = .returned (.tuple #[]) ∧ Hid (Kb B w w' ∧ DS B a s k n z A P R true w') := by
  obtain ⟨D, pv, b, g, h1, h2, -⟩ := h
  refine (crash_any w h1 pa cap l L hL hpat hl).mono ?_
  rintro e w' ⟨rfl, ⟨pv', hD⟩, hb, hk⟩
  obtain ⟨q1, q2, q3⟩ := h2.quiet.crash (patF l)
  exact ⟨rfl, ⟨hb, kj_drum h1 hk⟩, _, pv', b, g, hD, ⟨h2.n8, h2.n40, q1, fun hz => (h2.calm hz).crash _, h2.ga, by rw [q3]; exact Nat.zero_le _⟩, fun _ => q2⟩
theorem arm_ds {B a s k n : Nat} {A P : Nat} {R : List Fr.Dat} (w : World) (h : DS B a s k n false A P R true w) (x : Int) (hx : x ≤ 9223372036854775807) :
    Calls Try.prog 14 #[.pointer (some ⟨a, 0, none⟩), .int .i64 x] w fun e w' => e = .returned (.tuple #[]) ∧ Hid (Kb B w w' ∧ DS B a s k n false A P R true w') := by
  obtain ⟨D, pv, b, g, h1, h2, h3⟩ := h
  refine (arm_any w h1 x hx).mono ?_
  rintro e w' ⟨rfl, hD, hb, hk⟩
  obtain ⟨b1, b2, b3⟩ := arm_gone D x
  exact ⟨rfl, ⟨hb, kj_drum h1 hk⟩, _, pv, b, g, hD, ⟨h2.n8, h2.n40, h2.quiet.arm x, (fun h => by cases h), h2.ga, by rw [b2]; exact h2.pend⟩, fun _ => (h3 rfl).arm x⟩
theorem open_ds {B a s k n : Nat} {z : Bool} {A P : Nat} {R : List Fr.Dat} (w : World) (h : DS B a s k n z A P R true w) (hA : (A : Int) ≤ 1000000) (hP : (P : Int) ≤ 60000) :
    Calls Try.prog 6 #[.pointer (some ⟨a, 0, none⟩)] w fun e w' => ∃ j, e = .returned (.tuple #[.pointer (some ⟨j, 0, none⟩), .int .i64 0]) ∧ Hid (Kb B w w' ∧ ∃ q, (z = true → q = false) ∧ JS B j a s k n z (A + 1) (P + 21) R R q w') := by
  obtain ⟨D, pv, b, g, h1, h2, h3⟩ := h
  have hon := h3 rfl
  have himg := h2.quiet.seen hon
  have a1 := h2.ga
  have a2 := h2.pend
  have a3 := h2.n8
  have a4 := h2.n40
  refine (open_any w h1 (by omega) (by omega) (fun J ds hs => ?_)).mono ?_
  · obtain ⟨rfl, -⟩ := himg.found hs
    show (g : Int) < _
    omega
  rintro e w' ⟨j, J, ds, rfl, hs, ⟨pv', fv', hJ'⟩, hb, hk⟩
  have hf := hs.fit
  obtain ⟨rfl, rfl⟩ := himg.found hs
  have hpn := anew_pend a4 D ⟨b, g, flatA g ds⟩ ds hf
  refine ⟨j, rfl, ⟨hb, hk⟩, ?_⟩
  rcases Quiet.anew (J := ⟨b, g, flatA g ds⟩) a3 (by omega) h1.ok.seen h2.quiet (fun _ => hon) (by show (g : Int) < _; omega) hf with ⟨hg, hq⟩ | ⟨hg, hl⟩
  · refine ⟨true, fun hz => ?_, _, _, pv', fv', b, g, hJ', ⟨a3, a4, rfl, hf.1, hf.2, hq, hg, (fun h => by cases h), fun hz => (h2.calm hz).anew n _ ds, by show g + 1 ≤ A + 1; omega, by omega, by omega⟩⟩
    have := ((h2.calm hz).anew n ⟨b, g, flatA g ds⟩ ds).2
    rw [this] at hg
    cases hg
  · exact ⟨false, fun _ => rfl, _, _, pv', fv', _, _, hJ', ⟨a3, a4, rfl, hf.1, hf.2, hl.q, hg, fun _ => hl, fun hz => (h2.calm hz).anew n _ ds, by show g + 1 ≤ A + 1; omega, by show g + 1 ≤ A + 1; omega, by omega⟩⟩
theorem open_zero {B a s k n : Nat} {pv : Value} (w : World) (h : DmAt B a s k n (zeroD n) pv w) (h8 : 8 ≤ n) (h40 : n ≤ 40) :
    Calls Try.prog 6 #[.pointer (some ⟨a, 0, none⟩)] w fun e w' => ∃ j, e = .returned (.tuple #[.pointer (some ⟨j, 0, none⟩), .int .i64 0]) ∧ Hid (Kb B w w' ∧ JS B j a s k n true 1 30 [] [] false w') := by
  refine (open_any w h (by omega) (by show ((0 : Nat) : Int) ≤ _; decide) (fun J ds hs => ?_)).mono ?_
  · obtain ⟨rfl, -⟩ := zero_found h8 (by omega) hs
    decide
  rintro e w' ⟨j, J, ds, rfl, hs, ⟨pv', fv', hJ'⟩, hb, hk⟩
  obtain ⟨rfl, rfl⟩ := zero_found h8 (by omega) hs
  obtain ⟨hl, hg⟩ := zero_live h8 (n := n) (by omega)
  have hpn := anew_pend h40 (zeroD n) ⟨true, 0, []⟩ [] hs.fit
  refine ⟨j, rfl, ⟨hb, hk⟩, _, _, pv', fv', _, _, hJ', ⟨h8, h40, rfl, (by intro d hd; cases hd), Nat.zero_le _, hl.q, hg, fun _ => hl, fun _ => (zero_calm n).anew n _ _, Nat.le_refl _, Nat.le_refl _, ?_⟩⟩
  have h0 : (zeroD n).pend.length = 0 := rfl
  omega
theorem JS.weak {B j a s k n : Nat} {z : Bool} {A P : Nat} {R cur : List Fr.Dat} {q : Bool} {w : World} (h : JS B j a s k n z A P R cur q w) : JS B j a s k n false A P R cur q w := by
  obtain ⟨D, J, pv, fv, b, g, h1, h2⟩ := h
  exact ⟨D, J, pv, fv, b, g, h1, h2.n8, h2.n40, h2.fr, h2.ok, h2.le, h2.quiet, h2.gone, h2.live, (fun h => by cases h), h2.age, h2.ga, h2.pend⟩
theorem pat_none (B a s k : Nat) (w : World) : Pat B a s k none [] w := ⟨.inl rfl⟩
/-- one number as data -/
theorem data_one (w : World) (z : Int) (h0 : 0 ≤ z) (h1 : z < 64) : Fr.DataAt (w.alloc (.cells #[.int .i64 z] 3)) (.agg #[.slice (some ⟨w.heap.size, 0, none⟩) 1 1, .slice none 0 0]) [z] [] := by
  refine ⟨_, _, _, _, _, _, rfl, ⟨rfl, Nat.le_refl _, by decide, .inr ⟨_, _, rfl, fun i hi => ?_⟩⟩, Fr.rowAt_nil _, ?_, by simp⟩
  · rw [Nat.zero_add, cell_of_heap (heap_alloc_new w _)]
    simp [Fr.cellsI]
  · intro x hx
    obtain rfl := List.mem_singleton.1 hx
    unfold Fr.Is64
    omega
/-- what is read of one number's data -/
theorem rec_one {N : Nat} {w : World} {v : Value} {z : Int} (h : RecAt N w v [([z], [])]) : ∃ b off cap x o m, v = .slice (some ⟨b, off, none⟩) 1 cap ∧ w.cell? ⟨b, off, none⟩ = some (.slice (some ⟨x, o, none⟩) 1 m) ∧ w.cell? ⟨x, o, none⟩ = some (.int .i64 z) := by
  obtain ⟨a, cap, rfl, -, -, -, h0 | ⟨b, off, rfl, hc⟩⟩ := h.drow
  · cases h0
  · obtain ⟨x1, m1, k1, x2, m2, k2, c0, -, hd⟩ := hc 0 (by simp)
    obtain ⟨y1, p1, q1, y2, p2, q2, e, hr, -⟩ := hd
    simp at e
    obtain ⟨⟨rfl, rfl, rfl⟩, -⟩ := e
    have hm : m1 = 1 := hr.1.symm
    subst hm
    obtain ⟨x, o, rfl, hx⟩ := hr.some (by decide)
    have h0 := hx 0 (by decide)
    rw [Nat.add_zero] at h0
    rw [Nat.zero_mul, Nat.add_zero] at c0
    exact ⟨b, off, cap, x, o, k1, rfl, c0, h0⟩
set_option maxHeartbeats 8000000 in
set_option maxRecDepth 60000 in
theorem awakeJ_any (w : World) : Calls Try.prog 8 #[] w fun e w' => TruePost w w' e := by
  go_enter Try.func8, Try.ntmps8
  go_upto_region 2 with (go_at_call 5; refine (new_any 8 (by decide) (by decide) (by decide) _).mono ?_; rintro e w1 ⟨a, s, k, rfl, hD, hb1⟩)
  have HO := open_zero w1 hD (by decide) (by decide)
  have HB1 : Hid (Below w.heap.size w w1) := hb1
  clear hD hb1
  go_upto_region 5 with (go_at_call 6; refine HO.mono ?_; rintro e w2 ⟨j, rfl, H2⟩)
  have hb2 := below_alloc w2 (.cells #[.int .i64 5] 3)
  have HA := append_js _ (H2.out.2.below hb2) (by decide) (by decide) _ ([5], []) (data_one w2 5 (by decide) (by decide)) (by decide)
  have HB2 : Hid (Below w.heap.size w (w2.alloc (.cells #[.int .i64 5] 3))) := (HB1.out.trans H2.out.1.1).trans (below_low hb2 H2.out.2.low)
  clear HO hb2 HB1
  go_upto_region 6 with (go_at_call 10; refine HA.mono ?_; rintro e w3 ⟨c3, rfl, H3⟩)
  obtain ⟨k3, ⟨cur3, q3, hz3, hc3, hJ3⟩, hno3⟩ := H3.out
  obtain rfl : c3 = 0 := by
    by_cases h : c3 = 0
    · exact h
    · refine absurd (fun g => ⟨(one_ok g 5 (by decide) (by decide)).1, ?_⟩) (hno3 h)
      rw [(one_ok g 5 (by decide) (by decide)).2]
      show 0 + 13 ≤ roomN 8
      decide
  obtain rfl := hc3 rfl
  obtain rfl := hz3 (by trivial)
  have HS := sync_js _ hJ3 (by decide) (by decide)
  have HB3 : Hid (Below w.heap.size w w3) := HB2.out.trans k3.1
  clear HA H3 hno3 hc3 hz3 k3 hJ3 HB2
  go_upto_region 7 with (go_at_call 11; refine HS.mono ?_; rintro e w4 ⟨rfl, H4⟩)
  have hJ4 : JS w.heap.size j a s k 8 true 1 51 [([5], [])] [([5], [])] false w4 := by
    rcases H4.out.2 with ⟨h, -⟩ | h
    · exact absurd h (by decide)
    · exact h
  have HB4 : Hid (Below w.heap.size w w4) := HB3.out.trans H4.out.1.1
  have hb5 := below_alloc w4 (.cells #[.int .i64 6] 3)
  have HA := append_js _ (hJ4.below hb5) (by decide) (by decide) _ ([6], []) (data_one w4 6 (by decide) (by decide)) (by decide)
  have HB5 : Hid (Below w.heap.size w (w4.alloc (.cells #[.int .i64 6] 3))) := HB4.out.trans (below_low hb5 hJ4.low)
  clear HS H4 hb5 HB3 HB4 hJ4
  go_upto_region 8 with (go_at_call 10; refine HA.mono ?_; rintro e w6 ⟨c6, rfl, H6⟩)
  obtain ⟨k6, ⟨cur6, q6, -, -, hJ6⟩, -⟩ := H6.out
  have HC := crash_ds w6 hJ6.ds none 0 [] 0 rfl (pat_none _ _ _ _ _) (by decide)
  have HB6 : Hid (Below w.heap.size w w6) := HB5.out.trans k6.1
  clear HA H6 k6 hJ6 HB5
  go_upto_region 9 with (go_at_call 15; refine HC.mono ?_; rintro e w7 ⟨rfl, H7⟩)
  have HO := open_ds w7 H7.out.2 (by decide) (by decide)
  have HB7 : Hid (Below w.heap.size w w7) := HB6.out.trans H7.out.1.1
  clear HC H7 HB6
  go_upto_region 12 with (go_at_call 6; refine HO.mono ?_; rintro e w8 ⟨j8, rfl, H8⟩)
  obtain ⟨k8, q8, -, hJ8⟩ := H8.out
  have HR := records_js w8 hJ8 (by decide)
  have HB8 : Hid (Below w.heap.size w w8) := HB7.out.trans k8.1
  have HLW : Hid (w.heap.size ≤ w8.heap.size) := hJ8.low
  clear HO H8 k8 hJ8 HB7
  go_upto_region 13 with (go_at_call 12; refine HR.mono ?_; rintro e w9 ⟨v9, rfl, hr9, hb9⟩; obtain ⟨rb, ro, rc, xb, xo, xm, rfl, y0, y1⟩ := rec_one hr9)
  have HB9 : Hid (Below w.heap.size w w9) := HB8.out.trans (below_low hb9 HLW.out)
  clear HR hr9 hb9 HB8
  go_wp2
  go_ret
  exact ⟨rfl, HB9.out⟩
end Go.Proofs.Ytmkmogkhkmlnkaa.Dm
