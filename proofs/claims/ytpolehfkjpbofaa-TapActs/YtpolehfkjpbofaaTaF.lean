/-
  The contracts of least and Spread.
-/
import Derived.Test.YtpolehfkjpbofaaTaE
namespace Go.Proofs.Ytpolehfkjpbofaa.Ta
open Go.ChangeShapes Go.WideShapes Go.ChangeAt Go.RowKit
open Go.Conc (G solo rcase scase)
/-- the first of those of the first n that are least -/
def LeastTo (l : List Int) (n m : Nat) : Prop := m < n ∧ (∀ i, i < n → l.getD m 0 ≤ l.getD i 0) ∧ (∀ i, i < m → l.getD m 0 < l.getD i 0)
theorem LeastTo.fn {l : List Int} {n m m' : Nat} (h : LeastTo l n m) (h' : LeastTo l n m') : m = m' := by
  rcases Nat.lt_trichotomy m m' with e | e | e
  · have := h'.2.2 m e; have := h.2.1 m' h'.1; omega
  · exact e
  · have := h.2.2 m' e; have := h'.2.1 m h.1; omega
theorem leastTo_one (l : List Int) : LeastTo l 1 0 := ⟨by omega, fun i hi => by rw [show i = 0 by omega]; omega, fun i hi => by omega⟩
theorem leastTo_new {l : List Int} {n m : Nat} (h : LeastTo l n m) (hl : l.getD n 0 < l.getD m 0) : LeastTo l (n + 1) n := by
  refine ⟨by omega, fun i hi => ?_, fun i hi => ?_⟩
  · rcases Nat.lt_or_ge i n with e | e
    · have := h.2.1 i e; omega
    · rw [show i = n by omega]; omega
  · have := h.2.1 i hi; omega
theorem leastTo_old {l : List Int} {n m : Nat} (h : LeastTo l n m) (hl : ¬ l.getD n 0 < l.getD m 0) : LeastTo l (n + 1) m := by
  refine ⟨by have := h.1; omega, fun i hi => ?_, h.2.2⟩
  rcases Nat.lt_or_ge i n with e | e
  · exact h.2.1 i e
  · rw [show i = n by omega]; omega
theorem IntsAt.some {w : World} {a : Option Addr} {l : List Int} (h : IntsAt w a l) (h0 : 0 < l.length) : ∃ b, a = Option.some ⟨b, 0, none⟩ ∧ b < w.heap.size ∧ ∀ i, i < l.length → w.cell? ⟨b, i, none⟩ = Option.some (.int .i64 (l.getD i 0)) := by
  rcases h with rfl | h
  · simp at h0
  · exact h
def LeastPost (l : List Int) (w : World) (e : Ending) (w' : World) : Prop := ∃ m, LeastTo l l.length m ∧ e = .returned (.int .i64 (m : Int)) ∧ Below w.heap.size w w'
set_option maxRecDepth 60000 in
set_option maxHeartbeats 1000000 in
theorem least_any (B p R t k : Nat) (P : List (List Int)) (w : World) (h : TapAt B w p P R t) (hl : P.length = k) (hk : k ≤ 8) (h0 : 0 < k) :
    Calls Try.prog 22 #[.pointer (some ⟨p, 0, none⟩)] w fun e w' => LeastPost (cntsP P) w e w' := by
  have H := Hid.mk9 (counts_any B p R t k P w h hl hk)
  have HL : Hid ((cntsP P).length = k) := ⟨by rw [cntsP_len, hl]⟩
  have hm : (k : Int) ≤ 8 := by omega
  have h01 : (0 : Int) < (k : Int) := by omega
  generalize cntsP P = l at *
  clear h hl hk
  go_enter Try.func22, Try.ntmps22
  go_wp2_with (go_at_call 18; refine H.out.mono ?_; rintro e w1 ⟨a, rfl, ⟨ha, _⟩, hb⟩; rw [HL.out])
  have HA := Hid.mk9 ha
  have HB := Hid.mk9 hb
  obtain ⟨b, rfl, hbs, hcell⟩ := ha.some (by rw [HL.out]; omega)
  have HC := Hid.mk9 hcell
  clear hcell hb hbs HA H
  go_loopw [4, 11] (fun s i wr => ∃ (n : Nat) (x : Int), n ≤ k ∧ i = .int .i64 n ∧ s = .int .i64 x ∧ Hid ((n = 0 ∧ x = -1) ∨ ∃ m : Nat, x = (m : Int) ∧ LeastTo l n m) ∧ wr = w1) (fun _ i _ => k - (intOf i).toNat)
  case atStart => exact ⟨0, -1, Nat.zero_le _, rfl, rfl, ⟨.inl ⟨rfl, rfl⟩⟩, rfl⟩
  case round =>
    obtain ⟨n, x, hn, rfl, rfl, hI, rfl⟩ := hrel
    by_cases hlt : n < k
    · have hn1 : (n : Int) < (k : Int) := by omega
      have h1 := HC.out n (by rw [HL.out]; exact hlt)
      rcases hI.out with ⟨rfl, rfl⟩ | ⟨m, rfl, hm2⟩
      · have HN := Hid.mk9 (leastTo_one l)
        clear hI
        go_wp2_with fail
        exact ⟨⟨1, 0, by omega, rfl, rfl, ⟨.inr ⟨0, rfl, HN.out⟩⟩, trivial⟩, by simp [intOf]; omega⟩
      · have hmn : (m : Int) < (k : Int) := by have := hm2.1; omega
        have hm0 : (0 : Int) ≤ (m : Int) := by omega
        have h2 := HC.out m (by rw [HL.out]; omega)
        have HO := Hid.mk9 hm2
        by_cases hd : l.getD n 0 < l.getD m 0
        · have HN := Hid.mk9 (leastTo_new hm2 hd)
          have hd1 : decide (l.getD n 0 < l.getD m 0) = true := decide_eq_true hd
          generalize l.getD n 0 = y at *
          generalize l.getD m 0 = z at *
          clear hI hm2
          go_wp2_with fail
          exact ⟨⟨n + 1, n, by omega, by go_num, rfl, ⟨.inr ⟨n, rfl, HN.out⟩⟩, trivial⟩, by simp [intOf]; omega⟩
        · have HN := Hid.mk9 (leastTo_old hm2 hd)
          have hd1 : decide (l.getD n 0 < l.getD m 0) = false := decide_eq_false hd
          generalize l.getD n 0 = y at *
          generalize l.getD m 0 = z at *
          clear hI hm2
          go_wp2_with fail
          exact ⟨⟨n + 1, m, by omega, by go_num, rfl, ⟨.inr ⟨m, rfl, HN.out⟩⟩, trivial⟩, by simp [intOf]; omega⟩
    · obtain rfl : n = k := by omega
      rcases hI.out with ⟨rfl, _⟩ | ⟨m, rfl, hm2⟩
      · exact absurd h01 (by decide)
      have HE : Hid (LeastPost l w (.returned (.int .i64 (m : Int))) wr) := ⟨⟨m, by rw [HL.out]; exact hm2, rfl, HB.out⟩⟩
      clear hI hm2 HC
      go_wp2_with fail
      go_ret
      exact HE.out
theorem least_none (v : Value) (w : World) (h : Cnt w v 0) : Calls Try.prog 22 #[v] w fun e w' => e = .returned (.int .i64 (-1)) ∧ Below w.heap.size w w' := by
  have H := Hid.mk9 (counts_none v w h)
  clear h
  go_enter Try.func22, Try.ntmps22
  go_wp2_with (go_at_call 18; refine H.out.mono ?_; rintro e w1 ⟨a, rfl, ha, hb⟩; simp only [List.length_nil])
  have HB := Hid.mk9 hb
  clear hb ha H
  go_rounds 1
  go_ret
  exact ⟨rfl, HB.out⟩
theorem Cnt.kept {w w' : World} {v : Value} (h : v = .pointer none ∨ ∃ p t, v = .pointer (some ⟨p, 0, none⟩) ∧ Bx2 w p 53 (.slice none 0 0) t) (hb : Below w.heap.size w w') : Cnt w' v 0 := by
  rcases h with rfl | ⟨p, t, rfl, hx⟩
  · exact count_nil w'
  · exact count_tap p 0 0 none w' (hx.kept (hb.block _ hx.lt)).c0
/-- nobody's tap -/
def Nob (w : World) (v : Value) : Prop := v = .pointer none ∨ ∃ p t, v = .pointer (some ⟨p, 0, none⟩) ∧ Bx2 w p 53 (.slice none 0 0) t
theorem Nob.cnt {w : World} {v : Value} (h : Nob w v) : Cnt w v 0 := Cnt.kept h (Below.refl _ _)
theorem Nob.below {w w' : World} {v : Value} (h : Nob w v) (hb : Below w.heap.size w w') : Nob w' v := by
  rcases h with rfl | ⟨p, t, rfl, hx⟩
  · exact .inl rfl
  · exact .inr ⟨p, t, rfl, hx.kept (hb.block _ hx.lt)⟩
theorem spread_none (v : Value) (n : Int) (w : World) (h : Nob w v) : Calls Try.prog 15 #[v, .int .i64 n] w fun e w' => e = .returned (.tuple #[.int .i64 (-1), .int .i64 6]) ∧ Below w.heap.size w w' := by
  have H := Hid.mk9 (least_none v w h.cnt)
  have HN := Hid.mk9 h
  clear h
  go_enter Try.func15, Try.ntmps15
  go_wp2_with (first | (go_at_call 22; refine H.out.mono ?_; rintro e w1 ⟨rfl, hb⟩; have HB := Hid.mk9 hb; clear hb) | (go_at_call 9; refine (put_arg v (-1) n 0 _ (HN.out.below HB.out).cnt rfl).mono ?_; rintro e w2 ⟨rfl, rfl⟩))
  go_ret2
  exact ⟨rfl, HB.out⟩
theorem TaPost.from {B : Nat} {w w1 w' : World} {p : Nat} {v : Value} {P : List (List Int)} {R t : Nat} {e : Ending} (h : TaPost B w1 p v P R t e w') (hb : Below w.heap.size w w1) (hB : B ≤ w.heap.size) (v' : Value) : TaPost B w p v' P R t (.returned v') w' :=
  ⟨rfl, h.2.1, (hb.mono hB).trans h.2.2.1, (KpT.below hb).trans h.2.2.2.1, Nat.le_trans hb.size h.2.2.2.2⟩
theorem TapAt.base {B : Nat} {w : World} {p : Nat} {P : List (List Int)} {R t : Nat} (h : TapAt B w p P R t) : B ≤ w.heap.size := by
  obtain ⟨g, cs, h⟩ := h
  exact Nat.le_trans h.bp (Nat.le_of_lt h.box.lt)
theorem spread_ok (B p R t k m : Nat) (n : Int) (P : List (List Int)) (w : World) (h : TapAt B w p P R t) (hl : P.length = k) (hk : k ≤ 8) (hm : LeastTo (cntsP P) k m) (hr : (P.getD m []).length < R) :
    Calls Try.prog 15 #[.pointer (some ⟨p, 0, none⟩), .int .i64 n] w fun e w' => TaPost B w p (.tuple #[.int .i64 m, .int .i64 0]) (P.set m (P.getD m [] ++ [n])) R t e w' := by
  have hmk := hm.1
  have H := Hid.mk9 (least_any B p R t k P w h hl hk (by omega))
  have HP : Hid (∀ w1, Below w.heap.size w w1 → Calls Try.prog 9 #[.pointer (some ⟨p, 0, none⟩), .int .i64 m, .int .i64 n] w1 fun e w' => e = .returned (.int .i64 0) ∧ TaPost B w p (.tuple #[.int .i64 m, .int .i64 0]) (P.set m (P.getD m [] ++ [n])) R t (.returned (.tuple #[.int .i64 m, .int .i64 0])) w') := ⟨fun w1 hb => (put_ok B p m R t n P w1 (h.below hb) (by omega) hr (by omega)).mono fun e w' q => ⟨q.1, q.from hb h.base _⟩⟩
  have HF : Hid (∀ m', LeastTo (cntsP P) (cntsP P).length m' → m' = m) := ⟨fun m' h' => LeastTo.fn (by rwa [cntsP_len, hl] at h') hm⟩
  clear h hl hk hm hr hmk
  go_enter Try.func15, Try.ntmps15
  go_wp2_with (first | (go_at_call 22; refine H.out.mono ?_; rintro e w1 ⟨m', hm', rfl, hb⟩; obtain rfl := HF.out m' hm'; have HB := Hid.mk9 hb; clear hb hm') | (go_at_call 9; refine (HP.out _ HB.out).mono ?_; rintro e w2 ⟨rfl, hq⟩; have HQ := Hid.mk9 hq; clear hq))
  go_ret2
  exact HQ.out
theorem spread_full (B p R t k m : Nat) (n : Int) (P : List (List Int)) (w : World) (h : TapAt B w p P R t) (hl : P.length = k) (hk : k ≤ 8) (hm : LeastTo (cntsP P) k m) (hr : R ≤ (P.getD m []).length) :
    Calls Try.prog 15 #[.pointer (some ⟨p, 0, none⟩), .int .i64 n] w fun e w' => TaPost B w p (.tuple #[.int .i64 (-1), .int .i64 6]) P R t e w' := by
  have hmk := hm.1
  have H := Hid.mk9 (least_any B p R t k P w h hl hk (by omega))
  have HP : Hid (∀ w1, Below w.heap.size w w1 → Calls Try.prog 9 #[.pointer (some ⟨p, 0, none⟩), .int .i64 m, .int .i64 n] w1 fun e w' => e = .returned (.int .i64 6) ∧ TaPost B w p (.tuple #[.int .i64 (-1), .int .i64 6]) P R t (.returned (.tuple #[.int .i64 (-1), .int .i64 6])) w') := ⟨fun w1 hb => (put_full B p m R t n P w1 (h.below hb) (by omega) hr (by omega)).mono fun e w' q => ⟨q.1, q.from hb h.base _⟩⟩
  have HF : Hid (∀ m', LeastTo (cntsP P) (cntsP P).length m' → m' = m) := ⟨fun m' h' => LeastTo.fn (by rwa [cntsP_len, hl] at h') hm⟩
  clear h hl hk hm hr hmk
  go_enter Try.func15, Try.ntmps15
  go_wp2_with (first | (go_at_call 22; refine H.out.mono ?_; rintro e w1 ⟨m', hm', rfl, hb⟩; obtain rfl := HF.out m' hm'; have HB := Hid.mk9 hb; clear hb hm') | (go_at_call 9; refine (HP.out _ HB.out).mono ?_; rintro e w2 ⟨rfl, hq⟩; have HQ := Hid.mk9 hq; clear hq))
  go_ret2
  exact HQ.out
end Go.Proofs.Ytpolehfkjpbofaa.Ta
