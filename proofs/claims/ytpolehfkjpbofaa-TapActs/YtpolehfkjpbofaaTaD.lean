/-
  The contract of Next.
-/
import Derived.Test.YtpolehfkjpbofaaTaC
import Derived.WalkMore
namespace Go.Proofs.Ytpolehfkjpbofaa.Ta
open Go.ChangeShapes Go.WideShapes Go.ChangeAt Go.RowKit
open Go.Conc (G solo rcase scase)
theorem mod_i (t n k : Nat) : ((t : Int) + (n : Int)) % (k : Int) = (((t + n) % k : Nat) : Int) := by simp
set_option maxRecDepth 60000 in
theorem next_none (B p R t k : Nat) (P : List (List Int)) (w : World) (h : TapAt B w p P R t) (hl : P.length = k) (hr : ∀ i, i < k → P.getD i [] = []) (hk : k ≤ 8) (ht : t < k) :
    Calls Try.prog 13 #[.pointer (some ⟨p, 0, none⟩)] w fun e w' => TaPost B w p (.tuple #[.int .i64 (-1), .int .i64 0, .int .i64 5]) P R t e w' := by
  have H := Hid.mk9 (cnt_tap h)
  rw [hl] at H
  have HE := Hid.mk9 (TaPost.same (v := .tuple #[.int .i64 (-1), .int .i64 0, .int .i64 5]) h)
  obtain ⟨g, cs, h⟩ := h
  have h1 := h.box.c0
  have h2 := h.box.c1
  rw [hl] at h1
  have HT := Hid.mk9 h
  have HL := Hid.mk9 hl
  have HR := Hid.mk9 hr
  have hm : (k : Int) ≤ 8 := by omega
  have ht1 : (t : Int) < (k : Int) := by omega
  clear h hr hk ht hl
  go_enter Try.func13, Try.ntmps13
  go_wp2_with fail
  go_step3
  go_wp2_with (go_at_call 21; refine H.out.mono ?_; rintro e w' ⟨rfl, rfl⟩)
  go_step3
  go_wp2_with fail
  go_loopw [12] (fun i wr => ∃ n : Nat, n ≤ k ∧ i = .int .i64 n ∧ wr = w') (fun i _ => k - (intOf i).toNat)
  case atStart => exact ⟨0, Nat.zero_le _, rfl, rfl⟩
  case round =>
    obtain ⟨n, hn, rfl, rfl⟩ := hrel
    by_cases hlt : n < k
    · have hn1 : (n : Int) < (k : Int) := by omega
      have hmod : ((t : Int) + (n : Int)) % (k : Int) = (((t + n) % k : Nat) : Int) := mod_i t n k
      have hj : (t + n) % k < k := Nat.mod_lt _ (by omega)
      obtain ⟨c, hc, hB, h3⟩ := HT.out.lt (i := (t + n) % k) (by rw [HL.out]; exact hj)
      obtain ⟨s, r, hh⟩ := HT.out.chs _ c hc
      have HF : Hid (wr.heap[c]? = some (.chan R #[] false s r false)) := ⟨by rw [hh, HR.out _ hj]; rfl⟩
      generalize (t + n) % k = j at *
      have hj1 : (j : Int) < (k : Int) := by omega
      have hj0 : (0 : Int) ≤ (j : Int) := by omega
      clear hc hh hB
      go_upto_region 7 with fail
      refine wp_recv_no (c := c) (z := .int .i64 0) rfl (by simp [go_sem, execOp, rcase, Act.eval]) HF.out ?_
      simp only [Act.put, List.setIfInBounds_toArray, List.set_cons_succ, List.set_cons_zero]
      go_wp2_with fail
      exact ⟨⟨n + 1, by omega, by go_num, trivial⟩, by simp [intOf]; omega⟩
    · obtain rfl : n = k := by omega
      go_wp2_with fail
      refine bodyPost_ret (results_tmp3 rfl _ _ _) rfl ?_
      exact HE.out
theorem TapG.turn {B : Nat} {w : World} {p : Nat} {P : List (List Int)} {R t g : Nat} {cs : List Nat} (h : TapG B w p P R t g cs) (t' : Nat) : TapG B (w.setCell ⟨p, 1, none⟩ (.int .i64 t')) p P R t' g cs := by
  have oth : ∀ k, k ≠ p → (w.setCell ⟨p, 1, none⟩ (.int .i64 (t' : Int))).heap[k]? = w.heap[k]? := fun k hk => heap_setCell_other w ⟨p, 1, none⟩ k _ hk
  refine ⟨h.bp, h.bg, h.bc, h.nd, h.len, ?_, ?_, ?_⟩
  · have := heap_setCell_same w p 1 _ _ (.int .i64 (t' : Int)) h.box
    exact this
  · exact (oth g fun e => by subst e; have := h.row; have h2 := h.box; unfold Rw at this; unfold Bx2 at h2; rw [h2] at this; simp at this).trans h.row
  · intro i c hc
    obtain ⟨s, r, hh⟩ := h.chs i c hc
    exact ⟨s, r, (oth c fun e => by subst e; have h2 := h.box; unfold Bx2 at h2; rw [h2] at hh; simp at hh).trans hh⟩
theorem taPost_next {B : Nat} {w : World} {p : Nat} {P : List (List Int)} {R t g : Nat} {cs : List Nat} (h : TapG B w p P R t g cs) {i c s' r' : Nat} (hc : cs[i]? = some c) (l : List Int) (v : Value) (hB : B ≤ c) (t' : Nat) :
    TaPost B w p v (P.set i l) R t' (.returned v) ((w.setChan c R (intsV l).toArray false s' r' false).setCell ⟨p, 1, none⟩ (.int .i64 t')) := by
  obtain ⟨_, _, h2, h3, h4⟩ := taPost_chan (s' := s') (r' := r') h hc l v hB
  exact ⟨rfl, ⟨g, cs, (h.chan hc l).turn t'⟩, h2.setCell (p := ⟨p, 1, none⟩) h.bp _, h3.trans (KpT.set _), by unfold World.setCell; simpa using h4⟩
theorem mod_1 (j k : Nat) : ((j : Int) + 1) % (k : Int) = (((j + 1) % k : Nat) : Int) := by simp
set_option maxRecDepth 60000 in
set_option maxHeartbeats 1000000 in
theorem next_ok (B p R t k d : Nat) (x : Int) (l : List Int) (P : List (List Int)) (w : World) (h : TapAt B w p P R t) (hl : P.length = k) (hr : ∀ i, i < d → P.getD ((t + i) % k) [] = []) (hx : P.getD ((t + d) % k) [] = x :: l) (hd : d < k) (hk : k ≤ 8) (ht : t < k) :
    Calls Try.prog 13 #[.pointer (some ⟨p, 0, none⟩)] w fun e w' => TaPost B w p (.tuple #[.int .i64 ((t + d) % k : Nat), .int .i64 x, .int .i64 0]) (P.set ((t + d) % k) l) R (((t + d) % k + 1) % k) e w' := by
  have H := Hid.mk9 (cnt_tap h)
  rw [hl] at H
  obtain ⟨g, cs, h⟩ := h
  have hj : (t + d) % k < k := Nat.mod_lt _ (by omega)
  obtain ⟨c, hc, hB, h3⟩ := h.lt (i := (t + d) % k) (by rw [hl]; exact hj)
  obtain ⟨s, r, hh⟩ := h.chs _ c hc
  have HF : Hid (w.heap[c]? = some (.chan R (intsV (x :: l)).toArray false s r false)) := ⟨by rw [hh, hx]⟩
  have HG : Hid ((intsV (x :: l)).toArray.getD 0 undef = .int .i64 x) := ⟨by simp [intsV]⟩
  have HE : Hid (TaPost B w p (.tuple #[.int .i64 ((t + d) % k : Nat), .int .i64 x, .int .i64 0]) (P.set ((t + d) % k) l) R (((t + d) % k + 1) % k) (.returned (.tuple #[.int .i64 ((t + d) % k : Nat), .int .i64 x, .int .i64 0])) ((w.setChan c R ((intsV (x :: l)).toArray.extract 1 (intsV (x :: l)).toArray.size) false s (r + 1) false).setCell ⟨p, 1, none⟩ (.int .i64 (((t + d) % k + 1) % k : Nat)))) := ⟨by rw [cut_ints]; exact taPost_next h hc _ _ hB _⟩
  have HC : Hid (Bx2 (w.setChan c R ((intsV (x :: l)).toArray.extract 1 (intsV (x :: l)).toArray.size) false s (r + 1) false) p 53 (.slice (some ⟨g, 0, none⟩) k k) (.int .i64 t)) := ⟨by rw [cut_ints]; have := (h.chan (s' := s) (r' := r + 1) hc l).box; rw [List.length_set, hl] at this; exact this⟩
  have h1 := h.box.c0
  have h2 := h.box.c1
  rw [hl] at h1
  have HT := Hid.mk9 h
  have HL := Hid.mk9 hl
  have HR := Hid.mk9 hr
  have hm : (k : Int) ≤ 8 := by omega
  have ht1 : (t : Int) < (k : Int) := by omega
  have hmodD : Hid (((t : Int) + (d : Int)) % (k : Int) = (((t + d) % k : Nat) : Int)) := ⟨mod_i t d k⟩
  have h4 : Hid (((((t + d) % k : Nat) : Int) + 1) % (k : Int) = ((((t + d) % k + 1) % k : Nat) : Int)) := ⟨mod_1 _ k⟩
  have HR2 : Hid (∀ n, n < d → ∃ j c s r : Nat, ((t : Int) + (n : Int)) % (k : Int) = (j : Int) ∧ j < k ∧ w.cell? ⟨g, j, none⟩ = some (.chan (some c)) ∧ w.heap[c]? = some (.chan R #[] false s r false)) := ⟨fun n hn => by
    have hj : (t + n) % k < k := Nat.mod_lt _ (by omega)
    obtain ⟨c, hc, hB, h3⟩ := h.lt (i := (t + n) % k) (by rw [hl]; exact hj)
    obtain ⟨s, r, hh⟩ := h.chs _ c hc
    exact ⟨_, c, s, r, mod_i t n k, hj, h3, by rw [hh, hr n hn]; rfl⟩⟩
  have HT := Hid.mk9 h
  clear h hr hk ht hl hc hh hx hB
  generalize ((t + d) % k + 1) % k = t2 at *
  generalize (t + d) % k = j at *
  have hj1 : (j : Int) < (k : Int) := by omega
  have hj0 : (0 : Int) ≤ (j : Int) := by omega
  have H3 := Hid.mk9 h3
  clear h3
  go_enter Try.func13, Try.ntmps13
  go_wp2_with fail
  go_step3
  go_wp2_with (go_at_call 21; refine H.out.mono ?_; rintro e w' ⟨rfl, rfl⟩)
  go_step3
  go_wp2_with fail
  go_loopw [12] (fun i wr => ∃ n : Nat, n ≤ d ∧ i = .int .i64 n ∧ wr = w') (fun i _ => k - (intOf i).toNat)
  case atStart => exact ⟨0, Nat.zero_le _, rfl, rfl⟩
  case round =>
    obtain ⟨n, hn, rfl, rfl⟩ := hrel
    have hn1 : (n : Int) < (k : Int) := by omega
    by_cases hlt : n < d
    · obtain ⟨i, c1, s1, r1, hmod, hik, hci, HF1⟩ := HR2.out n hlt
      have HF1 := Hid.mk9 HF1
      have hi1 : (i : Int) < (k : Int) := by omega
      have hi0 : (0 : Int) ≤ (i : Int) := by omega
      clear HR2 HC HE HF HG
      go_upto_region 7 with fail
      refine wp_recv_no (c := c1) (z := .int .i64 0) rfl (by simp [go_sem, execOp, rcase, Act.eval]) HF1.out ?_
      simp only [Act.put, List.setIfInBounds_toArray, List.set_cons_succ, List.set_cons_zero]
      go_wp2_with fail
      exact ⟨⟨n + 1, by omega, by go_num, trivial⟩, by simp [intOf]; omega⟩
    · obtain rfl : n = d := by omega
      have hmod := hmodD.out
      have hci := H3.out
      clear HR2 H3 hmodD
      go_upto_region 7 with fail
      refine wp_recv_yes (c := c) (z := .int .i64 0) rfl (by simp [go_sem, execOp, rcase, Act.eval]) HF.out (by simp [intsV]) ?_
      rw [HG.out]
      generalize World.setChan _ _ _ _ _ _ _ _ = W9 at HE HC ⊢
      simp only [hmod]
      clear h1 h2 hci hmod
      have h5 := HC.out.c1
      have h6 := HC.out.f1
      have h7 := h4.out
      simp only [Act.put, List.setIfInBounds_toArray, List.set_cons_succ, List.set_cons_zero]
      go_wp2_with fail
      refine bodyPost_ret (results_tmp3 rfl _ _ _) rfl ?_
      exact HE.out
end Go.Proofs.Ytpolehfkjpbofaa.Ta
