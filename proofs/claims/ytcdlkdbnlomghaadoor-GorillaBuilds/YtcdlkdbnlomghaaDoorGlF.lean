/-
  Even samples, plainly; awake.
-/
import Derived.Test.YtcdlkdbnlomghaaDoorGlE
import Derived.Test.YtcdlkdbnlomghaaDoorBkK
import Derived.Test.YtcdlkdbnlomghaaDoorBkN
namespace Go.Proofs.YtcdlkdbnlomghaaDoor.Gl
open Go.ChangeShapes Go.WideShapes Go.ChangeAt Go.RowKit
open Go.Proofs.YtcdlkdbnlomghaaDoor.Bi
open Go.Proofs.YtcdlkdbnlomghaaDoor.Fr (RowAt cellsI cellsI_get)
open Go.Proofs.YtcdlkdbnlomghaaDoor.Bk (rT rV)
theorem still_sd {T V : Nat → Int} {n : Nat} (h : ∀ j, 2 ≤ j → j < n → T j = 0 ∧ V j = 0) : ∀ m i, i + m = n → 2 ≤ i → ∃ L, Sd T V n i false L ∧ L.length = 6 * ((m + 15) / 16) := by
  intro m
  induction m using Nat.strongRecOn with
  | ind m ih =>
    intro i hi h2
    by_cases h0 : m = 0
    · subst h0
      obtain rfl : i = n := by omega
      exact ⟨[], .done, by simp⟩
    · have h00 := h i h2 (by omega)
      have hlen : ∀ k, (cd T V i ++ low (k - 1) 4).length = 6 := fun k => by
        unfold cd
        rw [h00.1, h00.2, List.length_append, low_len]
        decide
      have hst : ∀ k, k ≤ m → ∀ j, j < k → Still T V n (i + j) := fun k hk j hj => ⟨by omega, by omega, (h (i + j) (by omega) (by omega)).1, (h (i + j) (by omega) (by omega)).2⟩
      by_cases h16 : m ≤ 16
      · refine ⟨_, .run (k := m) (m := []) (by omega) h16 (hst m (Nat.le_refl _)) (by rw [hi]; exact .done), ?_⟩
        rw [List.length_append, hlen]
        simp
        omega
      · obtain ⟨L, hL, hl⟩ := ih (m - 16) (by omega) (i + 16) (by omega) (by omega)
        refine ⟨_, .run (k := 16) (m := L) (by omega) (Nat.le_refl _) (hst 16 (by omega)) hL, ?_⟩
        rw [List.length_append, hlen, hl]
        omega
theorem even_sd {T V : Nat → Int} {n : Nat} (hn : 2 ≤ n) (h : ∀ j, 2 ≤ j → j < n → T j = 0 ∧ V j = 0) : ∃ L, Sd T V n 0 false L ∧ L.length = (cd T V 0).length + (cd T V 1).length + 6 * ((n - 2 + 15) / 16) := by
  obtain ⟨L, hL, hl⟩ := still_sd h (n - 2) 2 (by omega) (Nat.le_refl _)
  refine ⟨_, .one (by omega) (fun s => by have := s.1; omega) (.one (by omega) (fun s => by have := s.1; omega) hL), ?_⟩
  rw [List.length_append, List.length_append, hl, show cd T V (0 + 1) = cd T V 1 from rfl]
  omega
theorem even_len {T V : Nat → Int} {n : Nat} {L : List Bool} (hn : 2 ≤ n) (h : ∀ j, 2 ≤ j → j < n → T j = 0 ∧ V j = 0) (hL : Told T V n L) : L.length = (cd T V 0).length + (cd T V 1).length + 6 * ((n - 2 + 15) / 16) := by
  obtain ⟨M, hM, hm⟩ := even_sd hn h
  rw [sd_one hL.2 hM, hm]
theorem chIs_one {ls ms : List Bk.Sm} {n f l : Int} {bs : List Nat} {N : Int} (h : ChIs ls n f l bs N) (g : ChIs ms n f l bs N) : ls = ms := by
  have h1 := h.2.2.1
  have h2 := g.2.2.1
  have hn : ls.length = ms.length := by omega
  have h3 := told_uniq (chIs_told h) (by have := chIs_told g; rwa [← hn] at this)
  exact Bk.are_one (are_nums (T := Bk.tell (Bk.tS ls)) (V := Bk.tell (Bk.vS ls)) h.1 rfl fun j hj => ⟨rfl, rfl⟩) (are_nums g.1 hn.symm h3)
theorem isCh_chIs {ls : List Bk.Sm} {L : List Bool} (h : IsCh ls L) {len k : Nat} (hl : len = need k) (hk : k = L.length) (h9 : (k : Int) ≤ 9000) : ChIs ls (ls.length : Int) (firstT ls) (lastT ls) (pack L len) (k : Int) := by
  subst hl
  subst hk
  have hm : MayB (pack L (need L.length)) (L.length : Int) := pack_may (by omega)
  refine ⟨h.1, h.2.1, rfl, rfl, rfl, hm, ?_⟩
  rw [Int.toNat_natCast, unpack_pack L (by unfold need; omega)]
  exact h.2.2
/-- the samples of awake -/
def aw (k : Nat) : List Bk.Sm := (List.range k).map fun j : Nat => (10 * (j : Int), 3)
theorem aw_succ (k : Nat) : aw (k + 1) = aw k ++ [(10 * (k : Int), 3)] := by
  unfold aw; rw [List.range_succ, List.map_append]; rfl
theorem aw_may : Bk.MayS (aw 5) := by
  refine ⟨by decide, fun i hi => ?_⟩
  have hi5 : i < 5 := hi
  match i, hi5 with
  | 0, _ => unfold Bk.OkS Bk.InS; decide
  | 1, _ => unfold Bk.OkS Bk.InS; decide
  | 2, _ => unfold Bk.OkS Bk.InS; decide
  | 3, _ => unfold Bk.OkS Bk.InS; decide
  | 4, _ => unfold Bk.OkS Bk.InS; decide
  | i + 5, h => omega
theorem aw_len {L : List Bool} (h : IsCh (aw 5) L) : L.length = 26 := by
  rw [even_len (n := 5) (by decide) (fun j h1 h2 => ?_) h.2.2]
  · decide
  · match j, h1, h2 with
    | 2, _, _ => decide
    | 3, _, _ => decide
    | 4, _, _ => decide
    | j + 5, _, h => omega
theorem own_none2 (w : World) (B : Nat) (hB : B ≤ w.heap.size) : (w.alloc (.cells #[] 46)).ownsRow B 46 2 (.slice (some ⟨w.heap.size, 0, none⟩) 0 0) 0 [] := by
  refine ⟨rfl, .inr ⟨w.heap.size, 0, #[], rfl, hB, heap_alloc_new w _, Nat.le_refl _, by unfold maxLen; omega, rfl, rfl⟩⟩
def AwIn (w : World) (k : Nat) (l : Value) (wr : World) : Prop := Below w.heap.size w wr ∧ wr.ownsRow w.heap.size 46 2 l k (Bk.cellsS (aw k))
/-- what Build tells of samples that may be -/
def BuildYes (ls : List Bk.Sm) (w : World) (e : Ending) (w' : World) : Prop := Below w.heap.size w w' ∧ ∃ (L : List Bool) (a : Option Addr) (len cap k : Nat), IsCh ls L ∧ e = .returned (.tuple #[.agg #[.int .i64 (ls.length : Int), .int .i64 (firstT ls), .int .i64 (lastT ls), .slice a len cap, .int .i64 (k : Int)], .int .i64 0]) ∧ ByAt w' a len cap (pack L len) ∧ len = need k ∧ k = L.length ∧ (k : Int) ≤ 9000
theorem build_yes {a : Option Addr} {len cap : Nat} {ls : List Bk.Sm} {w : World} (h : Bk.SmsAt w a len cap ls) (hT : Tab w) (hM : Bk.MayS ls) (h0 : 0 < ls.length) : Calls Tryd.prog 10 #[.slice a len cap] w fun e w' => BuildYes ls w e w' :=
  (build_any a len cap ls w h hT).mono (by
    rintro e w' ⟨hb, h⟩
    exact ⟨hb, h.elim (fun q => absurd ⟨hM, h0⟩ q.1) (fun q => q)⟩)
def SampYes (ls : List Bk.Sm) (w : World) (e : Ending) (w' : World) : Prop := Below w.heap.size w w' ∧ ∃ (a : Option Addr) (len cap : Nat), e = .returned (.tuple #[.slice a len cap, .int .i64 0]) ∧ Bk.SmsAt w' a len cap ls
theorem samples_yes {a : Option Addr} {len cap : Nat} {n f l N : Int} {bs : List Nat} {ls : List Bk.Sm} {w : World} (h : ByAt w a len cap bs) (hT : Tab w) (hC : ChIs ls n f l bs N) : Calls Tryd.prog 13 #[.agg #[.int .i64 n, .int .i64 f, .int .i64 l, .slice a len cap, .int .i64 N]] w fun e w' => SampYes ls w e w' :=
  (samples_any a len cap n f l N bs w h hT).mono (by
    rintro e w' ⟨hb, ⟨ms, a2, len2, cap2, hC2, he, hs⟩ | ⟨hno, _⟩⟩
    · obtain rfl := chIs_one hC2 hC
      exact ⟨hb, a2, len2, cap2, he, hs⟩
    · exact absurd hC (hno ls))
theorem samples_no {a : Option Addr} {len cap : Nat} {n f l N : Int} {bs : List Nat} {w : World} (h : ByAt w a len cap bs) (hT : Tab w) (hC : ∀ ls, ¬ ChIs ls n f l bs N) : Calls Tryd.prog 13 #[.agg #[.int .i64 n, .int .i64 f, .int .i64 l, .slice a len cap, .int .i64 N]] w fun e w' => e = .returned (.tuple #[.slice none 0 0, .int .i64 2]) ∧ Below w.heap.size w w' :=
  (samples_any a len cap n f l N bs w h hT).mono (by
    rintro e w' ⟨hb, ⟨ms, a2, len2, cap2, hC2, _⟩ | ⟨_, he⟩⟩
    · exact absurd hC2 (hC ms)
    · exact ⟨he, hb⟩)
theorem same_yes {a : Option Addr} {n1 c1 : Nat} {a' : Option Addr} {n2 c2 : Nat} {l : List Bk.Sm} {w : World} (h1 : Bk.SmsAt w a n1 c1 l) (h2 : Bk.SmsAt w a' n2 c2 l) : Calls Tryd.prog 15 #[.slice a n1 c1, .slice a' n2 c2] w fun e w' => e = .returned (.bool true) ∧ Below w.heap.size w w' :=
  (Bk.refSameS_any a n1 c1 a' n2 c2 l l w h1 h2).mono (by
    rintro e w' ⟨hb, q, he, hq⟩
    obtain rfl : q = true := hq.2 rfl
    exact ⟨he, hb⟩)
set_option maxHeartbeats 2000000 in
set_option maxRecDepth 60000 in
theorem awake_any (w : World) (hT : Tab w) : Calls Tryd.prog 9 #[] w fun e w' => e = .returned (.bool true) ∧ Below w.heap.size w w' := by
  have HT := Hid.mk9 hT
  obtain ⟨i0, hi, hz0, hz1, hz2⟩ := info_parts Bk.infoS
  have HI0 : Hid (AwIn w 0 (.slice (some ⟨w.heap.size, 0, none⟩) 0 0) (w.alloc (.cells #[] 46))) := ⟨below_alloc w _, own_none2 w _ (Nat.le_refl _)⟩
  clear hT
  go_enter Tryd.func9, Tryd.ntmps9
  go_upto_region 3 with fail
  generalize w.alloc (.cells #[] 46) = w1 at *
  generalize (Value.slice (some ⟨w.heap.size, 0, none⟩) 0 0) = v1 at *
  go_loopw [1, 2] (fun l i wr => ∃ k : Nat, (k : Int) ≤ 5 ∧ i = .int .i64 (k : Int) ∧ Hid (AwIn w k l wr)) (fun _ i _ => 5 - (intOf i).toNat)
  case atStart => exact ⟨0, by omega, rfl, HI0⟩
  case round =>
    obtain ⟨k, hk, rfl, hP⟩ := hrel
    clear HI0
    by_cases hlt : (k : Int) < 5
    · have P1 : 10 * (k : Int) ≤ 50 := by omega
      obtain ⟨t, ht⟩ : ∃ t : Int, t = 10 * (k : Int) := ⟨_, rfl⟩
      have ht2 : 10 * (k : Int) = t := ht.symm
      have HTt := Hid.mk9 ht
      clear ht
      have HB := Hid.mk9 hP.out.1
      have HO := Hid.mk9 hP.out.2
      clear hP
      go_wp2_with (at_builtin; refine wpList_append_own _ rfl (.tmp 12) (.tmp 16) 22 rfl w.heap.size 46 i0 (.agg #[.int .i64 0, .int .i64 0]) 2 16 Tryd.underlying22 hi hz0 hz1 hz2 rfl (by decide) _ _ _ rfl (own_below HO.out (below_alloc _ _)) ⟨wr.heap.size, 0, none⟩ 1 1 [.int .i64 t, .int .i64 3] rfl rfl (Bk.cells_lit wr [.int .i64 t, .int .i64 3] 46) (by intro u hu; simp at hu; rcases hu with rfl | rfl <;> rfl) (by unfold maxLen; omega) (by omega) (by have := HB.out.size; simp; omega) ?_)
      intro v5 w5 hown5 hg5 _
      have HI9 : AwIn w (k + 1) v5 w5 := by
        refine ⟨(below2 HB.out (below_alloc _ _)).grown hg5 (below2 HB.out (below_alloc _ _)).size (fun j hj => (HO.out.lt j hj).1), ?_⟩
        rw [aw_succ, Bk.cellsS_snoc, ← HTt.out]
        exact hown5
      clear hown5 hg5
      go_wp2_with fail
      refine ⟨⟨k + 1, by omega, by simp, HI9⟩, ?_⟩
      simp [intOf]; omega
    · obtain rfl : k = 5 := by omega
      have HB := Hid.mk9 hP.out.1
      obtain ⟨g, c, hv, _, _⟩ := own_slice hP.out.2 (by decide)
      rw [hv] at hP
      subst hv
      have HS := Hid.mk9 (Bk.own_sms hP.out.2).1
      have HBu := Hid.mk9 (build_yes HS.out (HT.out.below HB.out) aw_may (by decide))
      have HFL : Hid (firstT (aw 5) = 0 ∧ lastT (aw 5) = 40 ∧ (aw 5).length = 5) := by unfold Hid; decide
      clear hP
      go_upto_region 7 with (go_at_call 10; refine HBu.out.mono ?_; rintro e w5 ⟨hb5, L, a5, len5, cap5, k5, hC5, rfl, hby5, hl5, hk5, h95⟩; have HC5 : Hid (IsCh (aw 5) L ∧ len5 = need k5 ∧ k5 = L.length ∧ (k5 : Int) ≤ 9000) := ⟨hC5, hl5, hk5, h95⟩; have HB5 := Hid.mk9 (below2 HB.out hb5); have HY5 := Hid.mk9 hby5; have HS5 := Hid.mk9 (HS.out.below hb5); clear hb5 hC5 hl5 hk5 h95 hby5 HB HS HBu)
      have hk26 : (k5 : Int) = 26 := by rw [HC5.out.2.2.1, aw_len HC5.out.1]; rfl
      obtain ⟨e1, e2, e3⟩ := HFL.out
      have HB6 := Hid.mk9 (below2 HB5.out (below_alloc w5 (.cells #[.int .i64 ((aw 5).length : Int), .int .i64 (firstT (aw 5)), .int .i64 (lastT (aw 5)), .slice a5 len5 cap5, .int .i64 (k5 : Int)] 28)))
      have HY6 := Hid.mk9 (HY5.out.below (below_alloc w5 (.cells #[.int .i64 ((aw 5).length : Int), .int .i64 (firstT (aw 5)), .int .i64 (lastT (aw 5)), .slice a5 len5 cap5, .int .i64 (k5 : Int)] 28)))
      have HS6 := Hid.mk9 (HS5.out.below (below_alloc w5 (.cells #[.int .i64 ((aw 5).length : Int), .int .i64 (firstT (aw 5)), .int .i64 (lastT (aw 5)), .slice a5 len5 cap5, .int .i64 (k5 : Int)] 28)))
      have HX6 := Hid.mk9 (B5.new w5 28 (.int .i64 ((aw 5).length : Int)) (.int .i64 (firstT (aw 5))) (.int .i64 (lastT (aw 5))) (.slice a5 len5 cap5) (.int .i64 (k5 : Int)))
      have HSa := Hid.mk9 (samples_yes HY6.out (HT.out.below HB6.out) (isCh_chIs HC5.out.1 HC5.out.2.1 HC5.out.2.2.1 HC5.out.2.2.2))
      clear HY5 HB5 HS5
      rw [e1, e2, e3] at *
      generalize w5.alloc (.cells #[.int .i64 ((5 : Nat) : Int), .int .i64 0, .int .i64 40, .slice a5 len5 cap5, .int .i64 (k5 : Int)] 28) = w6 at *
      generalize w5.heap.size = X6 at *
      obtain ⟨x0, x1, x2, x3, x4⟩ := HX6.out.cells
      have e9 : ((5 : Nat) : Int) = 5 := rfl
      rw [e9] at HSa x0
      rw [hk26] at HSa x4
      obtain ⟨hk27⟩ : Nonempty ((k5 : Int) = 26) := ⟨hk26⟩
      clear hk26 e1 e2 e3 hk hlt
      go_wp2_with (first | (go_at_call 13; refine HSa.out.mono ?_; rintro e w7 ⟨hb7, a7, len7, cap7, rfl, hs7⟩; have HB7 := Hid.mk9 (below2 HB6.out hb7); have HX7 := Hid.mk9 (HX6.out.below hb7); have HSm := Hid.mk9 (same_yes hs7 (HS6.out.below hb7)); clear hb7 hs7 HB6 HS6 HY6 HX6 x0 x1 x2 x3 x4; obtain ⟨x0, x1, x2, x3, x4⟩ := HX7.out.cells; rw [e9] at x0; rw [hk27] at x4) | (go_at_call 15; refine HSm.out.mono ?_; rintro e w8 ⟨rfl, hb8⟩; have HB8 := Hid.mk9 (below2 HB7.out hb8); clear hb8))
      go_ret
      exact ⟨rfl, HB8.out⟩
end Go.Proofs.YtcdlkdbnlomghaaDoor.Gl
