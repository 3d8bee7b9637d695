/-
  The contracts of Merge and of the answer's Merge; the law SamplesMerge.
-/
import Derived.Test.YtppajhjfnlhmaaaSpK
import Derived.Test.YtppajhjfnlhmaaaSpI
namespace Go.Proofs.Ytppajhjfnlhmaaa.Bk
open Go.ChangeShapes Go.WideShapes Go.ChangeAt Go.RowKit
theorem merge_zip {A B : List Sm} (ha : Sorted A) (hb : Sorted B) : (zipP A B = none → MergeIs A B 8 []) ∧ (∀ m, zipP A B = some m → (64 < m.length → MergeIs A B 6 []) ∧ (m.length ≤ 64 → MergeIs A B 0 m)) := by
  obtain ⟨h1, h2⟩ := zip_is _ A B (Nat.le_refl _) ha hb
  refine ⟨fun h => .inl ⟨h2 h, rfl, rfl⟩, fun m hm => ?_⟩
  obtain ⟨q1, q2⟩ := h1 m hm
  exact ⟨fun hl => .inr ⟨q2, m, q1, .inl ⟨hl, rfl, rfl⟩⟩, fun hl => .inr ⟨q2, m, q1, .inr ⟨hl, rfl, rfl⟩⟩⟩
theorem merge_exists {A B : List Sm} (ha : Sorted A) (hb : Sorted B) : ∃ E L, MergeIs A B E L := by
  obtain ⟨h1, h2⟩ := merge_zip ha hb
  cases h : zipP A B with
  | none => exact ⟨_, _, h1 h⟩
  | some m =>
    by_cases hl : 64 < m.length
    · exact ⟨_, _, (h2 m h).1 hl⟩
    · exact ⟨_, _, (h2 m h).2 (by omega)⟩
theorem merge_post {A B : List Sm} {E E' : Int} {L L' : List Sm} {w w' : World} {a : Option Addr} {len cap : Nat} (h : MergeIs A B E L) (h' : MergeIs A B E' L') (hb : Below w.heap.size w w') (hs : SmsAt w' a len cap L') : PutPost E L w (.returned (.tuple #[.slice a len cap, .int .i64 E'])) w' :=
  put_post (merge_one h' h).1 (merge_one h' h).2 hb hs
set_option maxHeartbeats 1000000 in
set_option maxRecDepth 60000 in
theorem merge_yes (a : Option Addr) (al ac : Nat) (b : Option Addr) (bl bc : Nat) (A B : List Sm) (E : Int) (L : List Sm) (w : World) (h1 : SmsAt w a al ac A) (h2 : SmsAt w b bl bc B) (hA : MayS A) (hB : MayS B) (hI : MergeIs A B E L) :
    Calls Try.prog 18 #[.slice a al ac, .slice b bl bc] w fun e w' => PutPost E L w e w' := by
  have H1 := Hid.mk9 h1
  have H2 := Hid.mk9 h2
  have MA := Hid.mk9 hA
  have MB := Hid.mk9 hB
  have HI := Hid.mk9 hI
  have HZ := Hid.mk9 (merge_zip ((may_iff A).1 hA).2.2 ((may_iff B).1 hB).2.2)
  have hal : al ≤ 64 := by have := hA.1; have := h1.1; omega
  have hbl : bl ≤ 64 := by have := hB.1; have := h2.1; omega
  clear h1 h2 hA hB hI
  go_enter Try.func18, Try.ntmps18
  go_upto_region 3 with (first
    | (go_at_call_of 20 ac; refine (check_yes H1.out MA.out).mono ?_; rintro e w1 ⟨rfl, hb1⟩; have HB := Hid.mk9 hb1; clear hb1)
    | (go_at_call_of 20 bc; refine (check_yes (H2.out.below HB.out) MB.out).mono ?_; rintro e w2 ⟨rfl, hb1⟩; replace HB := Hid.mk9 (below2 HB.out hb1); clear hb1))
  have HC := Hid.mk9 (zip_any a al ac b bl bc A B w2 (H1.out.below HB.out) (H2.out.below HB.out) hal hbl)
  cases hz : zipP A B with
  | none =>
    rw [hz] at HC
    have HI2 := Hid.mk9 (HZ.out.1 hz)
    clear HZ hz
    go_wp2_with (go_at_call 27; refine HC.out.mono ?_; rintro e w3 ⟨hb3, ⟨-, rfl⟩ | ⟨m, xa, xl, xc, hbad, -⟩⟩; rotate_left; (exact absurd hbad (by simp)); replace HB := Hid.mk9 (below2 HB.out hb3); clear hb3)
    go_returns
    exact merge_post HI.out HI2.out HB.out (sms_nil _)
  | some m =>
    rw [hz] at HC
    have HI2 := Hid.mk9 (HZ.out.2 m hz)
    clear HZ hz
    by_cases hl : 64 < m.length
    · have HI3 := Hid.mk9 (HI2.out.1 hl)
      clear HI2
      go_wp2_with (go_at_call 27; refine HC.out.mono ?_; rintro e w3 ⟨hb3, ⟨hbad, -⟩ | ⟨m', xa, xl, xc, hm', rfl, hs⟩⟩; (exact absurd hbad (by simp)); obtain rfl := Option.some.inj hm'; have hxl : (64 : Int) < (xl : Int) := (by have := hs.1; omega); replace HB := Hid.mk9 (below2 HB.out hb3); clear hb3 hs)
      go_returns
      exact merge_post HI.out HI3.out HB.out (sms_nil _)
    · have HI3 := Hid.mk9 (HI2.out.2 (by omega))
      clear HI2
      go_wp2_with (go_at_call 27; refine HC.out.mono ?_; rintro e w3 ⟨hb3, ⟨hbad, -⟩ | ⟨m', xa, xl, xc, hm', rfl, hs⟩⟩; (exact absurd hbad (by simp)); obtain rfl := Option.some.inj hm'; have hxl : (xl : Int) ≤ 64 := (by have := hs.1; omega); replace HB := Hid.mk9 (below2 HB.out hb3); have HSx := Hid.mk9 hs; clear hb3 hs)
      go_returns
      exact merge_post HI.out HI3.out HB.out HSx.out
set_option maxRecDepth 60000 in
theorem merge_no (a : Option Addr) (al ac : Nat) (b : Option Addr) (bl bc : Nat) (A B : List Sm) (w : World) (h1 : SmsAt w a al ac A) (h2 : SmsAt w b bl bc B) (hM : ¬ (MayS A ∧ MayS B)) :
    Calls Try.prog 18 #[.slice a al ac, .slice b bl bc] w fun e w' => e = .returned (.tuple #[.slice none 0 0, .int .i64 1]) ∧ Below w.heap.size w w' := by
  have H1 := Hid.mk9 h1
  have H2 := Hid.mk9 h2
  clear h1 h2
  by_cases hA : MayS A
  · have MA := Hid.mk9 hA
    have MB : Hid (¬ MayS B) := fun h => hM ⟨hA, h⟩
    clear hA hM
    go_enter Try.func18, Try.ntmps18
    go_wp2_with (first
      | (go_at_call_of 20 ac; refine (check_yes H1.out MA.out).mono ?_; rintro e w1 ⟨rfl, hb1⟩; have HB := Hid.mk9 hb1; clear hb1)
      | (go_at_call_of 20 bc; refine (check_no (H2.out.below HB.out) MB.out).mono ?_; rintro e w2 ⟨rfl, hb1⟩; replace HB := Hid.mk9 (below2 HB.out hb1); clear hb1))
    go_returns
    exact ⟨rfl, HB.out⟩
  · have MA := Hid.mk9 hA
    clear hA hM
    go_enter Try.func18, Try.ntmps18
    go_wp2_with (go_at_call 20; refine (check_no H1.out MA.out).mono ?_; rintro e w1 ⟨rfl, hb1⟩; have HB := Hid.mk9 hb1; clear hb1)
    go_returns
    exact ⟨rfl, HB.out⟩
set_option maxHeartbeats 2000000 in
set_option maxRecDepth 60000 in
theorem refMerge_yes (a : Option Addr) (al ac : Nat) (b : Option Addr) (bl bc : Nat) (A B : List Sm) (E : Int) (L : List Sm) (w : World) (h1 : SmsAt w a al ac A) (h2 : SmsAt w b bl bc B) (hA : MayS A) (hB : MayS B) (hI : MergeIs A B E L) :
    Calls Try.prog 19 #[.slice a al ac, .slice b bl bc] w fun e w' => PutPost E L w e w' := by
  have H1 := Hid.mk9 h1
  have H2 := Hid.mk9 h2
  have HI := Hid.mk9 hI
  have SA := Hid.mk9 ((may_iff A).1 hA).2.2
  have SB := Hid.mk9 ((may_iff B).1 hB).2.2
  have hal : al ≤ 64 := by have := hA.1; have := h1.1; omega
  have hbl : bl ≤ 64 := by have := hB.1; have := h2.1; omega
  have hlb : B.length = bl := h2.1
  clear h1 h2 hA hB hI
  go_enter Try.func19, Try.ntmps19
  go_wp2_with fail
  go_loopw [6, 7] (fun v i wr => ∃ (k : Nat) (pa : Option Addr) (pl pc : Nat) (O : List Sm), k ≤ bl ∧ v = .slice pa pl pc ∧ i = .int .i64 k ∧ pl ≤ al + k ∧ Hid (MergeTo A (B.take k) O) ∧ Hid (SmsAt wr pa pl pc O) ∧ Hid (Below w.heap.size w wr)) (fun _ i _ => bl - (intOf i).toNat)
  case atStart => exact ⟨0, a, al, ac, A, Nat.zero_le _, rfl, rfl, Nat.le_refl _, Hid.mk9 (mergeTo_nil SA.out), H1, Hid.mk9 (Below.refl _ _)⟩
  case round =>
    obtain ⟨k, pa, pl, pc, O, hk, rfl, rfl, hpl, HT, HSo, HB⟩ := hrel
    by_cases hlt : k < bl
    · obtain ⟨q, off, rfl, hbs, hcell⟩ := (H2.out.below HB.out).some (by omega)
      obtain ⟨e0, e1⟩ := hcell k hlt
      have HLc : Hid (∀ W, Below w.heap.size w W → W.cell? ⟨q, off + k * 2, none⟩ = some (.int .i64 (B.getD k sm0).1) ∧ W.cell? ⟨q, off + k * 2 + 1, none⟩ = some (.int .i64 (B.getD k sm0).2)) := fun W hb => by
        obtain ⟨b', off', e, _, hc⟩ := (H2.out.below hb).some (by omega)
        simp at e
        obtain ⟨rfl, rfl⟩ := e
        exact hc k hlt
      clear hcell
      have hk1 : (k : Int) < (bl : Int) := by omega
      have hk0 : (0 : Int) ≤ (k : Int) := by omega
      have HTn := Hid.mk9 (take_next (show k < B.length by omega))
      have HTb := Hid.mk9 (take_before SB.out (show k < B.length by omega))
      have HMb : Hid (B.getD k sm0 ∈ B) := Hid.mk9 (by rw [getD_get (show k < B.length by omega)]; exact List.getElem_mem _)
      generalize B.getD k sm0 = s at *
      obtain ⟨y1, y2⟩ := s
      have HG := Hid.mk9 (refGet_any a al ac A y1 wr (H1.out.below HB.out))
      cases hf : findP A y1 with
      | none =>
        rw [hf] at HG
        have HT2 := Hid.mk9 (mergeTo_new (s := (y1, y2)) HT.out hf HTb.out)
        rw [← HTn.out] at HT2
        clear HT HTn HTb HMb hf
        go_upto_region 6 with (go_at_call 15; refine HG.out.mono ?_; rintro e w3 ⟨hb3, rfl⟩)
        have b4 := below_alloc w3 (.cells #[.int .i64 0, .int .i64 0] 24)
        replace HB := Hid.mk9 (below2 (below2 HB.out hb3) b4)
        replace HSo := Hid.mk9 ((HSo.out.below hb3).below b4)
        clear hb3 b4 HG e0 e1 hbs
        have HBX : Hid (SmBox (w3.alloc (.cells #[.int .i64 0, .int .i64 0] 24)) w3.heap.size 0 0) := Hid.mk9 (SmBox.new w3 0 0)
        have hw4 : w3.alloc (.cells #[.int .i64 sm0.fst, .int .i64 sm0.snd] 24) = w3.alloc (.cells #[.int .i64 0, .int .i64 0] 24) := rfl
        first | rw [hw4] | skip
        generalize w3.alloc (.cells #[.int .i64 0, .int .i64 0] 24) = w4 at *
        generalize w3.heap.size = X at *
        obtain ⟨e0, e1⟩ := HLc.out _ HB.out
        have hbs := World.block_lt_of_cell? w4 _ e0
        have hbX := HBX.out.lt
        have x0 := cell_grown (w := w4) (a := ⟨q, off + k * 2 + 1, none⟩) hbs e1
        have x1 := cell_grown (w := w4) (a := ⟨X, 1, none⟩) hbX HBX.out.c1
        refine wp_region_QW mixed5 (by kernel_rfl) ?_
        repeat (refine QW_step (fun K hK => ?_); go_simp; first | (refine hK _ ?_; clear hK K) | (apply Exists.intro; refine ⟨fun _ => ?_, hK _ ?_⟩; fail; clear hK K))
        refine QW_nil ?_
        intro _ hw9
        obtain ⟨⟨nq, osq⟩, hw8⟩ := hw9
        subst hw8
        have bG := below_grow w4 nq osq
        replace HB := Hid.mk9 (HB.out.trans (bG.mono HB.out.size))
        replace HSo := Hid.mk9 (HSo.out.below bG)
        clear bG x0 x1
        generalize Go.Sort.grow (w4.drewN nq) osq = w5 at *
        clear e0 e1 hbs hbX
        obtain ⟨e0, e1⟩ := HLc.out _ HB.out
        have HW := Hid.mk9 (with_any pa pl pc O y1 y2 w5 HSo.out (by omega))
        go_wp2_with (go_at_call 25; refine HW.out.mono ?_; rintro e w6 ⟨hb6, xa, xl, xc, rfl, hs6⟩)
        have hx6 : xl = pl + 1 := by have := hs6.1; rw [wth_length] at this; have := HSo.out.1; omega
        exact ⟨⟨k + 1, xa, xl, xc, _, by omega, rfl, by go_num, by omega, HT2, Hid.mk9 hs6, Hid.mk9 (below2 HB.out hb6)⟩, by simp [intOf]; omega⟩
      | some z =>
        rw [hf] at HG
        obtain ⟨z1, z2⟩ := z
        obtain rfl : z1 = y1 := (find_mem hf).2
        go_upto_region 6 with (go_at_call 15; refine HG.out.mono ?_; rintro e w3 ⟨hb3, rfl⟩)
        have b4 := below_alloc w3 (.cells #[.int .i64 z1, .int .i64 z2] 24)
        replace HB := Hid.mk9 (below2 (below2 HB.out hb3) b4)
        replace HSo := Hid.mk9 ((HSo.out.below hb3).below b4)
        clear hb3 b4 HG e0 e1 hbs
        have HBX : Hid (SmBox (w3.alloc (.cells #[.int .i64 z1, .int .i64 z2] 24)) w3.heap.size z1 z2) := Hid.mk9 (SmBox.new w3 z1 z2)
        generalize w3.alloc (.cells #[.int .i64 z1, .int .i64 z2] 24) = w4 at *
        generalize w3.heap.size = X at *
        obtain ⟨e0, e1⟩ := HLc.out _ HB.out
        have hbs := World.block_lt_of_cell? w4 _ e0
        have hbX := HBX.out.lt
        have x0 := cell_grown (w := w4) (a := ⟨q, off + k * 2 + 1, none⟩) hbs e1
        have x1 := cell_grown (w := w4) (a := ⟨X, 1, none⟩) hbX HBX.out.c1
        by_cases hv : z2 = y2
        · subst hv
          have HT2 := Hid.mk9 (mergeTo_there (s := (z1, z2)) HT.out SA.out hf)
          rw [← HTn.out] at HT2
          clear HT HTn HTb HMb hf
          refine wp_region_QW mixed5 (by kernel_rfl) ?_
          repeat (refine QW_step (fun K hK => ?_); go_simp; first | (refine hK _ ?_; clear hK K) | (apply Exists.intro; refine ⟨fun _ => ?_, hK _ ?_⟩; fail; clear hK K))
          refine QW_nil ?_
          intro _ hw9
          obtain ⟨⟨nq, osq⟩, hw8⟩ := hw9
          subst hw8
          have bG := below_grow w4 nq osq
          replace HB := Hid.mk9 (HB.out.trans (bG.mono HB.out.size))
          replace HSo := Hid.mk9 (HSo.out.below bG)
          clear bG x0 x1
          generalize Go.Sort.grow (w4.drewN nq) osq = w5 at *
          clear e0 e1 hbs hbX
          go_wp2_with fail
          exact ⟨⟨k + 1, pa, pl, pc, O, by omega, rfl, by go_num, by omega, HT2, HSo, HB⟩, by simp [intOf]; omega⟩
        · have HI2 : Hid (MergeIs A B 8 []) := Hid.mk9 (.inl ⟨⟨(z1, z2), (find_mem hf).1, (z1, y2), HMb.out, rfl, fun e => hv (congrArg Prod.snd e)⟩, rfl, rfl⟩)
          clear HT HTn HTb HMb hf
          refine wp_region_QW mixed5 (by kernel_rfl) ?_
          repeat (refine QW_step (fun K hK => ?_); go_simp; first | (refine hK _ ?_; clear hK K) | (apply Exists.intro; refine ⟨fun _ => ?_, hK _ ?_⟩; fail; clear hK K))
          refine QW_nil ?_
          intro _ hw9
          obtain ⟨⟨nq, osq⟩, hw8⟩ := hw9
          subst hw8
          have bG := below_grow w4 nq osq
          replace HB := Hid.mk9 (HB.out.trans (bG.mono HB.out.size))
          replace HSo := Hid.mk9 (HSo.out.below bG)
          clear bG x0 x1
          generalize Go.Sort.grow (w4.drewN nq) osq = w5 at *
          clear e0 e1 hbs hbX
          go_wp2_with fail
          go_returns
          exact merge_post HI.out HI2.out HB.out (sms_nil _)
    · obtain rfl : k = bl := by omega
      have hT := HT.out
      rw [List.take_of_length_le (by omega)] at hT
      by_cases hl : 64 < pl
      · have hl' : (64 : Int) < (pl : Int) := by omega
        have HI2 : Hid (MergeIs A B 6 []) := Hid.mk9 (.inr ⟨hT.2, O, hT.1, .inl ⟨by have := HSo.out.1; omega, rfl, rfl⟩⟩)
        clear hT HT
        go_wp2_with fail
        go_returns
        exact merge_post HI.out HI2.out HB.out (sms_nil _)
      · have hl' : (pl : Int) ≤ 64 := by omega
        have HI2 : Hid (MergeIs A B 0 O) := Hid.mk9 (.inr ⟨hT.2, O, hT.1, .inr ⟨by have := HSo.out.1; omega, rfl, rfl⟩⟩)
        clear hT HT
        go_wp2_with fail
        go_returns
        exact merge_post HI.out HI2.out HB.out HSo.out
set_option maxHeartbeats 2000000 in
set_option maxRecDepth 60000 in
theorem samplesMerge_any (a : Option Addr) (al ac : Nat) (A : List Sm) (b : Option Addr) (bl bc : Nat) (B : List Sm) (w : World) (h1 : SmsAt w a al ac A) (h2 : SmsAt w b bl bc B) :
    Calls Try.prog 5 #[.slice a al ac, .slice b bl bc] w fun e w' => TruePost w e w' := by
  have hm1 : al ≤ maxLen := Nat.le_trans h1.2.1 h1.2.2.1
  have hm2 : bl ≤ maxLen := Nat.le_trans h2.2.1 h2.2.2.1
  unfold maxLen at hm1 hm2
  have H1 := Hid.mk9 h1
  have H2 := Hid.mk9 h2
  clear h1 h2
  by_cases hbig : 200 < al
  · have hb' : (200 : Int) < (al : Int) := by omega
    go_enter Try.func5, Try.ntmps5
    go_wp2_with (go_at_call 7; refine (awake_t _).mono ?_; rintro e w1 ⟨rfl, hb1⟩)
    go_ret
    exact ⟨rfl, hb1⟩
  have ha' : (al : Int) ≤ 200 := by omega
  clear hbig
  by_cases hbig : 200 < bl
  · have hb' : (200 : Int) < (bl : Int) := by omega
    go_enter Try.func5, Try.ntmps5
    go_wp2_with (go_at_call 7; refine (awake_t _).mono ?_; rintro e w1 ⟨rfl, hb1⟩)
    go_ret
    exact ⟨rfl, hb1⟩
  have hb' : (bl : Int) ≤ 200 := by omega
  clear hbig
  by_cases hM : MayS A ∧ MayS B
  · obtain ⟨hA, hB⟩ := hM
    obtain ⟨E, L, hI⟩ := merge_exists ((may_iff A).1 hA).2.2 ((may_iff B).1 hB).2.2
    have MA := Hid.mk9 hA
    have MB := Hid.mk9 hB
    have HI := Hid.mk9 hI
    clear hA hB hI
    go_enter Try.func5, Try.ntmps5
    go_upto_region 4 with (go_at_call 18; refine (merge_yes a al ac b bl bc A B E L w H1.out H2.out MA.out MB.out HI.out).mono ?_; rintro e w1 ⟨hb1, xa, xl, xc, rfl, hs⟩)
    have HB := Hid.mk9 hb1
    have HSx := Hid.mk9 hs
    clear hb1 hs
    go_upto_region 5 with (go_at_call 18; refine (merge_yes b bl bc a al ac B A E L _ (H2.out.below HB.out) (H1.out.below HB.out) MB.out MA.out HI.out.swap).mono ?_; rintro e w2 ⟨hb1, ya, yl, yc, rfl, hs⟩)
    replace HB := Hid.mk9 (below2 HB.out hb1)
    replace HSx := Hid.mk9 (HSx.out.below hb1)
    have HSy := Hid.mk9 hs
    clear hb1 hs
    go_upto_region 7 with (first
      | (go_at_call_of 9 ac; refine (mayS_true (H1.out.below HB.out) MA.out).mono ?_; rintro e w3 ⟨rfl, hb1⟩; replace HB := Hid.mk9 (below2 HB.out hb1); replace HSx := Hid.mk9 (HSx.out.below hb1); replace HSy := Hid.mk9 (HSy.out.below hb1); clear hb1)
      | (go_at_call_of 9 bc; refine (mayS_true (H2.out.below HB.out) MB.out).mono ?_; rintro e w4 ⟨rfl, hb1⟩; replace HB := Hid.mk9 (below2 HB.out hb1); replace HSx := Hid.mk9 (HSx.out.below hb1); replace HSy := Hid.mk9 (HSy.out.below hb1); clear hb1))
    go_wp2_with (first
      | (go_at_call 19; refine (refMerge_yes a al ac b bl bc A B E L _ (H1.out.below HB.out) (H2.out.below HB.out) MA.out MB.out HI.out).mono ?_; rintro e w5 ⟨hb1, za, zl, zc, rfl, hs⟩; replace HB := Hid.mk9 (below2 HB.out hb1); replace HSx := Hid.mk9 (HSx.out.below hb1); replace HSy := Hid.mk9 (HSy.out.below hb1); have HSz := Hid.mk9 hs; clear hb1 hs)
      | (go_at_call_of 11 xa; refine (bool_true (refSameS_any _ _ _ _ _ _ L L _ HSx.out HSz.out) rfl).mono ?_; rintro e w6 ⟨rfl, hb1⟩; replace HB := Hid.mk9 (below2 HB.out hb1); replace HSy := Hid.mk9 (HSy.out.below hb1); replace HSz := Hid.mk9 (HSz.out.below hb1); clear hb1)
      | (go_at_call_of 11 ya; refine (bool_true (refSameS_any _ _ _ _ _ _ L L _ HSy.out HSz.out) rfl).mono ?_; rintro e w7 ⟨rfl, hb1⟩; replace HB := Hid.mk9 (below2 HB.out hb1); clear hb1)
      | (go_at_call 7; refine (awake_t _).mono ?_; rintro e w8 ⟨rfl, hb1⟩; replace HB := Hid.mk9 (below2 HB.out hb1); clear hb1))
    go_ret
    exact ⟨rfl, HB.out⟩
  · have HM := Hid.mk9 hM
    have HM2 : Hid (¬ (MayS B ∧ MayS A)) := fun h => hM ⟨h.2, h.1⟩
    by_cases hA : MayS A
    · have MA := Hid.mk9 hA
      have MB : Hid (¬ MayS B) := fun h => hM ⟨hA, h⟩
      clear hA hM
      go_enter Try.func5, Try.ntmps5
      go_upto_region 4 with (go_at_call 18; refine (merge_no a al ac b bl bc A B w H1.out H2.out HM.out).mono ?_; rintro e w1 ⟨rfl, hb1⟩)
      have HB := Hid.mk9 hb1
      clear hb1
      go_upto_region 5 with (go_at_call 18; refine (merge_no b bl bc a al ac B A _ (H2.out.below HB.out) (H1.out.below HB.out) HM2.out).mono ?_; rintro e w2 ⟨rfl, hb1⟩)
      replace HB := Hid.mk9 (below2 HB.out hb1)
      clear hb1
      go_wp2_with (first
        | (go_at_call_of 9 ac; refine (mayS_true (H1.out.below HB.out) MA.out).mono ?_; rintro e w3 ⟨rfl, hb1⟩; replace HB := Hid.mk9 (below2 HB.out hb1); clear hb1)
        | (go_at_call_of 9 bc; refine (mayS_false (H2.out.below HB.out) MB.out).mono ?_; rintro e w4 ⟨rfl, hb1⟩; replace HB := Hid.mk9 (below2 HB.out hb1); clear hb1)
        | (go_at_call 7; refine (awake_t _).mono ?_; rintro e w8 ⟨rfl, hb1⟩; replace HB := Hid.mk9 (below2 HB.out hb1); clear hb1))
      go_ret
      exact ⟨rfl, HB.out⟩
    · have MA := Hid.mk9 hA
      clear hA hM
      go_enter Try.func5, Try.ntmps5
      go_upto_region 4 with (go_at_call 18; refine (merge_no a al ac b bl bc A B w H1.out H2.out HM.out).mono ?_; rintro e w1 ⟨rfl, hb1⟩)
      have HB := Hid.mk9 hb1
      clear hb1
      go_upto_region 5 with (go_at_call 18; refine (merge_no b bl bc a al ac B A _ (H2.out.below HB.out) (H1.out.below HB.out) HM2.out).mono ?_; rintro e w2 ⟨rfl, hb1⟩)
      replace HB := Hid.mk9 (below2 HB.out hb1)
      clear hb1
      go_wp2_with (first
        | (go_at_call 9; refine (mayS_false (H1.out.below HB.out) MA.out).mono ?_; rintro e w3 ⟨rfl, hb1⟩; replace HB := Hid.mk9 (below2 HB.out hb1); clear hb1)
        | (go_at_call 7; refine (awake_t _).mono ?_; rintro e w8 ⟨rfl, hb1⟩; replace HB := Hid.mk9 (below2 HB.out hb1); clear hb1))
      go_ret
      exact ⟨rfl, HB.out⟩
end Go.Proofs.Ytppajhjfnlhmaaa.Bk
