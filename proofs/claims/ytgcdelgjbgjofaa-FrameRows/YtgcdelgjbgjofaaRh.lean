/-
  The contract of the answer's First: the first data of a row, or why there is none; what it makes is new.
-/
import Derived.Test.YtgcdelgjbgjofaaRg
namespace Go.Proofs.Ytgcdelgjbgjofaa
open Go.ChangeShapes Go.WideShapes Go.ChangeAt Go.RowKit
theorem noHead_loose {l : List UInt8} {n k : Nat} (h : LooseIs l n k) (hno : ¬ (¬ k = 0 ∧ n ≤ 4096 ∧ l.take k = countL n ∧ n + 4 ≤ l.length - k)) : NoHead l := by
  intro m r e hm
  obtain ⟨rfl, h2⟩ := h.2.2.2 m r (by omega) e
  have hp := countL_pos n
  by_cases hc : r.length < n + 4
  · exact hc
  · refine absurd ⟨by omega, hm, ?_, ?_⟩ hno
    · rw [h2, e, List.take_left]
    · rw [h2, e, List.length_append]; omega
set_option maxHeartbeats 16000000 in
set_option maxRecDepth 60000 in
theorem refFirst_any (a : Option Addr) (len cap : Nat) (l : List UInt8) (w : World) (h : RowAt w a len cap (cellsB l)) :
    Calls Try.prog 25 #[.slice a len cap] w fun e w' => FirstPostF w l e w' := by
  have hl : l.length = len := by simpa [cellsB] using h.1
  have hcap := h.2.1
  have hm : len ≤ maxLen := Nat.le_trans h.2.1 h.2.2.1
  have hcm := h.2.2.1
  unfold maxLen at hm hcm
  have HR : Hid (RowAt w a len cap (cellsB l)) := h
  clear h
  go_enter Try.func25, Try.ntmps25
  go_wp2_with fail
  have B1 : Below w.heap.size w (w.alloc (.cells #[.slice none 0 0, .slice none 0 0] 29)) := (Below.refl _ _).alloc (Nat.le_refl _) _
  generalize hw1 : w.alloc (.cells #[.slice none 0 0, .slice none 0 0] 29) = w1 at *
  have hc0 : w1.cell? ⟨w.heap.size, 0, none⟩ = some (.slice none 0 0) := by rw [← hw1]; simp
  have hc1 : w1.cell? ⟨w.heap.size, 1, none⟩ = some (.slice none 0 0) := by rw [← hw1]; simp
  have hf0 : w1.frozen? ⟨w.heap.size, 0, none⟩ = false := by rw [← hw1]; simp
  have hf1 : w1.frozen? ⟨w.heap.size, 1, none⟩ = false := by rw [← hw1]; simp
  have hs1 : w.heap.size < w1.heap.size := by rw [← hw1]; simp
  have KB : Hid (∀ wr, Below w1.heap.size w1 wr → (wr.cell? ⟨w.heap.size, 0, none⟩ = some (.slice none 0 0) ∧ wr.cell? ⟨w.heap.size, 1, none⟩ = some (.slice none 0 0)) ∧ wr.frozen? ⟨w.heap.size, 0, none⟩ = false ∧ wr.frozen? ⟨w.heap.size, 1, none⟩ = false) := fun wr hb =>
    ⟨⟨(hb.cell (p := ⟨w.heap.size, 0, none⟩) hs1).trans hc0, (hb.cell (p := ⟨w.heap.size, 1, none⟩) hs1).trans hc1⟩, (hb.frozen (p := ⟨w.heap.size, 0, none⟩) hs1).trans hf0, (hb.frozen (p := ⟨w.heap.size, 1, none⟩) hs1).trans hf1⟩
  clear hw1
  refine (refLead_any _ _ _ l _ (HR.out.below B1)).mono ?_
  rintro en w2 ⟨rfl, n, s, rfl, hL⟩
  have hn64 := hL.1
  have hs2 : s ≤ len := by have := hL.2.1; omega
  have HNH : Hid (¬ (¬ s = 0 ∧ n ≤ 4096 ∧ l.take s = countL n ∧ n + 4 ≤ l.length - s) → NoHead l) := noHead_loose hL
  clear hL
  obtain ⟨⟨d0, d1⟩, d2, d3⟩ := KB.out _ (below_drew w2)
  have hbd : Below w.heap.size w w2.drew := below2 B1 (below_drew _)
  by_cases hs0 : s = 0
  · have HNO : Hid (NoHead l) := HNH.out (fun h => h.1 hs0)
    subst hs0
    clear HNH
    go_wp2_with fail
    go_region
    all_goals go_wp2
    all_goals try simp only [Exit.inBlock, Exit.then]
    all_goals refine bodyPost_ret (ret_triple rfl _ _ w.heap.size _ _ rfl (two_set d0 d1 _ _).1 (two_set d0 d1 _ _).2) rfl ?_
    all_goals exact first_headF ((hbd.setCell (Nat.le_refl _) _).setCell (Nat.le_refl _) _) HNO.out
  clear d0 d1 d2 d3 hbd
  have HRW : Hid (RowAt w2 a len cap (cellsB l)) := HR.out.below B1
  by_cases hn4 : n ≤ 4096
  · by_cases heq : l.take s = countL n
    · by_cases hnl : n + 4 ≤ len - s
      · have HLR : Hid (l = countL n ++ l.drop s ∧ s = (countL n).length) := ⟨by conv => lhs; rw [← List.take_append_drop s l, heq], by rw [← heq, List.length_take]; omega⟩
        obtain ⟨e, he⟩ : ∃ e, e = s + n := ⟨_, rfl⟩
        have HN4 : Hid (n ≤ 4096 ∧ n + 4 ≤ len - s ∧ e = s + n) := ⟨hn4, hnl, he⟩
        have HH : Hid (¬ s = 0 ∧ s ≤ len ∧ l.take s = countL n ∧ ¬ len - s < n + 4) := ⟨hs0, hs2, heq, by omega⟩
        obtain ⟨a1, hif1, hrow1⟩ := slice_from a len cap l s hs2
        rw [if_neg (by omega)] at hif1
        subst hif1
        have KR : Hid (∀ wr, Below w.heap.size w wr → RowAt wr (Option.map (fun x => x.add s) a) n (cap - s) (cellsB ((l.drop s).take n))) := fun wr hb => by
          have h1 := (hrow1 _ (HR.out.below hb)).take n (by omega)
          rw [cellsB_take] at h1
          exact h1
        have y1 : (s : Int) + (n : Int) = (e : Int) := by omega
        have x1 : (0 : Int) ≤ (e : Int) ∧ (e : Int) ≤ (cap : Int) := by omega
        have x2 : (s : Int) ≤ (e : Int) := by omega
        have x3 : e - s = n := by omega
        have x4 : (e : Int) + 4 ≤ (cap : Int) := by omega
        have x5 : ¬ cap = s := by omega
        clear hrow1 HNH hnl heq hn4 hs0 he
        go_wp2_with fail
        refine head_ok _ _ _ _ _ _ _ _ _ _ _ _ _ _ _ _ _ _ _ _ _ _ _ _ _ _ _ _ _ _ _ _ _ _ _ _ _ _ _ _ _ _ _ _ _ _ _ _ _ _ _ _ _ _ _ _ _ _ _ _ _ _ _ _ _ _ _ _ _ _ _ _ _ _ _ _ _ _ _ a len cap n s l w2 _ HRW.out HH.out.1 HH.out.2.1 HN4.out.1 HH.out.2.2.1 HH.out.2.2.2 (fun u15 u16 u17 u18 u19 u20 u21 u22 u23 u24 u25 u26 u27 u28 u29 u30 u31 u32 u33 u34 u35 u36 u37 u38 u39 wC hbC => ?_)
        have hbw : Below w.heap.size w wC := below2 B1 hbC
        have HRC : Hid (RowAt wC a len cap (cellsB l)) := HR.out.below hbw
        have HDE : Hid ((l.drop s).drop n = l.drop e) := by show _ = _; rw [List.drop_drop, HN4.out.2.2]
        have HNR : Hid (n + 4 ≤ (l.drop s).length) := by show _ ≤ _; have := HN4.out; rw [List.length_drop]; omega
        clear HRW
        by_cases hsum : fourL (sumL ((l.drop s).take n)) = (l.drop e).take 4
        · have HS : Hid (fourL (sumL ((l.drop s).take n)) = (l.drop e).take 4) := hsum
          have H6 : Hid (n ≤ 6000) := by show _ ≤ _; have := HN4.out; omega
          clear hsum
          go_wp2_with fail
          refine sums_eq _ _ _ _ _ _ _ _ _ _ _ _ _ _ _ _ _ _ _ _ _ _ _ _ _ _ _ _ _ _ _ _ _ _ _ _ _ _ _ _ _ _ _ _ _ _ _ _ _ _ _ _ _ _ _ _ _ _ _ _ _ _ _ _ _ _ _ _ _ _ _ _ _ _ _ _ _ _ a (Option.map (fun x => x.add s) a) len cap (cap - s) n s e l ((l.drop s).take n) wC _ HRC.out (KR.out _ hbw) HN4.out.2.2 HN4.out.1 HN4.out.2.1 HS.out (fun u49 u50 u51 u52 u53 u54 u55 u56 u57 u58 u59 u60 u61 u62 u63 u64 wD hbD => ?_)
          have hb5w := below2 hbw hbD
          have hb5c := below2 hbC hbD
          clear hbw hbC hbD HRC x1 x2 x3 x5
          go_wp2_with fail
          refine (refDecode2_any _ _ _ ((l.drop s).take n) _ (KR.out _ hb5w) H6).mono ?_
          rintro en w6 ⟨hb6, v6, c6, rfl, hD6, hfr6⟩
          have hb6w := below2 hb5w hb6
          have hb6c := below2 hb5c hb6
          rcases hD6 with ⟨h, _⟩ | ⟨_, rfl, rfl, hno⟩ | ⟨_, rfl, nums, texts, hd6, hf6, he6⟩
          · have h1 := HN4.out
            rw [List.length_take] at h
            omega
          · have HNO : Hid (NoData ((l.drop s).take n)) := hno
            clear hno
            obtain ⟨⟨q0, q1⟩, q2, q3⟩ := KB.out (w6.alloc (.cells #[.slice none 0 0, .slice none 0 0] 29)) (below2 hb6c ((Below.refl _ _).alloc (Nat.le_refl _) _))
            have hb7w : Below w.heap.size w (w6.alloc (.cells #[.slice none 0 0, .slice none 0 0] 29)) := below2 hb6w ((Below.refl _ _).alloc (Nat.le_refl _) _)
            unfold noData
            go_wp2
            try simp only [Exit.inBlock, Exit.then]
            refine bodyPost_ret (ret_triple rfl _ _ w.heap.size _ _ rfl (two_set q0 q1 _ _).1 (two_set q0 q1 _ _).2) rfl ?_
            exact first_textF ((hb7w.setCell (Nat.le_refl _) _).setCell (Nat.le_refl _) _) HLR.out.1 HN4.out.1 HNR.out (by rw [HDE.out]; exact HS.out) HNO.out
          · have HD6 : Hid (DataAt w6 v6 nums texts) := hd6
            have HFR : Hid (FreshD w.heap.size v6) := hfr6.mono hb5w.size
            clear hfr6
            have HE6 : Hid (Fit nums texts ∧ (l.drop s).take n = bytesL nums texts) := ⟨hf6, he6⟩
            obtain ⟨b1, m1, d1, b2, m2, d2, rfl, _, _, _, _⟩ := hd6
            clear hf6 he6
            have hb67 : Below w6.heap.size w6 (w6.alloc (.cells #[.slice b1 m1 d1, .slice b2 m2 d2] 29)) := (Below.refl _ _).alloc (Nat.le_refl _) _
            obtain ⟨⟨q0, q1⟩, q2, q3⟩ := KB.out (w6.alloc (.cells #[.slice b1 m1 d1, .slice b2 m2 d2] 29)) (below2 hb6c hb67)
            have hb7w : Below w.heap.size w (w6.alloc (.cells #[.slice b1 m1 d1, .slice b2 m2 d2] 29)) := below2 hb6w hb67
            have HD7 : Hid (DataAt (w6.alloc (.cells #[.slice b1 m1 d1, .slice b2 m2 d2] 29)) (.agg #[.slice b1 m1 d1, .slice b2 m2 d2]) nums texts) := HD6.out.below hb67
            go_wp2
            try simp only [Exit.inBlock, Exit.then]
            refine bodyPost_ret (ret_triple rfl _ _ w.heap.size _ _ rfl (two_set q0 q1 _ _).1 (two_set q0 q1 _ _).2) rfl ?_
            exact first_okF (s := e + 4) ((hb7w.setCell (Nat.le_refl _) _).setCell (Nat.le_refl _) _) HLR.out.1 HN4.out.1 HNR.out (by rw [HDE.out]; exact HS.out) (by rw [← HLR.out.2, HN4.out.2.2]) (data_set2 HD7.out q0 q1) HE6.out.1 HE6.out.2 HFR.out
        · have HS : Hid (¬ fourL (sumL ((l.drop s).take n)) = (l.drop e).take 4) := hsum
          clear hsum
          go_wp2_with fail
          refine sums_ne _ _ _ _ _ _ _ _ _ _ _ _ _ _ _ _ _ _ _ _ _ _ _ _ _ _ _ _ _ _ _ _ _ _ _ _ _ _ _ _ _ _ _ _ _ _ _ _ _ _ _ _ _ _ _ _ _ _ _ _ _ _ _ _ _ _ _ _ _ _ _ _ _ _ _ _ _ _ a (Option.map (fun x => x.add s) a) len cap (cap - s) n s e l ((l.drop s).take n) wC _ HRC.out (KR.out _ hbw) HN4.out.2.2 HN4.out.1 HN4.out.2.1 HS.out (fun u49 u50 u51 u52 u53 u54 u55 u56 u57 u58 u59 u60 u61 u62 u63 u64 wD hbD => ?_)
          have hb5w := below2 hbw hbD
          obtain ⟨⟨q0, q1⟩, q2, q3⟩ := KB.out _ (below2 hbC hbD)
          clear hbw hbC hbD HRC x1 x2 x3 x5
          go_wp2_with fail
          try simp only [Exit.inBlock, Exit.then]
          refine bodyPost_ret (ret_triple rfl _ _ w.heap.size _ _ rfl (two_set q0 q1 _ _).1 (two_set q0 q1 _ _).2) rfl ?_
          refine first_sumF ((hb5w.setCell (Nat.le_refl _) _).setCell (Nat.le_refl _) _) HLR.out.1 HN4.out.1 HNR.out ?_
          rw [HDE.out]
          exact HS.out
      · have HNO : Hid (NoHead l) := HNH.out (fun h => hnl (by rw [← hl]; exact h.2.2.2))
        have HH : Hid (¬ s = 0 ∧ s ≤ len ∧ n ≤ 4096 ∧ l.take s = countL n ∧ len - s < n + 4) := ⟨hs0, hs2, hn4, heq, by omega⟩
        clear HNH hnl heq hn4 hs0
        go_wp2_with fail
        refine head_lt _ _ _ _ _ _ _ _ _ _ _ _ _ _ _ _ _ _ _ _ _ _ _ _ _ _ _ _ _ _ _ _ _ _ _ _ _ _ _ _ _ _ _ _ _ _ _ _ _ _ _ _ _ _ _ _ _ _ _ _ _ _ _ _ _ _ _ _ _ _ _ _ _ _ _ _ _ _ _ a len cap n s l w2 _ HRW.out HH.out.1 HH.out.2.1 HH.out.2.2.1 HH.out.2.2.2.1 HH.out.2.2.2.2 (fun u15 u16 u17 u18 u19 u20 u21 u22 u23 u24 u25 u26 u27 u28 u29 u30 u31 u32 u33 u34 u35 u36 u37 u38 u39 wC hbC => ?_)
        have hbw : Below w.heap.size w wC := below2 B1 hbC
        obtain ⟨⟨q0, q1⟩, q2, q3⟩ := KB.out _ hbC
        clear hbC
        go_wp2_with fail
        try simp only [Exit.inBlock, Exit.then]
        refine bodyPost_ret (ret_triple rfl _ _ w.heap.size _ _ rfl (two_set q0 q1 _ _).1 (two_set q0 q1 _ _).2) rfl ?_
        exact first_headF ((hbw.setCell (Nat.le_refl _) _).setCell (Nat.le_refl _) _) HNO.out
    · have HNO : Hid (NoHead l) := HNH.out (fun h => heq h.2.2.1)
      have HH : Hid (¬ s = 0 ∧ s ≤ len ∧ n ≤ 4096 ∧ ¬ l.take s = countL n) := ⟨hs0, hs2, hn4, heq⟩
      clear HNH heq hn4 hs0
      go_wp2_with fail
      refine head_ne _ _ _ _ _ _ _ _ _ _ _ _ _ _ _ _ _ _ _ _ _ _ _ _ _ _ _ _ _ _ _ _ _ _ _ _ _ _ _ _ _ _ _ _ _ _ _ _ _ _ _ _ _ _ _ _ _ _ _ _ _ _ _ _ _ _ _ _ _ _ _ _ _ _ _ _ _ _ _ a len cap n s l w2 _ HRW.out HH.out.1 HH.out.2.1 HH.out.2.2.1 HH.out.2.2.2 (fun u15 u16 u17 u18 u19 u20 u21 u22 u23 u24 u25 u26 u27 u28 u29 u30 u31 u32 u33 u34 u35 u36 u37 u38 u39 wC hbC => ?_)
      have hbw : Below w.heap.size w wC := below2 B1 hbC
      obtain ⟨⟨q0, q1⟩, q2, q3⟩ := KB.out _ hbC
      clear hbC
      go_wp2_with fail
      try simp only [Exit.inBlock, Exit.then]
      refine bodyPost_ret (ret_triple rfl _ _ w.heap.size _ _ rfl (two_set q0 q1 _ _).1 (two_set q0 q1 _ _).2) rfl ?_
      exact first_headF ((hbw.setCell (Nat.le_refl _) _).setCell (Nat.le_refl _) _) HNO.out
  · have HNO : Hid (NoHead l) := HNH.out (fun h => hn4 h.2.1)
    have e1 : ((s : Int) == 0) = false := beq_eq_false_iff_ne.2 (by omega)
    have e2 : (4096 : Int) < (n : Int) := by omega
    obtain ⟨⟨d0, d1⟩, d2, d3⟩ := KB.out _ (below_drew w2)
    have hbd : Below w.heap.size w w2.drew := below2 B1 (below_drew _)
    clear HNH hn4 hs0
    go_wp2_with fail
    go_region
    all_goals go_wp2
    all_goals try simp only [Exit.inBlock, Exit.then]
    all_goals refine bodyPost_ret (ret_triple rfl _ _ w.heap.size _ _ rfl (two_set d0 d1 _ _).1 (two_set d0 d1 _ _).2) rfl ?_
    all_goals exact first_headF ((hbd.setCell (Nat.le_refl _) _).setCell (Nat.le_refl _) _) HNO.out
end Go.Proofs.Ytgcdelgjbgjofaa
