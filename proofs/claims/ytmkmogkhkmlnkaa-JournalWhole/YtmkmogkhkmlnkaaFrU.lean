/-
  The contract of the program's First: the first data of a row, or why there is none.
-/
import Derived.Test.YtmkmogkhkmlnkaaMgC
import Derived.RegionTactic
namespace Go.Proofs.Ytmkmogkhkmlnkaa.Fr
open Go.ChangeShapes Go.WideShapes Go.ChangeAt Go.RowKit
/-- bytes begin with no count from 0 to 4096 that as many bytes and four stand behind -/
def NoHead (l : List UInt8) : Prop := ∀ n r, l = countL n ++ r → n ≤ 4096 → r.length < n + 4
/-- what both Firsts answer -/
def FirstIs (w' : World) (l : List UInt8) (v : Value) (s c : Nat) : Prop :=
  (v = noData ∧ s = 0 ∧ c = 2 ∧ NoHead l) ∨
  ∃ n r, l = countL n ++ r ∧ n ≤ 4096 ∧ n + 4 ≤ r.length ∧
    ((fourL (sumL (r.take n)) ≠ (r.drop n).take 4 ∧ v = noData ∧ s = 0 ∧ c = 3) ∨
     (fourL (sumL (r.take n)) = (r.drop n).take 4 ∧ NoData (r.take n) ∧ v = noData ∧ s = 0 ∧ c = 2) ∨
     (fourL (sumL (r.take n)) = (r.drop n).take 4 ∧ s = (countL n).length + n + 4 ∧ c = 0 ∧ ∃ nums texts, DataAt w' v nums texts ∧ Fit nums texts ∧ r.take n = bytesL nums texts))
def FirstPost (w : World) (l : List UInt8) (e : Ending) (w' : World) : Prop := Below w.heap.size w w' ∧ ∃ v s c, e = .returned (.tuple #[v, .int .i64 ((s : Nat) : Int), .int .i64 ((c : Nat) : Int)]) ∧ FirstIs w' l v s c
theorem first_head {w w' : World} {l : List UInt8} (hb : Below w.heap.size w w') (h : NoHead l) : FirstPost w l (.returned (.tuple #[noData, .int .i64 0, .int .i64 2])) w' := ⟨hb, _, 0, 2, rfl, .inl ⟨rfl, rfl, rfl, h⟩⟩
theorem first_sum {w w' : World} {l r : List UInt8} {n : Nat} (hb : Below w.heap.size w w') (h1 : l = countL n ++ r) (h2 : n ≤ 4096) (h3 : n + 4 ≤ r.length) (h4 : fourL (sumL (r.take n)) ≠ (r.drop n).take 4) : FirstPost w l (.returned (.tuple #[noData, .int .i64 0, .int .i64 3])) w' :=
  ⟨hb, _, 0, 3, rfl, .inr ⟨n, r, h1, h2, h3, .inl ⟨h4, rfl, rfl, rfl⟩⟩⟩
theorem first_text {w w' : World} {l r : List UInt8} {n : Nat} (hb : Below w.heap.size w w') (h1 : l = countL n ++ r) (h2 : n ≤ 4096) (h3 : n + 4 ≤ r.length) (h4 : fourL (sumL (r.take n)) = (r.drop n).take 4) (h5 : NoData (r.take n)) : FirstPost w l (.returned (.tuple #[noData, .int .i64 0, .int .i64 2])) w' :=
  ⟨hb, _, 0, 2, rfl, .inr ⟨n, r, h1, h2, h3, .inr (.inl ⟨h4, h5, rfl, rfl, rfl⟩)⟩⟩
theorem first_ok {w w' : World} {l r : List UInt8} {n s : Nat} {v : Value} {nums : List Int} {texts : List ByteArray} (hb : Below w.heap.size w w') (h1 : l = countL n ++ r) (h2 : n ≤ 4096) (h3 : n + 4 ≤ r.length) (h4 : fourL (sumL (r.take n)) = (r.drop n).take 4) (h5 : s = (countL n).length + n + 4) (h6 : DataAt w' v nums texts) (h7 : Fit nums texts) (h8 : r.take n = bytesL nums texts) : FirstPost w l (.returned (.tuple #[v, .int .i64 ((s : Nat) : Int), .int .i64 0])) w' :=
  ⟨hb, _, s, 0, rfl, .inr ⟨n, r, h1, h2, h3, .inr (.inr ⟨h4, h5, rfl, nums, texts, h6, h7, h8⟩)⟩⟩
theorem noHead_lead {l : List UInt8} (h : NoLead l) : NoHead l := fun n r e hn => (h n r (by omega) e).elim
theorem noHead_other {l r : List UInt8} {n : Nat} (e : l = countL n ++ r) (h : 4096 < n ∨ r.length < n + 4) : NoHead l := by
  intro m s e2 hm
  rw [e] at e2
  obtain ⟨rfl, rfl⟩ := countL_free _ _ _ _ e2
  omega
theorem ret_triple {fn : Func} {p u v : Tmp} (h : fn.results = #[.cell p 38, .tmp u, .tmp v]) (tmps : Array Value) (w : World) (b : Nat) (x y : Value) (hp : tmps.getD p undef = .pointer (some ⟨b, 0, none⟩))
    (h0 : w.cell? ⟨b, 0, none⟩ = some x) (h1 : w.cell? ⟨b, 1, none⟩ = some y) : (results fn tmps).run Try.prog w = .ok (.tuple #[.agg #[x, y], tmps.getD u undef, tmps.getD v undef]) w := by
  have hp' : tmps[p]?.getD undef = .pointer (some ⟨b, 0, none⟩) := by simpa using hp
  simp only [results, h]
  simp [go_sem, hp', h0, h1]
theorem RowAt.setCell2 {w : World} {a : Option Addr} {len cap : Nat} {cs : List Value} (h : RowAt w a len cap cs) (p : Addr) (x u : Value) (hp : w.cell? p = Option.some u) (hu : u ∉ cs) : RowAt (w.setCell p x) a len cap cs := by
  refine ⟨h.1, h.2.1, h.2.2.1, ?_⟩
  rcases h.2.2.2 with h0 | ⟨b, off, e, hc⟩
  · exact .inl h0
  · refine .inr ⟨b, off, e, fun i hi => ?_⟩
    by_cases hpa : (⟨b, off + i, none⟩ : Addr) = p
    · have h1 := hc i hi
      rw [hpa, hp] at h1
      exact absurd (List.mem_of_getElem? h1.symm) hu
    · rw [World.cell?_setCell_other _ _ _ _ (fun hh => hpa hh.symm)]
      exact hc i hi
theorem data_set {w : World} {v : Value} {nums : List Int} {texts : List ByteArray} (h : DataAt w v nums texts) (p : Addr) (x : Value) {a : Option Addr} {n c : Nat} (hp : w.cell? p = some (.slice a n c)) : DataAt (w.setCell p x) v nums texts := by
  obtain ⟨a1, n1, c1, a2, n2, c2, e, h1, h2, h3, h4⟩ := h
  exact ⟨a1, n1, c1, a2, n2, c2, e, h1.setCell2 p x _ hp (by simp [cellsI]), h2.setCell2 p x _ hp (by simp [cellsT]), h3, h4⟩
theorem data_set2 {w : World} {v : Value} {nums : List Int} {texts : List ByteArray} {b : Nat} (h : DataAt w v nums texts) {a : Option Addr} {n c : Nat} {a2 : Option Addr} {n2 c2 : Nat} (h0 : w.cell? ⟨b, 0, none⟩ = some (.slice a n c)) (h1 : w.cell? ⟨b, 1, none⟩ = some (.slice a2 n2 c2)) {x y : Value} : DataAt ((w.setCell ⟨b, 0, none⟩ x).setCell ⟨b, 1, none⟩ y) v nums texts := by
  refine data_set (data_set h _ _ h0) _ _ (a := a2) (n := n2) (c := c2) ?_
  rw [World.cell?_setCell_other _ _ _ _ (by intro h; simpa using congrArg Addr.off h)]; exact h1
set_option maxHeartbeats 8000000 in
set_option maxRecDepth 60000 in
theorem first_any (a : Option Addr) (len cap : Nat) (l : List UInt8) (w : World) (h : RowAt w a len cap (cellsB l)) :
    Calls Try.prog 49 #[.slice a len cap] w fun e w' => FirstPost w l e w' := by
  have hl : l.length = len := by simpa [cellsB] using h.1
  have hcap := h.2.1
  have hm : len ≤ maxLen := Nat.le_trans h.2.1 h.2.2.1
  have hcm := h.2.2.1
  unfold maxLen at hm hcm
  have HR : Hid (RowAt w a len cap (cellsB l)) := h
  clear h
  go_enter Try.func49, Try.ntmps49
  go_wp2_with fail
  have B1 : Below w.heap.size w (w.alloc (.cells #[.slice none 0 0, .slice none 0 0] 38)) := (Below.refl _ _).alloc (Nat.le_refl _) _
  generalize hw1 : w.alloc (.cells #[.slice none 0 0, .slice none 0 0] 38) = w1 at *
  have hc0 : w1.cell? ⟨w.heap.size, 0, none⟩ = some (.slice none 0 0) := by rw [← hw1]; simp
  have hc1 : w1.cell? ⟨w.heap.size, 1, none⟩ = some (.slice none 0 0) := by rw [← hw1]; simp
  have hf0 : w1.frozen? ⟨w.heap.size, 0, none⟩ = false := by rw [← hw1]; simp
  have hf1 : w1.frozen? ⟨w.heap.size, 1, none⟩ = false := by rw [← hw1]; simp
  have hs1 : w.heap.size < w1.heap.size := by rw [← hw1]; simp
  have KB : Hid (∀ wr, Below w1.heap.size w1 wr → (wr.cell? ⟨w.heap.size, 0, none⟩ = some (.slice none 0 0) ∧ wr.cell? ⟨w.heap.size, 1, none⟩ = some (.slice none 0 0)) ∧ wr.frozen? ⟨w.heap.size, 0, none⟩ = false ∧ wr.frozen? ⟨w.heap.size, 1, none⟩ = false) := fun wr hb =>
    ⟨⟨(hb.cell (p := ⟨w.heap.size, 0, none⟩) hs1).trans hc0, (hb.cell (p := ⟨w.heap.size, 1, none⟩) hs1).trans hc1⟩, (hb.frozen (p := ⟨w.heap.size, 0, none⟩) hs1).trans hf0, (hb.frozen (p := ⟨w.heap.size, 1, none⟩) hs1).trans hf1⟩
  clear hw1
  refine (lead_any _ _ _ l _ (HR.out.below B1)).mono ?_
  rintro e w2 ⟨rfl, n, s, rfl, hL⟩
  obtain ⟨hs2, hs3, hn64⟩ := leadIs_le hL
  rw [hl] at hs2
  by_cases hgo : ¬ s = 0 ∧ n ≤ 4096 ∧ n + 4 ≤ len - s
  · obtain ⟨hs0, hn4, hnl⟩ := hgo
    have HLR : Hid (l = countL n ++ l.drop s ∧ s = (countL n).length) := by
      rcases hL with ⟨_, h, _⟩ | ⟨_, h2, h3⟩
      · exact absurd h hs0
      · exact ⟨h3, h2⟩
    have t1 : ((s : Int) == 0) = false := beq_eq_false_iff_ne.2 (by omega)
    have t2 : ¬ (4096 : Int) < (n : Int) := by omega
    have t3 : ¬ (len : Int) - (s : Int) < (n : Int) + 4 := by omega
    obtain ⟨e, he⟩ : ∃ e, e = s + n := ⟨_, rfl⟩
    have y1 : (s : Int) + (n : Int) = (e : Int) := by omega
    have HN4 : Hid (n ≤ 4096 ∧ n + 4 ≤ len - s ∧ e = s + n) := ⟨hn4, hnl, he⟩
    obtain ⟨a1, hif1, hrow1⟩ := slice_from a len cap l s hs2
    obtain ⟨a2, hif2, hrow2⟩ := slice_from a len cap l e (by omega)
    rw [if_neg (by omega)] at hif1 hif2
    subst hif1 hif2
    have KR : Hid (∀ wr, Below w.heap.size w wr → RowAt wr (Option.map (fun x => x.add s) a) n (cap - s) (cellsB ((l.drop s).take n)) ∧ RowAt wr (Option.map (fun x => x.add e) a) 4 (cap - e) (cellsB ((l.drop e).take 4))) := fun wr hb => by
      have h1 := (hrow1 _ (HR.out.below hb)).take n (by omega)
      have h2 := (hrow2 _ (HR.out.below hb)).take 4 (by omega)
      rw [cellsB_take] at h1 h2
      exact ⟨h1, h2⟩
    have x1 : (0 : Int) ≤ (e : Int) ∧ (e : Int) ≤ (cap : Int) := by omega
    have x2 : (s : Int) ≤ (e : Int) := by omega
    have x3 : e - s = n := by omega
    have x4 : IntKind.i64.wrap ((e : Int) + 4) = (e : Int) + 4 := by rw [IntKind.wrap_i64]; omega
    have x5 : (0 : Int) ≤ (e : Int) + 4 ∧ (e : Int) + 4 ≤ (cap : Int) := by omega
    have x6 : (e : Int) ≤ (e : Int) + 4 := by omega
    have x7 : ((e : Int) + 4).toNat - e = 4 := by omega
    have x8 : (e : Int) ≤ (cap : Int) := by omega
    have x9 : (e : Int) + 4 ≤ (cap : Int) := by omega
    clear hrow1 hrow2 hL hc0 hc1 hf0 hf1 hn4 hnl he
    go_wp2_with fail
    go_region
    all_goals
      clear x1 x2 x3 x4 x5 x6 x7 x8 x9 t1 t2 t3
      have hbd : Below w.heap.size w w2.drew := below2 B1 (below_drew _)
      have hc2 : Below w2.heap.size w2 w2.drew := below_drew _
      obtain ⟨hr1, hr2⟩ := KR.out _ hbd
      have hsl := sumL_lt ((l.drop s).take n)
      have HR1 : Hid (RowAt w2.drew (Option.map (fun x => x.add s) a) n (cap - s) (cellsB ((l.drop s).take n))) := hr1
      clear hr1 hr2
      go_wp2_with (first
        | (go_at_call 41; refine (sum_any _ _ _ ((l.drop s).take n) _ HR1.out).mono ?_; rintro en w3 ⟨rfl, rfl⟩)
        | (go_at_call 40; fail))
      refine (putSum_any _ 0 [] (sumL ((l.drop s).take n)) w2.drew.heap.size _ hsl (Nat.le_refl _) (World.ownsRow_nil _ _ _ _) (Nat.zero_le _)).mono ?_
      rintro en w4 ⟨v4, rfl, hown4, hb4⟩
      simp only [Nat.zero_add, List.nil_append] at hown4
      obtain ⟨a4, cap4, rfl, hrow4, _⟩ := RowAt.of_own hown4
      have hb4w := below2 hbd hb4
      have hr42 := (KR.out _ hb4w).2
      clear hown4
      go_wp2_with fail
      refine (equalB_any _ _ _ _ _ _ (fourL (sumL ((l.drop s).take n))) ((l.drop e).take 4) _ hrow4 hr42).mono ?_
      rintro en w5 ⟨hb5, q, rfl, hq⟩
      have HQ : Hid (q = true ↔ fourL (sumL ((l.drop s).take n)) = (l.drop e).take 4) := hq
      have hb5w := below2 hb4w hb5
      have hb5c := below3 hc2 hb4 hb5
      clear hq hrow4 hr42 HR1
      obtain ⟨⟨r0, r1⟩, r2, r3⟩ := KB.out _ hb5c
      have HDE : Hid ((l.drop s).drop n = l.drop e) := by show _ = _; rw [List.drop_drop, HN4.out.2.2]
      have HNR : Hid (n + 4 ≤ (l.drop s).length) := by show _ ≤ _; have := HN4.out; rw [List.length_drop]; omega
      cases q with
      | false =>
        go_wp2
        try simp only [Exit.inBlock, Exit.then]
        refine bodyPost_ret (ret_triple rfl _ _ w.heap.size _ _ rfl (two_set r0 r1 _ _).1 (two_set r0 r1 _ _).2) rfl ?_
        refine first_sum ((hb5w.setCell (Nat.le_refl _) _).setCell (Nat.le_refl _) _) HLR.out.1 HN4.out.1 HNR.out ?_
        rw [HDE.out]
        have := HQ.out
        simpa using this
      | true =>
        have HS : Hid (fourL (sumL ((l.drop s).take n)) = (l.drop e).take 4) := HQ.out.1 rfl
        have H6 : Hid (n ≤ 6000) := by show _ ≤ _; have := HN4.out; omega
        clear HQ
        go_wp2_with fail
        refine (decode_any _ _ _ ((l.drop s).take n) _ (KR.out _ hb5w).1 H6).mono ?_
        rintro en w6 ⟨hb6, v6, c6, rfl, hD6⟩
        have hb6w := below2 hb5w hb6
        have hb6c := below2 hb5c hb6
        obtain ⟨⟨p0, p1⟩, p2, p3⟩ := KB.out _ hb6c
        rcases hD6 with ⟨h, _⟩ | ⟨_, rfl, rfl, hno⟩ | ⟨_, rfl, nums, texts, hd6, hf6, he6⟩
        · have h1 := HN4.out
          rw [List.length_take] at h
          omega
        · have HNO : Hid (NoData ((l.drop s).take n)) := hno
          clear hno r0 r1 r2 r3 p0 p1 p2 p3
          obtain ⟨⟨q0, q1⟩, q2, q3⟩ := KB.out (w6.alloc (.cells #[.slice none 0 0, .slice none 0 0] 38)) (below2 hb6c ((Below.refl _ _).alloc (Nat.le_refl _) _))
          have hb7w : Below w.heap.size w (w6.alloc (.cells #[.slice none 0 0, .slice none 0 0] 38)) := below2 hb6w ((Below.refl _ _).alloc (Nat.le_refl _) _)
          unfold noData
          go_wp2
          try simp only [Exit.inBlock, Exit.then]
          refine bodyPost_ret (ret_triple rfl _ _ w.heap.size _ _ rfl (two_set q0 q1 _ _).1 (two_set q0 q1 _ _).2) rfl ?_
          exact first_text ((hb7w.setCell (Nat.le_refl _) _).setCell (Nat.le_refl _) _) HLR.out.1 HN4.out.1 HNR.out (by rw [HDE.out]; exact HS.out) HNO.out
        · have HD6 : Hid (DataAt w6 v6 nums texts) := hd6
          have HE6 : Hid (Fit nums texts ∧ (l.drop s).take n = bytesL nums texts) := ⟨hf6, he6⟩
          obtain ⟨b1, m1, d1, b2, m2, d2, rfl, _, _, _, _⟩ := hd6
          clear hf6 he6 r0 r1 r2 r3 p0 p1 p2 p3
          have hb67 : Below w6.heap.size w6 (w6.alloc (.cells #[.slice b1 m1 d1, .slice b2 m2 d2] 38)) := (Below.refl _ _).alloc (Nat.le_refl _) _
          obtain ⟨⟨q0, q1⟩, q2, q3⟩ := KB.out (w6.alloc (.cells #[.slice b1 m1 d1, .slice b2 m2 d2] 38)) (below2 hb6c hb67)
          have hb7w : Below w.heap.size w (w6.alloc (.cells #[.slice b1 m1 d1, .slice b2 m2 d2] 38)) := below2 hb6w hb67
          have HD7 : Hid (DataAt (w6.alloc (.cells #[.slice b1 m1 d1, .slice b2 m2 d2] 38)) (.agg #[.slice b1 m1 d1, .slice b2 m2 d2]) nums texts) := HD6.out.below hb67
          have HE4 : Hid ((e : Int) + 4 = ((e + 4 : Nat) : Int)) := by show _ = _; omega
          go_wp2
          try simp only [Exit.inBlock, Exit.then]
          refine bodyPost_ret (ret_triple rfl _ _ w.heap.size _ _ rfl (two_set q0 q1 _ _).1 (two_set q0 q1 _ _).2) rfl ?_
          exact first_ok (s := e + 4) ((hb7w.setCell (Nat.le_refl _) _).setCell (Nat.le_refl _) _) HLR.out.1 HN4.out.1 HNR.out (by rw [HDE.out]; exact HS.out) (by rw [← HLR.out.2, HN4.out.2.2]) (data_set2 HD7.out q0 q1) HE6.out.1 HE6.out.2
  · have HNH : Hid (NoHead l) := by
      rcases hL with ⟨_, _, h⟩ | ⟨_, h2, h3⟩
      · exact noHead_lead h
      · have := countL_pos n
        refine noHead_other h3 ?_
        rw [List.length_drop, hl]
        omega
    have hex : s = 0 ∨ (¬ s = 0 ∧ 4096 < n) ∨ (¬ s = 0 ∧ n ≤ 4096 ∧ len - s < n + 4) := by omega
    clear hgo hL
    rcases hex with rfl | ⟨hs0, hn4⟩ | ⟨hs0, hn4, hlt⟩
    · go_wp2
      try simp only [Exit.inBlock, Exit.then]
      refine bodyPost_ret (ret_triple rfl _ _ w.heap.size _ _ rfl (two_set hc0 hc1 _ _).1 (two_set hc0 hc1 _ _).2) rfl ?_
      exact first_head ((B1.setCell (Nat.le_refl _) _).setCell (Nat.le_refl _) _) HNH.out
    · have t1 : ((s : Int) == 0) = false := beq_eq_false_iff_ne.2 (by omega)
      have t2 : (4096 : Int) < (n : Int) := by omega
      clear hn4
      go_wp2
      try simp only [Exit.inBlock, Exit.then]
      refine bodyPost_ret (ret_triple rfl _ _ w.heap.size _ _ rfl (two_set hc0 hc1 _ _).1 (two_set hc0 hc1 _ _).2) rfl ?_
      exact first_head ((B1.setCell (Nat.le_refl _) _).setCell (Nat.le_refl _) _) HNH.out
    · have t1 : ((s : Int) == 0) = false := beq_eq_false_iff_ne.2 (by omega)
      have t2 : ¬ (4096 : Int) < (n : Int) := by omega
      have t3 : (len : Int) - (s : Int) < (n : Int) + 4 := by omega
      clear hn4 hlt
      go_wp2
      try simp only [Exit.inBlock, Exit.then]
      refine bodyPost_ret (ret_triple rfl _ _ w.heap.size _ _ rfl (two_set hc0 hc1 _ _).1 (two_set hc0 hc1 _ _).2) rfl ?_
      exact first_head ((B1.setCell (Nat.le_refl _) _).setCell (Nat.le_refl _) _) HNH.out
end Go.Proofs.Ytmkmogkhkmlnkaa.Fr
