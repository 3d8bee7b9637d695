/-
  The contract of the program's Decode once more: what it makes is new.
-/
import Derived.Test.YtgcdelgjbgjofaaK
namespace Go.Proofs.Ytgcdelgjbgjofaa
open Go.ChangeShapes Go.WideShapes Go.ChangeAt Go.RowKit
/-- data whose lists lie in no block below B -/
def FreshD (B : Nat) (v : Value) : Prop := ∃ a1 n1 c1 a2 n2 c2, v = .agg #[.slice a1 n1 c1, .slice a2 n2 c2] ∧ (∀ x, a1 = some x → B ≤ x.block) ∧ ∀ x, a2 = some x → B ≤ x.block
theorem fresh_mk {B : Nat} {a1 a2 : Option Addr} {n1 c1 n2 c2 : Nat} (h1 : ∀ x, a1 = some x → B ≤ x.block) (h2 : ∀ x, a2 = some x → B ≤ x.block) : FreshD B (.agg #[.slice a1 n1 c1, .slice a2 n2 c2]) := ⟨_, _, _, _, _, _, rfl, h1, h2⟩
theorem fresh_no (B : Nat) : FreshD B noData := fresh_mk (by simp) (by simp)
def DecIsF (B : Nat) (w' : World) (l : List UInt8) (v : Value) (c : Nat) : Prop := DecIs w' l v c ∧ FreshD B v
def DecPostF (w : World) (l : List UInt8) (e : Ending) (w' : World) : Prop := Below w.heap.size w w' ∧ ∃ v c, e = .returned (.tuple #[v, .int .i64 ((c : Nat) : Int)]) ∧ DecIsF w.heap.size w' l v c
theorem dec_longF {w w' : World} {l : List UInt8} (hb : Below w.heap.size w w') (h : 4096 < l.length) : DecPostF w l (.returned (.tuple #[noData, .int .i64 4])) w' := ⟨hb, _, 4, rfl, .inl ⟨h, rfl, rfl⟩, fresh_no _⟩
theorem dec_textF {w w' : World} {l : List UInt8} (hb : Below w.heap.size w w') (h1 : l.length ≤ 4096) (h : ∀ nums texts, Fit nums texts → l ≠ bytesL nums texts) : DecPostF w l (.returned (.tuple #[noData, .int .i64 2])) w' := ⟨hb, _, 2, rfl, .inr (.inl ⟨h1, rfl, rfl, h⟩), fresh_no _⟩
theorem dec_okF {w w' : World} {l : List UInt8} {v : Value} {nums : List Int} {texts : List ByteArray} (hb : Below w.heap.size w w') (h1 : l.length ≤ 4096) (h2 : DataAt w' v nums texts) (h3 : Fit nums texts) (h4 : l = bytesL nums texts) (h5 : FreshD w.heap.size v) : DecPostF w l (.returned (.tuple #[v, .int .i64 0])) w' := ⟨hb, _, 0, rfl, .inr (.inr ⟨h1, rfl, _, _, h2, h3, h4⟩), h5⟩
set_option maxHeartbeats 4000000 in
set_option maxRecDepth 20000 in
theorem decode2_any (a : Option Addr) (len cap : Nat) (l : List UInt8) (w : World) (h : RowAt w a len cap (cellsB l)) (h6 : Hid (len ≤ 6000)) :
    Calls Try.prog 19 #[.slice a len cap] w fun e w' => DecPostF w l e w' := by
  have hl : l.length = len := by simpa [cellsB] using h.1
  have HR : Hid (RowAt w a len cap (cellsB l)) := h
  have h6' : ((len : Nat) : Int) ≤ 6000 := by have := h6.out; omega
  clear h
  have B0 : Below w.heap.size w (w.alloc (.cells #[.slice none 0 0, .slice none 0 0] 29)) := (Below.refl _ _).alloc (Nat.le_refl _) _
  by_cases hbig : (4096 : Int) < (len : Int)
  · go_enter Try.func19, Try.ntmps19
    go_wp2
    go_returns
    exact dec_longF B0 (by omega)
  · go_enter Try.func19, Try.ntmps19
    go_wp2_with fail
    generalize hw1 : w.alloc (.cells #[.slice none 0 0, .slice none 0 0] 29) = w1 at *
    have hc0 : w1.cell? ⟨w.heap.size, 0, none⟩ = some (.slice none 0 0) := by rw [← hw1]; simp
    have hc1 : w1.cell? ⟨w.heap.size, 1, none⟩ = some (.slice none 0 0) := by rw [← hw1]; simp
    have hf0 : w1.frozen? ⟨w.heap.size, 0, none⟩ = false := by rw [← hw1]; simp
    have hf1 : w1.frozen? ⟨w.heap.size, 1, none⟩ = false := by rw [← hw1]; simp
    have hs1 : w.heap.size < w1.heap.size := by rw [← hw1]; simp
    have KB : Hid (∀ wr, Below w1.heap.size w1 wr → (wr.cell? ⟨w.heap.size, 0, none⟩ = some (.slice none 0 0) ∧ wr.cell? ⟨w.heap.size, 1, none⟩ = some (.slice none 0 0)) ∧ wr.frozen? ⟨w.heap.size, 0, none⟩ = false ∧ wr.frozen? ⟨w.heap.size, 1, none⟩ = false) := fun wr hb =>
      ⟨⟨(hb.cell (p := ⟨w.heap.size, 0, none⟩) hs1).trans hc0, (hb.cell (p := ⟨w.heap.size, 1, none⟩) hs1).trans hc1⟩, (hb.frozen (p := ⟨w.heap.size, 0, none⟩) hs1).trans hf0, (hb.frozen (p := ⟨w.heap.size, 1, none⟩) hs1).trans hf1⟩
    have HL4 : Hid (l.length ≤ 4096) := by show _ ≤ _; omega
    clear hc0 hc1 hf0 hf1 hw1
    refine (takeNums_any _ _ _ l _ (HR.out.below B0) h6).mono ?_
    rintro e w2 ⟨hb2, ⟨rfl, hno⟩ | ⟨v2, nums, a2, len2, cap2, r, rfl, hown2, h64, hlr, hrow2⟩⟩
    · have HNO : Hid (∀ nums texts, Fit nums texts → l ≠ bytesL nums texts) := fun nums texts hf e => hno nums _ hf.1 e
      obtain ⟨⟨g0, g1⟩, g2, g3⟩ := KB.out w2 hb2
      clear hno
      go_wp2
      try simp only [Exit.inBlock, Exit.then]
      refine bodyPost_ret (ret_pair rfl _ _ w.heap.size _ _ rfl (two_set g0 g1 _ _).1 (two_set g0 g1 _ _).2) rfl ?_
      exact dec_textF (((B0.trans (hb2.mono (Nat.le_of_lt hs1))).setCell (Nat.le_refl _) _).setCell (Nat.le_refl _) _) HL4.out HNO.out
    · have HLR : Hid (l = countL nums.length ++ (numsL nums ++ r)) := hlr
      have hrl : r.length = len2 := by simpa [cellsB] using hrow2.1
      have H62 : Hid (len2 ≤ 6000) := by
        show _ ≤ _
        have := congrArg List.length hlr
        have := h6.out
        simp only [List.length_append] at *
        omega
      clear hlr
      go_wp2_with fail
      refine (takeTexts_any _ _ _ r _ (hrow2.below hb2) H62).mono ?_
      rintro e w3 ⟨hb3, ⟨rfl, hno⟩ | ⟨v3, texts, a3, len3, cap3, r3, rfl, hown3, hsz, hrr, hr3⟩⟩
      · have HNO : Hid (∀ nums texts, Fit nums texts → l ≠ bytesL nums texts) := fun nums0 texts hf e => by
          have e2 := HLR.out
          rw [e, bytesL] at e2
          have e3 := countL_free _ _ _ _ e2
          have e4 := numsL_free _ _ _ _ e3.1 e3.2
          exact hno texts [] hf.2 (by rw [← e4.2, List.append_nil])
        obtain ⟨⟨g0, g1⟩, g2, g3⟩ := KB.out w3 (hb2.trans (hb3.mono hb2.size))
        clear hno
        go_wp2
        try simp only [Exit.inBlock, Exit.then]
        refine bodyPost_ret (ret_pair rfl _ _ w.heap.size _ _ rfl (two_set g0 g1 _ _).1 (two_set g0 g1 _ _).2) rfl ?_
        exact dec_textF (((B0.trans ((hb2.trans (hb3.mono hb2.size)).mono (Nat.le_of_lt hs1))).setCell (Nat.le_refl _) _).setCell (Nat.le_refl _) _) HL4.out HNO.out
      · have HRR : Hid (r = countL texts.length ++ (textsL texts ++ r3)) := hrr
        have B3 := hb2.trans (hb3.mono hb2.size)
        obtain ⟨⟨g0, g1⟩, g2, g3⟩ := KB.out w3 B3
        obtain ⟨a4, cap4, rfl, hrow4, hlow4⟩ := RowAt.of_own (own_below hown2 hb3)
        obtain ⟨a5, cap5, rfl, hrow5, hlow5⟩ := RowAt.of_own hown3
        clear hrr
        by_cases hz : (0 : Int) < (len3 : Int)
        · have HNO : Hid (∀ nums texts, Fit nums texts → l ≠ bytesL nums texts) := fun nums0 texts0 hf e => by
            have e2 := HLR.out
            rw [e, bytesL] at e2
            have e3 := countL_free _ _ _ _ e2
            have e4 := numsL_free _ _ _ _ e3.1 e3.2
            rw [HRR.out] at e4
            have e5 := countL_free _ _ _ _ e4.2
            have e6 := textsL_free texts0 texts [] r3 e5.1 (by rw [List.append_nil]; exact e5.2)
            have := congrArg List.length e6.2
            simp at this
            omega
          go_wp2
          try simp only [Exit.inBlock, Exit.then]
          refine bodyPost_ret (ret_pair rfl _ _ w.heap.size _ _ rfl (two_set g0 g1 _ _).1 (two_set g0 g1 _ _).2) rfl ?_
          exact dec_textF (((B0.trans (B3.mono (Nat.le_of_lt hs1))).setCell (Nat.le_refl _) _).setCell (Nat.le_refl _) _) HL4.out HNO.out
        · have HOK : Hid (l = bytesL nums texts) := by
            show _ = _
            obtain rfl : r3 = [] := List.length_eq_zero_iff.1 (by omega)
            rw [HLR.out, HRR.out, bytesL, List.append_nil]
          go_wp2
          try simp only [Exit.inBlock, Exit.then]
          refine bodyPost_ret (ret_pair rfl _ _ w.heap.size _ _ rfl (two_set g0 g1 _ _).1 (two_set g0 g1 _ _).2) rfl ?_
          have hn4 : ∀ x, a4 = some x → x.block ≠ w.heap.size := fun x hx => by have := (hlow4 x hx).1; omega
          have hn5 : ∀ x, a5 = some x → x.block ≠ w.heap.size := fun x hx => by have := (hlow5 x hx).1; have := hb2.size; omega
          exact dec_okF (((B0.trans (B3.mono (Nat.le_of_lt hs1))).setCell (Nat.le_refl _) _).setCell (Nat.le_refl _) _) HL4.out (nums := nums) (texts := texts)
            ⟨a4, _, _, a5, _, _, rfl, (hrow4.setCell _ _ hn4).setCell _ _ hn4, (hrow5.setCell _ _ hn5).setCell _ _ hn5, h64, hsz⟩ ⟨h64, hsz⟩ HOK.out (fresh_mk (fun x hx => by have := (hlow4 x hx).1; omega) (fun x hx => by have := (hlow5 x hx).1; have := hb2.size; omega))
end Go.Proofs.Ytgcdelgjbgjofaa
