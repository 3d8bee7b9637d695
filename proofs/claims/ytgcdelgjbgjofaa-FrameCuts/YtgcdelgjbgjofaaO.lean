/-
  The contract of FrameCodes: at all data and bytes it returns true, and writes nothing that was there.
-/
import Derived.Test.YtgcdelgjbgjofaaE
import Derived.Test.YtgcdelgjbgjofaaG
import Derived.Test.YtgcdelgjbgjofaaK
import Derived.Test.YtgcdelgjbgjofaaM
import Derived.Test.YtgcdelgjbgjofaaNn
import Derived.Deep.RegionWith
namespace Go.Proofs.Ytgcdelgjbgjofaa
open Go.ChangeShapes Go.WideShapes Go.ChangeAt Go.RowKit
def TruePost (w : World) (e : Ending) (w' : World) : Prop := e = .returned (.bool true) ∧ Below w.heap.size w w'
set_option maxHeartbeats 8000000 in
set_option maxRecDepth 60000 in
theorem frameCodes_any (v : Value) (nums : List Int) (texts : List ByteArray) (a : Option Addr) (len cap : Nat) (bs : List UInt8) (w : World) (h : DataAt w v nums texts) (hb : RowAt w a len cap (cellsB bs)) :
    Calls Try.prog 4 #[v, .slice a len cap] w fun e w' => TruePost w e w' := by
  have hD : Hid (DataAt w v nums texts) := h
  obtain ⟨a1, n1, c1, a2, n2, c2, rfl, h1, h2, h3, h4⟩ := h
  have hF : Hid (Fit nums texts) := ⟨h3, h4⟩
  have HB : Hid (RowAt w a len cap (cellsB bs)) := hb
  have hm : len ≤ maxLen := Nat.le_trans hb.2.1 hb.2.2.1
  unfold maxLen at hm
  clear h1 h2 h3 h4 hb
  obtain ⟨L, hL⟩ : ∃ L, Hid (L = bytesL nums texts) := ⟨_, rfl⟩
  have B0 : Below w.heap.size w (w.alloc (.cells #[.slice a1 n1 c1, .slice a2 n2 c2] 29)) := (Below.refl _ _).alloc (Nat.le_refl _) _
  go_enter Try.func4, Try.ntmps4
  go_wp2_with fail
  generalize hw1 : w.alloc (.cells #[.slice a1 n1 c1, .slice a2 n2 c2] 29) = w1 at *
  have hc0 : w1.cell? ⟨w.heap.size, 0, none⟩ = some (.slice a1 n1 c1) := by rw [← hw1]; simp
  have hc1 : w1.cell? ⟨w.heap.size, 1, none⟩ = some (.slice a2 n2 c2) := by rw [← hw1]; simp
  have hs1 : w.heap.size < w1.heap.size := by rw [← hw1]; simp
  have KB : Hid (∀ wr, Below w1.heap.size w1 wr → wr.cell? ⟨w.heap.size, 0, none⟩ = some (.slice a1 n1 c1) ∧ wr.cell? ⟨w.heap.size, 1, none⟩ = some (.slice a2 n2 c2)) := fun wr hb =>
    ⟨(hb.cell (p := ⟨w.heap.size, 0, none⟩) hs1).trans hc0, (hb.cell (p := ⟨w.heap.size, 1, none⟩) hs1).trans hc1⟩
  clear hw1 hc0 hc1
  refine (light_any _ nums texts _ (hD.out.below B0)).mono ?_
  rintro e w2 ⟨hb2, q, rfl⟩
  have B2 := below2 B0 hb2
  obtain ⟨g0, g1⟩ := KB.out w2 hb2
  by_cases hq : q = true ∧ ¬ (3000 : Int) < (len : Int)
  · obtain ⟨rfl, h3⟩ := hq
    have H3 : Hid (len ≤ 6000) := by show _ ≤ _; omega
    go_wp2_with fail
    refine (encode_any _ nums texts _ (hD.out.below B2) L hL).mono ?_
    rintro e w3 ⟨hb3, hE⟩
    have B3 := below2 B2 hb3
    have C3 := below2 hb2 hb3
    by_cases hmay : L.length ≤ 4096
    · rcases hE with ⟨v3, rfl, hown3, _⟩ | ⟨_, h⟩
      rotate_left
      · omega
      obtain ⟨a3, cap3, rfl, hrow3, _⟩ := RowAt.of_own hown3
      have hdm : decide (L.length ≤ 4096) = true := by simp; omega
      have HDM : Hid (decide (L.length ≤ 4096) = true) := hdm
      have HL4 : Hid (L.length ≤ 4096) := hmay
      have HL6 : Hid (L.length ≤ 6000) := by show _ ≤ _; omega
      have HR3 : Hid (RowAt w3 a3 L.length cap3 (cellsB L)) := hrow3
      clear hdm hmay hown3 hrow3
      obtain ⟨g0', g1'⟩ := KB.out w3 C3
      go_wp2_with (first
        | (go_at_call 16; refine (sum_any _ _ _ bs _ (HB.out.below B3)).mono ?_; rintro e w' ⟨rfl, rfl⟩)
        | (go_at_call 17; refine (refSum_any _ _ _ bs _ (HB.out.below B3) H3.out).mono ?_; rintro e w' ⟨rfl, rfl⟩)
        | (go_at_call 18; refine (refMay_any _ nums texts _ (hD.out.below B3) L hL).mono ?_; rintro e w4 ⟨rfl, hb4⟩; rw [HDM.out])
        | (go_at_call 19; fail))
      refine (decode_any _ _ _ L _ (HR3.out.below hb4) HL6).mono ?_
      rintro e w5 ⟨hb5, v5, c5, rfl, hDec⟩
      have B5 := below3 B3 hb4 hb5
      have C5 := below3 C3 hb4 hb5
      have hDec' : c5 = 0 ∧ DataAt w5 v5 nums texts := by
        rcases hDec with ⟨h, _⟩ | ⟨_, _, _, h⟩ | ⟨_, h0, nums5, texts5, hd, hf, e⟩
        · have := HL4.out; omega
        · exact absurd hL.out (h nums texts hF.out)
        · rw [hL.out] at e
          obtain ⟨rfl, rfl⟩ := bytesL_inj e
          exact ⟨h0, hd⟩
      obtain ⟨rfl, hD5⟩ := hDec'
      have HD5 : Hid (DataAt w5 v5 nums texts) := hD5
      obtain ⟨b1, m1, d1, b2, m2, d2, rfl, k1, k2, k3, k4⟩ := hD5
      clear hDec k1 k2 k3 k4
      go_wp2_with fail
      have B6' : Below w5.heap.size w5 (w5.alloc (.cells #[.slice b1 m1 d1, .slice b2 m2 d2] 29)) := (Below.refl _ _).alloc (Nat.le_refl _) _
      generalize hw6 : w5.alloc (.cells #[.slice b1 m1 d1, .slice b2 m2 d2] 29) = w6 at *
      have hc0 : w6.cell? ⟨w5.heap.size, 0, none⟩ = some (.slice b1 m1 d1) := by rw [← hw6]; simp
      have hc1 : w6.cell? ⟨w5.heap.size, 1, none⟩ = some (.slice b2 m2 d2) := by rw [← hw6]; simp
      have hs6 : w5.heap.size < w6.heap.size := by rw [← hw6]; simp
      have B6 := below2 B5 B6'
      have C6 := below2 C5 B6'
      have D6 := below3 hb4 hb5 B6'
      have KC : Hid (∀ wr, Below w6.heap.size w6 wr → (wr.cell? ⟨w.heap.size, 0, none⟩ = some (.slice a1 n1 c1) ∧ wr.cell? ⟨w.heap.size, 1, none⟩ = some (.slice a2 n2 c2)) ∧ (wr.cell? ⟨w5.heap.size, 0, none⟩ = some (.slice b1 m1 d1) ∧ wr.cell? ⟨w5.heap.size, 1, none⟩ = some (.slice b2 m2 d2)) ∧ (convert 22 9 (.slice a3 L.length cap3)).run Try.prog wr = .ok (.string (txt L)) wr) := fun wr hb =>
        ⟨KB.out wr (below2 C6 hb), ⟨(hb.cell (p := ⟨w5.heap.size, 0, none⟩) hs6).trans hc0, (hb.cell (p := ⟨w5.heap.size, 1, none⟩) hs6).trans hc1⟩, text_of (HR3.out.below (below2 D6 hb))⟩
      obtain ⟨⟨e0, e1⟩, ⟨e2, e3⟩, e4⟩ := KC.out w6.drew (below_drew _)
      have HB67 : Hid (Below w5.heap.size w5 w6) := B6'
      clear hw6 hc0 hc1 g0 g1 g0' g1' HL6 hm h3 H3 HDM B6'
      go_region_with (first
        | (go_at_call 20; refine (refBytes_any _ nums texts _ (hD.out.below (below2 B6 (below_drew _))) L hL).mono ?_; rintro e w7 ⟨hb7, v7, L7, rfl, hown7, hp7, hx7, hy7⟩; obtain rfl := hp7 HL4.out; clear hp7 hx7 hy7; obtain ⟨a7, cap7, rfl, ht7, hu7, hz7⟩ := text_own hown7; clear hz7 hown7; obtain ⟨⟨f0, f1⟩, ⟨f2, f3⟩, f4⟩ := KC.out w7 (below2 (below_drew _) hb7))
        | (go_at_call 21; refine (refSame_any _ _ nums nums texts texts _ (HD5.out.below (below3 HB67.out (below_drew _) hb7)) (hD.out.below (below3 B6 (below_drew _) hb7))).mono ?_; rintro e w8 ⟨hb8, q8, rfl, hq8⟩; obtain rfl : q8 = true := hq8.2 ⟨rfl, rfl⟩; clear hq8 e0 e1 e2 e3 e4 f0 f1 f2 f3 f4 ht7 hu7)
        | (go_at_call 12; refine (awake_any _).mono ?_; rintro e w9 ⟨rfl, hb9⟩))
      all_goals go_wp2
      all_goals go_ret
      all_goals exact ⟨rfl, below3 (below2 B6 (below_drew _)) hb7 (below2 hb8 hb9)⟩
    · rcases hE with ⟨_, _, _, h⟩ | ⟨rfl, _⟩
      · exact absurd h hmay
      have hdm : decide (L.length ≤ 4096) = false := by simp; omega
      have HDM : Hid (decide (L.length ≤ 4096) = false) := hdm
      clear hdm hmay
      obtain ⟨g0', g1'⟩ := KB.out w3 C3
      go_wp2_with (first
        | (go_at_call 16; refine (sum_any _ _ _ bs _ (HB.out.below B3)).mono ?_; rintro e w' ⟨rfl, rfl⟩)
        | (go_at_call 17; refine (refSum_any _ _ _ bs _ (HB.out.below B3) H3.out).mono ?_; rintro e w' ⟨rfl, rfl⟩)
        | (go_at_call 18; refine (refMay_any _ nums texts _ (hD.out.below B3) L hL).mono ?_; rintro e w4 ⟨rfl, hb4⟩; rw [HDM.out])
        | (go_at_call 12; refine (awake_any _).mono ?_; rintro e w5 ⟨rfl, hb5⟩))
      go_ret
      exact ⟨rfl, below3 B3 hb4 hb5⟩
  · have hq' : q = false ∨ (q = true ∧ (3000 : Int) < (len : Int)) := by
      cases q
      · exact .inl rfl
      · refine .inr ⟨rfl, ?_⟩
        by_cases h : (3000 : Int) < (len : Int)
        · exact h
        · exact absurd ⟨rfl, h⟩ hq
    clear hq
    rcases hq' with rfl | ⟨rfl, hq⟩
    all_goals
      go_wp2_with (go_at_call 12; refine (awake_any _).mono ?_; rintro e w5 ⟨rfl, hb5⟩)
      go_ret
      exact ⟨rfl, below2 B2 hb5⟩
end Go.Proofs.Ytgcdelgjbgjofaa
