/-
  Light: whether acts are not too great.
-/
import Derived.Test.YtmkmogkhkmlnkaaJnY
namespace Go.Proofs.Ytmkmogkhkmlnkaa.Dm
open Go.ChangeShapes Go.WideShapes Go.ChangeAt Go.RowKit
def LtPost (w : World) (P : Prop) (e : Ending) (w' : World) : Prop := Below w.heap.size w w' ∧ ∃ q : Bool, e = .returned (.bool q) ∧ (q = true → P)
set_option maxHeartbeats 4000000 in
set_option maxRecDepth 60000 in
theorem lightT_any (v : Value) (nums : List Int) (texts : List ByteArray) (w : World) (h : Fr.DataAt w v nums texts) :
    Calls Try.prog 22 #[v] w fun e w' => LtPost w (texts.length ≤ 400) e w' := by
  by_cases hT : texts.length ≤ 400
  · refine (Fr.light_any v nums texts w h).mono ?_
    rintro e w' ⟨hb, q, rfl⟩
    exact ⟨hb, q, rfl, fun _ => hT⟩
  · obtain ⟨a1, n1, c1, a2, n2, c2, rfl, h1, h2, h3, h4⟩ := h
    have hl2 : texts.length = n2 := by have := h2.1; rwa [Fr.cellsT_length] at this
    have hm1 : n1 ≤ maxLen := Nat.le_trans h1.2.1 h1.2.2.1
    have hm2 : n2 ≤ maxLen := Nat.le_trans h2.2.1 h2.2.2.1
    unfold maxLen at hm1 hm2
    have hn4 : ¬ ((n2 : Nat) : Int) ≤ 400 := by omega
    have H2 : Hid (Fr.RowAt w a2 n2 c2 (Fr.cellsT texts)) := h2
    clear h1 h2 hT
    have B0 : Below w.heap.size w (w.alloc (.cells #[.slice a1 n1 c1, .slice a2 n2 c2] 38)) := (Below.refl _ _).alloc (Nat.le_refl _) _
    have hr2 := H2.out.below B0
    have H3 : Hid (Fr.RowAt (w.alloc (.cells #[.slice a1 n1 c1, .slice a2 n2 c2] 38)) a2 n2 c2 (Fr.cellsT texts)) := hr2
    clear hr2
    go_enter Try.func22, Try.ntmps22
    go_wp2
    go_loop [3, 4] (fun t i => ∃ k m : Nat, k ≤ n2 ∧ i = .int .i64 (k : Int) ∧ t = .int .i64 (m : Int) ∧ Hid (m ≤ 10000)) (fun _ i => n2 - (intOf i).toNat)
    case atStart => exact ⟨0, 0, Nat.zero_le _, rfl, rfl, Nat.zero_le _⟩
    case round =>
      obtain ⟨k, m, hk, rfl, rfl, hm⟩ := hrel
      have hm' : ((m : Nat) : Int) ≤ 10000 := by have := hm.out; omega
      by_cases hlt : k < n2 ∧ k < 400
      · obtain ⟨hlt, h400⟩ := hlt
        have h400' : ((k : Nat) : Int) < 400 := by omega
        clear h400
        obtain ⟨b, off, rfl, hcell⟩ := H3.out.some (by omega)
        have hc := hcell k hlt
        rw [Fr.cellsT_get texts k (by omega)] at hc
        have h6 := h4 _ (Fr.getD_mem texts ByteArray.empty k (by omega))
        clear hcell
        generalize texts.getD k ByteArray.empty = x at *
        unfold maxLen at h6
        by_cases hb : (10000 : Int) - (m : Int) < (x.size : Int)
        · go_wp2
          go_ret
          exact ⟨B0, false, rfl, fun h => absurd h (by decide)⟩
        · go_wp2
          go_round
          case rel => exact ⟨k + 1, m + x.size, by omega, by go_num, by go_num, by show _ ≤ _; omega⟩
          case measure => simp [intOf]; omega
      · have hex : k = n2 ∨ (k < n2 ∧ ¬ ((k : Nat) : Int) < 400) := by omega
        clear hlt
        by_cases hn1 : ((n1 : Nat) : Int) ≤ 4000
        all_goals
          rcases hex with hex | ⟨hex, hex2⟩
          all_goals
            go_wp2
            all_goals go_ret
            all_goals first | exact ⟨B0, false, rfl, fun h => absurd h (by decide)⟩ | exact ⟨B0, _, rfl, fun h => by have := of_decide_eq_true h; omega⟩
theorem take_le {l : List Fr.Dat} {k : Nat} (h : k < l.length) (h1 : ∀ d ∈ l.take k, d.2.length ≤ 400) (h2 : (l.getD k ([], [])).2.length ≤ 400) : ∀ d ∈ l.take (k + 1), d.2.length ≤ 400 := all_take h h1 h2
set_option maxHeartbeats 8000000 in
set_option maxRecDepth 60000 in
theorem light10_any (a : Option Addr) (len cap : Nat) (L : List A10) (w : World) (h : ActsAt w a len cap L) :
    Calls Try.prog 7 #[.slice a len cap] w fun e w' => LtPost w (∀ i, i < len → i < 60 → LightA (L.getD i a10z)) e w' := by
  have hlc := Nat.le_trans h.2.1 h.2.2.1
  unfold maxLen at hlc
  have HA : Hid (ActsAt w a len cap L) := h
  clear h
  go_enter Try.func7, Try.ntmps7
  go_wp2
  go_loopw [3] (fun i wr => ∃ k : Nat, k ≤ len ∧ k ≤ 60 ∧ i = .int .i64 (k : Int) ∧ Below w.heap.size w wr ∧ Hid (∀ i, i < k → LightA (L.getD i a10z))) (fun i _ => 60 - (intOf i).toNat)
  case atStart => exact ⟨0, Nat.zero_le _, Nat.zero_le _, rfl, Below.refl _ _, fun i hi => absurd hi (Nat.not_lt_zero _)⟩
  case round =>
    obtain ⟨i, hi, hi60, rfl, hb, HI⟩ := hrel
    by_cases hlt : i < len ∧ i < 60
    · obtain ⟨hl1, hl2⟩ := hlt
      rcases (HA.out.below hb).2.2.2 with h0 | ⟨b, off, rfl, hc⟩
      · omega
      obtain ⟨c0, c1, c2, c3, c4, c5, c6, c7, c8, ⟨e0, e1, e2, e3, e4, e5, e6, e7, e8⟩, hV⟩ := hc i hl1
      have hk0 : (0 : Int) ≤ (i : Int) := by omega
      have hk1 : (i : Int) < (len : Int) := by omega
      have hk2 : (i : Int) < 60 := by omega
      have HNX : Hid (LightA (L.getD i a10z) → ∀ j, j < i + 1 → LightA (L.getD j a10z)) := fun hX j hj => by
        by_cases e : j = i
        · rw [e]; exact hX
        · exact HI.out j (by omega)
      generalize L.getD i a10z = X at *
      obtain ⟨-, hd, ⟨la, ln, lc, rfl, hdr⟩, p, -, -, -, -, -, pa, pl, pc, rfl, hB⟩ := hV
      have HL := lightT_any _ _ _ wr hd
      have hd2 := hd
      obtain ⟨x1, m1, k1, x2, m2, k2, ex, -⟩ := hd2
      simp at ex
      obtain ⟨rfl, rfl⟩ := ex
      have hbl : b < wr.heap.size := World.block_lt_of_cell? wr ⟨b, off + i * 9 + 3, none⟩ e3
      have HE : Hid (wr.cell? ⟨b, off + i * 9 + 3, none⟩ = some (.slice la ln lc) ∧ wr.cell? ⟨b, off + i * 9 + 8, none⟩ = some (.slice pa pl pc)) := ⟨e3, e8⟩
      have HDR : Hid (Fr.DRow wr la ln lc X.l) := hdr
      have hpl : pl ≤ 9223372036854775807 := by have := Nat.le_trans hB.lc hB.cm; unfold maxLen at this; omega
      have hln : ln ≤ 9223372036854775807 := by have := Nat.le_trans hdr.2.1 hdr.2.2.1; unfold maxLen at this; omega
      clear hd hdr hB hc e0 e4 e5 e6 e7 HI hi60
      go_wp2_with fail
      refine HL.mono ?_
      rintro en w2 ⟨hb2, q, rfl, hq⟩
      have e3' : w2.cell? ⟨b, off + i * 9 + 3, none⟩ = some (.slice la ln lc) := (hb2.cell (p := ⟨b, off + i * 9 + 3, none⟩) hbl).trans HE.out.1
      have e8' : w2.cell? ⟨b, off + i * 9 + 8, none⟩ = some (.slice pa pl pc) := (hb2.cell (p := ⟨b, off + i * 9 + 8, none⟩) hbl).trans HE.out.2
      have HB2 : Hid (Below w.heap.size w w2) := below2 hb hb2
      cases q
      · clear HL hq
        go_wp2
        go_ret
        exact ⟨HB2.out, false, rfl, fun h => absurd h (by decide)⟩
      · have HXT : Hid (X.x.2.length ≤ 400) := hq rfl
        clear HL hq
        by_cases h20 : (20 : Int) < (ln : Int)
        · go_wp2
          go_ret
          exact ⟨HB2.out, false, rfl, fun h => absurd h (by decide)⟩
        · by_cases h60 : (60 : Int) < (pl : Int)
          · go_wp2
            go_ret
            exact ⟨HB2.out, false, rfl, fun h => absurd h (by decide)⟩
          · have HD2 : Hid (Fr.DRow w2 la ln lc X.l) := HDR.out.below hb2
            have hln20 : ln ≤ 20 := by omega
            have hdl : X.l.length = ln := HDR.out.1
            clear HDR HE e1 e2 e3 e8
            go_wp2_with fail
            go_loopw [4] (fun t wr' => ∃ k : Nat, k ≤ ln ∧ t = .int .i64 (k : Int) ∧ Below w2.heap.size w2 wr' ∧ Hid (∀ d ∈ X.l.take k, d.2.length ≤ 400)) (fun t _ => 20 - (intOf t).toNat)
            case atStart => exact ⟨0, Nat.zero_le _, rfl, Below.refl _ _, fun d hd => by simp at hd⟩
            case round =>
              obtain ⟨k, hk, rfl, hb3, HK⟩ := hrel
              have hbl2 : b < w2.heap.size := Nat.lt_of_lt_of_le hbl hb2.size
              have g3 : wr.cell? ⟨b, off + i * 9 + 3, none⟩ = some (.slice la ln lc) := (hb3.cell (p := ⟨b, off + i * 9 + 3, none⟩) hbl2).trans e3'
              by_cases hkl : k < ln
              · rcases (HD2.out.below hb3).2.2.2 with h0 | ⟨b5, o5, rfl, hc5⟩
                · omega
                obtain ⟨y1, p1, q1, y2, p2, q2, f0, f1, hd5⟩ := hc5 k hkl
                have hk5 : (0 : Int) ≤ (k : Int) := by omega
                have hk6 : (k : Int) < (ln : Int) := by omega
                have HTL : Hid ((X.l.getD k ([], [])).2.length ≤ 400 → ∀ d ∈ X.l.take (k + 1), d.2.length ≤ 400) := fun h2 => take_le (by omega) HK.out h2
                generalize X.l.getD k ([], []) = dd at *
                have HL5 := lightT_any _ _ _ wr hd5
                clear hc5 hd5 HK
                go_wp2_with fail
                refine HL5.mono ?_
                rintro en w6 ⟨hb6, q6, rfl, hq6⟩
                have HB6 : Hid (Below w2.heap.size w2 w6) := below2 hb3 hb6
                cases q6
                · clear HL5 hq6
                  go_wp2
                  go_ret
                  exact ⟨below2 HB2.out HB6.out, false, rfl, fun h => absurd h (by decide)⟩
                · have HN6 : Hid (∀ d ∈ X.l.take (k + 1), d.2.length ≤ 400) := HTL.out (hq6 rfl)
                  clear HL5 hq6 HTL
                  go_wp2
                  go_roundw
                  case rel => exact ⟨k + 1, by omega, by go_num, HB6.out, HN6⟩
                  case measure => simp [intOf]; omega
              · obtain rfl : k = ln := by omega
                have hnl : ¬ (k : Int) < (k : Int) := by omega
                have HLA : Hid (LightA X) := ⟨HXT.out, by omega, by have := HK.out; rw [List.take_of_length_le (by omega)] at this; exact this⟩
                have HFIN : Hid (∀ j, j < i + 1 → LightA (L.getD j a10z)) := HNX.out HLA.out
                have HB7 : Hid (Below w.heap.size w wr) := below2 HB2.out hb3
                clear HK HLA HNX HXT HD2
                go_wp2
                go_roundw
                case rel => exact ⟨i + 1, by omega, by omega, by go_num, HB7.out, HFIN⟩
                case measure => simp [intOf]; omega
    · have hex : i = len ∨ (i < len ∧ ¬ (i : Int) < 60) := by omega
      have HFIN : Hid (∀ j, j < len → j < 60 → LightA (L.getD j a10z)) := fun j h1 h2 => HI.out j (by omega)
      clear hlt HI
      rcases hex with rfl | ⟨h1, h2⟩
      · have hnl : ¬ (i : Int) < (i : Int) := by omega
        go_wp2
        go_ret
        exact ⟨hb, true, rfl, fun _ => HFIN.out⟩
      · have h1' : (i : Int) < (len : Int) := by omega
        go_wp2
        go_ret
        exact ⟨hb, true, rfl, fun _ => HFIN.out⟩
end Go.Proofs.Ytmkmogkhkmlnkaa.Dm
