/-
  The contract of FrameBursts: at all data, places and patterns it returns true, and writes nothing that was there.
-/
import Derived.Test.YtgcdelgjbgjofaaY
import Derived.Test.YtgcdelgjbgjofaaNn
namespace Go.Proofs.Ytgcdelgjbgjofaa
open Go.ChangeShapes Go.WideShapes Go.ChangeAt Go.RowKit
theorem xor_form (c m : Nat) (hc : c < 256) (hm : m < 8) : bits .xor .u8 (c : Int) (2 ^ (7 - m) % 256) = ((c ^^^ 2 ^ (7 - m) : Nat) : Int) := by
  have h : 2 ^ (7 - m) < 2 ^ 8 := Nat.pow_lt_pow_right (by decide) (by omega)
  have e : ((2 : Int) ^ (7 - m) % 256) = ((2 ^ (7 - m) : Nat) : Int) := by
    have e1 : (2 : Int) ^ (7 - m) = ((2 ^ (7 - m) : Nat) : Int) := by simp
    rw [e1]
    clear e1
    generalize 2 ^ (7 - m) = t at *
    omega
  rw [e, u8_xor_nat c _ hc h]
theorem flip_cells (C G : List UInt8) (j : Nat) : cellsB (C ++ flipAt G j) = (cellsB (C ++ G)).set (C.length + j / 8) (.int .u8 (((G.getD (j / 8) 0).toNat ^^^ 2 ^ (7 - j % 8) : Nat) : Int)) := by
  have e2 : (UInt8.ofNat ((G.getD (j / 8) 0).toNat ^^^ 2 ^ (7 - j % 8))).toNat = (G.getD (j / 8) 0).toNat ^^^ 2 ^ (7 - j % 8) := by
    have := flip_lt (G.getD (j / 8) 0).toNat (7 - j % 8) (UInt8.toNat_lt _) (by omega)
    rw [UInt8.toNat_ofNat']
    exact Nat.mod_eq_of_lt this
  rw [← e2]
  unfold flipAt cellsB
  rw [List.map_append, List.map_append, List.map_set, List.set_append_right _ _ (by simp)]
  simp
theorem row_own {w : World} {base g n cap : Nat} {e : TypeId} {xs : List Value} (h : w.ownsRow base e 1 (.slice (some ⟨g, 0, none⟩) n cap) n xs) : RowAt w (some ⟨g, 0, none⟩) n cap xs := by
  obtain ⟨a, c, e1, hr, _⟩ := RowAt.of_own h
  simp at e1
  obtain ⟨rfl, rfl⟩ := e1
  exact hr
theorem first_form {w' : World} {l : List UInt8} {v : Value} {s c : Nat} (h : FirstIs w' l v s c) : ∃ s1 m1 k1 s2 m2 k2, v = .agg #[.slice s1 m1 k1, .slice s2 m2 k2] := by
  rcases h with ⟨rfl, _⟩ | ⟨n, r, _, _, _, ⟨_, rfl, _⟩ | ⟨_, _, rfl, _⟩ | ⟨_, _, _, _, _, ⟨a, b, c, d, e, f, h, _⟩, _⟩⟩
  · exact ⟨_, _, _, _, _, _, rfl⟩
  · exact ⟨_, _, _, _, _, _, rfl⟩
  · exact ⟨_, _, _, _, _, _, rfl⟩
  · exact ⟨_, _, _, _, _, _, h⟩
set_option maxHeartbeats 8000000 in
set_option maxRecDepth 60000 in
theorem frameBursts_any (v : Value) (nums : List Int) (texts : List ByteArray) (at_ pat : Nat) (w : World) (h : DataAt w v nums texts) (ha : at_ < 65536) :
    Calls Try.prog 8 #[v, .int .u16 (at_ : Int), .int .u32 (pat : Int)] w fun e w' => TruePost w e w' := by
  have hD : Hid (DataAt w v nums texts) := h
  obtain ⟨a1, n1, c1, a2, n2, c2, rfl, h1, h2, h3, h4⟩ := h
  have hF : Hid (Fit nums texts) := ⟨h3, h4⟩
  clear h1 h2 h3 h4
  obtain ⟨L, hL⟩ : ∃ L, Hid (L = bytesL nums texts) := ⟨_, rfl⟩
  have B0 : Below w.heap.size w (w.alloc (.cells #[.slice a1 n1 c1, .slice a2 n2 c2] 29)) := (Below.refl _ _).alloc (Nat.le_refl _) _
  go_enter Try.func8, Try.ntmps8
  go_wp2_with fail
  generalize hw1 : w.alloc (.cells #[.slice a1 n1 c1, .slice a2 n2 c2] 29) = w1 at *
  have hc0 : w1.cell? ⟨w.heap.size, 0, none⟩ = some (.slice a1 n1 c1) := by rw [← hw1]; simp
  have hc1 : w1.cell? ⟨w.heap.size, 1, none⟩ = some (.slice a2 n2 c2) := by rw [← hw1]; simp
  have hs1 : w.heap.size < w1.heap.size := by rw [← hw1]; simp
  have KB : Hid (∀ wr, Below w1.heap.size w1 wr → wr.cell? ⟨w.heap.size, 0, none⟩ = some (.slice a1 n1 c1) ∧ wr.cell? ⟨w.heap.size, 1, none⟩ = some (.slice a2 n2 c2)) := fun wr hb =>
    ⟨(hb.cell (p := ⟨w.heap.size, 0, none⟩) hs1).trans hc0, (hb.cell (p := ⟨w.heap.size, 1, none⟩) hs1).trans hc1⟩
  clear hw1 hc0 hc1
  refine (light_any _ nums texts _ (hD.out.below B0)).mono ?_
  rintro e w2 ⟨hb2, q, rfl⟩
  have B2 := below2 B0 hb2
  obtain ⟨g0, g1⟩ := KB.out w2 hb2
  cases q with
  | false =>
    go_wp2_with (go_at_call 12; refine (awake_any _).mono ?_; rintro e w5 ⟨rfl, hb5⟩)
    go_ret
    exact ⟨rfl, below2 B2 hb5⟩
  | true =>
    go_wp2_with fail
    refine (refMay_any _ nums texts _ (hD.out.below B2) L hL).mono ?_
    rintro e w3 ⟨rfl, hb3⟩
    have B3 := below2 B2 hb3
    have C3 := below2 hb2 hb3
    obtain ⟨f0, f1⟩ := KB.out w3 C3
    by_cases hle : L.length ≤ 4096
    · have hdm : decide (L.length ≤ 4096) = true := by simp; omega
      have HLE : Hid (L.length ≤ 4096) := hle
      rw [hdm]
      clear hdm hle g0 g1
      go_wp2_with fail
      refine (frame_any _ nums texts _ (hD.out.below B3) L hL).mono ?_
      rintro e w4 ⟨hb4, ⟨v4, rfl, hown4, _⟩ | ⟨_, hgt⟩⟩
      rotate_left
      · have := HLE.out; omega
      have B4 := below2 B3 hb4
      have C4 := below2 C3 hb4
      obtain ⟨d0, d1⟩ := KB.out w4 C4
      clear f0 f1
      go_wp2_with fail
      refine (refFrame_any _ nums texts _ (hD.out.below B4) L hL HLE).mono ?_
      rintro e w5 ⟨v5, rfl, hown5, hb5⟩
      have B5 := below2 B4 hb5
      have C5 := below2 C4 hb5
      obtain ⟨e0, e1⟩ := KB.out w5 C5
      obtain ⟨a5, cap5, rfl, _, _⟩ := RowAt.of_own hown5
      have hpos : 0 < (frameL L).length := by have := countL_pos L.length; rw [frameL, List.length_append]; omega
      obtain ⟨g4, cap4, rfl, hg4, hg4', _⟩ := own_form hown4 hpos
      have hown4' := own_below hown4 hb5
      clear d0 d1 hown5 hown4
      obtain ⟨n, hn⟩ : ∃ n, n = L.length := ⟨_, rfl⟩
      obtain ⟨cl, hcl⟩ : ∃ cl, cl = (countL L.length).length := ⟨_, rfl⟩
      obtain ⟨f, hf⟩ : ∃ f, f = (frameL L).length := ⟨_, rfl⟩
      have hfe : f = cl + n + 4 := by rw [hf, hcl, hn, frameL, List.length_append, List.length_append, fourL_length]; omega
      have hcl10 : cl ≤ 10 := by rw [hcl]; exact countL_le10 _ (by have := HLE.out; omega)
      have hn4 : (n : Int) ≤ 4096 := by have := HLE.out; omega
      rw [← hf] at hown4' hpos ⊢
      obtain ⟨m, hm⟩ : ∃ m, m = 8 * (n + 4) := ⟨_, rfl⟩
      have hm0 : 0 < m := by omega
      have y1 : (f : Int) - 4 - (n : Int) = (cl : Int) := by omega
      have y2 : 8 * ((f : Int) - (cl : Int)) = (m : Int) := by omega
      obtain ⟨k, hk⟩ : ∃ k, k = at_ % m := ⟨_, rfl⟩
      have y3 : (at_ : Int) % (m : Int) = (k : Int) := by rw [hk]; exact (Int.natCast_emod at_ m).symm
      have hkm : k < m := by rw [hk]; exact Nat.mod_lt _ hm0
      have HG : Hid ((L ++ fourL (sumL L)).length = n + 4) := by show _ = _; rw [List.length_append, fourL_length, hn]
      have HEQ : Hid (f = cl + n + 4 ∧ m = 8 * (n + 4) ∧ cl = (countL L.length).length ∧ n = L.length) := ⟨hfe, hm, hcl, hn⟩
      have hfl : Hid (f ≤ 5000) := by show _ ≤ _; omega
      have hms : (m : Int) ≤ 33000 := by omega
      have hf5 : (f : Int) ≤ 5000 := by omega
      have hmz : ¬ (m : Int) = 0 := by omega
      have hfN : f ≤ 2 ^ 63 - 1 := by have := hfl.out; omega
      have hnN : n ≤ 2 ^ 63 - 1 := by omega
      have hclf : cl + n + 4 = f := by omega
      clear hf hfe hm hk hn hcl
      go_wp2_with fail
      refine (refBytes_any _ nums texts _ (hD.out.below B5) L hL).mono ?_
      rintro en w6 ⟨hb6, v6, L6, rfl, hown6, hp6, hx6, hy6⟩
      obtain rfl := hp6 HLE.out
      obtain ⟨a6, cap6, rfl, _, _⟩ := RowAt.of_own hown6
      have hown7 := own_below hown4' hb6
      have B6 := below2 B5 hb6
      clear hp6 hx6 hy6 hown6 hown4' e0 e1
      have HO7 : Hid (w6.ownsRow w3.heap.size 5 1 (.slice (some ⟨g4, 0, none⟩) f cap4) f (cellsB (countL L6.length ++ (L6 ++ fourL (sumL L6))))) := hown7
      clear hown7
      rw [← HEQ.out.2.2.2]
      go_wp2
      rw [y3]
      go_loopw [13, 14] (fun q i wr => ∃ (qB : Bool) (iN : Nat) (G' : List UInt8), q = .bool qB ∧ i = .int .i64 (iN : Int) ∧ iN ≤ 32 ∧ wr.ownsRow w3.heap.size 5 1 (.slice (some ⟨g4, 0, none⟩) f cap4) f (cellsB (countL L6.length ++ G')) ∧ Below w.heap.size w wr ∧ Hid (Turned (L6 ++ fourL (sumL L6)) G' k iN pat qB)) (fun _ i _ => 32 - (intOf i).toNat)
      case atStart => exact ⟨false, 0, L6 ++ fourL (sumL L6), rfl, rfl, by omega, HO7.out, B6, turned_start _ _ _⟩
      case round =>
        clear HO7
        obtain ⟨qB, i, G', rfl, rfl, hi32, hown, hbel, hT⟩ := hrel
        have hGl : Hid (G'.length = n + 4) := by show _ = _; rw [hT.out.1]; exact HG.out
        by_cases hgo : i < 32 ∧ k + i < m
        · obtain ⟨hi, hki⟩ := hgo
          obtain ⟨j, hj⟩ : ∃ j, j = k + i := ⟨_, rfl⟩
          have z1 : (k : Int) + (i : Int) = (j : Int) := by omega
          have hjm : (j : Int) < (m : Int) := by omega
          by_cases hbit : pat / 2 ^ i % 2 = 1
          · have hb : (((pat : Int) / 2 ^ i).tmod 2 == 1) = true := by
              rw [show (pat : Int) / 2 ^ i = ((pat / 2 ^ i : Nat) : Int) from by simp, Int.tmod_eq_emod_of_nonneg (Int.natCast_nonneg _), beq_iff_eq]
              omega
            have HT2 := turned_one hT.out hbit (by rw [HG.out, ← HEQ.out.2.1]; exact hki)
            rw [← hj] at HT2
            have HTN : Hid (Turned (L6 ++ fourL (sumL L6)) (flipAt G' j) k (i + 1) pat true) := HT2
            obtain ⟨d, hd⟩ : ∃ d, d = j / 8 := ⟨_, rfl⟩
            have z2 : (j : Int) / 8 = (d : Int) := by omega
            obtain ⟨p, hpp⟩ : ∃ p, p = cl + d := ⟨_, rfl⟩
            have z3 : (cl : Int) + (d : Int) = (p : Int) := by omega
            have hdl : d < n + 4 := by have := HEQ.out.2.1; omega
            have hpf : (p : Int) < (f : Int) := by have := HEQ.out.1; omega
            obtain ⟨m8, hm8⟩ : ∃ m8, m8 = j % 8 := ⟨_, rfl⟩
            have z4 : (j : Int) % 8 = (m8 : Int) := by omega
            have hm88 : m8 < 8 := by omega
            have hcell : wr.cell? ⟨g4, p, none⟩ = some (.int .u8 ((G'.getD d 0).toNat : Int)) := by
              rw [hown.cellAt p (by omega), cellsB_get _ p (by rw [List.length_append, hGl.out, ← HEQ.out.2.2.1]; omega)]
              rw [List.getD_eq_getElem?_getD, List.getElem?_append_right (by rw [← HEQ.out.2.2.1]; omega), ← HEQ.out.2.2.1, show p - cl = d from by omega, ← List.getD_eq_getElem?_getD]
            have hfz : wr.frozen? ⟨g4, p, none⟩ = false := hown.frozenAt p
            have hc := (G'.getD d 0).toNat_lt
            have HDEF : Hid (j = k + i ∧ d = j / 8 ∧ p = cl + d ∧ m8 = j % 8) := ⟨hj, hd, hpp, hm8⟩
            clear hbit HT2 hT hj hd hpp hm8
            generalize hcc : (G'.getD d 0).toNat = c at *
            go_wp2
            go_roundw
            case rel =>
              have hDE := HDEF.out
              have hS := hown.stored p (.int .u8 ((c ^^^ 2 ^ (7 - m8) : Nat) : Int))
              rw [xor_form c m8 hc hm88]
              refine ⟨true, i + 1, flipAt G' j, rfl, by go_num, by omega, ?_, hbel.setCell (p := ⟨g4, p, none⟩) (by show w.heap.size ≤ g4; have := B3.size; omega) _, HTN.out⟩
              rw [flip_cells, ← hDE.2.1, ← hDE.2.2.2, hcc, ← HEQ.out.2.2.1, ← hDE.2.2.1]
              exact hS.1
            case measure => simp [intOf]; omega
          · have hb : (((pat : Int) / 2 ^ i).tmod 2 == 1) = false := by
              rw [show (pat : Int) / 2 ^ i = ((pat / 2 ^ i : Nat) : Int) from by simp, Int.tmod_eq_emod_of_nonneg (Int.natCast_nonneg _)]
              exact beq_eq_false_iff_ne.2 (by omega)
            have HTN : Hid (Turned (L6 ++ fourL (sumL L6)) G' k (i + 1) pat qB) := turned_zero hT.out hbit
            clear hbit hT hj
            go_wp2
            go_roundw
            case rel => exact ⟨qB, i + 1, G', rfl, by go_num, by omega, hown, hbel, HTN.out⟩
            case measure => simp [intOf]; omega
        · have hex : i = 32 ∨ (i < 32 ∧ m ≤ k + i) := by omega
          clear hgo
          have HROW : Hid (RowAt wr (some ⟨g4, 0, none⟩) f cap4 (cellsB (countL L6.length ++ G'))) := row_own hown
          clear hown
          have hex2 : i = 32 ∨ (((i : Nat) : Int) < 32 ∧ ¬ (k : Int) + (i : Int) < (m : Int)) := by omega
          clear hex
          rcases hex2 with rfl | ⟨hx1, hx2⟩
          all_goals
            go_wp2_with fail
            refine (first_any _ _ _ _ _ HROW.out).mono ?_
            rintro en w8 ⟨hb8, v8, s8, c8, rfl, hF8⟩
            obtain ⟨hc8a, hc8b⟩ := turned_first hL.out hF.out HLE.out hi32 hT.out hF8
            obtain ⟨s1, m1, k1, s2, m2, k2, rfl⟩ := first_form hF8
            have hB8 := hbel.trans (hb8.mono hbel.size)
            have hB9 : Below w.heap.size w (w8.alloc (.cells #[.slice s1 m1 k1, .slice s2 m2 k2] 29)) := hB8.alloc hB8.size _
            clear hF8 hT
            cases qB with
            | true =>
              have hc0 : ((c8 : Int) == 0) = false := beq_eq_false_iff_ne.2 (by have := hc8a rfl; omega)
              clear hc8a hc8b
              go_wp2_with (go_at_call 12; refine (awake_any _).mono ?_; rintro e w9 ⟨rfl, hb9⟩)
              go_ret
              exact ⟨rfl, hB9.trans (hb9.mono hB9.size)⟩
            | false =>
              obtain rfl : c8 = 0 := hc8b rfl
              clear hc8a hc8b
              go_wp2_with (go_at_call 12; refine (awake_any _).mono ?_; rintro e w9 ⟨rfl, hb9⟩)
              go_ret
              exact ⟨rfl, hB9.trans (hb9.mono hB9.size)⟩
    · have hdm : decide (L.length ≤ 4096) = false := by simp; omega
      rw [hdm]
      clear hdm hle
      go_wp2_with (go_at_call 12; refine (awake_any _).mono ?_; rintro e w5 ⟨rfl, hb5⟩)
      go_ret
      exact ⟨rfl, below2 B3 hb5⟩
end Go.Proofs.Ytgcdelgjbgjofaa
