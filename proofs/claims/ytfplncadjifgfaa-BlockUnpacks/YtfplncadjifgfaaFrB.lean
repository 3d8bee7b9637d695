/-
  The contracts of the functions that write counts and numbers: their bytes, laid behind bytes of one's own, or new.
-/
import Derived.Test.YtfplncadjifgfaaFrA
import Derived.Maps.AppendAt
import Derived.Laws.OwnMore
import Derived.Lib.Zigzag
namespace Go.Proofs.Ytfplncadjifgfaa.Fr
open Go.ChangeShapes Go.WideShapes Go.ChangeAt Go.RowKit
theorem info5 : (Try.prog.info? 5).map (fun i => (i.zero, i.size, i.bytes)) = some (some (.int .u8 0), 1, 1) := by kernel_rfl
theorem one_u8 (x : Int) : ∀ u ∈ ([.int .u8 x] : List Value), u.oneCell' = true := by intro u hu; simp at hu; subst hu; rfl
theorem cellsB_one (n : Nat) (b : UInt8) (h : b.toNat = n) : cellsB [b] = [.int .u8 (n : Int)] := by simp [cellsB, h]
theorem or_form (n : Nat) : bits .or .u8 ((n : Int) % 256) 128 = (((n % 128 + 128 : Nat)) : Int) := by
  have h := u8_or_nat (n % 256) 128 (Nat.mod_lt _ (by decide)) (by decide)
  have e : n % 256 ||| 128 = n % 128 + 128 := by
    have : ∀ m, m < 256 → m ||| 128 = m % 128 + 128 := by decide +kernel
    rw [this _ (Nat.mod_lt _ (by decide))]; omega
  rw [e] at h
  rw [← h, Int.natCast_emod]
  rfl

set_option maxHeartbeats 1000000 in
set_option maxRecDepth 20000 in
theorem putCount_any (v : Value) (n0 : Nat) (xs : List Value) (u B : Nat) (w : World) (hu : u < 18446744073709551616) (hB : B ≤ w.heap.size) (hown : w.ownsRow B 5 1 v n0 xs) (hn : n0 ≤ 1000000) :
    Calls Try.prog 33 #[v, .int .u64 (u : Int)] w fun e w' => ∃ v', e = .returned v' ∧ w'.ownsRow B 5 1 v' (n0 + (countL u).length) (xs ++ cellsB (countL u)) ∧ Below B w w' := by
  obtain ⟨i0, hi, hz0, hz1, hz2⟩ := info_parts info5
  have hlen := countL_le10 u hu
  go_enter Try.func33, Try.ntmps33
  go_wp2
  go_loopw [0, 1] (fun x t wr => ∃ (m : Nat) (d : List UInt8), m < 18446744073709551616 ∧ t = .int .u64 (m : Int) ∧ Hid (countL u = d ++ countL m) ∧ wr.ownsRow B 5 1 x (n0 + d.length) (xs ++ cellsB d) ∧ Below B w wr) (fun _ t _ => (intOf t).toNat)
  case atStart => exact ⟨u, [], hu, rfl, rfl, by simpa [cellsB] using hown, Below.refl _ _⟩
  case round =>
    obtain ⟨m, d, hm, rfl, hd, hown', hbel⟩ := hrel
    have hdl : d.length ≤ 10 := by have := congrArg List.length hd.out; rw [List.length_append] at this; omega
    have hs := hbel.size
    have hs' : B ≤ wr.heap.size := Nat.le_trans hB hs
    by_cases hlt : m < 128
    · have HE : Hid (countL u = d ++ [UInt8.ofNat m]) := by
        show _ = _
        rw [hd.out, countL_small m hlt]
      clear hlen
      go_wp2_with (at_builtin; refine wpList_append_own _ rfl (.tmp 15) (.tmp 18) 38 rfl B 5 i0 (.int .u8 0) 1 1 Try.underlying38 hi hz0 hz1 hz2 rfl (by decide) _ _ _ rfl (hown'.alloc _) ⟨wr.heap.size, 0, none⟩ 1 1 [.int .u8 (m : Int)] rfl rfl (cell_one_new _ _ _) (one_u8 _) (by unfold maxLen; omega) (by omega) (by simp; omega) ?_)
      intro v' w1 hown2 hgrow _
      go_wp2
      go_ret
      refine ⟨_, rfl, ?_, (hbel.alloc hs' _).grown hgrow (by simp; omega) (fun k hk => (hown'.lt k hk).1)⟩
      rw [HE.out, List.length_append, cellsB_append, cellsB_one m _ (toNat_small m hlt), ← Nat.add_assoc]
      simpa using hown2
    · have HE : Hid (countL u = (d ++ [UInt8.ofNat (m % 128 + 128)]) ++ countL (m / 128)) := by
        show _ = _
        rw [hd.out, countL_big m hlt]
        simp
      have hof := or_form m
      have hcb := cellsB_one (m % 128 + 128) _ (toNat_big m)
      have hq : Hid ((m : Int) / 128 = ((m / 128 : Nat) : Int)) := by show _ = _; omega
      have hq2 : m / 128 < m := by omega
      have HCB : Hid (cellsB [UInt8.ofNat (m % 128 + 128)] = [.int .u8 ((m % 128 + 128 : Nat) : Int)]) := hcb
      clear hlen hcb
      generalize UInt8.ofNat (m % 128 + 128) = c8 at *
      generalize m % 128 + 128 = c at *
      generalize m / 128 = q at *
      go_wp2_with (at_builtin; refine wpList_append_own _ rfl (.tmp 7) (.tmp 11) 38 rfl B 5 i0 (.int .u8 0) 1 1 Try.underlying38 hi hz0 hz1 hz2 rfl (by decide) _ _ _ rfl (hown'.alloc _) ⟨wr.heap.size, 0, none⟩ 1 1 [.int .u8 (c : Int)] rfl rfl (cell_one_new _ _ _) (one_u8 _) (by unfold maxLen; omega) (by omega) (by simp; omega) ?_)
      intro v' w1 hown2 hgrow _
      go_wp2
      go_roundw
      case rel =>
        refine ⟨q, d ++ [c8], by omega, ?_, HE.out, ?_, (hbel.alloc hs' _).grown hgrow (by simp; omega) (fun k hk => (hown'.lt k hk).1)⟩
        · rw [hq.out]
        · rw [List.length_append, cellsB_append, HCB.out, ← Nat.add_assoc]
          simpa using hown2
      case measure => simp [intOf]; omega
theorem own_below {w w' : World} {base s n : Nat} {e : TypeId} {v : Value} {xs : List Value} (h : w.ownsRow base e s v n xs) (hb : Below w.heap.size w w') : w'.ownsRow base e s v n xs := by
  have hlt := h.lt
  obtain ⟨hl, h | ⟨g, cap, cur, rfl, hg, hh, r⟩⟩ := h
  · exact ⟨hl, .inl h⟩
  · exact ⟨hl, .inr ⟨g, cap, cur, rfl, hg, (hb.block g (hlt g rfl).2).trans hh, r⟩⟩
theorem own_form {w : World} {base n : Nat} {e : TypeId} {v : Value} {xs : List Value} (h : w.ownsRow base e 1 v n xs) (h0 : 0 < n) :
    ∃ g cap, v = .slice (some ⟨g, 0, none⟩) n cap ∧ base ≤ g ∧ g < w.heap.size ∧ ∀ j u, xs[j]? = some u → w.cell? ((⟨g, 0, none⟩ : Addr).add j) = some u := by
  have hown := h
  obtain ⟨hl, ⟨_, h⟩ | ⟨g, cap, cur, rfl, hg, hh, r⟩⟩ := h
  · omega
  · exact ⟨g, cap, rfl, hg, (hown.lt g rfl).2, hown.cells rfl⟩
theorem one_cellsB (l : List UInt8) : ∀ u ∈ cellsB l, u.oneCell' = true := by
  intro u hu
  simp only [cellsB, List.mem_map] at hu
  obtain ⟨b, _, rfl⟩ := hu
  rfl

theorem putCount_z (v : Value) (n0 : Nat) (xs : List Value) (z : Int) (u B : Nat) (w : World) (hz : z = (u : Int)) (hu : u < 18446744073709551616) (hB : B ≤ w.heap.size) (hown : w.ownsRow B 5 1 v n0 xs) (hn : n0 ≤ 1000000) :
    Calls Try.prog 33 #[v, .int .u64 z] w fun e w' => ∃ v', e = .returned v' ∧ w'.ownsRow B 5 1 v' (n0 + (countL u).length) (xs ++ cellsB (countL u)) ∧ Below B w w' := by
  subst hz; exact putCount_any v n0 xs u B w hu hB hown hn
theorem neg_form (x : Int) (h1 : -9223372036854775808 ≤ x) (h2 : x < 0) :
    bits .xor .u64 IntKind.u64.max (IntKind.u64.wrap (IntKind.u64.wrap x * 2)) = ((-2 * x - 1).toNat : Int) := by
  rw [Go.Lib.zigzag_neg h1 h2, Go.Lib.zigzag, if_neg (by omega)]
theorem putNumber_any (v : Value) (n0 : Nat) (xs : List Value) (x : Int) (B : Nat) (w : World) (hx : Is64 x) (hB : B ≤ w.heap.size) (hown : w.ownsRow B 5 1 v n0 xs) (hn : n0 ≤ 1000000) :
    Calls Try.prog 34 #[v, .int .i64 x] w fun e w' => ∃ v', e = .returned v' ∧ w'.ownsRow B 5 1 v' (n0 + (countL (numberN x)).length) (xs ++ cellsB (countL (numberN x))) ∧ Below B w w' := by
  obtain ⟨h1, h2⟩ := hx
  have hN := numberN_lt ⟨h1, h2⟩
  have hd : Hid (numberN x = if 0 ≤ x then (2 * x).toNat else (-2 * x - 1).toNat) := rfl
  generalize numberN x = N at *
  by_cases h0 : 0 ≤ x
  · have hd' := hd.out
    rw [if_pos h0] at hd'
    go_enter Try.func34, Try.ntmps34
    go_wp2_with (go_at_call 33; refine (putCount_z _ _ _ _ N B _ (by omega) hN hB hown hn).mono ?_; rintro e w1 ⟨v', rfl, hown', hbel⟩)
    go_ret
    exact ⟨_, rfl, hown', hbel⟩
  · have hd' := hd.out
    rw [if_neg h0] at hd'
    have HN : Hid (bits .xor .u64 IntKind.u64.max (IntKind.u64.wrap (IntKind.u64.wrap x * 2)) = (N : Int)) := by
      show _ = _
      rw [neg_form x h1 (by omega), hd']
    clear hd'
    go_enter Try.func34, Try.ntmps34
    go_wp2_with (go_at_call 33; refine (putCount_z _ _ _ _ N B _ HN.out hN hB hown hn).mono ?_; rintro e w1 ⟨v', rfl, hown', hbel⟩)
    go_ret
    exact ⟨_, rfl, hown', hbel⟩
end Go.Proofs.Ytfplncadjifgfaa.Fr
