/-
  The law DrumKeeps.
-/
import Derived.Test.YtjmlklikmcaalaaDmP
import Derived.BigQuiet
namespace Go.Proofs.Ytjmlklikmcaalaa.Dm
open Go.ChangeShapes Go.WideShapes Go.ChangeAt Go.RowKit
/-- a slice of bools that came in -/
structure BoolsAt (w : World) (a : Option Addr) (n cap : Nat) (l : List Bool) : Prop where
  eq : l.length = n
  lc : n ≤ cap
  cm : cap ≤ maxLen
  at_ : n = 0 ∨ ∃ b off, a = some ⟨b, off, none⟩ ∧ ∀ i, i < n → w.cell? ⟨b, off + i, none⟩ = some (.bool (l.getD i false))
/-- it lies below -/
theorem BoolsAt.pat {w w' : World} {pa : Option Addr} {n cap : Nat} {l : List Bool} (h : BoolsAt w pa n cap l) (hb : Below w.heap.size w w') {B a s k : Nat} (hB : w.heap.size ≤ B) (ha : w.heap.size ≤ a) (hs : w.heap.size ≤ s) (hk : w.heap.size ≤ k) : Pat B a s k pa l w' := by
  rcases h.at_ with h0 | ⟨b, off, rfl, hc⟩
  · exact ⟨.inl (h.eq.trans h0)⟩
  · by_cases h0 : n = 0
    · exact ⟨.inl (h.eq.trans h0)⟩
    · have hlt : b < w.heap.size := World.block_lt_of_cell? w ⟨b, off + 0, none⟩ (hc 0 (by omega))
      exact ⟨.inr ⟨b, off, rfl, by omega, by omega, by omega, .inl (by omega), fun i hi => (hb.cell (p := ⟨b, off + i, none⟩) hlt).trans (hc i (by rw [← h.eq]; exact hi))⟩⟩
theorem below_low' {B C : Nat} {w w' : World} (h : Below B w w') (hC : C ≤ B) : Below C w w' := ⟨h.os, h.tape, h.output, h.size, fun j hj => h.block j (by omega)⟩
set_option maxHeartbeats 4000000 in
theorem drumKeeps_any (u v : Nat) (hu : (u : Int) ≤ 255) (hv : (v : Int) ≤ 255) (ar : Int) (har : ar ≤ 9223372036854775807) (pa : Option Addr) (L cap : Nat) (l : List Bool) (w : World) (hB : BoolsAt w pa L cap l) :
    Calls Try.prog 4 #[.agg #[.int .u8 (u : Int), .int .u8 (v : Int)], .int .i64 ar, .slice pa L cap] w fun e w' => TruePost w w' e := by
  have HBo : Hid (BoolsAt w pa L cap l) := hB
  have hL : (L : Int) ≤ 9223372036854775807 := by have := hB.lc; have := hB.cm; unfold maxLen at this; omega
  clear hB
  by_cases h100 : 100 < (L : Int)
  · go_enter Try.func4, Try.ntmps4
    go_wp2_with (first | (go_at_call 6; refine (new_any 8 (by decide) (by decide) (by decide) _).mono ?_; rintro e w1 ⟨a, s, k, rfl, hD, hb⟩; have HB : Hid (Below w.heap.size w w1) := below_up (below_alloc _ _) hb; clear hD hb) | (go_at_call 7; refine (awake_any _).mono ?_; rintro e w5 ⟨rfl, hb2⟩))
    go_ret
    exact ⟨rfl, below_up HB.out hb2⟩
  · obtain ⟨q, hq, e1⟩ : ∃ q : Nat, q < 12 ∧ (u : Int).tmod 12 = (q : Int) := ⟨u % 12, by omega, by rw [Int.tmod_eq_emod_of_nonneg (by omega)]; omega⟩
    obtain ⟨k0, hk0, e2⟩ : ∃ k0 : Nat, k0 ≤ q + 1 ∧ (v : Int).tmod (1 + (q : Int) + 1) = (k0 : Int) := ⟨v % (q + 2), by have := Nat.mod_lt v (show q + 2 > 0 by omega); omega, by rw [Int.tmod_eq_emod_of_nonneg (by omega), show (1 + (q : Int) + 1) = ((q + 2 : Nat) : Int) by omega]; exact (Int.natCast_emod v (q + 2)).symm⟩
    obtain ⟨W0, hW0⟩ : ∃ W0, W0 = w.alloc (.cells #[.int .u8 (u : Int), .int .u8 (v : Int)] 29) := ⟨_, rfl⟩
    have hbW : Below w.heap.size w W0 := by rw [hW0]; exact below_alloc _ _
    have hsW : W0.heap.size = w.heap.size + 1 := by rw [hW0]; exact size_alloc _ _
    have hgW : W0.heap[w.heap.size]? = some (.cells #[.int .u8 (u : Int), .int .u8 (v : Int)] 29 (0, 0)) := by rw [hW0]; exact heap_alloc_new _ _
    have HW0 : Hid (W0 = w.alloc (.cells #[.int .u8 (u : Int), .int .u8 (v : Int)] 29)) := hW0
    have HbW : Hid (Below w.heap.size w W0) := hbW
    clear hW0 hbW
    go_enter Try.func4, Try.ntmps4
    go_wp2_with (first | (go_at_call 6; rw [← HW0.out]; refine (new_any 8 (by decide) (by decide) (by decide) _).mono ?_; rintro e w1 ⟨a, s, k, rfl, hD, hb⟩; have b0 : w1.cell? ⟨w.heap.size, 0, none⟩ = some (.int .u8 (u : Int)) := (hb.cell (p := ⟨w.heap.size, 0, none⟩) (by show w.heap.size < W0.heap.size; omega)).trans (by rw [cell_of_heap hgW]; rfl); have b1 : w1.cell? ⟨w.heap.size, 1, none⟩ = some (.int .u8 (v : Int)) := (hb.cell (p := ⟨w.heap.size, 1, none⟩) (by show w.heap.size < W0.heap.size; omega)).trans (by rw [cell_of_heap hgW]; rfl); have HI : Hid (∃ D pv, DmAt W0.heap.size a s k 8 D pv w1 ∧ Below W0.heap.size W0 w1 ∧ Inv k0 0 D) := ⟨_, _, hD, hb, if h : k0 = 0 then .inl ⟨.inl h, P1.zero⟩ else .inl ⟨.inr (by omega), P1.zero⟩⟩; clear hD hb HW0))
    clear b0 b1 e1 e2
    go_loopw [11] (fun i wr => ∃ t : Nat, t ≤ q + 1 ∧ i = .int .i64 ((t : Int) + 1) ∧ Hid (∃ D pv, DmAt W0.heap.size a s k 8 D pv wr ∧ Below W0.heap.size W0 wr ∧ Inv k0 t D)) (fun i _ => q + 2 - (intOf i).toNat)
    case atStart => exact ⟨0, Nat.zero_le _, rfl, HI⟩
    case round =>
      obtain ⟨t, ht, rfl, HJ⟩ := hrel
      by_cases hlt : t < q + 1
      · obtain ⟨D, pv, hD, hb, hI⟩ := HJ.out
        have hx := nat_u8 (show t + 1 ≤ 12 by omega)
        have hxi : ((UInt8.ofNat (t + 1)).toNat : Int) = (t : Int) + 1 := by rw [hx]; omega
        have hw := hI.write hD.ok.seen (by omega)
        have hgn := heap_alloc_new wr (.cells #[.int .u8 ((t : Int) + 1)] 5)
        have hbn := below_alloc wr (.cells #[.int .u8 ((t : Int) + 1)] 5)
        obtain ⟨pl, hpl⟩ : ∃ pl, pl = List.replicate 192 (UInt8.ofNat (t + 1)) := ⟨_, rfl⟩
        rw [← hpl] at hw
        have hln : pl.length = 192 := by rw [hpl]; exact List.length_replicate
        have HPg : Calls Try.prog 12 #[.slice (some ⟨wr.heap.size, 0, none⟩) 1 1, .int .i64 192] (wr.alloc (.cells #[.int .u8 ((t : Int) + 1)] 5)) fun e w' => ∃ g, e = .returned (.slice (some ⟨g, 0, none⟩) 192 192) ∧ Hid (wr.heap.size + 1 ≤ g ∧ w'.heap[g]? = some (.cells (cellsB pl).toArray 5 (0, 0)) ∧ Below wr.heap.size wr w') := by
          refine (page_one (UInt8.ofNat (t + 1)) wr.heap.size 192 (by decide) (wr.alloc (.cells #[.int .u8 ((t : Int) + 1)] 5)) (by rw [hxi]; exact hgn)).mono ?_
          rintro e w2 ⟨g, rfl, hg, hl, hv⟩
          rw [size_alloc] at hg
          rw [← hpl] at hl
          exact ⟨g, by rw [List.length_replicate], hg, hl, below_up hbn hv⟩
        have hpn := hI.len
        have HG : Hid (∀ W g, wr.heap.size + 1 ≤ g → W.heap[g]? = some (.cells (cellsB pl).toArray 5 (0, 0)) → Below wr.heap.size wr W → Below W0.heap.size W0 W ∧ Calls Try.prog 11 #[.pointer (some ⟨a, 0, none⟩), .int .i64 ((0 : Nat) : Int), .slice (some ⟨g, 0, none⟩) (64 * 3) 192] W fun e w' => e = .returned (.int .i64 0) ∧ DPost W0.heap.size a s k 8 (writesN D 0 pl 3) W w') := fun W g hg hl hW => ⟨hb.trans (below_low hW hD.low), write_any W (hD.below hW) 0 3 g 0 192 pl (by omega) (by omega) (by omega) (by omega) (by omega) (page_src (w := wr) hD (by omega) hl) (by omega)⟩
        have HW : Hid ((t + 1 = k0 → P1 (t + 1) (writesN D 0 pl 3)) ∧ (t + 1 ≠ k0 → Inv k0 (t + 1) (writesN D 0 pl 3))) := hw
        clear hD hb hI hx hxi hw hgn hbn HI hpl hln hpn
        by_cases hk : t + 1 = k0
        · have hki : ((t : Int) + 1 == (k0 : Int)) = true := by simp; omega
          have HP1 : Hid (P1 (t + 1) (writesN D 0 pl 3)) := HW.out.1 hk
          have HK : Hid (t + 1 = k0) := hk
          clear HW hk
          go_upto_region 11 with (first | (go_at_call 12; refine HPg.mono ?_; rintro e w2 ⟨g, rfl, HP2⟩; obtain ⟨hbw2, HWr⟩ := HG.out w2 g HP2.out.1 HP2.out.2.1 HP2.out.2.2; have HBw2 : Hid (Below W0.heap.size W0 w2) := hbw2; clear HP2 hbw2 HPg) | (go_at_call 11; refine HWr.mono ?_; rintro e w3 ⟨rfl, hP3⟩; have HP3 : Hid (DPost W0.heap.size a s k 8 (writesN D 0 pl 3) w2 w3) := hP3; clear hP3 HWr))
          obtain ⟨⟨pv3, hD3⟩, hb3, -⟩ := HP3.out
          have HSy := sync_any w3 hD3
          have HB3 : Hid (Below W0.heap.size W0 w3) := HBw2.out.trans hb3
          clear hD3 hb3 HP3 HBw2 HG
          go_upto_region 12 with (go_at_call 13; refine HSy.mono ?_; rintro e w4 ⟨rfl, hP4⟩)
          obtain ⟨⟨pv4, hD4⟩, hb4, -⟩ := hP4
          have HAr := arm_any w4 hD4 ar har
          have HB4 : Hid (Below W0.heap.size W0 w4) := HB3.out.trans hb4
          clear hD4 hb4 HB3
          go_wp2_with (go_at_call 14; refine HAr.mono ?_; rintro e w5 ⟨rfl, hD5, hb5, -⟩; have HN : Hid (∃ D pv, DmAt W0.heap.size a s k 8 D pv w5 ∧ Below W0.heap.size W0 w5 ∧ Inv k0 (t + 1) D) := ⟨_, _, hD5, HB4.out.trans hb5, .inr ⟨by have := HK.out; omega, by rw [← HK.out]; exact HP1.out.synced (by omega) ar⟩⟩; clear hD5 hb5 HB4 HAr)
          go_roundw
          case rel => exact ⟨t + 1, by omega, by go_num, HN⟩
          case measure => simp [intOf]; omega
        · have hki : ((t : Int) + 1 == (k0 : Int)) = false := by simp; omega
          have HN0 : Hid (Inv k0 (t + 1) (writesN D 0 pl 3)) := HW.out.2 hk
          clear HW hk
          go_wp2_with (first | (go_at_call 12; refine HPg.mono ?_; rintro e w2 ⟨g, rfl, HP2⟩; obtain ⟨hbw2, HWr⟩ := HG.out w2 g HP2.out.1 HP2.out.2.1 HP2.out.2.2; have HBw2 : Hid (Below W0.heap.size W0 w2) := hbw2; clear HP2 hbw2 HPg) | (go_at_call 11; refine HWr.mono ?_; rintro e w3 ⟨rfl, hP3⟩; have HP3 : Hid (DPost W0.heap.size a s k 8 (writesN D 0 pl 3) w2 w3) := hP3; clear hP3 HWr))
          have HN : Hid (∃ D pv, DmAt W0.heap.size a s k 8 D pv w3 ∧ Below W0.heap.size W0 w3 ∧ Inv k0 (t + 1) D) := by
            obtain ⟨⟨pv3, hD3⟩, hb3, -⟩ := HP3.out
            exact ⟨_, _, hD3, HBw2.out.trans hb3, HN0.out⟩
          clear HP3 HBw2 HG HN0
          go_roundw
          case rel => exact ⟨t + 1, by omega, by go_num, HN⟩
          case measure => simp [intOf]; omega
      · obtain rfl : t = q + 1 := by omega
        obtain ⟨D, pv, hD, hb, hI⟩ := HJ.out
        have hP2 := hI.two hk0
        have hbw : Below w.heap.size w wr := below_up HbW.out hb
        have hpat := HBo.out.pat hbw (B := W0.heap.size) (a := a) (s := s) (k := k) (by omega) (by have := hD.ba; omega) (by have := hD.bs; omega) (by have := hD.bk; omega)
        have HC := crash_any wr hD pa cap l L HBo.out.eq hpat hL
        have HX : Hid (Secs k0 (q + 1) (crashD D (patF l)).seen ∧ Below w.heap.size w wr) := ⟨hP2.crashed hD.ok.kept _, hbw⟩
        clear hD hb hI hP2 hbw hpat HI
        go_upto_region 14 with (go_at_call 15; refine HC.mono ?_; rintro e w2 ⟨rfl, hP⟩)
        obtain ⟨⟨pv2, hD2⟩, hb2, -⟩ := hP
        obtain ⟨rl, hrl⟩ : ∃ rl, ((crashD D (patF l)).seen.drop (64 * 0)).take (64 * 3) = rl := ⟨_, rfl⟩
        have hln : rl.length = 192 := by
          rw [← hrl, List.length_take, List.length_drop, hD2.ok.seen]
          decide
        have HRd := read_any w2 hD2 0 3 (by decide) (by decide) rl hrl
        have HR3 : Hid (∀ j, j < 192 → ∃ v : UInt8, rl[j]? = some v ∧ rl[j / 64 * 64]? = some v ∧ k0 ≤ v.toNat ∧ v.toNat ≤ q + 1) := fun j hj => by
          have := read_three HX.out.1 j hj
          rwa [hrl] at this
        have HB2 : Hid (Below w.heap.size w w2) := HX.out.2.trans (below_low' hb2 (by omega))
        have HLn : Hid (rl.length = 192) := hln
        clear hD2 hb2 hrl HX HC hln
        go_wp2_with (go_at_call 16; refine HRd.mono ?_; rintro e w3 ⟨g, rfl, hg3, hl3, hv3⟩; rw [HLn.out]; have HI3 : Hid ((∀ j v, rl[j]? = some v → w3.cell? ⟨g, j, none⟩ = some (.int .u8 (v.toNat : Int))) ∧ Below w.heap.size w w3) := ⟨fun j v hj => by rw [cell_of_heap hl3]; simp [cellsB, hj], below_up HB2.out hv3⟩; clear hg3 hl3 hv3 HRd HB2)
        go_loopw [14] (fun i wr => ∃ j : Nat, j ≤ 192 ∧ i = .int .i64 j ∧ Hid ((∀ j v, rl[j]? = some v → wr.cell? ⟨g, j, none⟩ = some (.int .u8 (v.toNat : Int))) ∧ Below w.heap.size w wr)) (fun i _ => 192 - (intOf i).toNat)
        case atStart => exact ⟨0, Nat.zero_le _, rfl, HI3⟩
        case round =>
          obtain ⟨j, hj, rfl, HJ⟩ := hrel
          by_cases hlt : j < 192
          · obtain ⟨x, hx1, hx2, hx3, hx4⟩ := HR3.out j hlt
            have g1 := HJ.out.1 _ _ hx1
            have g2 := HJ.out.1 _ _ hx2
            have e5e : (j : Int) / 64 = ((j / 64 : Nat) : Int) := by omega
            have e5c : (j : Int).tdiv 64 = ((j / 64 : Nat) : Int) := by rw [Int.tdiv_eq_ediv_of_nonneg (by omega)]; omega
            have e5a : IntKind.i64.wrap ((j / 64 : Nat) : Int) = ((j / 64 : Nat) : Int) := by rw [IntKind.wrap_i64]; omega
            have e5d : ((j / 64 : Nat) : Int) * 64 = ((j / 64 * 64 : Nat) : Int) := by omega
            have e5b : IntKind.i64.wrap ((j / 64 * 64 : Nat) : Int) = ((j / 64 * 64 : Nat) : Int) := by rw [IntKind.wrap_i64]; omega
            have b5 : ((j / 64 * 64 : Nat) : Int) < 192 := by omega
            have d1 : decide ((x.toNat : Int) < (k0 : Int)) = false := by simp; omega
            have d2 : decide (1 + (q : Int) < (x.toNat : Int)) = false := by simp; omega
            have hxb := x.toNat_lt
            have ew : IntKind.i64.wrap (x.toNat : Int) = (x.toNat : Int) := by rw [IntKind.wrap_i64]; omega
            have hxi : (x.toNat : Int) < 256 := by omega
            have d1' : ¬ (x.toNat : Int) < (k0 : Int) := by omega
            have d2' : ¬ 1 + (q : Int) < (x.toNat : Int) := by omega
            clear hxb
            have HN : ∀ nq, Hid ((∀ j v, rl[j]? = some v → (wr.drewN nq).cell? ⟨g, j, none⟩ = some (.int .u8 (v.toNat : Int))) ∧ Below w.heap.size w (wr.drewN nq)) := fun nq => ⟨HJ.out.1, HJ.out.2.trans ⟨rfl, rfl, rfl, Nat.le_refl _, fun _ _ => rfl⟩⟩
            have hlti : (j : Int) < 192 := by omega
            have HLT : Hid (j < 192) := hlt
            clear hx1 hx2 hx3 hx4 hlt hj
            generalize j / 64 * 64 = m at *
            generalize j / 64 = d at *
            generalize x.toNat = y at *
            go_upto_region 20 with fail
            go_quiet (fail)
            go_wp2
            go_roundw
            case rel => exact ⟨j + 1, by have := HLT.out; omega, by go_num, HN _⟩
            case measure => have := HLT.out; simp [intOf]; omega
          · obtain rfl : j = 192 := by omega
            go_wp2_with (go_at_call 7; refine (awake_any _).mono ?_; rintro e w5 ⟨rfl, hb5⟩)
            go_ret
            exact ⟨rfl, below_up HJ.out.2 hb5⟩
end Go.Proofs.Ytjmlklikmcaalaa.Dm
