/-
  The law of agreement.
-/
import Derived.Test.YtejhmacbbdnlbaaAcZn
import Derived.Test.YtejhmacbbdnlbaaAcZp
import Derived.Test.YtejhmacbbdnlbaaAcZq
import Derived.Test.YtejhmacbbdnlbaaAcZr
import Derived.Test.YtejhmacbbdnlbaaAcX1
import Derived.Test.YtejhmacbbdnlbaaAcR
namespace Go.Proofs.Ytejhmacbbdnlbaa.Ac
open Go.ChangeShapes Go.WideShapes Go.ChangeAt Go.RowKit
set_option maxHeartbeats 8000000 in
set_option maxRecDepth 60000 in
theorem agrees_any (n0 : Int) (a1 : Option Addr) (len1 cap1 : Nat) (z1 : List (Int × Int × Int × Int)) (w : World) (h0 : (Lit.int .u8 n0).wf = true) (h1 : MvAt w a1 len1 cap1 z1) : Calls Try.prog 4 #[.int .u8 n0, .slice a1 len1 cap1] w fun e w' => e = .returned (.bool true) ∧ Below w.heap.size w w' := by
  have g0 : 0 ≤ n0 ∧ n0 ≤ 255 := by simpa [Lit.wf, IntKind.min, IntKind.max, IntKind.bits, IntKind.signed] using h0
  obtain ⟨n, rfl⟩ : ∃ x : Nat, n0 = x := ⟨n0.toNat, by omega⟩
  obtain ⟨k0, hk0⟩ : ∃ k0, k0 = n % 5 := ⟨_, rfl⟩
  obtain ⟨k, hk⟩ : ∃ k, k = k0 + 1 := ⟨_, rfl⟩
  have e0 : (n : Int) % 5 = (k0 : Int) := by omega
  have e1 : 1 + (k0 : Int) = (k : Int) := by omega
  have e2 : (k : Int) ≤ 5 := by omega
  have e3 : (k0 : Int) ≤ 4 := by omega
  have HK : Hid (1 ≤ k ∧ k ≤ 5) := ⟨by omega, by omega⟩
  have HMv := Hid.mk9 h1
  have hl9 : (len1 : Int) ≤ 9223372036854775807 := by have := Nat.le_trans h1.2.1 h1.2.2.1; unfold maxLen at this; omega
  have hmk := makeG k e2 w
  have hz51 := zero_of info51
  have hz50 := zero_of info50
  have hs51 := size96
  have hs50 := size32
  have HI : Hid (Below w.heap.size w ((((w.alloc (.cells (madeCells #[.int .i64 0, .slice none 0 0] (k * 2)) 24)).alloc (.cells #[.int .i64 1, .int .i64 2, .int .i64 3] 25)).alloc (.cells #[.slice none 0 0, .slice none 0 0, .slice none 0 0, .slice none 0 0, .slice none 0 0, .slice none 0 0, .slice none 0 0, .slice none 0 0, .slice none 0 0, .slice none 0 0, .slice none 0 0, .slice none 0 0, .slice none 0 0, .slice none 0 0, .slice none 0 0] 45)).alloc (.cells #[.bool false, .bool false, .bool false, .bool false, .bool false, .bool false, .bool false, .bool false, .bool false, .bool false, .bool false, .bool false, .bool false, .bool false, .bool false] 47)) ∧ GrpAt ((((w.alloc (.cells (madeCells #[.int .i64 0, .slice none 0 0] (k * 2)) 24)).alloc (.cells #[.int .i64 1, .int .i64 2, .int .i64 3] 25)).alloc (.cells #[.slice none 0 0, .slice none 0 0, .slice none 0 0, .slice none 0 0, .slice none 0 0, .slice none 0 0, .slice none 0 0, .slice none 0 0, .slice none 0 0, .slice none 0 0, .slice none 0 0, .slice none 0 0, .slice none 0 0, .slice none 0 0, .slice none 0 0] 45)).alloc (.cells #[.bool false, .bool false, .bool false, .bool false, .bool false, .bool false, .bool false, .bool false, .bool false, .bool false, .bool false, .bool false, .bool false, .bool false, .bool false] 47)) w.heap.size k w.heap.size (fun _ => 0) (fun _ => []) ∧ BalAt ((((w.alloc (.cells (madeCells #[.int .i64 0, .slice none 0 0] (k * 2)) 24)).alloc (.cells #[.int .i64 1, .int .i64 2, .int .i64 3] 25)).alloc (.cells #[.slice none 0 0, .slice none 0 0, .slice none 0 0, .slice none 0 0, .slice none 0 0, .slice none 0 0, .slice none 0 0, .slice none 0 0, .slice none 0 0, .slice none 0 0, .slice none 0 0, .slice none 0 0, .slice none 0 0, .slice none 0 0, .slice none 0 0] 45)).alloc (.cells #[.bool false, .bool false, .bool false, .bool false, .bool false, .bool false, .bool false, .bool false, .bool false, .bool false, .bool false, .bool false, .bool false, .bool false, .bool false] 47)) (w.heap.size + 1) (fun p => (p : Int) + 1) ∧ TolAt ((((w.alloc (.cells (madeCells #[.int .i64 0, .slice none 0 0] (k * 2)) 24)).alloc (.cells #[.int .i64 1, .int .i64 2, .int .i64 3] 25)).alloc (.cells #[.slice none 0 0, .slice none 0 0, .slice none 0 0, .slice none 0 0, .slice none 0 0, .slice none 0 0, .slice none 0 0, .slice none 0 0, .slice none 0 0, .slice none 0 0, .slice none 0 0, .slice none 0 0, .slice none 0 0, .slice none 0 0, .slice none 0 0] 45)).alloc (.cells #[.bool false, .bool false, .bool false, .bool false, .bool false, .bool false, .bool false, .bool false, .bool false, .bool false, .bool false, .bool false, .bool false, .bool false, .bool false] 47)) w.heap.size (w.heap.size + 1 + 1) (fun _ _ => []) ∧ YesAt ((((w.alloc (.cells (madeCells #[.int .i64 0, .slice none 0 0] (k * 2)) 24)).alloc (.cells #[.int .i64 1, .int .i64 2, .int .i64 3] 25)).alloc (.cells #[.slice none 0 0, .slice none 0 0, .slice none 0 0, .slice none 0 0, .slice none 0 0, .slice none 0 0, .slice none 0 0, .slice none 0 0, .slice none 0 0, .slice none 0 0, .slice none 0 0, .slice none 0 0, .slice none 0 0, .slice none 0 0, .slice none 0 0] 45)).alloc (.cells #[.bool false, .bool false, .bool false, .bool false, .bool false, .bool false, .bool false, .bool false, .bool false, .bool false, .bool false, .bool false, .bool false, .bool false, .bool false] 47)) (w.heap.size + 1 + 1 + 1) (fun _ _ => false)) := by
    have b1 := below_alloc w (.cells (madeCells #[.int .i64 0, .slice none 0 0] (k * 2)) 24)
    have b2 := below2 b1 (below_alloc (w.alloc (.cells (madeCells #[.int .i64 0, .slice none 0 0] (k * 2)) 24)) (.cells #[.int .i64 1, .int .i64 2, .int .i64 3] 25))
    have b3 := below2 b2 (below_alloc ((w.alloc (.cells (madeCells #[.int .i64 0, .slice none 0 0] (k * 2)) 24)).alloc (.cells #[.int .i64 1, .int .i64 2, .int .i64 3] 25)) (.cells #[.slice none 0 0, .slice none 0 0, .slice none 0 0, .slice none 0 0, .slice none 0 0, .slice none 0 0, .slice none 0 0, .slice none 0 0, .slice none 0 0, .slice none 0 0, .slice none 0 0, .slice none 0 0, .slice none 0 0, .slice none 0 0, .slice none 0 0] 45))
    refine ⟨below2 b3 (below_alloc _ _), (((grp0 k w w.heap.size).below (below_alloc _ _)).below (below_alloc _ _)).below (below_alloc _ _), ?_, ?_, ?_⟩
    · have := ((bal0 (w.alloc (.cells (madeCells #[.int .i64 0, .slice none 0 0] (k * 2)) 24))).below (below_alloc _ (.cells #[.slice none 0 0, .slice none 0 0, .slice none 0 0, .slice none 0 0, .slice none 0 0, .slice none 0 0, .slice none 0 0, .slice none 0 0, .slice none 0 0, .slice none 0 0, .slice none 0 0, .slice none 0 0, .slice none 0 0, .slice none 0 0, .slice none 0 0] 45))).below (below_alloc _ (.cells #[.bool false, .bool false, .bool false, .bool false, .bool false, .bool false, .bool false, .bool false, .bool false, .bool false, .bool false, .bool false, .bool false, .bool false, .bool false] 47))
      rwa [show (w.alloc (.cells (madeCells #[.int .i64 0, .slice none 0 0] (k * 2)) 24)).heap.size = w.heap.size + 1 by simp] at this
    · have := (tol0 ((w.alloc (.cells (madeCells #[.int .i64 0, .slice none 0 0] (k * 2)) 24)).alloc (.cells #[.int .i64 1, .int .i64 2, .int .i64 3] 25)) w.heap.size).below (below_alloc _ (.cells #[.bool false, .bool false, .bool false, .bool false, .bool false, .bool false, .bool false, .bool false, .bool false, .bool false, .bool false, .bool false, .bool false, .bool false, .bool false] 47))
      rwa [show ((w.alloc (.cells (madeCells #[.int .i64 0, .slice none 0 0] (k * 2)) 24)).alloc (.cells #[.int .i64 1, .int .i64 2, .int .i64 3] 25)).heap.size = w.heap.size + 1 + 1 by simp] at this
    · have := yes0 (((w.alloc (.cells (madeCells #[.int .i64 0, .slice none 0 0] (k * 2)) 24)).alloc (.cells #[.int .i64 1, .int .i64 2, .int .i64 3] 25)).alloc (.cells #[.slice none 0 0, .slice none 0 0, .slice none 0 0, .slice none 0 0, .slice none 0 0, .slice none 0 0, .slice none 0 0, .slice none 0 0, .slice none 0 0, .slice none 0 0, .slice none 0 0, .slice none 0 0, .slice none 0 0, .slice none 0 0, .slice none 0 0] 45))
      rwa [show (((w.alloc (.cells (madeCells #[.int .i64 0, .slice none 0 0] (k * 2)) 24)).alloc (.cells #[.int .i64 1, .int .i64 2, .int .i64 3] 25)).alloc (.cells #[.slice none 0 0, .slice none 0 0, .slice none 0 0, .slice none 0 0, .slice none 0 0, .slice none 0 0, .slice none 0 0, .slice none 0 0, .slice none 0 0, .slice none 0 0, .slice none 0 0, .slice none 0 0, .slice none 0 0, .slice none 0 0, .slice none 0 0] 45)).heap.size = w.heap.size + 1 + 1 + 1 by simp] at this
  clear h0 h1 g0 hk0 hk
  go_enter Try.func4, Try.ntmps4
  go_upto_region 6 with fail
  generalize ((((w.alloc (.cells (madeCells #[.int .i64 0, .slice none 0 0] (k * 2)) 24)).alloc (.cells #[.int .i64 1, .int .i64 2, .int .i64 3] 25)).alloc (.cells #[.slice none 0 0, .slice none 0 0, .slice none 0 0, .slice none 0 0, .slice none 0 0, .slice none 0 0, .slice none 0 0, .slice none 0 0, .slice none 0 0, .slice none 0 0, .slice none 0 0, .slice none 0 0, .slice none 0 0, .slice none 0 0, .slice none 0 0] 45)).alloc (.cells #[.bool false, .bool false, .bool false, .bool false, .bool false, .bool false, .bool false, .bool false, .bool false, .bool false, .bool false, .bool false, .bool false, .bool false, .bool false] 47)) = w4 at *
  obtain ⟨G, hG⟩ : ∃ G, w.heap.size = G := ⟨_, rfl⟩
  have HN := Hid.mk9 hG
  have HI2 : Hid (Below w.heap.size w w4 ∧ GrpAt w4 w.heap.size k G (fun _ => 0) (fun _ => []) ∧ BalAt w4 (G + 1) (fun p => (p : Int) + 1) ∧ TolAt w4 w.heap.size (G + 1 + 1) (fun _ _ => []) ∧ YesAt w4 (G + 1 + 1 + 1) (fun _ _ => false)) := by rw [← hG]; exact HI.out
  rw [hG]
  clear hG HI
  obtain ⟨B, hB⟩ : ∃ B, G + 1 = B := ⟨_, rfl⟩
  rw [hB] at HI2 ⊢
  obtain ⟨T, hT⟩ : ∃ T, B + 1 = T := ⟨_, rfl⟩
  rw [hT] at HI2 ⊢
  obtain ⟨Y, hY⟩ : ∃ Y, T + 1 = Y := ⟨_, rfl⟩
  rw [hY] at HI2 ⊢
  have HGE : Hid (w.heap.size ≤ G ∧ w.heap.size ≤ B ∧ w.heap.size ≤ T ∧ w.heap.size ≤ Y) := ⟨by have := HN.out; omega, by have := HN.out; omega, by have := HN.out; omega, by have := HN.out; omega⟩
  clear hB hT hY HN hmk
  have hst := store51 w4
  go_upto_region 7 with fail
  have HI5 : Hid (w.heap.size ≤ w4.heap.size ∧ Below w.heap.size w (w4.alloc (.cells a96 51)) ∧ GrpAt (w4.alloc (.cells a96 51)) w.heap.size k G (fun _ => 0) (fun _ => []) ∧ BalAt (w4.alloc (.cells a96 51)) B (fun p => (p : Int) + 1) ∧ TolAt (w4.alloc (.cells a96 51)) w.heap.size T (fun _ _ => []) ∧ YesAt (w4.alloc (.cells a96 51)) Y (fun _ _ => false) ∧ MinAt (w4.alloc (.cells a96 51)) w.heap.size w4.heap.size (fun _ _ => acd0)) := by
    obtain ⟨i0, i1, i2, i3, i4⟩ := HI2.out
    have hb := below_alloc w4 (.cells a96 51)
    exact ⟨i0.size, below2 i0 hb, i1.below hb, i2.below hb, i3.below hb, i4.below hb, mine0 w4 _⟩
  clear HI2 hst
  generalize w4.alloc (.cells a96 51) = w5 at *
  generalize w4.heap.size = M at *
  have hmm : (Instr.makeMap 52 none).run Try.prog w5 = .ok (.map (some w5.heap.size)) (w5.alloc (.map #[] 0)) := rfl
  go_upto_region 8 with fail
  have HI6 : Hid (w.heap.size ≤ w5.heap.size ∧ w.heap.size ≤ M ∧ Below w.heap.size w (w5.alloc (.map #[] 0)) ∧ GrpAt (w5.alloc (.map #[] 0)) w.heap.size k G (fun _ => 0) (fun _ => []) ∧ BalAt (w5.alloc (.map #[] 0)) B (fun p => (p : Int) + 1) ∧ TolAt (w5.alloc (.map #[] 0)) w.heap.size T (fun _ _ => []) ∧ YesAt (w5.alloc (.map #[] 0)) Y (fun _ _ => false) ∧ MinAt (w5.alloc (.map #[] 0)) w.heap.size M (fun _ _ => acd0) ∧ VotAt (w5.alloc (.map #[] 0)) w5.heap.size 0 (fun _ _ => 0)) := by
    obtain ⟨j, i0, i1, i2, i3, i4, i5⟩ := HI5.out
    have hb := below_alloc w5 (.map #[] 0)
    exact ⟨i0.size, j, below2 i0 hb, i1.below hb, i2.below hb, i3.below hb, i4.below hb, i5.below hb, vot0 w5⟩
  clear HI5 hmm
  generalize w5.alloc (.map #[] 0) = w6 at *
  generalize w5.heap.size = V at *
  have hst := store50 w6
  go_upto_region 9 with fail
  obtain ⟨bk, hbk⟩ : ∃ bk : Bk, bk = ⟨G, B, T, Y, M, V, w6.heap.size⟩ := ⟨_, rfl⟩
  have HS : Hid (SyAt w (w6.alloc (.cells a32 50)) k 0 bk sy0) := by
    obtain ⟨j, j2, i0, i1, i2, i3, i4, i5, i6⟩ := HI6.out
    have hb := below_alloc w6 (.cells a32 50)
    obtain ⟨g1, g2, g3, g4⟩ := HGE.out
    rw [hbk]
    exact ⟨below2 i0 hb, ⟨g1, g2, g3, g4, j2, j, i0.size⟩, i1.below hb, i2.below hb, i3.below hb, i4.below hb, i5.below hb, cho0 w6 _, i6.kept (below_grownBy hb) (by simp)⟩
  clear HI6 HGE hst
  generalize w6.alloc (.cells a32 50) = w7 at *
  generalize w6.heap.size = C at *
  have HI := Hid.mk9 (inv0 k)
  clear hz51 hz50 hs51 hs50 e0 e1 e3
  have HT0 : Hid (∃ S A U, SyAt w w7 k 0 bk S ∧ Inv k S A U ∧ Bd S 0) := ⟨_, _, _, HS.out, HI.out, bd_zero⟩
  clear HS HI
  subst hbk
  go_upto_region 10 with fail
  go_wp2_with fail
  go_loopw [13] (fun iv wr => ∃ i : Nat, iv = .int .i64 (i : Int) ∧ Hid (∃ S A U, SyAt w wr k i ⟨G, B, T, Y, M, V, C⟩ S ∧ Inv k S A U ∧ Bd S i)) (fun iv _ => 150 - (intOf iv).toNat)
  case atStart => exact ⟨0, rfl, HT0.out⟩
  case round =>
    obtain ⟨i, rfl, hrel⟩ := hrel
    obtain ⟨S, A, W, hs, hinv, hbl⟩ := hrel.out
    have HS := Hid.mk9 hs
    have HI := Hid.mk9 hinv
    have HB := Hid.mk9 hbl
    clear HT0 hrel hs hinv hbl
    by_cases hend : i < len1 ∧ i < 150
    rotate_left
    · by_cases hi1 : i < len1
      · have i1 : (i : Int) < (len1 : Int) := by omega
        have i2 : decide ((i : Int) < 150) = false := decide_eq_false (by omega)
        clear hend hi1
        go_wp2_with (go_at_call 6; refine (awake_any _).mono ?_; rintro e w8 ⟨rfl, hb8⟩; have HB8 := Hid.mk9 (below2 HS.out.bel hb8); clear hb8)
        go_ret
        exact ⟨rfl, HB8.out⟩
      · have i1 : (len1 : Int) ≤ (i : Int) := by omega
        clear hend hi1
        go_wp2_with (go_at_call 6; refine (awake_any _).mono ?_; rintro e w8 ⟨rfl, hb8⟩; have HB8 := Hid.mk9 (below2 HS.out.bel hb8); clear hb8)
        go_ret
        exact ⟨rfl, HB8.out⟩
    have i1 : (i : Int) < (len1 : Int) := by omega
    have i2 : (i : Int) < 150 := by omega
    obtain ⟨b1, o1, rfl, d, who, to, sl, hc0, hc1, hc2, hc3⟩ := move_read HMv.out HS.out.bel (i := i) hend.1
    have HC0 := Hid.mk9 hc0
    clear hend hc0
    go_upto_region 12 with fail
    go_wp2_with fail
    refine agr_12 _ _ _ _ _ _ _ _ _ _ _ _ _ _ _ _ _ _ _ _ _ _ _ _ _ _ _ _ _ _ _ _ _ _ _ _ _ _ _ _ _ _ _ _ _ _ _ _ _ _ _ _ _ _ _ _ _ _ _ _ _ _ _ _ _ _ _ _ _ _ _ _ _ _ _ _ _ _ _ _ _ _ _ _ _ _ _ _ _ _ _ _ _ _ _ _ _ _ _ _ _ _ _ _ _ _ _ _ _ _ _ _ _ _ _ _ _ _ _ _ _ _ _ _ _ _ _ _ _ _ _ _ _ _ _ _ _ _ _ _ _ _ _ _ _ _ _ _ _ _ _ _ _ _ _ _ _ _ _ _ _ _ _ _ _ _ _ _ _ _ _ _ _ _ _ _ _ _ _ _ _ _ _ _ _ _ _ _ _ _ _ _ _ _ _ _ _ _ _ _ _ _ _ _ _ _ _ _ _ _ _ _ _ _ _ _ _ _ _ _ _ _ _ _ _ _ _ _ _ _ _ _ _ _ _ _ _ _ _ _ _ _ _ _ _ _ _ _ _ _ _ _ _ _ _ _ _ _ _ _ _ _ _ _ _ _ _ _ _ _ _ _ _ _ _ _ _ _ _ _ _ _ _ _ _ _ _ _ _ _ _ b1 o1 len1 cap1 i k who to sl _ _ i1 (by have := HK.out.1; omega) hc1 hc2 hc3 (fun u47 u48 u49 u50 u51 u52 u53 u54 u55 u56 u57 u58 u59 u60 u61 u62 u63 u64 u65 wC hbC => ?_)
    have hc0 := (hbC.cell (p := ⟨b1, o1 + i * 4, none⟩) (World.block_lt_of_cell? _ ⟨b1, o1 + i * 4, none⟩ HC0.out)).trans HC0.out
    replace HS := Hid.mk9 (HS.out.below hbC)
    clear hbC HC0 hc1 hc2 hc3
    rename_i hK9
    refine hK9 _ _ ?_
    by_cases n1 : who.tmod 3 < 0 ∨ to.tmod (k : Int) < 0 ∨ sl.tmod 3 < 0
    · refine round_neg _ _ _ _ _ _ _ _ _ _ _ _ _ _ _ _ _ _ _ _ _ _ _ _ _ _ _ _ _ _ _ _ _ _ _ _ _ _ _ _ _ _ _ _ _ _ _ _ _ _ _ _ _ _ _ _ _ _ _ _ _ _ _ _ _ _ _ _ _ _ _ _ _ _ _ _ _ _ _ _ _ _ _ _ _ _ _ _ _ _ _ _ _ _ _ _ _ _ _ _ _ _ _ _ _ _ _ _ _ _ _ _ _ _ _ _ _ _ _ _ _ _ _ _ _ _ _ _ _ _ _ _ _ _ _ _ _ _ _ _ _ _ _ _ _ _ _ _ _ _ _ _ _ _ _ _ _ _ _ _ _ _ _ _ _ _ _ _ _ _ _ _ _ _ _ _ _ _ _ _ _ _ _ _ _ _ _ _ _ _ _ _ _ _ _ _ _ _ _ _ _ _ _ _ _ _ _ _ _ _ _ _ _ _ _ _ _ _ _ _ _ _ _ _ _ _ _ _ _ _ _ _ _ _ _ _ _ _ _ _ _ _ _ _ _ _ _ _ _ _ _ _ _ _ _ _ _ _ _ _ _ _ _ _ _ _ _ _ _ _ _ _ _ _ _ _ _ _ _ _ _ w wC k i G B T Y M V C b1 o1 len1 cap1 (who.tmod 3) (to.tmod (k : Int)) (sl.tmod 3) S A W n1 HS HI HB _ (fun u17 u18 u19 u20 u21 u22 u23 u24 u66 u67 u68 u69 u70 u71 u72 u73 u74 u75 u76 u77 u78 u79 u80 u81 u82 u83 u84 u85 u86 u87 u88 u89 u90 u91 u92 u93 u94 u95 u96 u97 u98 u99 u100 u101 u102 u103 u104 u105 u106 u107 u108 u109 u110 u111 u112 u113 u114 u115 u116 u117 u118 u119 u120 u121 u122 u123 u124 u125 u126 u127 u128 u129 u130 u131 u132 u133 u134 u135 u136 u137 u138 u139 u140 u141 u142 u143 u144 u145 u146 u147 u148 u149 u150 u151 u152 u153 u154 u155 u156 u157 u158 u159 u160 u161 u162 u163 u164 u165 u166 u167 u168 u169 u170 u171 u172 u173 u174 u175 u176 u177 u178 u179 u180 u181 u182 u183 u184 u185 u186 u187 u188 u189 u190 u191 u192 u193 u194 u195 u196 u197 u198 u199 u200 u201 u202 u203 u204 u205 u206 u207 u208 u209 u210 u211 u212 u213 u214 u215 u216 u217 u218 u219 u220 u221 u222 u223 u224 u225 u226 u227 u228 u229 u230 u231 u232 u233 u234 u235 u236 u237 u238 u239 u240 u241 u242 u243 u244 u245 u246 u247 u248 u249 u250 u251 u252 u253 u254 u255 u256 u257 u258 u259 u260 u261 u262 u263 u264 u265 u266 u267 u268 u269 u270 u271 u272 u273 u274 u275 u276 u277 u278 u279 u280 u281 u282 u283 u284 u285 u286 u287 u288 u289 u290 u291 u292 wZ hZ => ?_)
      clear HS HI HB n1 hc0
      have HTf := Hid.mk9 hZ
      clear hZ
      go_wp2_with fail
      exact ⟨⟨i + 1, by go_num, HTf.out⟩, by simp [intOf]; omega⟩
    obtain ⟨p, hp⟩ : ∃ p : Nat, who.tmod 3 = (p : Int) := ⟨(who.tmod 3).toNat, by omega⟩
    have hp3 : p < 3 := by have := Int.tmod_lt_of_pos who (show (0 : Int) < 3 by decide); omega
    obtain ⟨q, hq⟩ : ∃ q : Nat, to.tmod (k : Int) = (q : Int) := ⟨(to.tmod (k : Int)).toNat, by omega⟩
    have hqk : q < k := by have := Int.tmod_lt_of_pos to (show (0 : Int) < (k : Int) by have := HK.out.1; omega); omega
    obtain ⟨s, hs⟩ : ∃ s : Nat, sl.tmod 3 = (s : Int) := ⟨(sl.tmod 3).toNat, by omega⟩
    have hs3 : s < 3 := by have := Int.tmod_lt_of_pos sl (show (0 : Int) < 3 by decide); omega
    rw [hp, hq, hs]
    have HP : Hid (p < 3 ∧ q < k ∧ s < 3) := ⟨hp3, hqk, hs3⟩
    clear n1 hp hq hs hp3 hqk hs3
    by_cases hd0 : d = 0
    · refine round_prep _ _ _ _ _ _ _ _ _ _ _ _ _ _ _ _ _ _ _ _ _ _ _ _ _ _ _ _ _ _ _ _ _ _ _ _ _ _ _ _ _ _ _ _ _ _ _ _ _ _ _ _ _ _ _ _ _ _ _ _ _ _ _ _ _ _ _ _ _ _ _ _ _ _ _ _ _ _ _ _ _ _ _ _ _ _ _ _ _ _ _ _ _ _ _ _ _ _ _ _ _ _ _ _ _ _ _ _ _ _ _ _ _ _ _ _ _ _ _ _ _ _ _ _ _ _ _ _ _ _ _ _ _ _ _ _ _ _ _ _ _ _ _ _ _ _ _ _ _ _ _ _ _ _ _ _ _ _ _ _ _ _ _ _ _ _ _ _ _ _ _ _ _ _ _ _ _ _ _ _ _ _ _ _ _ _ _ _ _ _ _ _ _ _ _ _ _ _ _ _ _ _ _ _ _ _ _ _ _ _ _ _ _ _ _ _ _ _ _ _ _ _ _ _ _ _ _ _ _ _ _ _ _ _ _ _ _ _ _ _ _ _ _ _ _ _ _ _ _ _ _ _ _ _ _ _ _ _ _ _ _ _ _ _ _ _ _ _ _ _ _ _ _ _ _ _ _ _ _ _ _ w wC k i G B T Y M V C b1 o1 len1 cap1 p q s d S A W hc0 HP hd0 HS HI HB e2 i1 i2 _ (fun u17 u18 u19 u20 u21 u22 u23 u24 u66 u67 u68 u69 u70 u71 u72 u73 u74 u75 u76 u77 u78 u79 u80 u81 u82 u83 u84 u85 u86 u87 u88 u89 u90 u91 u92 u93 u94 u95 u96 u97 u98 u99 u100 u101 u102 u103 u104 u105 u106 u107 u108 u109 u110 u111 u112 u113 u114 u115 u116 u117 u118 u119 u120 u121 u122 u123 u124 u125 u126 u127 u128 u129 u130 u131 u132 u133 u134 u135 u136 u137 u138 u139 u140 u141 u142 u143 u144 u145 u146 u147 u148 u149 u150 u151 u152 u153 u154 u155 u156 u157 u158 u159 u160 u161 u162 u163 u164 u165 u166 u167 u168 u169 u170 u171 u172 u173 u174 u175 u176 u177 u178 u179 u180 u181 u182 u183 u184 u185 u186 u187 u188 u189 u190 u191 u192 u193 u194 u195 u196 u197 u198 u199 u200 u201 u202 u203 u204 u205 u206 u207 u208 u209 u210 u211 u212 u213 u214 u215 u216 u217 u218 u219 u220 u221 u222 u223 u224 u225 u226 u227 u228 u229 u230 u231 u232 u233 u234 u235 u236 u237 u238 u239 u240 u241 u242 u243 u244 u245 u246 u247 u248 u249 u250 u251 u252 u253 u254 u255 u256 u257 u258 u259 u260 u261 u262 u263 u264 u265 u266 u267 u268 u269 u270 u271 u272 u273 u274 u275 u276 u277 u278 u279 u280 u281 u282 u283 u284 u285 u286 u287 u288 u289 u290 u291 u292 wZ hZ => ?_)
      clear HS HI HB hc0 hd0
      have HTf := Hid.mk9 hZ
      clear hZ
      go_wp2_with fail
      exact ⟨⟨i + 1, by go_num, HTf.out⟩, by simp [intOf]; omega⟩
    by_cases hd1 : d = 1
    · refine round_acc _ _ _ _ _ _ _ _ _ _ _ _ _ _ _ _ _ _ _ _ _ _ _ _ _ _ _ _ _ _ _ _ _ _ _ _ _ _ _ _ _ _ _ _ _ _ _ _ _ _ _ _ _ _ _ _ _ _ _ _ _ _ _ _ _ _ _ _ _ _ _ _ _ _ _ _ _ _ _ _ _ _ _ _ _ _ _ _ _ _ _ _ _ _ _ _ _ _ _ _ _ _ _ _ _ _ _ _ _ _ _ _ _ _ _ _ _ _ _ _ _ _ _ _ _ _ _ _ _ _ _ _ _ _ _ _ _ _ _ _ _ _ _ _ _ _ _ _ _ _ _ _ _ _ _ _ _ _ _ _ _ _ _ _ _ _ _ _ _ _ _ _ _ _ _ _ _ _ _ _ _ _ _ _ _ _ _ _ _ _ _ _ _ _ _ _ _ _ _ _ _ _ _ _ _ _ _ _ _ _ _ _ _ _ _ _ _ _ _ _ _ _ _ _ _ _ _ _ _ _ _ _ _ _ _ _ _ _ _ _ _ _ _ _ _ _ _ _ _ _ _ _ _ _ _ _ _ _ _ _ _ _ _ _ _ _ _ _ _ _ _ _ _ _ _ _ _ _ _ _ _ w wC k i G B T Y M V C b1 o1 len1 cap1 p q s d S A W hc0 HP hd0 hd1 HS HI HB e2 i1 i2 _ (fun u17 u18 u19 u20 u21 u22 u23 u24 u66 u67 u68 u69 u70 u71 u72 u73 u74 u75 u76 u77 u78 u79 u80 u81 u82 u83 u84 u85 u86 u87 u88 u89 u90 u91 u92 u93 u94 u95 u96 u97 u98 u99 u100 u101 u102 u103 u104 u105 u106 u107 u108 u109 u110 u111 u112 u113 u114 u115 u116 u117 u118 u119 u120 u121 u122 u123 u124 u125 u126 u127 u128 u129 u130 u131 u132 u133 u134 u135 u136 u137 u138 u139 u140 u141 u142 u143 u144 u145 u146 u147 u148 u149 u150 u151 u152 u153 u154 u155 u156 u157 u158 u159 u160 u161 u162 u163 u164 u165 u166 u167 u168 u169 u170 u171 u172 u173 u174 u175 u176 u177 u178 u179 u180 u181 u182 u183 u184 u185 u186 u187 u188 u189 u190 u191 u192 u193 u194 u195 u196 u197 u198 u199 u200 u201 u202 u203 u204 u205 u206 u207 u208 u209 u210 u211 u212 u213 u214 u215 u216 u217 u218 u219 u220 u221 u222 u223 u224 u225 u226 u227 u228 u229 u230 u231 u232 u233 u234 u235 u236 u237 u238 u239 u240 u241 u242 u243 u244 u245 u246 u247 u248 u249 u250 u251 u252 u253 u254 u255 u256 u257 u258 u259 u260 u261 u262 u263 u264 u265 u266 u267 u268 u269 u270 u271 u272 u273 u274 u275 u276 u277 u278 u279 u280 u281 u282 u283 u284 u285 u286 u287 u288 u289 u290 u291 u292 wZ hZ => ?_) (fun u17 u18 u19 u20 u21 u22 u23 u24 u66 u67 u68 u69 u70 u71 u72 u73 u74 u75 u76 u77 u78 u79 u80 u81 u82 u83 u84 u85 u86 u87 u88 u89 u90 u91 u92 u93 u94 u95 u96 u97 u98 u99 u100 u101 u102 u103 u104 u105 u106 u107 u108 u109 u110 u111 u112 u113 u114 u115 u116 u117 u118 u119 u120 u121 u122 u123 u124 u125 u126 u127 u128 u129 u130 u131 u132 u133 u134 u135 u136 u137 u138 u139 u140 u141 u142 u143 u144 u145 u146 u147 u148 u149 u150 u151 u152 u153 u154 u155 u156 u157 u158 u159 u160 u161 u162 u163 u164 u165 u166 u167 u168 u169 u170 u171 u172 u173 u174 u175 u176 u177 u178 u179 u180 u181 u182 u183 u184 u185 u186 u187 u188 u189 u190 u191 u192 u193 u194 u195 u196 u197 u198 u199 u200 u201 u202 u203 u204 u205 u206 u207 u208 u209 u210 u211 u212 u213 u214 u215 u216 u217 u218 u219 u220 u221 u222 u223 u224 u225 u226 u227 u228 u229 u230 u231 u232 u233 u234 u235 u236 u237 u238 u239 u240 u241 u242 u243 u244 u245 u246 u247 u248 u249 u250 u251 u252 u253 u254 u255 u256 u257 u258 u259 u260 u261 u262 u263 u264 u265 u266 u267 u268 u269 u270 u271 u272 u273 u274 u275 u276 u277 u278 u279 u280 u281 u282 u283 u284 u285 u286 u287 u288 u289 u290 u291 u292 wZ hZ => ?_)
      · clear HS HI HB hc0 hd0 hd1
        have HTf := Hid.mk9 hZ
        clear hZ
        go_wp2_with fail
        exact ⟨⟨i + 1, by go_num, HTf.out⟩, by simp [intOf]; omega⟩
      · clear HS HI HB hc0 hd0 hd1
        have HTf := Hid.mk9 hZ
        clear hZ
        go_wp2_with fail
        exact ⟨⟨i + 1, by go_num, HTf.out⟩, by simp [intOf]; omega⟩
    refine round_anew _ _ _ _ _ _ _ _ _ _ _ _ _ _ _ _ _ _ _ _ _ _ _ _ _ _ _ _ _ _ _ _ _ _ _ _ _ _ _ _ _ _ _ _ _ _ _ _ _ _ _ _ _ _ _ _ _ _ _ _ _ _ _ _ _ _ _ _ _ _ _ _ _ _ _ _ _ _ _ _ _ _ _ _ _ _ _ _ _ _ _ _ _ _ _ _ _ _ _ _ _ _ _ _ _ _ _ _ _ _ _ _ _ _ _ _ _ _ _ _ _ _ _ _ _ _ _ _ _ _ _ _ _ _ _ _ _ _ _ _ _ _ _ _ _ _ _ _ _ _ _ _ _ _ _ _ _ _ _ _ _ _ _ _ _ _ _ _ _ _ _ _ _ _ _ _ _ _ _ _ _ _ _ _ _ _ _ _ _ _ _ _ _ _ _ _ _ _ _ _ _ _ _ _ _ _ _ _ _ _ _ _ _ _ _ _ _ _ _ _ _ _ _ _ _ _ _ _ _ _ _ _ _ _ _ _ _ _ _ _ _ _ _ _ _ _ _ _ _ _ _ _ _ _ _ _ _ _ _ _ _ _ _ _ _ _ _ _ _ _ _ _ _ _ _ _ _ _ _ _ _ w wC k i G B T Y M V C b1 o1 len1 cap1 p q s d S A W hc0 HP hd0 hd1 HS HI HB e2 i1 i2 _ (fun u17 u18 u19 u20 u21 u22 u23 u24 u66 u67 u68 u69 u70 u71 u72 u73 u74 u75 u76 u77 u78 u79 u80 u81 u82 u83 u84 u85 u86 u87 u88 u89 u90 u91 u92 u93 u94 u95 u96 u97 u98 u99 u100 u101 u102 u103 u104 u105 u106 u107 u108 u109 u110 u111 u112 u113 u114 u115 u116 u117 u118 u119 u120 u121 u122 u123 u124 u125 u126 u127 u128 u129 u130 u131 u132 u133 u134 u135 u136 u137 u138 u139 u140 u141 u142 u143 u144 u145 u146 u147 u148 u149 u150 u151 u152 u153 u154 u155 u156 u157 u158 u159 u160 u161 u162 u163 u164 u165 u166 u167 u168 u169 u170 u171 u172 u173 u174 u175 u176 u177 u178 u179 u180 u181 u182 u183 u184 u185 u186 u187 u188 u189 u190 u191 u192 u193 u194 u195 u196 u197 u198 u199 u200 u201 u202 u203 u204 u205 u206 u207 u208 u209 u210 u211 u212 u213 u214 u215 u216 u217 u218 u219 u220 u221 u222 u223 u224 u225 u226 u227 u228 u229 u230 u231 u232 u233 u234 u235 u236 u237 u238 u239 u240 u241 u242 u243 u244 u245 u246 u247 u248 u249 u250 u251 u252 u253 u254 u255 u256 u257 u258 u259 u260 u261 u262 u263 u264 u265 u266 u267 u268 u269 u270 u271 u272 u273 u274 u275 u276 u277 u278 u279 u280 u281 u282 u283 u284 u285 u286 u287 u288 u289 u290 u291 u292 wZ hZ => ?_)
    clear HS HI HB hc0 hd0 hd1
    have HTf := Hid.mk9 hZ
    clear hZ
    go_wp2_with fail
    exact ⟨⟨i + 1, by go_num, HTf.out⟩, by simp [intOf]; omega⟩
end Go.Proofs.Ytejhmacbbdnlbaa.Ac
