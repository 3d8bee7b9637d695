/-
  The contract of MixPieces: at every seed, text and pair of numbers it returns true, and writes nothing that was there.
-/
import Derived.Test.YtijnoibpebmdbaaW
import Derived.WalkKit
import Derived.WalkSpells
import Derived.ProofKit
import Derived.OpenShut
import Derived.Below
import Derived.Laws.IdiomStrings
import Derived.Deep.QuietTactic
import Derived.BigQuiet
import Derived.Deep.RegionHeld3
import Derived.Deep.RegionWith
namespace Go.Proofs.Ytijnoibpebmdbaa
open Go.ChangeShapes Go.WideShapes Go.ChangeAt Go.RowKit

set_option maxHeartbeats 2000000 in
theorem mixPieces_any (x : Nat) (s : ByteArray) (a b : Nat) (w : World) (hx : x < 18446744073709551616) (ha : a < 18446744073709551616) (hb : b < 18446744073709551616) (hm : s.size ≤ maxLen) :
    Calls Try.prog 6 #[.int .u64 (x : Int), .string s, .agg #[.int .u64 (a : Int), .int .u64 (b : Int)]] w fun e w' => e = .returned (.bool true) ∧ Below w.heap.size w w' := by
  have hm' := hm
  unfold maxLen at hm'
  by_cases h3 : 3000 < s.size
  · go_enter Try.func6, Try.ntmps6
    go_wp2_with (go_at_call 11; refine (awake_any _).mono ?_; rintro e w' ⟨rfl, rfl⟩)
    go_ret
    exact ⟨rfl, (Below.refl _ _).alloc (Nat.le_refl _) _⟩
  · obtain ⟨i0, hi, hz0, hz1, hz2⟩ := info_parts info22
    go_enter Try.func6, Try.ntmps6
    go_wp2_with fail
    refine (pieces_any _ _ (by omega)).mono ?_
    rintro e w1 ⟨v, rfl, hown, hb1⟩
    obtain ⟨g, cap, rfl, hg, hg2, hn⟩ := nums_of_own hown (by omega) (by unfold maxLen; omega) (piecesN_lt _ _ (by simp; omega))
    have c0 : w1.cell? ⟨w.heap.size, 0, none⟩ = some (.int .u64 (a : Int)) := (hb1.cell (by simp)).trans (by simp)
    have c1 : w1.cell? ⟨w.heap.size, 1, none⟩ = some (.int .u64 (b : Int)) := (hb1.cell (by simp)).trans (by simp)
    have B1 : Below w.heap.size w w1 := ((Below.refl _ _).alloc (Nat.le_refl _) _).trans (hb1.mono (by simp))
    have hL := piecesN_length s.data.toList ((s.size + 7) / 8)
    have hLb := piecesN_lt s.data.toList ((s.size + 7) / 8) (by simp; omega)
    have hN : (s.size + 7) / 8 + 1 ≤ 400 := by omega
    have hcs := hown.cells (g := g) rfl
    have hs1 : w.heap.size < g := by simp at hg; omega
    clear hb1 hown hg
    generalize piecesN s.data.toList ((s.size + 7) / 8) = L at *
    generalize (s.size + 7) / 8 = J at *
    go_wp2_with (at_builtin; refine wpList_append_own _ rfl (.tmp 18) (.tmp 19) 26 rfl w1.heap.size 22 i0 (.int .u64 0) 1 8 Try.underlying26 hi hz0 hz1 hz2 rfl (by decide) _ 0 [] rfl (World.ownsRow_lit (base := w1.heap.size) (e := 22) (size := 1) w1 #[] 0 (Nat.le_refl _) (by unfold maxLen; omega) rfl) ⟨g, 0, none⟩ (J + 1) cap (cellsN L) rfl (by simp [cellsN]; omega) ?hnews ?h1 (by unfold maxLen; omega) (by omega) (by simp) ?_)
    case hnews =>
      intro j u hj
      rw [addr_add]
      rw [((Below.refl w1.heap.size w1).alloc (Nat.le_refl _) (.cells #[] 22)).cell (p := ⟨g, 0 + j, none⟩) hg2, ← addr_add]
      exact hcs j u hj
    case h1 =>
      intro u hu
      simp only [cellsN, List.mem_map] at hu
      obtain ⟨n, _, rfl⟩ := hu
      rfl
    intro v' w2 hown2 hgrow _
    obtain ⟨g2, cap2, rfl, hg3, hg4, hn2⟩ := nums_of_own hown2 (by omega) (by unfold maxLen; omega) hLb
    have B2 : Below w1.heap.size w1 w2 := ((Below.refl _ _).alloc (Nat.le_refl _) _).grown hgrow (by simp) (by intro k hk; simp [Value.ownBlock] at hk; omega)
    have hw : w.heap.size < w1.heap.size := by omega
    have d0 : w2.cell? ⟨w.heap.size, 0, none⟩ = some (.int .u64 (a : Int)) := (B2.cell (p := ⟨w.heap.size, 0, none⟩) hw).trans c0
    have d1 : w2.cell? ⟨w.heap.size, 1, none⟩ = some (.int .u64 (b : Int)) := (B2.cell (p := ⟨w.heap.size, 1, none⟩) hw).trans c1
    have hk : a % (J + 1) < J + 1 := Nat.mod_lt _ (by omega)
    have HO : Hid (w2.ownsRow w1.heap.size 22 1 (Value.slice (some { block := g2, off := 0 }) (J + 1) cap2) (J + 1) (cellsN L)) := hown2
    have f0 : w2.frozen? ⟨g2, a % (J + 1), none⟩ = false := hown2.frozenAt _
    have d2 : w2.cell? ⟨g2, a % (J + 1), none⟩ = some (.int .u64 ((L.getD (a % (J + 1)) 0 : Nat) : Int)) := by
      rw [hown2.cellAt _ (by omega)]
      simp [cellsN, hL, hk]
    clear hown2 hgrow hcs
    have wk : (a : Int) % ((J : Int) + 1) = ((a % (J + 1) : Nat) : Int) := (Int.natCast_emod a (J + 1)).symm
    generalize a % (J + 1) = k at *
    go_wp2_with fail
    have hst := HO.out.stored k (.int .u64 (b : Int))
    have e2 : NumsAt (w2.setCell ⟨g2, k, none⟩ (.int .u64 (b : Int))) (some ⟨g2, 0, none⟩) (J + 1) (L.set k b) := nums_at_own (by rw [cellsN_set]; exact hst.1) (by unfold maxLen; omega) (set_lt hLb hb)
    have B3 : Below w1.heap.size w1 (w2.setCell ⟨g2, k, none⟩ (.int .u64 (b : Int))) := B2.setCell (p := ⟨g2, k, none⟩) hg3 _
    clear d0 d1 d2 f0 hn2 HO B2 hst
    generalize w2.setCell ⟨g2, k, none⟩ (.int .u64 (b : Int)) = w3 at *
    have e1 := numsAt_below hn B3 hg2
    have e3 := numsAt_cell e2 k (by omega)
    have e4 := numsAt_cell e1 k (by omega)
    have e5 : w3.cell? ⟨w.heap.size, 0, none⟩ = some (.int .u64 (a : Int)) := (B3.cell (p := ⟨w.heap.size, 0, none⟩) hw).trans c0
    have e6 : w3.cell? ⟨w.heap.size, 1, none⟩ = some (.int .u64 (b : Int)) := (B3.cell (p := ⟨w.heap.size, 1, none⟩) hw).trans c1
    have e7 : Below w.heap.size w w3 := B1.trans (B3.mono (by omega))
    have e8 : w.heap.size < w3.heap.size := by have := B3.size; omega
    have hset : (L.set k b).getD k 0 = b := by simp [hL, hk]
    rw [hset] at e3
    have hfs := foldN_set x L hLb k b (by omega) hb
    rw [show L[k]'(by omega) = L.getD k 0 from by simp [hL, hk]] at hfs
    clear B3 B1 hn c0 c1 hg2 hg3 hg4 hset
    have H1 : Hid (NumsAt w3 (some ⟨g, 0, none⟩) (J + 1) L) := e1
    clear e1
    have hes : b = L.getD k 0 → L.set k b = L := by intro h; rw [h]; exact set_self L k (by omega)
    have HES : Hid (b = L.getD k 0 → L.set k b = L) := hes
    clear hes
    generalize L.getD k 0 = c at *
    by_cases hbk : b = c
    focus
      have es : L.set k b = L := HES.out hbk
      rw [es] at e2
      have H2 : Hid (NumsAt w3 (some ⟨g2, 0, none⟩) (J + 1) L) := e2
      rw [← hbk] at e4
      clear e2 hfs es hbk HES
      go_quiet (first | (go_at_call_of 12 g; exact Calls.quiet_of_same (fold_any _ _ _ _ L _ hx (numsAt_drewN H1.out _))) | (go_at_call_of 12 g2; exact Calls.quiet_of_same (fold_any _ _ _ _ L _ hx (numsAt_drewN H2.out _))))
    rotate_left
    focus
      have hF : ¬ foldN x (L.set k b) = foldN x L := fun h => hbk (hfs.1 h)
      have H2 : Hid (NumsAt w3 (some ⟨g2, 0, none⟩) (J + 1) (L.set k b)) := e2
      clear e2 hfs HES
      have hbF : (((foldN x L : Nat) : Int) == ((foldN x (L.set k b) : Nat) : Int)) = false := by simp; omega
      have hbc : ((b : Int) == (c : Int)) = false := by simp; omega
      clear hF hbk
      go_quiet (first | (go_at_call_of 12 g; exact Calls.quiet_of_same (fold_any _ _ _ _ L _ hx (numsAt_drewN H1.out _))) | (go_at_call_of 12 g2; exact Calls.quiet_of_same (fold_any _ _ _ _ (L.set k b) _ hx (numsAt_drewN H2.out _))))
    all_goals
      have r5 : (w3.drewN nq).cell? ⟨w.heap.size, 0, none⟩ = some (.int .u64 (a : Int)) := e5
      have r6 : (w3.drewN nq).cell? ⟨w.heap.size, 1, none⟩ = some (.int .u64 (b : Int)) := e6
      have r7 : Below w.heap.size w (w3.drewN nq) := e7.trans ⟨rfl, rfl, rfl, Nat.le_refl _, fun _ _ => rfl⟩
      have r8 : w.heap.size < (w3.drewN nq).heap.size := e8
      clear e3 e4 e5 e6 e7 e8 H1 H2 wk hi hz0 hz1 hz2 hLb hL
      generalize w3.drewN nq = w4 at *
      by_cases hz : s.size = 0
      · go_wp2_with (go_at_call 11; refine (awake_any _).mono ?_; rintro e w' ⟨rfl, rfl⟩)
        go_ret
        exact ⟨rfl, r7⟩
      · have hz' : ((s.size : Int) == 0) = false := beq_eq_false_iff_ne.2 (by omega)
        have hi : a % s.size < s.size := Nat.mod_lt _ (by omega)
        have wi : (a : Int) % (s.size : Int) = ((a % s.size : Nat) : Int) := (Int.natCast_emod a s.size).symm
        obtain ⟨wb, capb, hconv, Bb, hsb, hcb⟩ := bytes_conv w4 s
        have r9 : wb.cell? ⟨w.heap.size, 1, none⟩ = some (.int .u64 (b : Int)) := (Bb.cell (p := ⟨w.heap.size, 1, none⟩) r8).trans r6
        have r10 := (hcb _ hi).1
        have r11 := (hcb _ hi).2
        have HCB : Hid (∀ j, j < s.size → wb.cell? ⟨w4.heap.size, j, none⟩ = some (.int .u8 ((s.data.toList.getD j 0).toNat : Int)) ∧ wb.frozen? ⟨w4.heap.size, j, none⟩ = false) := hcb
        clear hcb
        generalize a % s.size = i at *
        have wb8 : (b : Int) % 256 = ((b % 256 : Nat) : Int) := (Int.natCast_emod b 256).symm
        have hb8 : b % 256 < 256 := Nat.mod_lt _ (by decide)
        generalize b % 256 = nb at *
        go_wp2_with fail
        obtain ⟨s', q, hs', hB1, hB2, HS⟩ := bytes_set x s i nb w4.heap.size capb wb hi hb8 hm HCB.out
        have Bf : Below w.heap.size w (wb.setCell ⟨w4.heap.size, i, none⟩ (.int .u8 (nb : Int))) := (r7.trans (Bb.mono (by omega))).setCell (p := ⟨w4.heap.size, i, none⟩) (by show w.heap.size ≤ w4.heap.size; omega) _
        have hi0 : (0 : Int) ≤ (i : Int) := Int.natCast_nonneg _
        have hi1 : (i : Int) < (s.size : Int) := by omega
        have hH : Hid (∀ w', Below (w4.heap.size + 1) (wb.setCell ⟨w4.heap.size, i, none⟩ (.int .u8 (nb : Int))) w' → w'.cell? ⟨w4.heap.size, i, none⟩ = some (.int .u8 (nb : Int)) ∧ (convert 34 9 (.slice (some ⟨w4.heap.size, 0, none⟩) s.size capb)).run Try.prog w' = .ok (.string s') w' ∧ Below (w4.heap.size + 1) (wb.setCell ⟨w4.heap.size, i, none⟩ (.int .u8 (nb : Int))) w') := fun w' h => ⟨(HS w' h).1, (HS w' h).2, h⟩
        have Bs : w4.heap.size + 1 ≤ (wb.setCell ⟨w4.heap.size, i, none⟩ (.int .u8 (nb : Int))).heap.size := by simp; omega
        have r8' : w.heap.size < w4.heap.size := r8
        clear HS HCB r9 r10 r11 r5 r6 r7 r8 Bb hsb hconv wi wb8
        generalize wb.setCell ⟨w4.heap.size, i, none⟩ (.int .u8 (nb : Int)) = w5 at *
        generalize w4.heap.size = n4 at *
        go_region_held3 (fun w' => w'.cell? ⟨n4, i, none⟩ = some (.int .u8 (nb : Int)) ∧ (convert 34 9 (.slice (some ⟨n4, 0, none⟩) s.size capb)).run Try.prog w' = .ok (.string s') w' ∧ Below (n4 + 1) w5 w')
          (first | exact hH.out _ (Below.refl _ _).drew | (go_split_ands; exact hH.out _ (by assumption)) | (go_split_ands; exact hH.out _ (below_step Bs (by assumption) (by assumption))))
          (first
            | (go_at_call 14; refine (text_any _ _ _ hx ?_).mono ?_; (first | exact hm | exact hs'); rintro e w'' ⟨rfl, hbT⟩)
            | (go_at_call 11; refine (awake_any _).mono ?_; rintro e w' ⟨rfl, rfl⟩))
        all_goals go_wp2
        all_goals go_ret
        all_goals go_split_ands
        all_goals exact ⟨rfl, Bf.trans (Below.mono (by assumption) (by omega))⟩
end Go.Proofs.Ytijnoibpebmdbaa
