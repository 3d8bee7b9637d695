/-
  readHead: the age that a half's head tells, and how many bytes its frames have.
-/
import Derived.Test.YtmkmogkhkmlnkaaJnJ
namespace Go.Proofs.Ytmkmogkhkmlnkaa.Dm
open Go.ChangeShapes Go.WideShapes Go.ChangeAt Go.RowKit
/-- a sector that is a head -/
def HeadIs (n : Nat) (l : List UInt8) (g e : Nat) : Prop := l = headL g e ∧ 1 ≤ g ∧ (g : Int) ≤ 2147483647 ∧ e ≤ roomN n
def NoHd (n : Nat) (l : List UInt8) : Prop := ∀ g e, ¬ HeadIs n l g e
def RhPost (n : Nat) (l : List UInt8) (w w' : World) (en : Ending) : Prop := Below w.heap.size w w' ∧ ((∃ g e : Nat, en = .returned (.tuple #[.int .i64 (g : Int), .int .i64 (e : Int), .bool true]) ∧ HeadIs n l g e) ∨ (en = .returned (.tuple #[.int .i64 0, .int .i64 0, .bool false]) ∧ NoHd n l))
theorem roomN_le {n : Nat} (hn : n ≤ 8192) : ((roomN n : Nat) : Int) ≤ 262144 := by unfold roomN; omega
theorem head_ok (g e : Nat) (hg : (g : Int) ≤ 2147483647) (he : (e : Int) ≤ 2147483647) : Fr.OkD ([7, (g : Int), (e : Int)], []) := by
  refine ⟨⟨fun x hx => ?_, by simp⟩, Nat.le_trans (headB_length g e hg he) (by decide)⟩
  simp at hx
  unfold Fr.Is64
  rcases hx with rfl | rfl | rfl <;> omega
theorem head_free {n : Nat} {l r : List UInt8} {d : Fr.Dat} {g e : Nat} (hl : l = Fr.frD d ++ r) (h : HeadIs n l g e) : d = ([7, (g : Int), (e : Int)], []) ∧ ∀ b ∈ r, b = 0 := by
  have h1 := h.1
  rw [hl] at h1
  unfold headL fillL headF at h1
  obtain ⟨h2, h3⟩ := Fr.frD_free h1
  refine ⟨h2, fun b hb => ?_⟩
  rw [h3] at hb
  exact List.eq_of_mem_replicate hb
theorem noHd_frame {n : Nat} (hn : n ≤ 8192) {l : List UInt8} (h : Fr.NoFrame l) : NoHd n l := fun g e hh => by
  have he := roomN_le hn
  have h2 := hh.2.2.2
  refine h ([7, (g : Int), (e : Int)], []) _ (head_ok g e hh.2.2.1 (by omega)) hh.1
theorem head_is {n : Nat} {l r : List UInt8} {g e : Nat} (hl : l = Fr.frD ([7, (g : Int), (e : Int)], []) ++ r) (h64 : l.length = 64) (hr : ∀ b ∈ r, b = 0) (h1 : 1 ≤ g) (h2 : (g : Int) ≤ 2147483647) (h3 : e ≤ roomN n) (hn : n ≤ 8192) : HeadIs n l g e := by
  have he := roomN_le hn
  obtain ⟨p0, p1⟩ := headF_length g e h2 (by omega)
  refine ⟨?_, h1, h2, h3⟩
  rw [hl]
  unfold headL fillL
  rw [secs_one p0 p1]
  unfold headF at p0 p1 ⊢
  congr 1
  refine List.eq_replicate_iff.2 ⟨?_, hr⟩
  rw [hl, List.length_append] at h64
  omega
set_option maxHeartbeats 8000000 in
set_option maxRecDepth 60000 in
theorem readHead_any {B a s k n : Nat} {D : Dm} {pv : Value} (w : World) (h : DmAt B a s k n D pv w) (h8 : 8 ≤ (n : Int)) (b : Bool) (l : List UInt8) (hl : sec D.seen (hN n b) = l) :
    Calls Try.prog 36 #[.pointer (some ⟨a, 0, none⟩), .bool b] w fun e w' => RhPost n l w w' e := by
  have hn := h.ok.n1
  have hfit := hN_lt n h8 b
  have hlen : l.length = 64 := by rw [← hl]; exact sec_length _ _ (by rw [h.ok.seen]; omega)
  have HH := hAt_any w h b
  have HR := read_any w h (hN n b) 1 hfit (by decide) l (by rw [Nat.mul_one]; exact hl)
  have HRB : Hid (∀ w', Below w.heap.size w w' → Calls Try.prog 33 #[.pointer (some ⟨a, 0, none⟩)] w' fun e w'' => e = .returned (.int .i64 (roomN n : Nat)) ∧ w'' = w') := fun w' hb => rowBytes_any w' (h.below hb) h8
  have HLN : Hid (l.length = 64) := hlen
  have HN : Hid (n ≤ 8192) := hn
  clear h hl hfit
  rw [show ((1 : Nat) : Int) = 1 from rfl] at HR
  unfold RdPost at HR
  rw [hlen] at HR
  clear hlen hn
  generalize hN n b = q at *
  go_enter Try.func36, Try.ntmps36
  go_upto_region 2 with (first | (go_at_call 48; refine HH.mono ?_; rintro en w1 ⟨rfl, rfl⟩) | (go_at_call 37; refine HR.mono ?_; rintro en w2 ⟨g2, rfl, hg2, hl2, hb2⟩))
  have HRW : Hid (∀ w', Below w2.heap.size w2 w' → Fr.RowAt w' (some ⟨g2, 0, none⟩) 64 64 (Fr.cellsB l)) := fun w' hb => by
    refine Fr.RowAt.below (w := w2) ⟨by rw [Fr.cellsB_length]; exact HLN.out, Nat.le_refl _, by decide, .inr ⟨g2, 0, rfl, fun i hi => ?_⟩⟩ hb
    rw [Nat.zero_add, cell_of_heap hl2]
    simp
    rfl
  have HB2 : Hid (Below w1.heap.size w1 w2) := hb2
  clear hl2 hb2 hg2
  go_upto_region 3 with (go_at_call 49; refine (Fr.first2_any _ _ _ _ _ (HRW.out _ (Below.refl _ _))).mono ?_; rintro en w3 ⟨hb3, v3, s3, c3, rfl, hF, hfr, -⟩; obtain ⟨x1, m1, k1, x2, m2, k2, rfl, -, -⟩ := hfr)
  have hb4 := below_alloc w3 (.cells #[.slice x1 m1 k1, .slice x2 m2 k2] 38)
  have hx4 := heap_alloc_new w3 (.cells #[.slice x1 m1 k1, .slice x2 m2 k2] 38)
  generalize w3.alloc (.cells #[.slice x1 m1 k1, .slice x2 m2 k2] 38) = w4 at *
  have b0 : w4.cell? ⟨w3.heap.size, 0, none⟩ = some (.slice x1 m1 k1) := by rw [cell_of_heap hx4]; rfl
  have b1 : w4.cell? ⟨w3.heap.size, 1, none⟩ = some (.slice x2 m2 k2) := by rw [cell_of_heap hx4]; rfl
  have HB4 : Hid (Below w1.heap.size w1 w4) := below2 HB2.out (below2 hb3 hb4)
  have HNO : Hid (∀ w', Below w4.heap.size w4 w' → NoHd n l → RhPost n l w1 w' (.returned (.tuple #[.int .i64 0, .int .i64 0, .bool false]))) := fun w' hb hno => ⟨below2 HB4.out hb, .inr ⟨rfl, hno⟩⟩
  rcases Fr.first_iff hF with ⟨rfl, d, r, hd1, hd2, hd3, hd4⟩ | ⟨hc, hno⟩
  · have hd5 := hd1.below hb4
    obtain ⟨y1, p1, q1, y2, p2, q2, ey, hr1, hr2, -, -⟩ := hd5
    simp at ey
    obtain ⟨⟨rfl, rfl, rfl⟩, rfl, rfl, rfl⟩ := ey
    have hm1 : d.1.length = m1 := by have := hr1.1; rwa [Fr.cellsI_length] at this
    have hm2 : d.2.length = m2 := by have := hr2.1; rwa [Fr.cellsT_length] at this
    have hs3 : s3 ≤ 64 := by
      have := congrArg List.length hd3
      rw [List.length_append, HLN.out] at this
      omega
    obtain ⟨a', hif, hrow⟩ := Fr.slice_from (some ⟨g2, 0, none⟩) 64 64 l s3 hs3
    have hdrop : l.drop s3 = r := by rw [hd3, hd4, List.drop_left]
    have HZ : Calls Try.prog 52 #[.slice a' (64 - s3) (64 - s3)] w4 fun e w' => ZPost r w4 w' e := by
      have := noughts_any _ _ _ _ w4 (hrow w4 (HRW.out w4 (below2 hb3 hb4)))
      rwa [hdrop] at this
    have HFREE : Hid (∀ g e, HeadIs n l g e → d = ([7, (g : Int), (e : Int)], []) ∧ ∀ b ∈ r, b = 0) := fun g e hh => head_free hd3 hh
    have HD3 : Hid (l = Fr.frD d ++ r) := hd3
    have HR1 : Hid (Fr.RowAt w4 x1 m1 k1 (Fr.cellsI d.1)) := hr1
    have hx1 : (s3 : Int) ≤ 64 := by omega
    have hs64 : (0 : Int) ≤ (s3 : Int) := by omega
    simp only [Option.map_some, addr_add, Nat.zero_add] at hif
    clear hF hd1 hd2 hd3 hd4 hr1 hr2 hrow hdrop hb3 hb4 hx4
    by_cases hz : ∀ b ∈ r, b = 0
    · have HZ1 : Calls Try.prog 52 #[.slice a' (64 - s3) (64 - s3)] w4 fun e w' => e = .returned (.bool true) ∧ w' = w4 := by
        refine HZ.mono ?_
        rintro e w' ⟨rfl, q, rfl, hq⟩
        rw [hq.2 hz]
        exact ⟨rfl, rfl⟩
      have HZR : Hid (∀ b ∈ r, b = 0) := hz
      clear HZ hz
      by_cases h2 : m2 = 0
      · by_cases h3 : m1 = 3
        · obtain ⟨a0, a1, a2, hd⟩ : ∃ a0 a1 a2, d.1 = [a0, a1, a2] := by
            rw [h3] at hm1
            match hq : d.1, hm1 with
            | [a0, a1, a2], _ => exact ⟨a0, a1, a2, rfl⟩
          obtain ⟨bn, on, rfl, hcell⟩ := HR1.out.some (by omega)
          rw [hd] at hcell
          have n0 : w4.cell? ⟨bn, on, none⟩ = some (.int .i64 a0) := by have := hcell 0 (by omega); rw [Nat.add_zero] at this; exact this
          have n1 : w4.cell? ⟨bn, on + 1, none⟩ = some (.int .i64 a1) := by have := hcell 1 (by omega); exact this
          have n2 : w4.cell? ⟨bn, on + 2, none⟩ = some (.int .i64 a2) := by have := hcell 2 (by omega); exact this
          have HDE : Hid (d = ([a0, a1, a2], [])) := Prod.ext hd (List.length_eq_zero_iff.1 (by omega))
          subst h2 h3
          clear hcell hd hm1 hm2 HR1
          have hbn : bn < w4.heap.size := World.block_lt_of_cell? w4 ⟨bn, on, none⟩ n0
          by_cases h7 : a0 = 7
          · subst h7
            have HRB4 : Hid (∀ w', Below w4.heap.size w4 w' → Calls Try.prog 33 #[.pointer (some ⟨a, 0, none⟩)] w' fun e w'' => e = .returned (.int .i64 (roomN n : Nat)) ∧ w'' = w') := fun w' hb => HRB.out _ (below2 HB4.out hb)
            have HFR2 : Hid (∀ g e, HeadIs n l g e → a1 = (g : Int) ∧ a2 = (e : Int)) := fun g e hh => by
              have := (HFREE.out g e hh).1
              rw [HDE.out] at this
              simp at this
              exact this
            go_upto_region 7 with (go_at_call 52; refine HZ1.mono ?_; rintro en w5 ⟨rfl, rfl⟩)
            go_quiet (fail)
            have hq7 : ∀ m, Below w5.heap.size w5 (w5.drewN m) := fun m => ⟨rfl, rfl, rfl, Nat.le_refl _, fun _ _ => rfl⟩
            generalize hw7 : World.drewN w5 _ = w7
            have hb7 : Below w5.heap.size w5 w7 := by rw [← hw7]; exact hq7 _
            clear hw7 hq7
            have HY : Hid (∀ g e : Nat, a1 = (g : Int) → a2 = (e : Int) → 1 ≤ g → (g : Int) ≤ 2147483647 → e ≤ roomN n → HeadIs n l g e) := fun g e h1 h2 h3 h4 h5 => by
              have hdd := HD3.out
              rw [HDE.out, h1, h2] at hdd
              exact head_is hdd HLN.out HZR.out h3 h4 h5 HN.out
            have hrn := roomN_le HN.out
            have HRB5 := HRB4.out w7 hb7
            clear HFREE HDE HZR HD3 HRB HRB4 HZ1 n0 n1 n2 b0 b1 HRW
            by_cases g1 : a1 < 1
            · have HOUT : Hid (RhPost n l w1 w7 (.returned (.tuple #[.int .i64 0, .int .i64 0, .bool false]))) := HNO.out _ hb7 fun g e hh => by
                obtain ⟨q1, q2⟩ := HFR2.out g e hh
                obtain ⟨-, q3, q4, q5⟩ := hh
                omega
              clear HNO HFR2 HY
              go_wp2
              go_returns
              exact HOUT.out
            · by_cases g2' : 2147483647 < a1
              · have HOUT : Hid (RhPost n l w1 w7 (.returned (.tuple #[.int .i64 0, .int .i64 0, .bool false]))) := HNO.out _ hb7 fun g e hh => by
                  obtain ⟨q1, q2⟩ := HFR2.out g e hh
                  obtain ⟨-, q3, q4, q5⟩ := hh
                  omega
                clear HNO HFR2 HY
                go_wp2
                go_returns
                exact HOUT.out
              · by_cases g3' : a2 < 0
                · have HOUT : Hid (RhPost n l w1 w7 (.returned (.tuple #[.int .i64 0, .int .i64 0, .bool false]))) := HNO.out _ hb7 fun g e hh => by
                    obtain ⟨q1, q2⟩ := HFR2.out g e hh
                    omega
                  clear HNO HFR2 HY
                  go_wp2
                  go_returns
                  exact HOUT.out
                · by_cases g4' : ((roomN n : Nat) : Int) < a2
                  · have HOUT : Hid (RhPost n l w1 w7 (.returned (.tuple #[.int .i64 0, .int .i64 0, .bool false]))) := HNO.out _ hb7 fun g e hh => by
                      obtain ⟨q1, q2⟩ := HFR2.out g e hh
                      obtain ⟨-, q3, q4, q5⟩ := hh
                      omega
                    clear HNO HFR2 HY hrn
                    generalize roomN n = rm at *
                    go_wp2_with (go_at_call 33; refine HRB5.mono ?_; rintro en w6 ⟨rfl, rfl⟩)
                    go_returns
                    exact HOUT.out
                  · obtain ⟨g, rfl⟩ : ∃ g : Nat, a1 = (g : Int) := ⟨a1.toNat, by omega⟩
                    obtain ⟨e, rfl⟩ : ∃ e : Nat, a2 = (e : Int) := ⟨a2.toNat, by omega⟩
                    have HOUT : Hid (RhPost n l w1 w7 (.returned (.tuple #[.int .i64 (g : Int), .int .i64 (e : Int), .bool true]))) := ⟨below2 HB4.out hb7, .inl ⟨g, e, rfl, HY.out g e rfl rfl (by omega) (by omega) (by omega)⟩⟩
                    clear HNO HFR2 HY hrn
                    generalize roomN n = rm at *
                    go_wp2_with (go_at_call 33; refine HRB5.mono ?_; rintro en w6 ⟨rfl, rfl⟩)
                    go_returns
                    exact HOUT.out
          · have h7b : (a0 != 7) = true := by simpa using h7
            have HOUT : Hid (RhPost n l w1 w4 (.returned (.tuple #[.int .i64 0, .int .i64 0, .bool false]))) := HNO.out _ (Below.refl _ _) fun g e hh => h7 (by
              have := (HFREE.out g e hh).1
              rw [HDE.out] at this
              simp at this
              exact this.1)
            clear HNO HFREE HDE HZR HD3 h7
            go_wp2_with (go_at_call 52; refine HZ1.mono ?_; rintro en w5 ⟨rfl, rfl⟩)
            go_returns
            exact HOUT.out
        · have h3b : ((m1 : Int) != 3) = true := by simp; omega
          have HOUT : Hid (RhPost n l w1 w4 (.returned (.tuple #[.int .i64 0, .int .i64 0, .bool false]))) := HNO.out _ (Below.refl _ _) fun g e hh => h3 (by
            have := (HFREE.out g e hh).1
            rw [← hm1, this]; rfl)
          subst h2
          clear HNO HFREE HZR HD3 HR1 hm1 hm2
          go_wp2_with (go_at_call 52; refine HZ1.mono ?_; rintro en w5 ⟨rfl, rfl⟩)
          go_returns
          exact HOUT.out
      · have h2b : ((m2 : Int) != 0) = true := by simp; omega
        have HOUT : Hid (RhPost n l w1 w4 (.returned (.tuple #[.int .i64 0, .int .i64 0, .bool false]))) := HNO.out _ (Below.refl _ _) fun g e hh => h2 (by
          have := (HFREE.out g e hh).1
          rw [← hm2, this]; rfl)
        clear HNO HFREE HZR HD3 HR1 hm1 hm2
        go_wp2_with (go_at_call 52; refine HZ1.mono ?_; rintro en w5 ⟨rfl, rfl⟩)
        go_returns
        exact HOUT.out
    · have HZ1 : Calls Try.prog 52 #[.slice a' (64 - s3) (64 - s3)] w4 fun e w' => e = .returned (.bool false) ∧ w' = w4 := by
        refine HZ.mono ?_
        rintro e w' ⟨rfl, q, rfl, hq⟩
        cases q
        · exact ⟨rfl, rfl⟩
        · exact absurd (hq.1 rfl) hz
      have HOUT : Hid (RhPost n l w1 w4 (.returned (.tuple #[.int .i64 0, .int .i64 0, .bool false]))) := HNO.out _ (Below.refl _ _) fun g e hh => hz (HFREE.out g e hh).2
      clear HNO HFREE HZ hz HD3 HR1 hm1 hm2
      go_wp2_with (go_at_call 52; refine HZ1.mono ?_; rintro en w5 ⟨rfl, rfl⟩)
      go_returns
      exact HOUT.out
  · have hc2 : ((c3 : Int) != 0) = true := by simp; omega
    have HOUT : Hid (RhPost n l w1 w4 (.returned (.tuple #[.int .i64 0, .int .i64 0, .bool false]))) := HNO.out _ (Below.refl _ _) (noHd_frame HN.out hno)
    clear hF hno hc HNO HB4 hb3 hb4 hx4
    go_wp2
    go_returns
    exact HOUT.out
end Go.Proofs.Ytmkmogkhkmlnkaa.Dm
