/-
  A head's sector; Sync.
-/
import Derived.Test.YtmkmogkhkmlnkaaJnB
import Derived.Test.YtmkmogkhkmlnkaaDmJ
namespace Go.Proofs.Ytmkmogkhkmlnkaa.Dm
open Go.ChangeShapes Go.WideShapes Go.ChangeAt Go.RowKit
/-- a head's frame, and its sector -/
def headF (g e : Nat) : List UInt8 := Fr.frD ([7, (g : Int), (e : Int)], [])
def headL (g e : Nat) : List UInt8 := fillL (headF g e)
theorem count_small (x : Nat) (h : (x : Int) ≤ 2147483647) : (Fr.countL (Fr.numberN (x : Int))).length ≤ 5 := by
  refine Fr.countL_le 4 _ ?_
  unfold Fr.numberN
  rw [if_pos (by omega)]
  omega
theorem headB_length (g e : Nat) (hg : (g : Int) ≤ 2147483647) (he : (e : Int) ≤ 2147483647) : (Fr.bytesL [7, (g : Int), (e : Int)] []).length ≤ 13 := by
  have h1 := count_small g hg
  have h2 := count_small e he
  have h7 : (Fr.countL (Fr.numberN 7)).length = 1 := by rw [show Fr.numberN 7 = 14 from rfl, Fr.countL_small _ (by decide)]; rfl
  have h3 : (Fr.countL 3).length = 1 := by rw [Fr.countL_small _ (by decide)]; rfl
  have h0 : (Fr.countL 0).length = 1 := by rw [Fr.countL_small _ (by decide)]; rfl
  simp only [Fr.bytesL, Fr.numsL_cons, Fr.numsL_nil, Fr.textsL_nil, List.length_append, List.length_cons, List.length_nil, h7, h3, h0]
  omega
theorem headF_length (g e : Nat) (hg : (g : Int) ≤ 2147483647) (he : (e : Int) ≤ 2147483647) : 0 < (headF g e).length ∧ (headF g e).length ≤ 64 := by
  refine ⟨Fr.frD_pos _, ?_⟩
  have h := headB_length g e hg he
  unfold headF Fr.frD Fr.frameL
  have h2 := Fr.countL_le 0 (Fr.bytesL [7, (g : Int), (e : Int)] []).length (by omega)
  simp only [List.length_append, Fr.fourL_length]
  omega
theorem secs_one {m : Nat} (h0 : 0 < m) (h : m ≤ 64) : secs m = 1 := by unfold secs; omega
theorem headL_length (g e : Nat) (hg : (g : Int) ≤ 2147483647) (he : (e : Int) ≤ 2147483647) : (headL g e).length = 64 := by
  obtain ⟨h0, h1⟩ := headF_length g e hg he
  unfold headL
  rw [fillL_length, secs_one h0 h1]
/-- bytes of one's own, new -/
def NewB (l : List UInt8) (N : Nat) (w w' : World) (e : Ending) : Prop := ∃ b, e = .returned (.slice (some ⟨b, 0, none⟩) N N) ∧ w.heap.size ≤ b ∧ w'.heap[b]? = some (.cells (cellsB l).toArray 5 (0, 0)) ∧ Below w.heap.size w w'
set_option maxHeartbeats 2000000 in
theorem headOf_any (g e : Nat) (hg : (g : Int) ≤ 2147483647) (he : (e : Int) ≤ 2147483647) (w : World) :
    Calls Try.prog 30 #[.int .i64 (g : Int), .int .i64 (e : Int)] w fun en w' => NewB (headL g e) 64 w w' en := by
  obtain ⟨h0, h1⟩ := headF_length g e hg he
  have hb1 := below_alloc w (.cells #[.int .i64 7, .int .i64 (g : Int), .int .i64 (e : Int)] 3)
  have hd : Fr.DataAt (w.alloc (.cells #[.int .i64 7, .int .i64 (g : Int), .int .i64 (e : Int)] 3)) (.agg #[.slice (some ⟨w.heap.size, 0, none⟩) 3 3, .slice none 0 0]) [7, (g : Int), (e : Int)] [] := by
    refine ⟨_, _, _, _, _, _, rfl, ⟨rfl, Nat.le_refl _, by decide, .inr ⟨_, _, rfl, fun i hi => ?_⟩⟩, Fr.rowAt_nil _, ?_, by simp⟩
    · rw [Nat.zero_add, cell_of_heap (heap_alloc_new w _)]
      simp [Fr.cellsI]
    · intro x hx
      simp at hx
      unfold Fr.Is64
      rcases hx with rfl | rfl | rfl <;> omega
  have HF : Calls Try.prog 24 #[.agg #[.slice (some ⟨w.heap.size, 0, none⟩) 3 3, .slice none 0 0]] (w.alloc (.cells #[.int .i64 7, .int .i64 (g : Int), .int .i64 (e : Int)] 3)) fun en w' => ∃ a cap, en = .returned (.tuple #[.slice a (headF g e).length cap, .int .i64 0]) ∧ Hid (Fr.RowAt w' a (headF g e).length cap (Fr.cellsB (headF g e)) ∧ Below w.heap.size w w') := by
    refine (Fr.frame_any _ _ _ _ hd _ rfl).mono ?_
    rintro en w2 ⟨hb2, ⟨v2, rfl, hown2, -⟩ | ⟨-, hgt⟩⟩
    · obtain ⟨a, cap, rfl, hr, -⟩ := Fr.RowAt.of_own hown2
      exact ⟨a, cap, rfl, hr, below2 hb1 hb2⟩
    · have := headB_length g e hg he
      omega
  have HS : Hid (secs (headF g e).length = 1) := secs_one h0 h1
  have HL : Hid (headL g e = fillL (headF g e)) := rfl
  clear hd hb1
  generalize headL g e = X at *
  generalize headF g e = Y at *
  go_enter Try.func30, Try.ntmps30
  go_wp2_with (first | (go_at_call 24; refine HF.mono ?_; rintro en w2 ⟨a, cap, rfl, HR⟩) | (go_at_call 44; refine (filled_any _ _ _ _ _ HR.out.1 (by omega)).mono ?_; rintro en w3 ⟨b, rfl, hg3, hl3, hb3⟩))
  go_ret
  refine ⟨b, ?_, Nat.le_trans HR.out.2.size hg3, by rw [HL.out]; exact hl3, below2 HR.out.2 hb3⟩
  show Ending.returned (.slice _ (64 * secs Y.length) (64 * secs Y.length)) = _
  rw [HS.out]
def syncJ (n : Nat) (D : Dm) (J : Jr) : Dm := syncD (writesN (syncD D) (hN n J.second) (headL J.age J.fr.length) 1)
theorem syncD_pend (D : Dm) : (syncD D).pend.length ≤ D.pend.length := by
  unfold syncD keepD
  split
  · exact Nat.le_refl _
  · exact Nat.zero_le _
theorem hN_lt (n : Nat) (h8 : 8 ≤ (n : Int)) (b : Bool) : hN n b + 1 ≤ n := by
  unfold hN
  split <;> omega
set_option maxHeartbeats 4000000 in
theorem sync_j {B j a s k n : Nat} {D : Dm} {pv : Value} {J : Jr} {fv : Value} (w : World) (h : JW B j a s k n D pv J fv w) (h8 : 8 ≤ (n : Int)) (hg : (J.age : Int) ≤ 2147483647) (he : (J.fr.length : Int) ≤ 2147483647) (hp : (D.pend.length : Int) ≤ 90000) :
    Calls Try.prog 11 #[.pointer (some ⟨j, 0, none⟩)] w fun e w' => e = .returned (.tuple #[]) ∧ JPost B j a s k n (syncJ n D J) J w w' := by
  have HG := given_any w h.r
  have HS1 := sync_any w h.d
  have c0 := h.r.c0
  have hp1 := syncD_pend D
  have HH : Hid (JW B j a s k n D pv J fv w) := h
  clear h
  go_enter Try.func11, Try.ntmps11
  go_upto_region 2 with (first | (go_at_call 23; refine HG.mono ?_; rintro e w1 ⟨rfl, rfl⟩) | (go_at_call 27; refine HS1.mono ?_; rintro e w2 ⟨rfl, hP2⟩))
  obtain ⟨⟨pv2, hD2⟩, hb2, hk2⟩ := hP2
  have hJ2 := HH.out.kd hD2 hk2
  have HP2 : Hid (JPost B j a s k n (syncD D) J w1 w2) := HH.out.post ⟨⟨pv2, hD2⟩, hb2, hk2⟩
  obtain ⟨fa, fc, rfl, -, -⟩ := Fr.RowAt.of_own hJ2.r.own
  have HC : Hid (∀ w', JrAt B j a J (.slice fa J.fr.length fc) w' → w'.cell? ⟨j, 0, none⟩ = some (.pointer (some ⟨a, 0, none⟩)) ∧ w'.cell? ⟨j, 2, none⟩ = some (.int .i64 (J.age : Int)) ∧ w'.cell? ⟨j, 3, none⟩ = some (.slice fa J.fr.length fc)) := fun w' hj => ⟨hj.c0, hj.c2, hj.c3⟩
  have HK : Hid (∀ w', Below w2.heap.size w2 w' → w'.cell? ⟨j, 0, none⟩ = some (.pointer (some ⟨a, 0, none⟩)) ∧ w'.cell? ⟨j, 2, none⟩ = some (.int .i64 (J.age : Int)) ∧ w'.cell? ⟨j, 3, none⟩ = some (.slice fa J.fr.length fc)) := fun w' hb => HC.out _ (hJ2.below hb).r
  have H1 : Hid (∀ w', Below w2.heap.size w2 w' → Calls Try.prog 29 #[.pointer (some ⟨j, 0, none⟩)] w' fun e w'' => e = .returned (.int .i64 (hN n J.second : Nat)) ∧ Below w'.heap.size w' w'') := fun w' hb => jHeadAt_any w' (hJ2.below hb)
  have H2 : Hid (∀ w', Calls Try.prog 30 #[.int .i64 (J.age : Int), .int .i64 (J.fr.length : Int)] w' fun en w'' => NewB (headL J.age J.fr.length) 64 w' w'' en) := headOf_any _ _ hg he
  have H3 : Hid (∀ w' b, Below w2.heap.size w2 w' → w2.heap.size ≤ b → w'.heap[b]? = some (.cells (cellsB (headL J.age J.fr.length)).toArray 5 (0, 0)) → Calls Try.prog 28 #[.pointer (some ⟨a, 0, none⟩), .int .i64 (hN n J.second : Nat), .slice (some ⟨b, 0, none⟩) 64 64] w' fun e w'' => e = .returned (.int .i64 0) ∧ Hid (∃ pv', JW B j a s k n (writesN (syncD D) (hN n J.second) (headL J.age J.fr.length) 1) pv' J (.slice fa J.fr.length fc) w'' ∧ JPost B j a s k n (writesN (syncD D) (hN n J.second) (headL J.age J.fr.length) 1) J w2 w'')) := fun w' b hb hb2 hl => by
    refine (write_any w' (hJ2.below hb).d (hN n J.second) 1 b 0 64 _ (hN_lt n h8 _) (by decide) (headL_length _ _ hg he) (by decide) (by decide) (page_src hJ2.d hb2 hl) (by omega)).mono ?_
    rintro e w'' ⟨rfl, hP⟩
    obtain ⟨⟨pv', hD'⟩, hb', hk'⟩ := hP
    have hJ' := hJ2.below hb
    have q := hJ'.post ⟨⟨pv', hD'⟩, hb', hk'⟩
    exact ⟨rfl, pv', hJ'.kd hD' hk', q.1, (below_low hb hJ2.d.low).trans q.2.1, (Kj.below hb).trans q.2.2⟩
  have HSY : Hid (syncJ n D J = syncD (writesN (syncD D) (hN n J.second) (headL J.age J.fr.length) 1)) := rfl
  clear hD2 hb2 hk2 hJ2 c0 hp1
  generalize writesN (syncD D) (hN n J.second) (headL J.age J.fr.length) 1 = D3 at *
  generalize headL J.age J.fr.length = X at *
  generalize hN n J.second = q at *
  go_region_held3 (fun w' => w'.cell? ⟨j, 0, none⟩ = some (.pointer (some ⟨a, 0, none⟩)) ∧ w'.cell? ⟨j, 2, none⟩ = some (.int .i64 (J.age : Int)) ∧ w'.cell? ⟨j, 3, none⟩ = some (.slice fa J.fr.length fc))
    (first | exact HK.out _ (below_drew _) | exact HC.out _ HN.r | exact HK.out _ (below2 (below_drew _) (by assumption)) | exact HK.out _ (below2 (below_drew _) (below2 (by assumption) (by assumption))))
    ((first
      | (go_at_call 29; refine (H1.out _ (by first | exact below_drew _ | exact below2 (below_drew _) hb7)).mono ?_; rintro en w6 ⟨rfl, hb6⟩)
      | (go_at_call 30; refine (H2.out _).mono ?_; rintro en w7 ⟨b, rfl, hg7, hl7, hb7⟩)
      | (go_at_call 28; refine (H3.out _ b (by first | exact below2 (below_drew _) (below2 hb6 hb7) | exact below2 (below_drew _) (below2 hb7 hb6)) (by first | exact Nat.le_trans (below2 (below_drew _) hb6).size hg7 | exact hg7) (by first | exact hl7 | exact (hb6.block b (Array.getElem?_eq_some_iff.1 hl7).1).trans hl7)).mono ?_; rintro en w8 ⟨rfl, HP8⟩; obtain ⟨pv8, HN, HJ8⟩ := HP8.out)))
  all_goals
    clear hb6 hb7 hl7 hg7 H1 H2 H3
    have HS3 := sync_any w8 HN.d
    have HN8 : Hid (JW B j a s k n D3 pv8 J (.slice fa J.fr.length fc) w8) := HN
    have HJ9 : Hid (JPost B j a s k n D3 J w1 w8) := HP2.out.trans HJ8
    have c0 := HN.r.c0
    clear HN HJ8 HP2
    go_wp2_with (go_at_call 27; refine HS3.mono ?_; rintro e w9 ⟨rfl, hP9⟩)
    first | go_end0 | refine bodyPost_ret (results_none rfl _ _ _) rfl ?_
    rw [HSY.out]
    exact ⟨rfl, HJ9.out.trans (HN8.out.post hP9)⟩
end Go.Proofs.Ytmkmogkhkmlnkaa.Dm
