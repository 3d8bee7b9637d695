/-
  The law DrawCosts: any choice's cost for any key, and its share.
-/
import Derived.Test.YtbconflmjdpolaaT
namespace Go.Proofs.Ytbconflmjdpolaa
open Go.ChangeShapes Go.WideShapes Go.ChangeAt Go.RowKit
theorem may_nil : MayC [] := ⟨by simp, fun i hi => by simp at hi⟩
set_option maxHeartbeats 1000000 in
set_option maxRecDepth 60000 in
theorem drawCosts_any (key : Nat) (id : Int) (a : Option Addr) (len cap : Nat) (ls : List Ch) (w : World) (hkey : key < 18446744073709551616) (h : ChsAt w a len cap ls) :
    Calls Try.prog 4 #[.int .u64 (key : Int), .int .i64 id, .slice a len cap] w fun e w' => TruePost w e w' := by
  have hB0 : Below w.heap.size w w := Below.refl _ _
  have HA : Hid (∀ W, Below w.heap.size w W → Calls Try.prog 7 #[] W fun e w' => e = .returned (.bool true) ∧ Below w.heap.size w w') := awake_from
  by_cases h80 : (80 : Int) < (len : Int)
  · clear h hkey
    go_enter Try.func4, Try.ntmps4
    go_wp2_with (go_at_call 7; refine (HA.out _ (by assumption)).mono ?_; rintro e w2 ⟨rfl, hb2⟩)
    go_ret
    exact ⟨rfl, hb2⟩
  have HC1 : Hid (∀ W, Below w.heap.size w W → Calls Try.prog 16 #[.int .u64 (key : Int), .int .i64 id] W fun e w' => e = .returned (.int .i64 (costOf key id)) ∧ Below w.heap.size w w') := fun W hW => (cost5_any key id W hkey).mono fun _ _ ⟨he, hg⟩ => ⟨he, below2 hW (grown_below hg)⟩
  have HC2 : Hid (∀ W, Below w.heap.size w W → Calls Try.prog 17 #[.int .u64 (key : Int), .int .i64 id] W fun e w' => e = .returned (.int .i64 (costOf key id)) ∧ Below w.heap.size w w') := fun W hW => (refCost5_any key id W hkey).mono fun _ _ ⟨he, hg⟩ => ⟨he, below2 hW (grown_below hg)⟩
  generalize costOf key id = p at *
  have hl : ls.length = len := h.1
  by_cases hM : MayC ls
  · have HS : Hid (Calls Try.prog 15 #[.slice a len cap, .int .i64 id] w fun e w' => SharePost (ownS ls id) (allS ls id) w e w') := share_yes a len cap ls id w h hM
    have h64 : (len : Int) ≤ 64 := by have := hM.1; omega
    have HF : Hid (FitC ls) := may_fit hM
    have HL : Hid (ChsAt w a len cap ls) := h
    have HMAY : Hid (∀ W, Below w.heap.size w W → Calls Try.prog 11 #[.slice a len cap] W fun e w' => e = .returned (.bool true) ∧ Below w.heap.size w w') := refMay_yes h hM
    clear h hM hkey
    go_enter Try.func4, Try.ntmps4
    go_wp2_with (go_at_call 15; refine HS.out.mono ?_; rintro e w2 ⟨hb2, rfl⟩)
    clear HS
    generalize hown : ownS ls id = ro at *
    generalize hall : allS ls id = ra at *
    have HOWN : Hid (ownS ls id = ro) := hown
    have HALL : Hid (allS ls id = ra) := hall
    clear hown hall
    go_loopw [9, 10, 11, 12] (fun s1 s2 s3 i wr => ∃ (k : Nat) (x y : Int) (f : Bool), k ≤ len ∧ s1 = .int .i64 x ∧ s2 = .int .i64 y ∧ s3 = .bool f ∧ i = .int .i64 k ∧ Hid (ShareIs ls id k x y f) ∧ (0 ≤ y ∧ y ≤ 65536 * k) ∧ Below w.heap.size w wr) (fun _ _ _ i _ => len - (intOf i).toNat)
    case atStart => exact ⟨0, 0, 0, false, Nat.zero_le _, rfl, rfl, rfl, rfl, share_start ls id, by omega, hb2⟩
    case round =>
      obtain ⟨k, x, y, f, hk, rfl, rfl, rfl, rfl, hT, ⟨hy0, hy1⟩, hbel⟩ := hrel
      by_cases hlt : k < len
      · have hk1 : (k : Int) < (len : Int) := by omega
        have hk0 : (0 : Int) ≤ (k : Int) := by omega
        have hc2 := HF.out.at (i := k) (by omega)
        have HIT : Hid (∀ c1 c2, ls.getD k ch0 = (c1, c2) → c1 = id → ShareIs ls id (k + 1) c2 (y + c2) true) := fun c1 c2 hc he => share_hit hT.out (by omega) hc he
        have MISS : Hid (∀ c1 c2, ls.getD k ch0 = (c1, c2) → ¬ c1 = id → ShareIs ls id (k + 1) x (y + c2) f) := fun c1 c2 hc he => share_miss hT.out (by omega) hc he
        clear hT
        go_wp2_with fail
        refine (HMAY.out _ hbel).mono ?_
        rintro e w3 ⟨rfl, hb3⟩
        obtain ⟨b, off, rfl, hbs, hcell⟩ := (HL.out.below hb3).some (by omega)
        obtain ⟨e0, e1⟩ := hcell k hlt
        generalize ls.getD k ch0 = q at *
        obtain ⟨c1, c2⟩ := q
        simp only at hc2
        clear hcell
        have hs1 : wrap64 (y + c2) = y + c2 := by unfold wrap64; omega
        have hs2 : 0 ≤ y + c2 ∧ y + c2 ≤ 65536 * ((k + 1 : Nat) : Int) := by omega
        by_cases hc : c1 = id
        · have HY : Hid (ShareIs ls id (k + 1) c2 (y + c2) true) := HIT.out c1 c2 rfl hc
          clear HIT MISS
          subst hc
          go_wp2_with fail
          exact ⟨⟨k + 1, c2, y + c2, true, by omega, rfl, by first | rfl | go_num, rfl, by go_num, HY, hs2, hb3⟩, by simp [intOf]; omega⟩
        · have HY : Hid (ShareIs ls id (k + 1) x (y + c2) f) := MISS.out c1 c2 rfl hc
          have hd : (c1 == id) = false := beq_eq_false_iff_ne.2 hc
          clear HIT MISS
          go_wp2_with fail
          exact ⟨⟨k + 1, x, y + c2, f, by omega, rfl, by first | rfl | go_num, rfl, by go_num, HY, hs2, hb3⟩, by simp [intOf]; omega⟩
      · have hE := share_end hT.out (by omega)
        rw [HOWN.out, HALL.out] at hE
        have hkl : ¬ (k : Int) < (len : Int) := by omega
        clear hT
        cases f with
        | true =>
          obtain ⟨rfl, rfl⟩ := hE.1 rfl
          clear hE
          go_wp2_with (first
            | (go_at_call 16; refine (HC1.out _ (by assumption)).mono ?_; rintro e w3 ⟨rfl, hb3⟩)
            | (go_at_call 17; refine (HC2.out _ (by assumption)).mono ?_; rintro e w4 ⟨rfl, hb4⟩)
            | (go_at_call 7; refine (HA.out _ (by assumption)).mono ?_; rintro e w5 ⟨rfl, hb5⟩))
          go_ret
          exact ⟨rfl, by assumption⟩
        | false =>
          obtain ⟨rfl, rfl⟩ := hE.2 rfl
          clear hE
          go_wp2_with (first
            | (go_at_call 16; refine (HC1.out _ (by assumption)).mono ?_; rintro e w3 ⟨rfl, hb3⟩)
            | (go_at_call 17; refine (HC2.out _ (by assumption)).mono ?_; rintro e w4 ⟨rfl, hb4⟩)
            | (go_at_call 7; refine (HA.out _ (by assumption)).mono ?_; rintro e w5 ⟨rfl, hb5⟩))
          go_ret
          exact ⟨rfl, by assumption⟩
  · have HS : Hid (Calls Try.prog 15 #[.slice a len cap, .int .i64 id] w fun e w' => SharePost 0 0 w e w') := share_no a len cap ls id w h hM
    have HMAY : Hid (∀ W, Below w.heap.size w W → Calls Try.prog 11 #[.slice a len cap] W fun e w' => e = .returned (.bool false) ∧ Below w.heap.size w w') := refMay_no h hM
    have h0 : (0 : Int) < (len : Int) := by
      cases ls with
      | nil => exact absurd may_nil hM
      | cons c s => rw [← hl]; simp
    clear h hM hkey
    go_enter Try.func4, Try.ntmps4
    go_wp2_with (go_at_call 15; refine HS.out.mono ?_; rintro e w2 ⟨hb2, rfl⟩)
    clear HS
    refine wp_loop_rounds 1 ?_
    rw [rounds_succ]
    go_wp2_with (first
      | (go_at_call 11; refine (HMAY.out _ (by assumption)).mono ?_; rintro e w3 ⟨rfl, hb3⟩)
      | (go_at_call 16; refine (HC1.out _ (by assumption)).mono ?_; rintro e w3 ⟨rfl, hb3⟩)
      | (go_at_call 17; refine (HC2.out _ (by assumption)).mono ?_; rintro e w4 ⟨rfl, hb4⟩)
      | (go_at_call 7; refine (HA.out _ (by assumption)).mono ?_; rintro e w5 ⟨rfl, hb5⟩))
    go_ret
    exact ⟨rfl, by assumption⟩
end Go.Proofs.Ytbconflmjdpolaa
