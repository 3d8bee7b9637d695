/-
  The contract of Share, and the law DrawCosts.
-/
import Derived.Test.YtbconflmjdpolaaS
namespace Go.Proofs.Ytbconflmjdpolaa
open Go.ChangeShapes Go.WideShapes Go.ChangeAt Go.RowKit
/-- what all weigh -/
def allW (l : List Ch) : Int := l.foldl (fun s c => s + c.2) 0
def foundX (id : Int) (l : List Ch) : Bool := l.any fun c => decide (c.1 = id)
theorem allW_take {ls : List Ch} {k : Nat} (h : k < ls.length) : allW (ls.take (k + 1)) = allW (ls.take k) + (ls.getD k ch0).2 := by
  rw [List.take_succ_eq_append_getElem h, getD_get h]
  unfold allW
  rw [List.foldl_append, List.foldl_cons, List.foldl_nil]
theorem was_take {ls : List Ch} {k : Nat} (x : Ch) (h : k < ls.length) : wasX x (ls.take (k + 1)) = if (ls.getD k ch0).1 = x.1 then (ls.getD k ch0).2 else wasX x (ls.take k) := by
  rw [List.take_succ_eq_append_getElem h, getD_get h, wasX_snoc]
theorem found_take {ls : List Ch} {k : Nat} (id : Int) (h : k < ls.length) : foundX id (ls.take (k + 1)) = (foundX id (ls.take k) || decide ((ls.getD k ch0).1 = id)) := by
  rw [List.take_succ_eq_append_getElem h, getD_get h]
  unfold foundX
  rw [List.any_append]
  simp only [List.any_cons, List.any_nil, Bool.or_false]
/-- own weight, that of all, and whether it is one: of the first k -/
def ShareIs (ls : List Ch) (id : Int) (k : Nat) (x y : Int) (f : Bool) : Prop := x = wasX (id, 0) (ls.take k) ∧ y = allW (ls.take k) ∧ f = foundX id (ls.take k)
theorem share_start (ls : List Ch) (id : Int) : ShareIs ls id 0 0 0 false := ⟨rfl, rfl, rfl⟩
theorem share_hit {ls : List Ch} {id : Int} {k : Nat} {x y : Int} {f : Bool} {c1 c2 : Int} (h : ShareIs ls id k x y f) (hk : k < ls.length) (hc : ls.getD k ch0 = (c1, c2)) (he : c1 = id) : ShareIs ls id (k + 1) c2 (y + c2) true := by
  obtain ⟨h1, h2, h3⟩ := h
  refine ⟨?_, ?_, ?_⟩
  · rw [was_take _ hk, hc]; simp [he]
  · rw [allW_take hk, hc, h2]
  · rw [found_take _ hk, hc]; simp [he]
theorem share_miss {ls : List Ch} {id : Int} {k : Nat} {x y : Int} {f : Bool} {c1 c2 : Int} (h : ShareIs ls id k x y f) (hk : k < ls.length) (hc : ls.getD k ch0 = (c1, c2)) (he : ¬ c1 = id) : ShareIs ls id (k + 1) x (y + c2) f := by
  obtain ⟨h1, h2, h3⟩ := h
  refine ⟨?_, ?_, ?_⟩
  · rw [was_take _ hk, hc, h1]; simp [he]
  · rw [allW_take hk, hc, h2]
  · rw [found_take _ hk, hc, h3]; simp [he]
def ownS (ls : List Ch) (id : Int) : Int := if foundX id ls then wasX (id, 0) ls else 0
def allS (ls : List Ch) (id : Int) : Int := if foundX id ls then allW ls else 0
theorem share_end {ls : List Ch} {id : Int} {k : Nat} {x y : Int} {f : Bool} (h : ShareIs ls id k x y f) (hk : ls.length ≤ k) : (f = true → x = ownS ls id ∧ y = allS ls id) ∧ (f = false → 0 = ownS ls id ∧ 0 = allS ls id) := by
  obtain ⟨h1, h2, h3⟩ := h
  rw [List.take_of_length_le hk] at h1 h2 h3
  unfold ownS allS
  refine ⟨fun hf => ?_, fun hf => ?_⟩
  · rw [hf] at h3
    rw [if_pos h3.symm, if_pos h3.symm]
    exact ⟨h1, h2⟩
  · rw [hf] at h3
    rw [if_neg (by rw [← h3]; simp), if_neg (by rw [← h3]; simp)]
    exact ⟨rfl, rfl⟩
def SharePost (x y : Int) (w : World) (e : Ending) (w' : World) : Prop := Below w.heap.size w w' ∧ e = .returned (.tuple #[.int .i64 x, .int .i64 y])
set_option maxHeartbeats 1000000 in
set_option maxRecDepth 60000 in
theorem share_no (a : Option Addr) (len cap : Nat) (ls : List Ch) (id : Int) (w : World) (h : ChsAt w a len cap ls) (hM : ¬ MayC ls) :
    Calls Try.prog 15 #[.slice a len cap, .int .i64 id] w fun e w' => SharePost 0 0 w e w' := by
  have HC : Hid (Calls Try.prog 10 #[.slice a len cap] w fun e w' => e = .returned (.int .i64 1) ∧ Below w.heap.size w w') := check_no h hM w (Below.refl _ _)
  clear h hM
  go_enter Try.func15, Try.ntmps15
  go_wp2_with (go_at_call 10; refine HC.out.mono ?_; rintro e w2 ⟨rfl, hb2⟩)
  go_returns
  exact ⟨hb2, rfl⟩
set_option maxHeartbeats 1000000 in
set_option maxRecDepth 60000 in
theorem share_yes (a : Option Addr) (len cap : Nat) (ls : List Ch) (id : Int) (w : World) (h : ChsAt w a len cap ls) (hM : MayC ls) :
    Calls Try.prog 15 #[.slice a len cap, .int .i64 id] w fun e w' => SharePost (ownS ls id) (allS ls id) w e w' := by
  have HC : Hid (Calls Try.prog 10 #[.slice a len cap] w fun e w' => e = .returned (.int .i64 0) ∧ Below w.heap.size w w') := check_yes h hM w (Below.refl _ _)
  have hl : ls.length = len := h.1
  have h64 : (len : Int) ≤ 64 := by have := hM.1; omega
  have HF : Hid (FitC ls) := may_fit hM
  have HL : Hid (ChsAt w a len cap ls) := h
  clear h hM
  go_enter Try.func15, Try.ntmps15
  go_wp2_with fail
  refine HC.out.mono ?_
  rintro e w2 ⟨rfl, hb2⟩
  clear HC
  go_wp2_with fail
  go_loopw [6, 7, 8, 16] (fun s1 s2 s3 i wr => ∃ (k : Nat) (x y : Int) (f : Bool), k ≤ len ∧ s1 = .int .i64 x ∧ s2 = .int .i64 y ∧ s3 = .bool f ∧ i = .int .i64 k ∧ Hid (ShareIs ls id k x y f) ∧ (0 ≤ y ∧ y ≤ 65536 * k) ∧ Below w.heap.size w wr) (fun _ _ _ i _ => len - (intOf i).toNat)
  case atStart => exact ⟨0, 0, 0, false, Nat.zero_le _, rfl, rfl, rfl, rfl, share_start ls id, by omega, hb2⟩
  case round =>
    obtain ⟨k, x, y, f, hk, rfl, rfl, rfl, rfl, hT, ⟨hy0, hy1⟩, hbel⟩ := hrel
    by_cases hlt : k < len
    · obtain ⟨b, off, rfl, hbs, hcell⟩ := (HL.out.below hbel).some (by omega)
      obtain ⟨e0, e1⟩ := hcell k hlt
      have hk1 : (k : Int) < (len : Int) := by omega
      have hk0 : (0 : Int) ≤ (k : Int) := by omega
      have hc2 := HF.out.at (i := k) (by omega)
      have HIT : Hid (∀ c1 c2, ls.getD k ch0 = (c1, c2) → c1 = id → ShareIs ls id (k + 1) c2 (y + c2) true) := fun c1 c2 hc he => share_hit hT.out (by omega) hc he
      have MISS : Hid (∀ c1 c2, ls.getD k ch0 = (c1, c2) → ¬ c1 = id → ShareIs ls id (k + 1) x (y + c2) f) := fun c1 c2 hc he => share_miss hT.out (by omega) hc he
      generalize ls.getD k ch0 = p at *
      obtain ⟨c1, c2⟩ := p
      simp only at hc2
      clear hcell hT
      have hb5 : Below w.heap.size w (wr.alloc (.cells #[.int .i64 c1, .int .i64 c2] 37)) := below2 hbel (below_alloc _ _)
      have hs1 : wrap64 (y + c2) = y + c2 := by unfold wrap64; omega
      have hs2 : 0 ≤ y + c2 ∧ y + c2 ≤ 65536 * ((k + 1 : Nat) : Int) := by omega
      obtain ⟨s, hs⟩ : ∃ s, s = y + c2 := ⟨_, rfl⟩
      rw [← hs] at hs1 hs2
      by_cases hc : c1 = id
      · have HY : Hid (ShareIs ls id (k + 1) c2 s true) := by have := HIT.out c1 c2 rfl hc; rw [← hs] at this; exact this
        clear HIT MISS
        subst hc
        subst hs
        go_wp2_with fail
        exact ⟨⟨k + 1, c2, y + c2, true, by omega, rfl, by first | rfl | go_num, rfl, by go_num, HY, hs2, hb5⟩, by simp [intOf]; omega⟩
      · have HY : Hid (ShareIs ls id (k + 1) x s f) := by have := MISS.out c1 c2 rfl hc; rw [← hs] at this; exact this
        have hd : (c1 == id) = false := beq_eq_false_iff_ne.2 hc
        clear HIT MISS
        subst hs
        go_wp2_with fail
        exact ⟨⟨k + 1, x, y + c2, f, by omega, rfl, by first | rfl | go_num, rfl, by go_num, HY, hs2, hb5⟩, by simp [intOf]; omega⟩
    · have HE : Hid _ := share_end hT.out (by omega)
      clear hT
      cases f with
      | true =>
        have HE1 : Hid _ := HE.out.1 rfl
        clear HE
        go_wp2_with fail
        go_returns
        exact ⟨hbel, by rw [← HE1.out.1, ← HE1.out.2]; rfl⟩
      | false =>
        have HE1 : Hid _ := HE.out.2 rfl
        clear HE
        go_wp2_with fail
        go_returns
        exact ⟨hbel, by rw [← HE1.out.1, ← HE1.out.2]; rfl⟩
end Go.Proofs.Ytbconflmjdpolaa
