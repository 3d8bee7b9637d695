/-
  The law DrawOrders: which choices may be, the order of any for any key, and who is drawn.
-/
import Derived.Test.YtbconflmjdpolaaR
namespace Go.Proofs.Ytbconflmjdpolaa
open Go.ChangeShapes Go.WideShapes Go.ChangeAt Go.RowKit
theorem may_fit {ls : List Ch} (h : MayC ls) : FitC ls := ⟨h.1, fun c hc => ⟨(((may_iff ls).1 h).2.1 c hc).2.2.1, (((may_iff ls).1 h).2.1 c hc).2.2.2⟩⟩
theorem ord_sel {key : Nat} {ls : List Ch} {ids : List Int} (hM : MayC ls) (h : OrdC key ls ids) : ids = selC (costOf key) ls.length ls := by
  rcases h with ⟨_, s, hp, hs, h⟩ | ⟨h, _⟩
  · rw [h]
    refine (sel_eq _ s ls ls.length (may_rise hM) (may_w hM) hp.symm hs ?_).symm
    rw [hp.length_eq]
    exact heavy_len ls
  · exact absurd hM h
theorem drawn_may {key : Nat} {ls : List Ch} {r : Option Ch} (hM : MayC ls) (h : DrawnC key ls r) : r = bestC (costOf key) ls := by
  rcases h with ⟨_, h⟩ | ⟨h, _⟩
  · exact h
  · exact absurd hM h
theorem drawn_not {key : Nat} {ls : List Ch} {r : Option Ch} (hM : ¬ MayC ls) (h : DrawnC key ls r) : r = none := by
  rcases h with ⟨h, _⟩ | ⟨_, h⟩
  · exact absurd h hM
  · exact h
theorem ord_not {key : Nat} {ls : List Ch} {ids : List Int} (hM : ¬ MayC ls) (h : OrdC key ls ids) : ids = [] := by
  rcases h with ⟨h, _⟩ | ⟨_, h⟩
  · exact absurd h hM
  · exact h
section
variable {w : World}
theorem awake_from (W : World) (hW : Below w.heap.size w W) : Calls Try.prog 7 #[] W fun e w' => e = .returned (.bool true) ∧ Below w.heap.size w w' :=
  (awake_any W).mono fun _ _ ⟨he, hb⟩ => ⟨he, below2 hW hb⟩
variable {key : Nat} {a : Option Addr} {len cap : Nat} {ls : List Ch}
theorem check_yes (h : ChsAt w a len cap ls) (hM : MayC ls) (W : World) (hW : Below w.heap.size w W) : Calls Try.prog 10 #[.slice a len cap] W fun e w' => e = .returned (.int .i64 0) ∧ Below w.heap.size w w' :=
  (check_any a len cap ls W (h.below hW)).mono fun _ _ ⟨hb, he⟩ => ⟨by rcases he with ⟨he, _⟩ | ⟨_, he⟩; exact he; exact absurd hM he, below2 hW hb⟩
theorem check_no (h : ChsAt w a len cap ls) (hM : ¬ MayC ls) (W : World) (hW : Below w.heap.size w W) : Calls Try.prog 10 #[.slice a len cap] W fun e w' => e = .returned (.int .i64 1) ∧ Below w.heap.size w w' :=
  (check_any a len cap ls W (h.below hW)).mono fun _ _ ⟨hb, he⟩ => ⟨by rcases he with ⟨_, he⟩ | ⟨he, _⟩; exact absurd he hM; exact he, below2 hW hb⟩
theorem refMay_yes (h : ChsAt w a len cap ls) (hM : MayC ls) (W : World) (hW : Below w.heap.size w W) : Calls Try.prog 11 #[.slice a len cap] W fun e w' => e = .returned (.bool true) ∧ Below w.heap.size w w' :=
  (refMay_any a len cap ls W (h.below hW)).mono fun _ _ ⟨hb, q, he, hq⟩ => ⟨by rw [he, hq.2 hM], below2 hW hb⟩
theorem refMay_no (h : ChsAt w a len cap ls) (hM : ¬ MayC ls) (W : World) (hW : Below w.heap.size w W) : Calls Try.prog 11 #[.slice a len cap] W fun e w' => e = .returned (.bool false) ∧ Below w.heap.size w w' :=
  (refMay_any a len cap ls W (h.below hW)).mono fun _ _ ⟨hb, q, he, hq⟩ => ⟨by rw [he]; cases q with | false => rfl | true => exact absurd (hq.1 rfl) hM, below2 hW hb⟩
theorem best_yes (hk : key < 18446744073709551616) (h : ChsAt w a len cap ls) (hM : MayC ls) (W : World) (hW : Below w.heap.size w W) : Calls Try.prog 9 #[.int .u64 (key : Int), .slice a len cap] W fun e w' => e = .returned (.tuple #[.int .i64 (idO (bestC (costOf key) ls)), .bool (isO (bestC (costOf key) ls))]) ∧ Below w.heap.size w w' :=
  (best_any key a len cap ls W hk (h.below hW)).mono fun _ _ ⟨hb, r, hd, he⟩ => ⟨by rw [he, drawn_may hM hd], below2 hW hb⟩
theorem best_no (hk : key < 18446744073709551616) (h : ChsAt w a len cap ls) (hM : ¬ MayC ls) (W : World) (hW : Below w.heap.size w W) : Calls Try.prog 9 #[.int .u64 (key : Int), .slice a len cap] W fun e w' => e = .returned (.tuple #[.int .i64 0, .bool false]) ∧ Below w.heap.size w w' :=
  (best_any key a len cap ls W hk (h.below hW)).mono fun _ _ ⟨hb, r, hd, he⟩ => ⟨by rw [he, drawn_not hM hd]; rfl, below2 hW hb⟩
theorem order_yes (hk : key < 18446744073709551616) (h : ChsAt w a len cap ls) (hM : MayC ls) (W : World) (hW : Below w.heap.size w W) : Calls Try.prog 8 #[.int .u64 (key : Int), .slice a len cap] W fun e w' => ∃ ao co ids, e = .returned (.slice ao ids.length co) ∧ Below w.heap.size w w' ∧ Hid (IntsAt w' ao ids ∧ ids.length ≤ 64 ∧ ids = selC (costOf key) ls.length ls) :=
  (order_any key a len cap ls W hk (h.below hW)).mono fun _ _ ⟨hb, ao, co, ids, he, hi, hl, ho⟩ => ⟨ao, co, ids, he, below2 hW hb, hi, hl, ord_sel hM ho⟩
theorem order_no (hk : key < 18446744073709551616) (h : ChsAt w a len cap ls) (hM : ¬ MayC ls) (W : World) (hW : Below w.heap.size w W) : Calls Try.prog 8 #[.int .u64 (key : Int), .slice a len cap] W fun e w' => ∃ ao co, e = .returned (.slice ao 0 co) ∧ Below w.heap.size w w' :=
  (order_any key a len cap ls W hk (h.below hW)).mono fun _ _ ⟨hb, ao, co, ids, he, _, _, ho⟩ => ⟨ao, co, by rw [he, ord_not hM ho]; rfl, below2 hW hb⟩
theorem refBest_from (hk : key < 18446744073709551616) (h : ChsAt w a len cap ls) (hM : MayC ls) (W : World) (hW : Below w.heap.size w W) : Calls Try.prog 12 #[.int .u64 (key : Int), .slice a len cap] W fun e w' => e = .returned (.tuple #[.int .i64 (idO (bestC (costOf key) ls)), .bool (isO (bestC (costOf key) ls))]) ∧ Below w.heap.size w w' :=
  (refBest_any key a len cap ls W hk (h.below hW) (may_fit hM)).mono fun _ _ ⟨hb, he⟩ => ⟨he, below2 hW hb⟩
end
set_option maxHeartbeats 1000000 in
set_option maxRecDepth 60000 in
theorem drawOrders_any (key : Nat) (a : Option Addr) (len cap : Nat) (ls : List Ch) (w : World) (hkey : key < 18446744073709551616) (h : ChsAt w a len cap ls) :
    Calls Try.prog 3 #[.int .u64 (key : Int), .slice a len cap] w fun e w' => TruePost w e w' := by
  have hB0 : Below w.heap.size w w := Below.refl _ _
  have HA : Hid (∀ W, Below w.heap.size w W → Calls Try.prog 7 #[] W fun e w' => e = .returned (.bool true) ∧ Below w.heap.size w w') := awake_from
  by_cases h80 : (80 : Int) < (len : Int)
  · clear h hkey
    go_enter Try.func3, Try.ntmps3
    go_wp2_with (go_at_call 7; refine (HA.out _ (by assumption)).mono ?_; rintro e w2 ⟨rfl, hb2⟩)
    go_ret
    exact ⟨rfl, hb2⟩
  by_cases hM : MayC ls
  · have HORD : Hid _ := order_yes hkey h hM
    have HH : Hid (key < 18446744073709551616 ∧ ChsAt w a len cap ls ∧ MayC ls) := ⟨hkey, h, hM⟩
    clear h hkey hM
    go_enter Try.func3, Try.ntmps3
    go_wp2_with fail
    refine (HORD.out _ (by assumption)).mono ?_
    rintro e w2 ⟨ao, co, ids, rfl, hb2, hI⟩
    obtain ⟨hkey, h0, hM⟩ := HH.out
    have h : ChsAt w2 a len cap ls := h0.below hb2
    have HA2 : Hid (∀ W, Below w2.heap.size w2 W → Calls Try.prog 7 #[] W fun e w' => e = .returned (.bool true) ∧ Below w2.heap.size w2 w') := awake_from
    have HBST : Hid _ := best_yes hkey h hM
    have HCHK : Hid _ := check_yes h hM
    have HMAY : Hid _ := refMay_yes h hM
    have HRB : Hid _ := refBest_from hkey h hM
    have HRO : Hid (∀ W, Below w2.heap.size w2 W → Calls Try.prog 14 #[.int .u64 (key : Int), .slice a len cap] W fun e w' => ∃ ar cr, e = .returned (.slice ar ids.length cr) ∧ Below w2.heap.size w2 w' ∧ Hid (Calls Try.prog 13 #[.slice ao ids.length co, .slice ar ids.length cr] w' fun e w'' => e = .returned (.bool true) ∧ Below w2.heap.size w2 w'')) := fun W hW =>
      (refOrder_any key a len cap ls W hkey (h.below hW) (may_fit hM)).mono fun _ w' ⟨hb, ar, cr, he, hi, hl⟩ => by
        obtain ⟨i1, i2, i3⟩ := hI.out
        rw [← i3] at he hi hl
        exact ⟨ar, cr, he, below2 hW hb, (ints_any ao ar ids ids co cr w' (i1.below (below2 hW hb)) hi i2 hl rfl).mono fun _ _ ⟨he, hb'⟩ => ⟨he, below2 (below2 hW hb) hb'⟩⟩
    clear h h0 hkey hM HH hI HORD HA hB0
    generalize idO (bestC (costOf key) ls) = ri at *
    generalize isO (bestC (costOf key) ls) = rq at *
    have hB2 : Below w2.heap.size w2 w2 := Below.refl _ _
    generalize ids.length = n at *
    go_wp2_with (first
      | (go_at_call 9; refine (HBST.out _ (by assumption)).mono ?_; rintro e w3 ⟨rfl, hb3⟩)
      | (go_at_call 10; refine (HCHK.out _ (by assumption)).mono ?_; rintro e w4 ⟨rfl, hb4⟩)
      | (go_at_call 11; refine (HMAY.out _ (by assumption)).mono ?_; rintro e w5 ⟨rfl, hb5⟩)
      | (go_at_call 12; refine (HRB.out _ (by assumption)).mono ?_; rintro e w6 ⟨rfl, hb6⟩)
      | (go_at_call 14; refine (HRO.out _ (by assumption)).mono ?_; rintro e w7 ⟨ar, cr, rfl, hb7, hI7⟩)
      | (go_at_call 13; refine hI7.out.mono ?_; rintro e w8 ⟨rfl, hb8⟩)
      | (go_at_call 7; refine (HA2.out _ (by assumption)).mono ?_; rintro e w9 ⟨rfl, hb9⟩))
    go_ret
    exact ⟨rfl, below2 hb2 (by assumption)⟩
  · have HORD : Hid _ := order_no hkey h hM
    have HBST : Hid _ := best_no hkey h hM
    have HCHK : Hid _ := check_no h hM
    have HMAY : Hid _ := refMay_no h hM
    clear h hkey hM
    go_enter Try.func3, Try.ntmps3
    go_wp2_with (first
      | (go_at_call 8; refine (HORD.out _ (by assumption)).mono ?_; rintro e w2 ⟨ao, co, rfl, hb2⟩)
      | (go_at_call 9; refine (HBST.out _ (by assumption)).mono ?_; rintro e w3 ⟨rfl, hb3⟩)
      | (go_at_call 10; refine (HCHK.out _ (by assumption)).mono ?_; rintro e w4 ⟨rfl, hb4⟩)
      | (go_at_call 11; refine (HMAY.out _ (by assumption)).mono ?_; rintro e w5 ⟨rfl, hb5⟩)
      | (go_at_call 7; refine (HA.out _ (by assumption)).mono ?_; rintro e w6 ⟨rfl, hb6⟩))
    go_ret
    exact ⟨rfl, by assumption⟩
end Go.Proofs.Ytbconflmjdpolaa
