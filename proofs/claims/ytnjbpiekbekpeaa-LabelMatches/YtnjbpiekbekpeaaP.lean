/-
  The law of what series match: both Values and both Matches say the same.
-/
import Derived.Test.YtnjbpiekbekpeaaN2
import Derived.Test.YtnjbpiekbekpeaaL
namespace Go.Proofs.Ytnjbpiekbekpeaa
open Go.ChangeShapes Go.WideShapes Go.ChangeAt Go.RowKit
set_option maxHeartbeats 8000000 in
set_option maxRecDepth 60000 in
theorem labelMatches_any (v : Value) (nm : ByteArray) (ls : List Lab) (p : Option Addr) (n c : Nat) (ms : List Mat) (name : ByteArray) (w : World) (h : SerAt w v nm ls) (h2 : MatsAt w p n c ms) :
    Calls Try.prog 5 #[v, .slice p n c, .string name] w fun e w' => e = .returned (.bool true) ∧ Below w.heap.size w w' := by
  have HSER : Hid (SerAt w v nm ls) := h
  have HMAT : Hid (MatsAt w p n c ms) := h2
  obtain ⟨a, len, cap, rfl, -, -, -⟩ := h
  clear h2
  have B0 : Below w.heap.size w (w.alloc (.cells #[.string nm, .slice a len cap] 24)) := below_alloc _ _
  go_enter Try.func5, Try.ntmps5
  go_wp2_with fail
  generalize hw1 : w.alloc (.cells #[.string nm, .slice a len cap] 24) = w1 at *
  have hc0 : w1.cell? ⟨w.heap.size, 0, none⟩ = some (.string nm) := by rw [← hw1]; simp
  have hc1 : w1.cell? ⟨w.heap.size, 1, none⟩ = some (.slice a len cap) := by rw [← hw1]; simp
  have hs1 : w.heap.size < w1.heap.size := by rw [← hw1]; simp
  clear hw1
  refine (light_any _ nm ls _ (HSER.out.below B0)).mono ?_
  rintro e w2 ⟨hb2, q, rfl⟩
  have hb02 : Below w.heap.size w w2 := B0.trans (hb2.mono (by omega))
  have g0 : w2.cell? ⟨w.heap.size, 0, none⟩ = some (.string nm) := (hb2.cell (p := ⟨w.heap.size, 0, none⟩) hs1).trans hc0
  have g1 : w2.cell? ⟨w.heap.size, 1, none⟩ = some (.slice a len cap) := (hb2.cell (p := ⟨w.heap.size, 1, none⟩) hs1).trans hc1
  have hs2 : w.heap.size < w2.heap.size := Nat.lt_of_lt_of_le hs1 hb2.size
  clear hc0 hc1 hb2
  cases q with
  | false =>
    go_wp2_with fail
    refine (awake_any _).mono ?_
    rintro e w3 ⟨rfl, hb3⟩
    have HB : Hid (Below w.heap.size w w3) := below2 hb02 hb3
    clear hb3
    go_wp2
    go_ret
    exact ⟨rfl, HB.out⟩
  | true =>
    by_cases h100 : (100 : Int) < (n : Int)
    · go_wp2_with fail
      refine (awake_any _).mono ?_
      rintro e w3 ⟨rfl, hb3⟩
      have HB : Hid (Below w.heap.size w w3) := below2 hb02 hb3
      clear hb3
      go_wp2
      go_ret
      exact ⟨rfl, HB.out⟩
    · have HK : Hid (∀ w', Below w2.heap.size w2 w' → ((w'.cell? ⟨w.heap.size, 0, none⟩ = some (.string nm) ∧ w'.cell? ⟨w.heap.size, 1, none⟩ = some (.slice a len cap)) ∧ Below w2.heap.size w2 w')) := fun w' hb =>
        ⟨⟨(hb.cell (p := ⟨w.heap.size, 0, none⟩) hs2).trans g0, (hb.cell (p := ⟨w.heap.size, 1, none⟩) hs2).trans g1⟩, hb⟩
      have H17 : Hid (∀ w', Below w2.heap.size w2 w' → Calls Try.prog 17 #[.agg #[.string nm, .slice a len cap], .string name] w' fun e w'' => StrPost (valueL ls name) w' e w'') := fun w' hb => value_any _ nm ls name w' (HSER.out.below (below2 hb02 hb))
      have H18 : Hid (∀ w', Below w2.heap.size w2 w' → Calls Try.prog 18 #[.agg #[.string nm, .slice a len cap], .string name] w' fun e w'' => StrPost (valueL ls name) w' e w'') := fun w' hb => refValue_any _ nm ls name w' (HSER.out.below (below2 hb02 hb))
      have H19 : Hid (∀ w', Below w2.heap.size w2 w' → Calls Try.prog 19 #[.agg #[.string nm, .slice a len cap], .slice p n c] w' fun e w'' => BoolIs (matchB ls ms) w' e w'') := fun w' hb => matches_any _ nm ls p n c ms w' (HSER.out.below (below2 hb02 hb)) (HMAT.out.below (below2 hb02 hb))
      have H20 : Hid (∀ w', Below w2.heap.size w2 w' → Calls Try.prog 20 #[.agg #[.string nm, .slice a len cap], .slice p n c] w' fun e w'' => BoolIs (matchB ls ms) w' e w'') := fun w' hb => refMatches_any _ nm ls p n c ms w' (HSER.out.below (below2 hb02 hb)) (HMAT.out.below (below2 hb02 hb))
      generalize valueL ls name = V at *
      generalize matchB ls ms = M at *
      have hVV : (V.toList == V.toList) = true := by simp
      clear HSER HMAT
      go_wp2_with fail
      cases M
      all_goals
        go_region_held3 (fun w' => (w'.cell? ⟨w.heap.size, 0, none⟩ = some (.string nm) ∧ w'.cell? ⟨w.heap.size, 1, none⟩ = some (.slice a len cap)) ∧ Below w2.heap.size w2 w')
          (first | exact HK.out _ (below_drew _) | (go_split_ands; exact HK.out _ (by assumption)) | (go_split_ands; exact HK.out _ (below2 (by assumption) (by assumption))))
          ((first
            | (go_at_call 17; refine (H17.out _ (by go_split_ands; assumption)).mono ?_; rintro en w6 ⟨rfl, hb6⟩)
            | (go_at_call 18; refine (H18.out _ (by go_split_ands; assumption)).mono ?_; rintro en w7 ⟨rfl, hb7⟩)
            | (go_at_call 19; refine (H19.out _ (by go_split_ands; assumption)).mono ?_; rintro en w8 ⟨rfl, hb8⟩)
            | (go_at_call 20; refine (H20.out _ (by go_split_ands; assumption)).mono ?_; rintro en w9 ⟨rfl, hb9⟩)
            | (go_at_call 9; refine (awake_any _).mono ?_; rintro en w10 ⟨rfl, hb10⟩)))
      all_goals
        have HB : Hid (Below w.heap.size w w10) := below2 hb02 (below2 (below_drew w2) (below2 hb6 (below2 hb7 (below2 hb8 (below2 hb9 hb10)))))
        clear HK H17 H18 H19 H20 hb6 hb7 hb8 hb9 hb10
        go_wp2
        go_ret
        exact ⟨rfl, HB.out⟩
end Go.Proofs.Ytnjbpiekbekpeaa
