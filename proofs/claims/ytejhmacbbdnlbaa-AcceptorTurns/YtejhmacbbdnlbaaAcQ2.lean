/-
  Light.
-/
import Derived.Test.YtejhmacbbdnlbaaAcO
namespace Go.Proofs.Ytejhmacbbdnlbaa.Ac
open Go.ChangeShapes Go.WideShapes Go.ChangeAt Go.RowKit
def lightB (ls : List Acd) : Bool := decide (ls.length ≤ 300) && ls.all fun x => decide (x.d.ns.length ≤ 20)
theorem light_slim {ls : List Acd} (h : lightB ls = true) : Slim ls := by
  unfold lightB at h
  rw [Bool.and_eq_true, decide_eq_true_iff, List.all_eq_true] at h
  exact ⟨h.1, fun x hx => of_decide_eq_true (h.2 x hx)⟩
theorem light_no {ls : List Acd} {j : Nat} (hj : j < ls.length) (h : 20 < (ls.getD j acd0).d.ns.length) : lightB ls = false := by
  cases hq : lightB ls with
  | false => rfl
  | true =>
    have := (light_slim hq).2 (ls[j]) (List.getElem_mem hj)
    simp [hj] at h
    omega
theorem light_yes {ls : List Acd} (hl : ls.length ≤ 300) (h : ∀ j, j < ls.length → (ls.getD j acd0).d.ns.length ≤ 20) : lightB ls = true := by
  unfold lightB
  rw [decide_eq_true hl, Bool.true_and, List.all_eq_true]
  intro x hx
  obtain ⟨j, hj, rfl⟩ := List.mem_iff_getElem.1 hx
  have := h j hj
  simp [hj] at this
  exact decide_eq_true this
set_option maxHeartbeats 4000000 in
set_option maxRecDepth 60000 in
theorem light_any (p : Int) (a : Option Addr) (len cap : Nat) (ls : List Acd) (w : World) (h : AcsAt w a len cap ls) : Calls Try.prog 5 #[.agg #[.int .i64 p, .slice a len cap]] w fun e w' => e = .returned (.bool (lightB ls)) ∧ Below w.heap.size w w' := by
  have hm : len ≤ maxLen := Nat.le_trans h.2.1 h.2.2.1
  unfold maxLen at hm
  have HL := Hid.mk9 h.1
  have HB := Hid.mk9 (below_alloc w (.cells #[.int .i64 p, .slice a len cap] 24))
  have HX := Hid.mk9 (B2.new w 24 (.int .i64 p) (.slice a len cap))
  have HR := Hid.mk9 (h.below HB.out)
  obtain ⟨q, hq⟩ : ∃ q, q = lightB ls := ⟨_, rfl⟩
  rw [← hq]
  have HQ := Hid.mk9 hq
  clear h hq
  go_enter Try.func5, Try.ntmps5
  go_upto_region 1 with fail
  generalize w.alloc (.cells #[.int .i64 p, .slice a len cap] 24) = w1 at *
  obtain ⟨X, hX⟩ : ∃ X, w.heap.size = X := ⟨_, rfl⟩
  rw [hX] at HX ⊢
  clear hX
  obtain ⟨p0, p1⟩ := HX.out.cells
  go_wp2_with fail
  go_loopw [3] (fun i wr => ∃ k : Nat, k ≤ len ∧ i = .int .i64 k ∧ Hid (wr = w1) ∧ Hid (∀ j, j < k → (ls.getD j acd0).d.ns.length ≤ 20)) (fun i _ => len - (intOf i).toNat)
  case atStart => exact ⟨0, Nat.zero_le _, rfl, rfl, fun j hj => absurd hj (Nat.not_lt_zero _)⟩
  case round =>
    obtain ⟨k, hk, rfl, hwr, hT⟩ := hrel
    have hw := hwr.out.symm
    subst hw
    clear hwr
    by_cases hlt : k < len
    · have hk1 : (k : Int) < (len : Int) := by omega
      have hk0 : (0 : Int) ≤ (k : Int) := by omega
      by_cases h300 : (k : Int) < 300
      · obtain ⟨b, off, rfl, hb, c, hc, ⟨-, -, -, -, -, -, -, x7⟩, hr⟩ := HR.out.at hlt
        have hcl := hr.1
        by_cases h20 : (20 : Int) < (c.l : Int)
        · obtain rfl : q = false := by rw [HQ.out]; exact light_no (by rw [HL.out]; exact hlt) (by rw [hc]; omega)
          clear hc hcl hr
          go_wp2_with fail
          go_ret
          exact ⟨rfl, HB.out⟩
        · have h20' : decide ((20 : Int) < (c.l : Int)) = false := decide_eq_false h20
          have HT2 : Hid (∀ j, j < k + 1 → (ls.getD j acd0).d.ns.length ≤ 20) := Hid.mk9 fun j hj => by
            by_cases e : j = k
            · rw [e, hc]; omega
            · exact hT.out j (by omega)
          clear hc hcl hr
          go_wp2_with fail
          exact ⟨⟨k + 1, by omega, by go_num, by unfold Hid; trivial, HT2⟩, by simp [intOf]; omega⟩
      · have h300' : decide ((k : Int) < 300) = false := decide_eq_false h300
        have h9 : decide ((len : Int) ≤ 300) = false := decide_eq_false (by omega)
        obtain rfl : q = false := by rw [HQ.out]; unfold lightB; rw [decide_eq_false (by rw [HL.out]; omega)]; rfl
        go_wp2_with fail
        go_ret
        exact ⟨rfl, HB.out⟩
    · obtain rfl : k = len := by omega
      by_cases h300 : (k : Int) ≤ 300
      · have h9 : decide ((k : Int) ≤ 300) = true := decide_eq_true h300
        obtain rfl : q = true := by rw [HQ.out]; exact light_yes (by rw [HL.out]; omega) (by rw [HL.out]; exact hT.out)
        go_wp2_with fail
        go_ret
        exact ⟨rfl, HB.out⟩
      · have h9 : decide ((k : Int) ≤ 300) = false := decide_eq_false h300
        obtain rfl : q = false := by rw [HQ.out]; unfold lightB; rw [decide_eq_false (by rw [HL.out]; omega)]; rfl
        go_wp2_with fail
        go_ret
        exact ⟨rfl, HB.out⟩
end Go.Proofs.Ytejhmacbbdnlbaa.Ac
