/-
  The contracts of awake (labels are put in order) and of light.
-/
import Derived.Test.YtnjbpiekbekpeaaK
namespace Go.Proofs.Ytnjbpiekbekpeaa
open Go.ChangeShapes Go.WideShapes Go.ChangeAt Go.RowKit
def txtA : ByteArray := ⟨#[99, 112, 117, 123, 122, 111, 110, 101, 61, 34, 97, 34, 44, 104, 111, 115, 116, 61, 34, 98, 34, 125]⟩
def txtB : ByteArray := ⟨#[99, 112, 117, 123, 104, 111, 115, 116, 61, 34, 98, 34, 44, 122, 111, 110, 101, 61, 34, 97, 34, 125]⟩
def cpuB : ByteArray := ⟨#[99, 112, 117]⟩
def labH : Lab := (⟨#[104, 111, 115, 116]⟩, ⟨#[98]⟩)
def labZ : Lab := (⟨#[122, 111, 110, 101]⟩, ⟨#[97]⟩)
theorem runA : runS txtA txtA.size 0 st0 = some (6, [], labH.1, cpuB, [labZ, labH]) := by kernel_rfl
theorem mayA : MayS cpuB [labH, labZ] := by
  refine ⟨by decide, by decide, fun i hi => ?_⟩
  match i, hi with
  | 0, _ => exact ⟨by decide, by decide, fun h => absurd h (by decide)⟩
  | 1, _ => exact ⟨by decide, by decide, fun _ => by rw [ltB_eq]; decide⟩
theorem sortA : SortedL [labH, labZ] := by
  intro i j hij hj
  have h1 : j = 1 := by simp at hj; omega
  have h0 : i = 0 := by omega
  subst h1 h0
  rw [ltB_eq]
  decide
theorem parsesA : ParsesTo txtA cpuB [labH, labZ] := ⟨_, runA, rfl, rfl, List.Perm.swap _ _ _, sortA, mayA⟩
theorem parsesA_only {nm : ByteArray} {ls : List Lab} (h : ParsesTo txtA nm ls) : nm = cpuB ∧ ls = [labH, labZ] := by
  obtain ⟨st, h1, h2, h3, h4, h5, h6⟩ := h
  rw [runA] at h1
  obtain rfl := Option.some.inj h1
  refine ⟨h3, uniq (h4.trans (List.Perm.swap _ _ _)) (may_pair h6) sortA.pair⟩
theorem textA : textL cpuB [labH, labZ] = sg txtB := by decide
set_option maxHeartbeats 1000000 in
theorem awake_any (w : World) : Calls Try.prog 9 #[] w fun e w' => e = .returned (.bool true) ∧ Below w.heap.size w w' := by
  go_enter Try.func9, Try.ntmps9
  go_wp2_with fail
  refine (parse_any txtA _).mono ?_
  rintro e w1 ⟨hb1, ⟨v, nm, ls, rfl, hser, hto⟩ | ⟨rfl, hno⟩⟩
  rotate_left
  · exact absurd parsesA (hno _ _)
  obtain ⟨rfl, rfl⟩ := parsesA_only hto
  obtain ⟨a, len, cap, rfl, hL, hn, hF⟩ := hser
  go_wp2_with fail
  have B2 : Below w1.heap.size w1 (w1.alloc (.cells #[.string cpuB, .slice a len cap] 24)) := below_alloc _ _
  have hser2 : SerAt (w1.alloc (.cells #[.string cpuB, .slice a len cap] 24)) (.agg #[.string cpuB, .slice a len cap]) cpuB [labH, labZ] := ⟨a, len, cap, rfl, hL.below B2, hn, hF⟩
  generalize w1.alloc (.cells #[.string cpuB, .slice a len cap] 24) = w2 at *
  clear hL
  refine (print_any _ _ _ _ hser2).mono ?_
  rintro e w3 ⟨hb3, ⟨_, rfl⟩ | ⟨hno, rfl⟩⟩
  rotate_left
  · exact absurd mayA hno
  have HB : Hid (Below w.heap.size w w3) := below2 (below2 hb1 B2) hb3
  have HT : (⟨(textL cpuB [labH, labZ]).toArray⟩ : ByteArray) = txtB := by rw [textA]; rfl
  rw [HT]
  clear hser2 hb1 hb3 B2 hto
  have HEQ : (txtB.toList == [99, 112, 117, 123, 104, 111, 115, 116, 61, 34, 98, 34, 44, 122, 111, 110, 101, 61, 34, 97, 34, 125]) = true := by rw [ByteArray.toList_eq]; decide
  go_wp2
  go_ret
  exact ⟨rfl, HB.out⟩
end Go.Proofs.Ytnjbpiekbekpeaa
