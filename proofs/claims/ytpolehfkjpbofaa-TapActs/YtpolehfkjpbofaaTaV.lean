/-
  The answer's Ints of two rows that are alike.
-/
import Derived.Test.YtpolehfkjpbofaaTaT
namespace Go.Proofs.Ytpolehfkjpbofaa.Ta
open Go.ChangeShapes Go.WideShapes Go.ChangeAt Go.RowKit
def TruPost (w : World) (e : Ending) (w' : World) : Prop := e = .returned (.bool true) ∧ Below w.heap.size w w'
theorem ints_read {w wr : World} {a : Option Addr} {l : List Int} (h : IntsAt w a l) (hb : Below w.heap.size w wr) {i : Nat} (hi : i < l.length) : ∃ g, a = some ⟨g, 0, none⟩ ∧ wr.cell? ⟨g, i, none⟩ = some (.int .i64 (l.getD i 0)) := by
  rcases h with h | ⟨g, e, hg, hc⟩
  · subst h; simp at hi
  · exact ⟨g, e, by rw [cell_block (hb.block g hg)]; exact hc i hi⟩
theorem ints_below {w wr : World} {a : Option Addr} {l : List Int} (h : IntsAt w a l) (hb : Below w.heap.size w wr) : IntsAt wr a l := by
  rcases h with h | ⟨g, e, hg, hc⟩
  · exact .inl h
  · exact .inr ⟨g, e, Nat.lt_of_lt_of_le hg hb.size, fun i hi => by rw [cell_block (hb.block g hg)]; exact hc i hi⟩
set_option maxHeartbeats 4000000 in
set_option maxRecDepth 60000 in
theorem rints_any (a b : Option Addr) (k c d : Nat) (l : List Int) (w : World) (hl : l.length = k) (hk : k ≤ 8) (ha : IntsAt w a l) (hb : IntsAt w b l) :
    Calls Try.prog 17 #[.slice a k c, .slice b k d] w fun e w' => TruPost w e w' := by
  have HA := Hid.mk9 ha
  have HD := Hid.mk9 hb
  have HL := Hid.mk9 hl
  have k8 : (k : Int) ≤ 8 := by omega
  have HB := Hid.mk9 (Below.refl w.heap.size w)
  clear ha hb hl hk
  go_enter Try.func17, Try.ntmps17
  go_wp2_with fail
  go_loopw [5] (fun s wr => ∃ i : Nat, i ≤ k ∧ s = .int .i64 i ∧ Hid (Below w.heap.size w wr)) (fun s _ => k - (intOf s).toNat)
  case atStart => exact ⟨0, Nat.zero_le _, rfl, HB⟩
  case round =>
    clear HB
    obtain ⟨i, hi, rfl, HB⟩ := hrel
    by_cases hlt : i < k
    · have i1 : (i : Int) < (k : Int) := by omega
      obtain ⟨g, rfl, h1⟩ := ints_read HA.out HB.out (i := i) (by rw [HL.out]; exact hlt)
      obtain ⟨g2, rfl, h2⟩ := ints_read HD.out HB.out (i := i) (by rw [HL.out]; exact hlt)
      generalize l.getD i 0 = x at h1 h2
      have HBN : Hid (Below w.heap.size w wr.drew) := ⟨HB.out.trans ⟨rfl, rfl, rfl, Nat.le_refl _, fun _ _ => rfl⟩⟩
      clear HB hi hlt
      go_upto_region 6 with fail
      go_region
      all_goals
        generalize wr.drew = wD at *
        go_wp2_with fail
        exact ⟨⟨i + 1, by omega, by go_num, HBN⟩, by simp [intOf]; omega⟩
    · obtain rfl : i = k := by omega
      clear hi hlt
      have HE : Hid (TruPost w (.returned (.bool true)) wr) := ⟨rfl, HB.out⟩
      go_wp2_with fail
      go_ret
      exact HE.out
end Go.Proofs.Ytpolehfkjpbofaa.Ta
