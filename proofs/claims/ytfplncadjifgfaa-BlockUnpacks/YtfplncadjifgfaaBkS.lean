/-
  The law BlockUnpacks.
-/
import Derived.Test.YtfplncadjifgfaaBkR
import Derived.Test.YtfplncadjifgfaaBkM
namespace Go.Proofs.Ytfplncadjifgfaa.Bk
open Go.ChangeShapes Go.WideShapes Go.ChangeAt Go.RowKit
open Go.Proofs.Ytfplncadjifgfaa.Fr
theorem unpack_no {v : Value} {M : List Int} {texts : List ByteArray} {w : World} (h : DataAt w v M texts) (hn : ¬ ∃ ls, texts = [] ∧ Are M ls) : Calls Try.prog 13 #[v] w fun e w' => e = .returned (.tuple #[.slice none 0 0, .int .i64 2]) ∧ Below w.heap.size w w' :=
  (unpack_any v M texts w h).mono fun _ _ ⟨hb, hq⟩ => by
    rcases hq with ⟨ls, a, len, cap, ht, hA, _, _⟩ | ⟨_, he⟩
    · exact absurd ⟨ls, ht, hA⟩ hn
    · exact ⟨he, hb⟩
theorem unpack_yes {v : Value} {M : List Int} {texts : List ByteArray} {ls : List Sm} {w : World} (h : DataAt w v M texts) (ht : texts = []) (hA : Are M ls) : Calls Try.prog 13 #[v] w fun e w' => (∃ a len cap, e = .returned (.tuple #[.slice a len cap, .int .i64 0]) ∧ SmsAt w' a len cap ls) ∧ Below w.heap.size w w' :=
  (unpack_any v M texts w h).mono fun _ _ ⟨hb, hq⟩ => by
    rcases hq with ⟨ms, a, len, cap, _, hA2, he, hs⟩ | ⟨hn, _⟩
    · obtain rfl := are_one hA hA2
      exact ⟨⟨a, len, cap, he, hs⟩, hb⟩
    · exact absurd hA (hn ht ls)
theorem run_none {v : Value} {M : List Int} {texts : List ByteArray} {w : World} (h : DataAt w v M texts) (hn : ¬ ∃ ls, texts = [] ∧ Are M ls) : Calls Try.prog 16 #[v] w fun e w' => e = .returned (.tuple #[.slice none 0 0, .bool false]) ∧ Below w.heap.size w w' :=
  (refUnpack_any v M texts w h).mono fun _ _ ⟨hb, hq⟩ => by
    rcases hq with ⟨ls, a, len, cap, ht, hA, _, _⟩ | ⟨_, he⟩
    · exact absurd ⟨ls, ht, hA⟩ hn
    · exact ⟨he, hb⟩
theorem run_yes {v : Value} {M : List Int} {texts : List ByteArray} {ls : List Sm} {w : World} (h : DataAt w v M texts) (ht : texts = []) (hA : Are M ls) : Calls Try.prog 16 #[v] w fun e w' => (∃ a len cap, e = .returned (.tuple #[.slice a len cap, .bool true]) ∧ SmsAt w' a len cap ls) ∧ Below w.heap.size w w' :=
  (refUnpack_any v M texts w h).mono fun _ _ ⟨hb, hq⟩ => by
    rcases hq with ⟨ms, a, len, cap, _, hA2, he, hs⟩ | ⟨hn, _⟩
    · obtain rfl := are_one hA hA2
      exact ⟨⟨a, len, cap, he, hs⟩, hb⟩
    · exact absurd hA (hn ht ls)
set_option maxHeartbeats 1000000 in
set_option maxRecDepth 60000 in
theorem blockUnpacks_any (v : Value) (M : List Int) (texts : List ByteArray) (w : World) (h : DataAt w v M texts) :
    Calls Try.prog 4 #[v] w fun e w' => TruePost w e w' := by
  have HDA := Hid.mk9 h
  obtain ⟨a1, n1, c1, a2, n2, c2, rfl, h1, h2, -, -⟩ := h
  have hm1 : n1 ≤ maxLen := Nat.le_trans h1.2.1 h1.2.2.1
  have hm2 : n2 ≤ maxLen := Nat.le_trans h2.2.1 h2.2.2.1
  unfold maxLen at hm1 hm2
  clear h1 h2
  have D0 := Hid.mk9 (DBox.new w (.slice a1 n1 c1) (.slice a2 n2 c2))
  have bA := Hid.mk9 (below_alloc w (.cells #[.slice a1 n1 c1, .slice a2 n2 c2] 27))
  by_cases hbig : 400 < n1
  · have hb' : (400 : Int) < (n1 : Int) := by omega
    go_enter Try.func4, Try.ntmps4
    go_wp2_with (go_at_call 6; refine (awake_t _).mono ?_; rintro e w1 ⟨rfl, hb1⟩)
    go_ret
    exact ⟨rfl, below2 bA.out hb1⟩
  have h1' : (n1 : Int) ≤ 400 := by omega
  by_cases hbig2 : 100 < n2
  · have hb' : (100 : Int) < (n2 : Int) := by omega
    clear hbig
    go_enter Try.func4, Try.ntmps4
    go_wp2_with (go_at_call 6; refine (awake_t _).mono ?_; rintro e w1 ⟨rfl, hb1⟩)
    go_ret
    exact ⟨rfl, below2 bA.out hb1⟩
  have h2' : (n2 : Int) ≤ 100 := by omega
  clear hbig hbig2
  by_cases hq : ∃ ls, texts = [] ∧ Are M ls
  · obtain ⟨ls, ht, hA⟩ := hq
    have HT := Hid.mk9 ht
    have HA := Hid.mk9 hA
    clear ht hA
    go_enter Try.func4, Try.ntmps4
    go_wp2_with (first
      | (go_at_call 13; refine (unpack_yes (HDA.out.below bA.out) HT.out HA.out).mono ?_; rintro e w1 ⟨⟨xa, xl, xc, rfl, hs⟩, hb1⟩; have HBc := Hid.mk9 (below2 bA.out hb1); have HX := Hid.mk9 (D0.out.below hb1); have HSx := Hid.mk9 hs; have q0 := HX.out.c0; have q1 := HX.out.c1; clear hb1 hs)
      | (go_at_call 16; refine (run_yes (HDA.out.below HBc.out) HT.out HA.out).mono ?_; rintro e w2 ⟨⟨ya, yl, yc, rfl, hs⟩, hb1⟩; replace HBc := Hid.mk9 (below2 HBc.out hb1); replace HSx := Hid.mk9 (HSx.out.below hb1); have HSy := Hid.mk9 hs; clear hb1 hs)
      | (go_at_call 15; refine (bool_true (refSameS_any _ _ _ _ _ _ ls ls _ HSx.out HSy.out) rfl).mono ?_; rintro e w3 ⟨rfl, hb1⟩; replace HBc := Hid.mk9 (below2 HBc.out hb1); clear hb1)
      | (go_at_call 6; refine (awake_t _).mono ?_; rintro e w4 ⟨rfl, hb1⟩; replace HBc := Hid.mk9 (below2 HBc.out hb1); clear hb1))
    go_ret
    exact ⟨rfl, HBc.out⟩
  · have HN := Hid.mk9 hq
    clear hq
    go_enter Try.func4, Try.ntmps4
    go_wp2_with (first
      | (go_at_call 13; refine (unpack_no (HDA.out.below bA.out) HN.out).mono ?_; rintro e w1 ⟨rfl, hb1⟩; have HBc := Hid.mk9 (below2 bA.out hb1); have HX := Hid.mk9 (D0.out.below hb1); have q0 := HX.out.c0; have q1 := HX.out.c1; clear hb1)
      | (go_at_call 16; refine (run_none (HDA.out.below HBc.out) HN.out).mono ?_; rintro e w2 ⟨rfl, hb1⟩; replace HBc := Hid.mk9 (below2 HBc.out hb1); clear hb1)
      | (go_at_call 6; refine (awake_t _).mono ?_; rintro e w4 ⟨rfl, hb1⟩; replace HBc := Hid.mk9 (below2 HBc.out hb1); clear hb1))
    go_ret
    exact ⟨rfl, HBc.out⟩
end Go.Proofs.Ytfplncadjifgfaa.Bk
