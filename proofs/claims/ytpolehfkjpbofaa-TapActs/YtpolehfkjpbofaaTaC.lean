/-
  The contracts of Put and Take of a pipe that is there.
-/
import Derived.Test.YtpolehfkjpbofaaTaB
namespace Go.Proofs.Ytpolehfkjpbofaa.Ta
open Go.ChangeShapes Go.WideShapes Go.ChangeAt Go.RowKit
open Go.Conc (G solo rcase scase)
/-- what a call leaves: the tap so, all else kept -/
def TaPost (B : Nat) (w : World) (p : Nat) (v : Value) (P : List (List Int)) (R t : Nat) (e : Ending) (w' : World) : Prop := e = .returned v ∧ TapAt B w' p P R t ∧ Below B w w' ∧ KpT p w w' ∧ w.heap.size ≤ w'.heap.size
theorem TaPost.same {B : Nat} {w : World} {p : Nat} {v : Value} {P : List (List Int)} {R t : Nat} (h : TapAt B w p P R t) : TaPost B w p v P R t (.returned v) w := ⟨rfl, h, Below.refl _ _, KpT.refl _ _, Nat.le_refl _⟩
theorem hasP_yes {i k : Nat} (h : i < k) : hasP i k = true := by unfold hasP; simp; omega
theorem cnt_tap {B : Nat} {w : World} {p : Nat} {P : List (List Int)} {R t : Nat} (h : TapAt B w p P R t) : Cnt w (.pointer (some ⟨p, 0, none⟩)) P.length := by
  obtain ⟨g, cs, h⟩ := h
  exact count_tap p _ _ _ w h.box.c0
theorem has_yes {B : Nat} {w : World} {p : Nat} {P : List (List Int)} {R t : Nat} (h : TapAt B w p P R t) {i : Nat} (hi : i < P.length) :
    Calls Try.prog 19 #[.pointer (some ⟨p, 0, none⟩), .int .i64 i] w fun e w' => e = .returned (.bool true) ∧ w' = w := by
  have := has_any _ i _ w (cnt_tap h); rwa [hasP_yes hi] at this
theorem put_full (B p i R t : Nat) (n : Int) (P : List (List Int)) (w : World) (h : TapAt B w p P R t) (hi : i < P.length) (hr : R ≤ (P.getD i []).length) (hk : P.length ≤ 8) :
    Calls Try.prog 9 #[.pointer (some ⟨p, 0, none⟩), .int .i64 i, .int .i64 n] w fun e w' => TaPost B w p (.int .i64 6) P R t e w' := by
  have H := Hid.mk9 (has_yes h hi)
  have HE := Hid.mk9 (TaPost.same (v := .int .i64 6) h)
  obtain ⟨g, cs, h⟩ := h
  obtain ⟨c, hc, _, h2⟩ := h.lt hi
  obtain ⟨s, r, hh⟩ := h.chs i c hc
  have h1 := h.box.c0
  have hi1 : (i : Int) < (P.length : Int) := by omega
  have hi0 : (0 : Int) ≤ (i : Int) := by omega
  have hm : (P.length : Int) ≤ 8 := by omega
  have Hh := Hid.mk9 hh
  have HF : Hid (R ≤ (intsV (P.getD i [])).toArray.size) := ⟨by simpa [intsV] using hr⟩
  clear h hc hh hr hk hi
  generalize P.length = k at *
  go_enter Try.func9, Try.ntmps9
  go_upto_region 5 with (go_at_call 19; refine H.out.mono ?_; rintro e w' ⟨rfl, rfl⟩)
  refine wp_send_no (c := c) (v := .int .i64 n) (z := .int .i64 0) rfl (by simp [go_sem, execOp, scase, Act.eval]) Hh.out HF.out ?_
  simp only [Act.put, List.setIfInBounds_toArray, List.set_cons_succ, List.set_cons_zero]
  go_wp2_with fail
  go_ret
  exact HE.out
theorem taPost_chan {B : Nat} {w : World} {p : Nat} {P : List (List Int)} {R t g : Nat} {cs : List Nat} (h : TapG B w p P R t g cs) {i c s' r' : Nat} (hc : cs[i]? = some c) (l : List Int) (v : Value) (hB : B ≤ c) :
    TaPost B w p v (P.set i l) R t (.returned v) (w.setChan c R (intsV l).toArray false s' r' false) := by
  obtain ⟨s, r, hh⟩ := h.chs i c hc
  exact ⟨rfl, ⟨g, cs, h.chan hc l⟩, Go.Conc.below_setChan (Below.refl _ _) hB _ _ _ _ _ _, KpT.chan hh _ _ _ _ _ _, by rw [Go.Conc.size_setChan]; exact Nat.le_refl _⟩
theorem push_ints (l : List Int) (n : Int) : (intsV l).toArray.push (.int .i64 n) = (intsV (l ++ [n])).toArray := by simp [intsV]
theorem cut_ints (x : Int) (l : List Int) : (intsV (x :: l)).toArray.extract 1 (intsV (x :: l)).toArray.size = (intsV l).toArray := by
  simp [intsV]
  exact List.take_of_length_le (by simp)
theorem put_ok (B p i R t : Nat) (n : Int) (P : List (List Int)) (w : World) (h : TapAt B w p P R t) (hi : i < P.length) (hr : (P.getD i []).length < R) (hk : P.length ≤ 8) :
    Calls Try.prog 9 #[.pointer (some ⟨p, 0, none⟩), .int .i64 i, .int .i64 n] w fun e w' => TaPost B w p (.int .i64 0) (P.set i (P.getD i [] ++ [n])) R t e w' := by
  have H := Hid.mk9 (has_yes h hi)
  obtain ⟨g, cs, h⟩ := h
  obtain ⟨c, hc, hB, h2⟩ := h.lt hi
  obtain ⟨s, r, hh⟩ := h.chs i c hc
  have h1 := h.box.c0
  have hi1 : (i : Int) < (P.length : Int) := by omega
  have hi0 : (0 : Int) ≤ (i : Int) := by omega
  have hm : (P.length : Int) ≤ 8 := by omega
  have Hh := Hid.mk9 hh
  have HE : Hid (TaPost B w p (.int .i64 0) (P.set i (P.getD i [] ++ [n])) R t (.returned (.int .i64 0)) (w.setChan c R ((intsV (P.getD i [])).toArray.push (.int .i64 n)) false (s + 1) r false)) := ⟨by rw [push_ints]; exact taPost_chan h hc _ _ hB⟩
  have HF : Hid ((intsV (P.getD i [])).toArray.size < R) := ⟨by simpa [intsV] using hr⟩
  clear h hc hh hr hk hi hB
  generalize P.length = k at *
  go_enter Try.func9, Try.ntmps9
  go_upto_region 5 with (go_at_call 19; refine H.out.mono ?_; rintro e w' ⟨rfl, rfl⟩)
  refine wp_send_yes (c := c) (v := .int .i64 n) (z := .int .i64 0) rfl (by simp [go_sem, execOp, scase, Act.eval]) Hh.out HF.out ?_
  generalize World.setChan _ _ _ _ _ _ _ _ = W9 at HE ⊢
  simp only [Act.put, List.setIfInBounds_toArray, List.set_cons_succ, List.set_cons_zero]
  go_wp2_with fail
  go_ret
  exact HE.out
theorem take_none (B p i R t : Nat) (P : List (List Int)) (w : World) (h : TapAt B w p P R t) (hi : i < P.length) (hr : P.getD i [] = []) (hk : P.length ≤ 8) :
    Calls Try.prog 11 #[.pointer (some ⟨p, 0, none⟩), .int .i64 i] w fun e w' => TaPost B w p (.tuple #[.int .i64 0, .int .i64 5]) P R t e w' := by
  have HE := Hid.mk9 (TaPost.same (v := .tuple #[.int .i64 0, .int .i64 5]) h)
  have H := Hid.mk9 (has_yes h hi)
  obtain ⟨g, cs, h⟩ := h
  obtain ⟨c, hc, hB, h2⟩ := h.lt hi
  obtain ⟨s, r, hh⟩ := h.chs i c hc
  have h1 := h.box.c0
  have hi1 : (i : Int) < (P.length : Int) := by omega
  have hi0 : (0 : Int) ≤ (i : Int) := by omega
  have hm : (P.length : Int) ≤ 8 := by omega
  have Hh := Hid.mk9 hh
  have HF : Hid (w.heap[c]? = some (.chan R #[] false s r false)) := ⟨by rw [Hh.out, hr]; rfl⟩
  clear h hc hh hr hk hi hB Hh
  generalize P.length = k at *
  go_enter Try.func11, Try.ntmps11
  go_upto_region 4 with (go_at_call 19; refine H.out.mono ?_; rintro e w' ⟨rfl, rfl⟩)
  refine wp_recv_no (c := c) (z := .int .i64 0) rfl (by simp [go_sem, execOp, rcase, Act.eval]) HF.out ?_
  simp only [Act.put, List.setIfInBounds_toArray, List.set_cons_succ, List.set_cons_zero]
  go_wp2_with fail
  go_ret2
  exact HE.out
theorem take_ok (B p i R t : Nat) (x : Int) (l : List Int) (P : List (List Int)) (w : World) (h : TapAt B w p P R t) (hi : i < P.length) (hr : P.getD i [] = x :: l) (hk : P.length ≤ 8) :
    Calls Try.prog 11 #[.pointer (some ⟨p, 0, none⟩), .int .i64 i] w fun e w' => TaPost B w p (.tuple #[.int .i64 x, .int .i64 0]) (P.set i l) R t e w' := by
  have H := Hid.mk9 (has_yes h hi)
  obtain ⟨g, cs, h⟩ := h
  obtain ⟨c, hc, hB, h2⟩ := h.lt hi
  obtain ⟨s, r, hh⟩ := h.chs i c hc
  have h1 := h.box.c0
  have hi1 : (i : Int) < (P.length : Int) := by omega
  have hi0 : (0 : Int) ≤ (i : Int) := by omega
  have hm : (P.length : Int) ≤ 8 := by omega
  have Hh := Hid.mk9 hh
  have HE : Hid (TaPost B w p (.tuple #[.int .i64 x, .int .i64 0]) (P.set i l) R t (.returned (.tuple #[.int .i64 x, .int .i64 0])) (w.setChan c R ((intsV (x :: l)).toArray.extract 1 (intsV (x :: l)).toArray.size) false s (r + 1) false)) := ⟨by rw [cut_ints]; exact taPost_chan h hc _ _ hB⟩
  have HF : Hid (w.heap[c]? = some (.chan R (intsV (x :: l)).toArray false s r false)) := ⟨by rw [Hh.out, hr]⟩
  have HG : Hid ((intsV (x :: l)).toArray.getD 0 undef = .int .i64 x) := ⟨by simp [intsV]⟩
  clear h hc hh hr hk hi hB Hh
  generalize P.length = k at *
  go_enter Try.func11, Try.ntmps11
  go_upto_region 4 with (go_at_call 19; refine H.out.mono ?_; rintro e w' ⟨rfl, rfl⟩)
  refine wp_recv_yes (c := c) (z := .int .i64 0) rfl (by simp [go_sem, execOp, rcase, Act.eval]) HF.out (by simp [intsV]) ?_
  rw [HG.out]
  generalize World.setChan _ _ _ _ _ _ _ _ = W9 at HE ⊢
  simp only [Act.put, List.setIfInBounds_toArray, List.set_cons_succ, List.set_cons_zero]
  go_wp2_with fail
  go_ret2
  exact HE.out
end Go.Proofs.Ytpolehfkjpbofaa.Ta
