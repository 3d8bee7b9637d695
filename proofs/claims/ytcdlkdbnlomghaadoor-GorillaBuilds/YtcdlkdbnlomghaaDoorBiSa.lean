/-
  The answer Same.
-/
import Derived.Test.YtcdlkdbnlomghaaDoorBiE
import Derived.Test.YtcdlkdbnlomghaaDoorBiOp
import Derived.Lib.SlBytesConst
namespace Go.Proofs.YtcdlkdbnlomghaaDoor.Bi
open Go.ChangeShapes Go.WideShapes Go.ChangeAt Go.RowKit
/-- a text of bytes -/
def txtN (bs : List Nat) : ByteArray := ⟨(bs.map UInt8.ofNat).toArray⟩
theorem txtN_inj {l m : List Nat} (hl : ∀ i, l.getD i 0 < 256) (hm : ∀ i, m.getD i 0 < 256) (h : txtN l = txtN m) : l = m := by
  have h1 : l.map UInt8.ofNat = m.map UInt8.ofNat := by
    have := congrArg (fun b => b.data.toList) h
    simpa [txtN] using this
  have h2 : l.length = m.length := by simpa using congrArg List.length h1
  refine List.ext_getElem h2 fun i h3 h4 => ?_
  have h5 := congrArg (fun x => x[i]?) h1
  simp [h3, h4] at h5
  have h6 := hl i
  have h7 := hm i
  simp [h3] at h6
  simp [h4] at h7
  have h8 := congrArg UInt8.toNat h5
  rwa [UInt8.toNat_ofNat_of_lt' h6, UInt8.toNat_ofNat_of_lt' h7] at h8
theorem text_by {w : World} {a : Option Addr} {len cap : Nat} {l : List Nat} (h : ByAt w a len cap l) : (convert 24 9 (.slice a len cap)).run Tryd.prog w = .ok (.string (txtN l)) w := by
  have hl := h.1
  by_cases h0 : len = 0
  · subst h0
    obtain rfl : l = [] := List.length_eq_zero_iff.1 hl
    rw [run_convert_bytes_string w 24 9 5 a 0 cap Tryd.underlying24 Tryd.underlying5 Tryd.underlying9]
    cases a with
    | none => simp [Conv.bytesToString, txtN]; rfl
    | some x =>
      have := run_convert_bytes_back (P := Tryd.prog) w 24 9 5 x cap [] Tryd.underlying24 Tryd.underlying5 Tryd.underlying9 (by intro j hj; simp at hj)
      rw [run_convert_bytes_string w 24 9 5 (some x) _ cap Tryd.underlying24 Tryd.underlying5 Tryd.underlying9] at this
      exact this
  · obtain ⟨b, off, rfl, -, hc⟩ := h.some (by omega)
    have e : len = (l.map UInt8.ofNat).length := by simp; omega
    rw [e]
    refine run_convert_bytes_back (P := Tryd.prog) w 24 9 5 ⟨b, off, none⟩ cap (l.map UInt8.ofNat) Tryd.underlying24 Tryd.underlying5 Tryd.underlying9 ?_
    intro j hj
    have hj2 : j < l.length := by simpa using hj
    have h9 := h.2.2.2.1 j
    rw [addr_plus, hc j (by omega)]
    simp [hj2] at h9 ⊢
    omega
open Classical in
/-- the answer's Same -/
noncomputable def sameP (bs cs : List Nat) (N M : Int) : Bool := decide (N = M ∧ bs = cs)
open Classical in
theorem sameP_yes (bs : List Nat) (N : Int) : sameP bs bs N N = true := decide_eq_true ⟨rfl, rfl⟩
set_option maxHeartbeats 1000000 in
set_option maxRecDepth 60000 in
open Classical in
theorem same_any (a : Option Addr) (len cap : Nat) (N : Int) (bs : List Nat) (a2 : Option Addr) (len2 cap2 : Nat) (M : Int) (cs : List Nat) (w : World) (h : ByAt w a len cap bs) (h2 : ByAt w a2 len2 cap2 cs) : Calls Tryd.prog 33 #[.agg #[.slice a len cap, .int .i64 N], .agg #[.slice a2 len2 cap2, .int .i64 M]] w fun e w' => e = .returned (.bool (sameP bs cs N M)) ∧ Below w.heap.size w w' := by
  have hb1 := below_alloc w (.cells #[.slice a len cap, .int .i64 N] 26)
  have hb2 := below_alloc (w.alloc (.cells #[.slice a len cap, .int .i64 N] 26)) (.cells #[.slice a2 len2 cap2, .int .i64 M] 26)
  have HG := Hid.mk9 (below2 hb1 hb2)
  have HX := Hid.mk9 ((B2.new w 26 (.slice a len cap) (.int .i64 N)).below hb2)
  have HY := Hid.mk9 (B2.new (w.alloc (.cells #[.slice a len cap, .int .i64 N] 26)) 26 (.slice a2 len2 cap2) (.int .i64 M))
  rw [show (w.alloc (.cells #[.slice a len cap, .int .i64 N] 26)).heap.size = w.heap.size + 1 by simp] at HY
  have t1 := text_by (h.below (below2 hb1 hb2))
  have t2 := text_by (h2.below (below2 hb1 hb2))
  clear hb1 hb2
  by_cases hN : N = M
  · subst hN
    by_cases hB : txtN bs = txtN cs
    · have HQ : Hid (sameP bs cs N N = true) := decide_eq_true ⟨rfl, txtN_inj h.2.2.2.1 h2.2.2.2.1 hB⟩
      rw [← hB] at t2
      clear h h2 hB
      go_enter Tryd.func33, Tryd.ntmps33
      go_upto_region 1 with fail
      generalize (w.alloc (.cells #[.slice a len cap, .int .i64 N] 26)).alloc (.cells #[.slice a2 len2 cap2, .int .i64 N] 26) = w1 at *
      obtain ⟨x0, x1⟩ := HX.out.cells
      obtain ⟨y0, y1⟩ := HY.out.cells
      go_wp2_with fail
      go_ret
      exact ⟨by rw [HQ.out]; rfl, HG.out⟩
    · have HQ : Hid (sameP bs cs N N = false) := decide_eq_false (fun hh => hB (by rw [hh.2]))
      generalize txtN bs = s1 at *
      generalize txtN cs = s2 at *
      have hne : (s1.toList == s2.toList) = false := by rw [beq_eq_false_iff_ne, ByteArray.toList_eq, ByteArray.toList_eq]; exact fun hh => hB (ByteArray.ext (Array.toList_inj.1 hh))
      clear h h2
      go_enter Tryd.func33, Tryd.ntmps33
      go_upto_region 1 with fail
      generalize (w.alloc (.cells #[.slice a len cap, .int .i64 N] 26)).alloc (.cells #[.slice a2 len2 cap2, .int .i64 N] 26) = w1 at *
      obtain ⟨x0, x1⟩ := HX.out.cells
      obtain ⟨y0, y1⟩ := HY.out.cells
      go_wp2_with fail
      go_ret
      exact ⟨by rw [HQ.out]; rfl, HG.out⟩
  · have HQ : Hid (sameP bs cs N M = false) := decide_eq_false (fun hh => hN hh.1)
    have hne : (N == M) = false := by rw [beq_eq_false_iff_ne]; exact hN
    clear h h2 hN t1 t2
    go_enter Tryd.func33, Tryd.ntmps33
    go_upto_region 1 with fail
    generalize (w.alloc (.cells #[.slice a len cap, .int .i64 N] 26)).alloc (.cells #[.slice a2 len2 cap2, .int .i64 M] 26) = w1 at *
    obtain ⟨x0, x1⟩ := HX.out.cells
    obtain ⟨y0, y1⟩ := HY.out.cells
    go_wp2_with fail
    go_ret
    exact ⟨by rw [HQ.out]; rfl, HG.out⟩
end Go.Proofs.YtcdlkdbnlomghaaDoor.Bi
