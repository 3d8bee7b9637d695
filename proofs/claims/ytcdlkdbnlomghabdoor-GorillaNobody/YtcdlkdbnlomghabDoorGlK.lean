/-
  A cursor.
-/
import Derived.Test.YtcdlkdbnlomghabDoorGlE
import Derived.Test.YtcdlkdbnlomghabDoorBkN
namespace Go.Proofs.YtcdlkdbnlomghabDoor.Gl
open Go.ChangeShapes Go.WideShapes Go.ChangeAt Go.RowKit
open Go.Proofs.YtcdlkdbnlomghabDoor.Bi
open Go.Proofs.YtcdlkdbnlomghabDoor.Fr (RowAt cellsI cellsI_get)
open Go.Proofs.YtcdlkdbnlomghabDoor.Bk (rT rV)
theorem ret_smb {fn : Func} {p q : Tmp} (h : fn.results = #[.cell p 27, .tmp q]) (tmps : Array Value) (w : World) (b : Nat) (v0 v1 u : Value) (hp : tmps.getD p undef = .pointer (some ⟨b, 0, none⟩)) (hq : tmps.getD q undef = u)
    (hb : B2 w b 27 v0 v1) : (results fn tmps).run Tryd.prog w = .ok (.tuple #[.agg #[v0, v1], u]) w := by
  obtain ⟨h0, h1⟩ := hb.cells
  simp only [Array.getD_eq_getD_getElem?] at hp hq
  simp only [results, h]
  simp [go_sem, hp, hq, h0, h1]
/-- a cursor ahead of these samples -/
def CurG (w : World) (p : Nat) (ls : List Bk.Sm) (a : Option Addr) (len cap : Nat) : Prop := w.heap[p]? = some (.cells #[.slice a len cap] 25 (0, 0)) ∧ Bk.SmsAt w a len cap ls ∧ (len = 0 ∨ ∀ q, a = some q → q.block < p)
def CurAt (w : World) (p : Nat) (ls : List Bk.Sm) : Prop := ∃ a len cap, CurG w p ls a len cap
theorem CurG.lt {w : World} {p : Nat} {ls : List Bk.Sm} {a : Option Addr} {len cap : Nat} (h : CurG w p ls a len cap) : p < w.heap.size := (Array.getElem?_eq_some_iff.1 h.1).1
theorem CurAt.lt {w : World} {p : Nat} {ls : List Bk.Sm} (h : CurAt w p ls) : p < w.heap.size := by
  obtain ⟨_, _, _, h⟩ := h; exact h.lt
theorem CurG.below {w w' : World} {p : Nat} {ls : List Bk.Sm} {a : Option Addr} {len cap : Nat} (h : CurG w p ls a len cap) (hb : Below w.heap.size w w') : CurG w' p ls a len cap := ⟨(hb.block p h.lt).trans h.1, h.2.1.below hb, h.2.2⟩
theorem CurAt.below {w w' : World} {p : Nat} {ls : List Bk.Sm} (h : CurAt w p ls) (hb : Below w.heap.size w w') : CurAt w' p ls := by
  obtain ⟨a, len, cap, h⟩ := h; exact ⟨a, len, cap, h.below hb⟩
theorem CurG.cell {w : World} {p : Nat} {ls : List Bk.Sm} {a : Option Addr} {len cap : Nat} (h : CurG w p ls a len cap) : w.cell? ⟨p, 0, none⟩ = some (.slice a len cap) ∧ w.frozen? ⟨p, 0, none⟩ = false := by
  constructor
  · unfold World.cell?; rw [show w.heap[(⟨p, 0, none⟩ : Addr).block]? = _ from h.1]; rfl
  · unfold World.frozen?; rw [show w.heap[(⟨p, 0, none⟩ : Addr).block]? = _ from h.1]; rfl
theorem CurG.put {w : World} {p : Nat} {ls ms : List Bk.Sm} {a a2 : Option Addr} {len cap len2 cap2 : Nat} (h : CurG w p ls a len cap) (hs : Bk.SmsAt w a2 len2 cap2 ms) (hn : len2 = 0 ∨ ∀ q, a2 = some q → q.block < p) : CurG (w.setCell ⟨p, 0, none⟩ (.slice a2 len2 cap2)) p ms a2 len2 cap2 := by
  refine ⟨heap_setCell_same w p 0 _ _ _ h.1, ⟨hs.1, hs.2.1, hs.2.2.1, ?_⟩, hn⟩
  rcases hs.2.2.2 with h0 | ⟨b, off, e, hc⟩
  · exact .inl h0
  · rcases hn with h0 | hn
    · exact .inl h0
    · refine .inr ⟨b, off, e, fun i hi => ?_⟩
      have hne : b ≠ p := Nat.ne_of_lt (hn _ e)
      obtain ⟨c0, c1⟩ := hc i hi
      unfold World.cell? at c0 c1 ⊢
      constructor
      · rw [show (w.setCell ⟨p, 0, none⟩ (.slice a2 len2 cap2)).heap[(⟨b, off + i * 2, none⟩ : Addr).block]? = w.heap[(⟨b, off + i * 2, none⟩ : Addr).block]? from heap_setCell_other _ ⟨p, 0, none⟩ b _ hne]; exact c0
      · rw [show (w.setCell ⟨p, 0, none⟩ (.slice a2 len2 cap2)).heap[(⟨b, off + i * 2 + 1, none⟩ : Addr).block]? = w.heap[(⟨b, off + i * 2 + 1, none⟩ : Addr).block]? from heap_setCell_other _ ⟨p, 0, none⟩ b _ hne]; exact c1
theorem CurG.keep {w w' : World} {p X : Nat} {ls : List Bk.Sm} {a : Option Addr} {len cap : Nat} (h : CurG w p ls a len cap) (same : ∀ k, k ≠ X → w'.heap[k]? = w.heap[k]?) (hp : p ≠ X) (ha : len = 0 ∨ ∀ q, a = some q → q.block ≠ X) : CurG w' p ls a len cap := by
  refine ⟨(same p hp).trans h.1, ⟨h.2.1.1, h.2.1.2.1, h.2.1.2.2.1, ?_⟩, h.2.2⟩
  rcases h.2.1.2.2.2 with h0 | ⟨b, off, e, hc⟩
  · exact .inl h0
  · refine .inr ⟨b, off, e, fun i hi => ?_⟩
    obtain ⟨c0, c1⟩ := hc i hi
    rcases ha with ha | ha
    · omega
    have hs := same b (ha _ e)
    unfold World.cell? at c0 c1 ⊢
    constructor
    · rw [show w'.heap[(⟨b, off + i * 2, none⟩ : Addr).block]? = w.heap[(⟨b, off + i * 2, none⟩ : Addr).block]? from hs]; exact c0
    · rw [show w'.heap[(⟨b, off + i * 2 + 1, none⟩ : Addr).block]? = w.heap[(⟨b, off + i * 2 + 1, none⟩ : Addr).block]? from hs]; exact c1
def hdS (o : List Bk.Sm) : Bk.Sm := o.getD 0 Bk.sm0
/-- what a cursor tells: the first one of these, and it goes on to the others -/
def CurTell (p : Nat) (o : List Bk.Sm) (w : World) (e : Ending) (w' : World) : Prop := KpB p w w' ∧ CurAt w' p o.tail ∧ e = .returned (.tuple #[.agg #[.int .i64 (hdS o).1, .int .i64 (hdS o).2], .bool (!o.isEmpty)])
set_option maxHeartbeats 1000000 in
set_option maxRecDepth 60000 in
theorem next_nil (w : World) : Calls Tryd.prog 4 #[.pointer none] w fun e w' => e = .returned (.tuple #[.agg #[.int .i64 0, .int .i64 0], .bool false]) ∧ Below w.heap.size w w' := by
  have HX := Hid.mk9 (B2.new w 27 (.int .i64 0) (.int .i64 0))
  have HB := Hid.mk9 (below_alloc w (.cells #[.int .i64 0, .int .i64 0] 27))
  go_enter Tryd.func4, Tryd.ntmps4
  go_upto_region 1 with fail
  generalize w.alloc (.cells #[.int .i64 0, .int .i64 0] 27) = w1 at *
  obtain ⟨X, hX⟩ : ∃ X, w.heap.size = X := ⟨_, rfl⟩
  have HXw := Hid.mk9 hX
  rw [hX] at HX ⊢
  clear hX
  obtain ⟨x0, x1⟩ := HX.out.cells
  obtain ⟨y0, y1⟩ := HX.out.frz
  go_wp2_with fail
  refine bodyPost_ret (ret_smb rfl _ _ X (.int .i64 0) (.int .i64 0) (.bool false) rfl rfl (HX.out.set (.int .i64 0) (.int .i64 0))) rfl ?_
  exact ⟨rfl, set2_below HB.out (by rw [HXw.out]; exact Nat.le_refl _) _ _⟩
set_option maxHeartbeats 1000000 in
set_option maxRecDepth 60000 in
theorem next_end (p : Nat) (w : World) (h : CurAt w p []) : Calls Tryd.prog 4 #[.pointer (some ⟨p, 0, none⟩)] w fun e w' => CurTell p [] w e w' := by
  have HLt := Hid.mk9 h.lt
  have HA := Hid.mk9 h
  obtain ⟨a, len, cap, h⟩ := h
  obtain rfl : len = 0 := h.2.1.1.symm
  have HX := Hid.mk9 (B2.new w 27 (.int .i64 0) (.int .i64 0))
  have HB := Hid.mk9 (below_alloc w (.cells #[.int .i64 0, .int .i64 0] 27))
  have HC := Hid.mk9 (h.below (below_alloc w (.cells #[.int .i64 0, .int .i64 0] 27)))
  clear h
  go_enter Tryd.func4, Tryd.ntmps4
  go_upto_region 1 with fail
  generalize w.alloc (.cells #[.int .i64 0, .int .i64 0] 27) = w1 at *
  obtain ⟨X, hX⟩ : ∃ X, w.heap.size = X := ⟨_, rfl⟩
  have HXw := Hid.mk9 hX
  rw [hX] at HX ⊢
  clear hX
  obtain ⟨x0, x1⟩ := HX.out.cells
  obtain ⟨y0, y1⟩ := HX.out.frz
  obtain ⟨p0, p1⟩ := HC.out.cell
  have hpl := HC.out.lt
  go_wp2_with fail
  refine bodyPost_ret (ret_smb rfl _ _ X (.int .i64 0) (.int .i64 0) (.bool false) rfl rfl (HX.out.set (.int .i64 0) (.int .i64 0))) rfl ?_
  have hb := set2_below HB.out (show w.heap.size ≤ X by rw [HXw.out]; exact Nat.le_refl _) (.int .i64 0) (.int .i64 0)
  exact ⟨KpB.of_below hb (Nat.le_of_lt HLt.out), HA.out.below hb, rfl⟩
theorem sms_tail {w : World} {b off len cap : Nat} {s : Bk.Sm} {ls : List Bk.Sm} (h : Bk.SmsAt w (some ⟨b, off, none⟩) len cap (s :: ls)) : (¬ cap = 1 → Bk.SmsAt w (some ⟨b, off + 2, none⟩) (len - 1) (cap - 1) ls) ∧ (cap = 1 → ls = [] ∧ len = 1) ∧ w.cell? ⟨b, off, none⟩ = some (.int .i64 s.1) ∧ w.cell? ⟨b, off + 1, none⟩ = some (.int .i64 s.2) := by
  obtain ⟨h1, h2, h3, h4⟩ := h
  simp only [List.length_cons] at h1
  rcases h4 with h4 | ⟨b', off', e, hc⟩
  · omega
  · injection e with e
    injection e with e1 e2
    subst e1 e2
    have c := hc 0 (by omega)
    rw [Nat.zero_mul, Nat.add_zero] at c
    refine ⟨fun _ => ⟨by omega, by omega, by omega, .inr ⟨b, off + 2, rfl, fun i hi => ?_⟩⟩, fun hc1 => ⟨List.length_eq_zero_iff.1 (by omega), by omega⟩, c.1, c.2⟩
    have := hc (i + 1) (by omega)
    rw [show off + 2 + i * 2 = off + (i + 1) * 2 by omega]
    exact this
set_option maxHeartbeats 1000000 in
set_option maxRecDepth 60000 in
theorem next_some (p : Nat) (s : Bk.Sm) (ls : List Bk.Sm) (w : World) (h : CurAt w p (s :: ls)) : Calls Tryd.prog 4 #[.pointer (some ⟨p, 0, none⟩)] w fun e w' => CurTell p (s :: ls) w e w' := by
  obtain ⟨a, len, cap, h⟩ := h
  have hl : len = ls.length + 1 := by have := h.2.1.1; simp at this; omega
  have hlc : len ≤ cap := h.2.1.2.1
  have hcm : (cap : Int) ≤ 9223372036854775807 := by have := h.2.1.2.2.1; unfold maxLen at this; omega
  obtain ⟨b, off, rfl, hb, _⟩ := h.2.1.some (show 0 < len by omega)
  obtain ⟨h9, h8, c0, c1⟩ := sms_tail h.2.1
  have hbp : Hid (b < p) := by
    rcases h.2.2 with h0 | hn
    · omega
    · exact hn _ rfl
  have HG := Hid.mk9 h
  have H9 := Hid.mk9 h9
  have hlen : 0 < len := by omega
  have hlI : (0 : Int) < (len : Int) := by omega
  have hl1 : (1 : Int) ≤ (len : Int) := by omega
  have hlcI : (len : Int) ≤ (cap : Int) := by omega
  have hl0 : ((len : Int) == 0) = false := by rw [beq_eq_false_iff_ne]; omega
  have HLn := Hid.mk9 hl
  clear h h9 hl
  by_cases hc1 : cap = 1
  · obtain ⟨rfl, rfl⟩ := h8 hc1
    subst hc1
    have HX := Hid.mk9 (B2.new w 27 (.int .i64 0) (.int .i64 0))
    have HB := Hid.mk9 (below_alloc w (.cells #[.int .i64 0, .int .i64 0] 27))
    have HC := Hid.mk9 (HG.out.below (below_alloc w (.cells #[.int .i64 0, .int .i64 0] 27)))
    have h0 := (below_alloc w (.cells #[.int .i64 0, .int .i64 0] 27)).cell (p := ⟨b, off, none⟩) hb
    have h1 := (below_alloc w (.cells #[.int .i64 0, .int .i64 0] 27)).cell (p := ⟨b, off + 1, none⟩) hb
    rw [c0] at h0
    rw [c1] at h1
    have hb1 : b < (w.alloc (.cells #[.int .i64 0, .int .i64 0] 27)).heap.size := Nat.lt_of_lt_of_le hb HB.out.size
    clear c0 c1
    go_enter Tryd.func4, Tryd.ntmps4
    go_upto_region 1 with fail
    generalize w.alloc (.cells #[.int .i64 0, .int .i64 0] 27) = w1 at *
    obtain ⟨X, hX⟩ : ∃ X, w.heap.size = X := ⟨_, rfl⟩
    have HXw := Hid.mk9 hX
    rw [hX] at HX ⊢
    clear hX
    obtain ⟨x0, x1⟩ := HX.out.cells
    obtain ⟨y0, y1⟩ := HX.out.frz
    obtain ⟨p0, p1⟩ := HC.out.cell
    have hpl := HC.out.lt
    go_upto_region 4 with fail
    have HX4 := Hid.mk9 (HX.out.below (below_alloc w1 (.cells #[.int .i64 s.1, .int .i64 s.2] 27)))
    have HB4 := Hid.mk9 (below2 HB.out (below_alloc w1 (.cells #[.int .i64 s.1, .int .i64 s.2] 27)))
    have HC4 := Hid.mk9 (HC.out.below (below_alloc w1 (.cells #[.int .i64 s.1, .int .i64 s.2] 27)))
    have HD4 := Hid.mk9 (B2.new w1 27 (.int .i64 s.1) (.int .i64 s.2))
    have HXD : Hid (X < w1.heap.size ∧ p < w1.heap.size) := ⟨HX.out.lt, hpl⟩
    clear x0 x1 y0 y1 p0 p1 hpl h0 h1 hb1 HX HB HC
    generalize w1.alloc (.cells #[.int .i64 s.1, .int .i64 s.2] 27) = w4 at *
    generalize w1.heap.size = D at *
    obtain ⟨x0, x1⟩ := HX4.out.cells
    obtain ⟨y0, y1⟩ := HX4.out.frz
    obtain ⟨z0, z1⟩ := HD4.out.cells
    obtain ⟨p0, p1⟩ := HC4.out.cell
    have hpl := HC4.out.lt
    go_upto_region 5 with fail
    have hXp : X ≠ p := by have := HG.out.lt; have := HXw.out; omega
    have HK : Hid (∀ u0 u1, KpB p w (set2 (w4.setCell ⟨p, 0, none⟩ (.slice (some ⟨b, off, none⟩) 0 0)) X u0 u1)) := fun u0 u1 => by
      have hp9 := HG.out.lt
      have hX9 := HXw.out
      refine ⟨?_, fun k hk hkp => ?_, fun N w0 hN hNp => ?_⟩
      · have := HB4.out.size
        unfold set2 World.setCell
        simp
        exact this
      · rw [set2_else u0 u1 (by omega), heap_setCell_other _ ⟨p, 0, none⟩ k _ hkp]
        exact HB4.out.block k hk
      · exact set2_below ((hN.trans (HB4.out.mono (by omega))).setCell (p := ⟨p, 0, none⟩) hNp _) (by omega) _ _
    have HC5 : Hid (CurG (w4.setCell ⟨p, 0, none⟩ (.slice (some ⟨b, off, none⟩) 0 0)) p [] (some ⟨b, off, none⟩) 0 0) := HC4.out.put ⟨rfl, Nat.le_refl _, Nat.zero_le _, .inl rfl⟩ (.inl rfl)
    have HX5 := Hid.mk9 (HX4.out.else (c := p) (i := 0) (.slice (some ⟨b, off, none⟩) 0 0) hXp)
    have HD5 := Hid.mk9 (HD4.out.else (c := p) (i := 0) (.slice (some ⟨b, off, none⟩) 0 0) (by have := HXD.out; omega))
    clear x0 x1 y0 y1 z0 z1 p0 p1 hpl HX4 HD4 HC4
    generalize w4.setCell ⟨p, 0, none⟩ (.slice (some ⟨b, off, none⟩) 0 0) = w5 at *
    obtain ⟨x0, x1⟩ := HX5.out.cells
    obtain ⟨y0, y1⟩ := HX5.out.frz
    obtain ⟨z0, z1⟩ := HD5.out.cells
    have HbX : Hid (b ≠ X) := by have := HXw.out; unfold Hid; omega
    go_wp2_with fail
    refine bodyPost_ret (ret_smb rfl _ _ X (.int .i64 s.1) (.int .i64 s.2) (.bool true) rfl rfl (HX5.out.set (.int .i64 s.1) (.int .i64 s.2))) rfl ?_
    exact ⟨HK.out _ _, ⟨_, _, _, HC5.out.keep (fun k hk => set2_else _ _ hk) (fun e => hXp e.symm) (.inr (fun q hq => by cases hq; exact HbX.out))⟩, rfl⟩
  · clear h8
    have HX := Hid.mk9 (B2.new w 27 (.int .i64 0) (.int .i64 0))
    have HB := Hid.mk9 (below_alloc w (.cells #[.int .i64 0, .int .i64 0] 27))
    have HC := Hid.mk9 (HG.out.below (below_alloc w (.cells #[.int .i64 0, .int .i64 0] 27)))
    have h0 := (below_alloc w (.cells #[.int .i64 0, .int .i64 0] 27)).cell (p := ⟨b, off, none⟩) hb
    have h1 := (below_alloc w (.cells #[.int .i64 0, .int .i64 0] 27)).cell (p := ⟨b, off + 1, none⟩) hb
    rw [c0] at h0
    rw [c1] at h1
    have hb1 : b < (w.alloc (.cells #[.int .i64 0, .int .i64 0] 27)).heap.size := Nat.lt_of_lt_of_le hb HB.out.size
    clear c0 c1
    go_enter Tryd.func4, Tryd.ntmps4
    go_upto_region 1 with fail
    generalize w.alloc (.cells #[.int .i64 0, .int .i64 0] 27) = w1 at *
    obtain ⟨X, hX⟩ : ∃ X, w.heap.size = X := ⟨_, rfl⟩
    have HXw := Hid.mk9 hX
    rw [hX] at HX ⊢
    clear hX
    obtain ⟨x0, x1⟩ := HX.out.cells
    obtain ⟨y0, y1⟩ := HX.out.frz
    obtain ⟨p0, p1⟩ := HC.out.cell
    have hpl := HC.out.lt
    go_upto_region 4 with fail
    have HX4 := Hid.mk9 (HX.out.below (below_alloc w1 (.cells #[.int .i64 s.1, .int .i64 s.2] 27)))
    have HB4 := Hid.mk9 (below2 HB.out (below_alloc w1 (.cells #[.int .i64 s.1, .int .i64 s.2] 27)))
    have HC4 := Hid.mk9 (HC.out.below (below_alloc w1 (.cells #[.int .i64 s.1, .int .i64 s.2] 27)))
    have HD4 := Hid.mk9 (B2.new w1 27 (.int .i64 s.1) (.int .i64 s.2))
    have HXD : Hid (X < w1.heap.size ∧ p < w1.heap.size) := ⟨HX.out.lt, hpl⟩
    clear x0 x1 y0 y1 p0 p1 hpl h0 h1 hb1 HX HB HC
    generalize w1.alloc (.cells #[.int .i64 s.1, .int .i64 s.2] 27) = w4 at *
    generalize w1.heap.size = D at *
    obtain ⟨x0, x1⟩ := HX4.out.cells
    obtain ⟨y0, y1⟩ := HX4.out.frz
    obtain ⟨z0, z1⟩ := HD4.out.cells
    obtain ⟨p0, p1⟩ := HC4.out.cell
    have hpl := HC4.out.lt
    go_upto_region 5 with fail
    have hXp : X ≠ p := by have := HG.out.lt; have := HXw.out; omega
    have HK : Hid (∀ u0 u1, KpB p w (set2 (w4.setCell ⟨p, 0, none⟩ (.slice (some ⟨b, off + 2, none⟩) (len - 1) (cap - 1))) X u0 u1)) := fun u0 u1 => by
      have hp9 := HG.out.lt
      have hX9 := HXw.out
      refine ⟨?_, fun k hk hkp => ?_, fun N w0 hN hNp => ?_⟩
      · have := HB4.out.size
        unfold set2 World.setCell
        simp
        exact this
      · rw [set2_else u0 u1 (by omega), heap_setCell_other _ ⟨p, 0, none⟩ k _ hkp]
        exact HB4.out.block k hk
      · exact set2_below ((hN.trans (HB4.out.mono (by omega))).setCell (p := ⟨p, 0, none⟩) hNp _) (by omega) _ _
    have HC5 : Hid (CurG (w4.setCell ⟨p, 0, none⟩ (.slice (some ⟨b, off + 2, none⟩) (len - 1) (cap - 1))) p ls (some ⟨b, off + 2, none⟩) (len - 1) (cap - 1)) := HC4.out.put ((H9.out hc1).below HB4.out) (.inr (fun q hq => by cases hq; exact hbp.out))
    have HX5 := Hid.mk9 (HX4.out.else (c := p) (i := 0) (.slice (some ⟨b, off + 2, none⟩) (len - 1) (cap - 1)) hXp)
    have HD5 := Hid.mk9 (HD4.out.else (c := p) (i := 0) (.slice (some ⟨b, off + 2, none⟩) (len - 1) (cap - 1)) (by have := HXD.out; omega))
    clear x0 x1 y0 y1 z0 z1 p0 p1 hpl HX4 HD4 HC4
    generalize w4.setCell ⟨p, 0, none⟩ (.slice (some ⟨b, off + 2, none⟩) (len - 1) (cap - 1)) = w5 at *
    obtain ⟨x0, x1⟩ := HX5.out.cells
    obtain ⟨y0, y1⟩ := HX5.out.frz
    obtain ⟨z0, z1⟩ := HD5.out.cells
    have HbX : Hid (b ≠ X) := by have := HXw.out; unfold Hid; omega
    go_wp2_with fail
    refine bodyPost_ret (ret_smb rfl _ _ X (.int .i64 s.1) (.int .i64 s.2) (.bool true) rfl rfl (HX5.out.set (.int .i64 s.1) (.int .i64 s.2))) rfl ?_
    exact ⟨HK.out _ _, ⟨_, _, _, HC5.out.keep (fun k hk => set2_else _ _ hk) (fun e => hXp e.symm) (.inr (fun q hq => by cases hq; exact HbX.out))⟩, rfl⟩
end Go.Proofs.YtcdlkdbnlomghabDoor.Gl
