/-
  The contracts of Read, and of a reader that goes on.
-/
import Derived.Test.YtcdlkdbnlomghaaDoorBiJ
namespace Go.Proofs.YtcdlkdbnlomghaaDoor.Bi
open Go.ChangeShapes Go.WideShapes Go.ChangeAt Go.RowKit
/-- a reader in memory -/
structure RdG (w : World) (p : Nat) (l : List Bool) (at' : Nat) (a : Option Addr) (len cap : Nat) : Prop where
  box : B3 w p 129 (.slice a len cap) (.int .i64 (l.length : Int)) (.int .i64 (at' : Int))
  row : ByAt w a len cap (pack l len)
  hl : len = need l.length
  ok : at' ≤ l.length ∧ l.length ≤ 131072
  ne : ∀ q, a = some q → q.block < p
def RdAt (w : World) (p : Nat) (l : List Bool) (at' : Nat) : Prop := ∃ a len cap, RdG w p l at' a len cap
/-- all is kept but the block p -/
structure KpB (p : Nat) (w w' : World) : Prop where
  size : w.heap.size ≤ w'.heap.size
  else_ : ∀ k, k < w.heap.size → k ≠ p → w'.heap[k]? = w.heap[k]?
  below : ∀ N w0, Below N w0 w → N ≤ p → Below N w0 w'
theorem KpB.refl (p : Nat) (w : World) : KpB p w w := ⟨Nat.le_refl _, fun _ _ _ => rfl, fun _ _ h _ => h⟩
theorem KpB.of_below {p : Nat} {w w' : World} (h : Below w.heap.size w w') (hp : p ≤ w.heap.size) : KpB p w w' := ⟨h.size, fun k hk _ => h.block k hk, fun _ _ hb hN => hb.trans (h.mono (Nat.le_trans hN hp))⟩
theorem KpB.set {p : Nat} {w w' : World} (h : KpB p w w') (i : Nat) (v : Value) : KpB p w (w'.setCell ⟨p, i, none⟩ v) :=
  ⟨by rw [World.size_setCell]; exact h.size, fun k hk hne => (heap_setCell_other _ ⟨p, i, none⟩ k v hne).trans (h.else_ k hk hne), fun N w0 hb hp => (h.below N w0 hb hp).setCell (p := ⟨p, i, none⟩) hp v⟩
theorem KpB.trans {p : Nat} {a b c : World} (h : KpB p a b) (k : KpB p b c) : KpB p a c :=
  ⟨Nat.le_trans h.size k.size, fun i hi hne => (k.else_ i (Nat.lt_of_lt_of_le hi h.size) hne).trans (h.else_ i hi hne), fun N w0 hb hp => k.below N w0 (h.below N w0 hb hp) hp⟩
theorem RdAt.lt {w : World} {p at' : Nat} {l : List Bool} (h : RdAt w p l at') : p < w.heap.size := by
  obtain ⟨a, len, cap, h⟩ := h
  exact h.box.lt
theorem RdG.below {w w' : World} {p at' len cap : Nat} {l : List Bool} {a : Option Addr} (h : RdG w p l at' a len cap) (hb : Below w.heap.size w w') : RdG w' p l at' a len cap := ⟨h.box.below hb, h.row.below hb, h.hl, h.ok, h.ne⟩
theorem RdAt.below {w w' : World} {p at' : Nat} {l : List Bool} (h : RdAt w p l at') (hb : Below w.heap.size w w') : RdAt w' p l at' := by
  obtain ⟨a, len, cap, h⟩ := h
  exact ⟨a, len, cap, h.below hb⟩
theorem RdG.set {w : World} {p at' len cap : Nat} {l : List Bool} {a : Option Addr} (h : RdG w p l at' a len cap) (b : Nat) (hb : b ≤ l.length) : RdG (w.setCell ⟨p, 2, none⟩ (.int .i64 (b : Int))) p l b a len cap :=
  ⟨h.box.put2 _, byAt_keep h.row ((KeepR.refl p w).set 2 _) (fun q hq => Nat.ne_of_lt (h.ne q hq)), h.hl, ⟨hb, h.ok.2⟩, h.ne⟩
def ReadPost (l : List Bool) (w : World) (e : Ending) (w' : World) : Prop := Below w.heap.size w w' ∧ ∃ p, w.heap.size ≤ p ∧ e = .returned (.pointer (some ⟨p, 0, none⟩)) ∧ RdAt w' p l 0
theorem RdAt.zero (w : World) : RdAt (w.alloc (.cells #[.slice none 0 0, .int .i64 0, .int .i64 0] 129)) w.heap.size [] 0 :=
  ⟨none, 0, 0, B3.new w _ _ _ _, ByAt.nil _, rfl, by simp, fun q hq => by cases hq⟩
set_option maxHeartbeats 1000000 in
set_option maxRecDepth 60000 in
theorem read_no (a : Option Addr) (len cap : Nat) (N : Int) (bs : List Nat) (w : World) (h : ByAt w a len cap bs) (hM : ¬ MayB bs N) : Calls Tryd.prog 54 #[.agg #[.slice a len cap, .int .i64 N]] w fun e w' => ReadPost [] w e w' := by
  have HL := Hid.mk9 h
  have HM := Hid.mk9 hM
  clear h hM
  have HB := Hid.mk9 (below_alloc w (.cells #[.slice a len cap, .int .i64 N] 26))
  have HX := Hid.mk9 (B2.new w 26 (.slice a len cap) (.int .i64 N))
  go_enter Tryd.func54, Tryd.ntmps54
  go_upto_region 1 with fail
  generalize w.alloc (.cells #[.slice a len cap, .int .i64 N] 26) = w1 at *
  generalize hX : w.heap.size = X at HX ⊢
  clear hX
  obtain ⟨p0, p1⟩ := HX.out.cells
  go_wp2_with (go_at_call 67; refine (check_noB HL.out HM.out HB.out).mono ?_; rintro e w2 ⟨rfl, hb2⟩; have HB2 := Hid.mk9 (below2 HB.out hb2); clear hb2 HB HX p0 p1)
  go_ret
  exact ⟨below2 HB2.out (below_alloc _ _), _, HB2.out.size, rfl, RdAt.zero _⟩
set_option maxHeartbeats 1000000 in
set_option maxRecDepth 60000 in
theorem read_yes (a : Option Addr) (len cap k : Nat) (l : List Bool) (w : World) (h : ByAt w a len cap (pack l len)) (hk : l.length = k) (hl : len = need k) (hN : k ≤ 131072) : Calls Tryd.prog 54 #[.agg #[.slice a len cap, .int .i64 (k : Int)]] w fun e w' => ReadPost l w e w' := by
  have HL := Hid.mk9 h
  have HM : Hid (MayB (pack l len) (k : Int)) := by
    unfold Hid
    rw [hl, ← hk]
    exact pack_may (by omega)
  have HLo : Hid (∀ W, Below w.heap.size w W → Calls Tryd.prog 71 #[.agg #[.slice a len cap, .int .i64 (k : Int)], .int .i64 0] W fun e w' => LongPost l k W e w') := fun W hb => by
    have := longer_any a len cap 0 l W (h.below hb) (by rw [hk]; exact hl) (by omega) (by decide)
    rwa [hk, Nat.add_zero] at this
  have Hk := Hid.mk9 hk
  have HN := Hid.mk9 hN
  clear h hk hl hN
  have HB := Hid.mk9 (below_alloc w (.cells #[.slice a len cap, .int .i64 (k : Int)] 26))
  have HX := Hid.mk9 (B2.new w 26 (.slice a len cap) (.int .i64 (k : Int)))
  go_enter Tryd.func54, Tryd.ntmps54
  go_upto_region 1 with fail
  generalize w.alloc (.cells #[.slice a len cap, .int .i64 (k : Int)] 26) = w1 at *
  generalize hX : w.heap.size = X at HX ⊢
  clear hX
  obtain ⟨p0, p1⟩ := HX.out.cells
  go_wp2_with (first | (go_at_call 67; refine (check_yesB HL.out HM.out HB.out).mono ?_; rintro e w2 ⟨rfl, hb2⟩; have HB2 := Hid.mk9 (below2 HB.out hb2); have HX2 := Hid.mk9 (HX.out.below hb2); clear hb2 HB HX p0 p1; obtain ⟨p0, p1⟩ := HX2.out.cells) | (go_at_call 71; refine (HLo.out _ HB2.out).mono ?_; rintro e w4 ⟨hb4, g, hg4, rfl, hr4⟩; have HB4 := Hid.mk9 (below2 HB2.out hb4); have HG4 := Hid.mk9 (And.intro hg4 hr4); clear hb4 hg4 hr4 p0 p1 HX2))
  go_ret
  refine ⟨below2 HB4.out (below_alloc _ _), _, HB4.out.size, rfl, some ⟨g, 0, none⟩, need k, need k, ?_⟩
  have hg := HG4.out.2.lt
  have hrow := HG4.out.2.bytes (by rw [pack_len]; have := HN.out; unfold need maxLen; omega) (pack_lt _ _)
  rw [pack_len] at hrow
  refine ⟨?_, hrow.below (below_alloc _ _), by rw [Hk.out], ⟨Nat.zero_le _, by rw [Hk.out]; exact HN.out⟩, fun q hq => by injection hq with hq; rw [← hq]; exact hg⟩
  rw [Hk.out]
  exact B3.new _ _ _ _ _
theorem left_nil (w : World) : Calls Tryd.prog 57 #[.pointer none] w fun e w' => e = .returned (.int .i64 0) ∧ w' = w := by
  go_enter Tryd.func57, Tryd.ntmps57
  go_wp2
  go_ret
  exact ⟨rfl, rfl⟩
set_option maxRecDepth 60000 in
theorem left_any (p at' : Nat) (l : List Bool) (w : World) (h : RdAt w p l at') : Calls Tryd.prog 57 #[.pointer (some ⟨p, 0, none⟩)] w fun e w' => e = .returned (.int .i64 ((l.length - at' : Nat) : Int)) ∧ Grown w w' := by
  obtain ⟨a, len, cap, h⟩ := h
  have HBx := Hid.mk9 h.box
  obtain ⟨k, hk⟩ : ∃ k, k = l.length := ⟨_, rfl⟩
  obtain ⟨r, hr⟩ : ∃ r, r = l.length - at' := ⟨_, rfl⟩
  have hok := h.ok
  have e1 : (k : Int) - (at' : Int) = (r : Int) := by omega
  have hw : IntKind.i64.wrap (r : Int) = (r : Int) := by simp [IntKind.wrap, IntKind.bits, IntKind.signed]; omega
  obtain ⟨c0, c1, c2⟩ := h.box.cells
  rw [← hr]
  rw [← hk] at c1
  have x1 := cell_grown (a := ⟨p, 1, none⟩) h.box.lt c1
  have x2 := cell_grown (a := ⟨p, 2, none⟩) h.box.lt c2
  clear h hk hr hok c0 c1 c2 HBx
  go_enter Tryd.func57, Tryd.ntmps57
  go_wp2_with fail
  refine wp_region_QW mixed5 (by kernel_rfl) ?_
  repeat (refine QW_step (fun K hK => ?_); go_simp; first | (refine hK _ ?_; clear hK K) | (apply Exists.intro; refine ⟨fun _ => ?_, hK _ ?_⟩; fail; clear hK K))
  refine QW_nil ?_
  intro _ hw9
  obtain ⟨⟨nq, osq⟩, hw8⟩ := hw9
  subst hw8
  go_wp2_with fail
  go_ret
  exact ⟨rfl, nq, osq, rfl⟩
def MovePost (p : Nat) (l : List Bool) (at' : Nat) (v : Value) (w : World) (e : Ending) (w' : World) : Prop := e = .returned v ∧ RdAt w' p l at' ∧ KpB p w w'
/-- what may be taken -/
theorem take_word (v : Value) (n : Int) (w : World) (h : isWordP n = false) : Calls Tryd.prog 56 #[v, .int .i64 n] w fun e w' => e = .returned (.tuple #[.int .u64 0, .int .i64 1]) ∧ w' = w := by
  have HI := Hid.mk9 (isWord_any n)
  rw [h] at HI
  clear h
  go_enter Tryd.func56, Tryd.ntmps56
  go_wp2_with (go_at_call 75; refine (HI.out _).mono ?_; rintro e w9 ⟨rfl, hw9⟩; obtain rfl := hw9.symm)
  go_ret2
  exact ⟨rfl, rfl⟩
set_option maxRecDepth 60000 in
theorem take_few (v : Value) (n : Int) (r : Nat) (w : World) (h : isWordP n = true) (hL : Calls Tryd.prog 57 #[v] w fun e w' => e = .returned (.int .i64 (r : Int)) ∧ Grown w w') (hr : (r : Int) < n) : Calls Tryd.prog 56 #[v, .int .i64 n] w fun e w' => e = .returned (.tuple #[.int .u64 0, .int .i64 2]) ∧ Grown w w' := by
  have HI := Hid.mk9 (isWord_any n)
  rw [h] at HI
  have HL : Hid (Calls Tryd.prog 57 #[v] w fun e w' => e = .returned (.int .i64 (r : Int)) ∧ Grown w w') := hL
  clear h hL
  go_enter Tryd.func56, Tryd.ntmps56
  go_wp2_with (first | (go_at_call 75; refine (HI.out _).mono ?_; rintro e w9 ⟨rfl, hw9⟩; obtain rfl := hw9.symm) | (go_at_call 57; refine HL.out.mono ?_; rintro e w2 ⟨rfl, hg2⟩; have HG2 := Hid.mk9 hg2; clear hg2))
  go_ret2
  exact ⟨rfl, HG2.out⟩
set_option maxHeartbeats 1000000 in
set_option maxRecDepth 60000 in
theorem take_yes (p at' n : Nat) (l : List Bool) (w : World) (h : RdAt w p l at') (hn : n ≤ 64) (hr : at' + n ≤ l.length) : Calls Tryd.prog 56 #[.pointer (some ⟨p, 0, none⟩), .int .i64 n] w fun e w' => MovePost p l (at' + n) (.tuple #[.int .u64 ((val (bt l) at' n : Nat) : Int), .int .i64 0]) w e w' := by
  have HI : Hid (∀ W, Calls Tryd.prog 75 #[.int .i64 (n : Int)] W fun e w' => e = .returned (.bool true) ∧ w' = W) := fun W => by
    have := isWord_any n W
    rwa [show isWordP (n : Int) = true by unfold isWordP; simp; omega] at this
  have HL := Hid.mk9 (left_any p at' l w h)
  have HH := Hid.mk9 h
  obtain ⟨r, hr9⟩ : ∃ r, r = l.length - at' := ⟨_, rfl⟩
  have e1 : (n : Int) ≤ (r : Int) := by omega
  rw [← hr9] at HL
  have HR := Hid.mk9 hr
  have HN := Hid.mk9 hn
  clear h hr9 hr hn
  by_cases h0 : n = 0
  · subst h0
    have HE : Hid (val (bt l) at' 0 = 0) := rfl
    rw [HE.out]
    clear HE
    go_enter Tryd.func56, Tryd.ntmps56
    go_wp2_with (first | (go_at_call 75; refine (HI.out _).mono ?_; rintro e w9 ⟨rfl, hw9⟩; obtain rfl := hw9.symm) | (go_at_call 57; refine HL.out.mono ?_; rintro e w2 ⟨rfl, hg2⟩; have HG2 := Hid.mk9 hg2; clear hg2))
    go_ret2
    exact ⟨rfl, HH.out.below (grown_below HG2.out), KpB.of_below (grown_below HG2.out) (Nat.le_of_lt HH.out.lt)⟩
  · have e2 : ((n : Int) == 0) = false := by rw [beq_eq_false_iff_ne]; omega
    clear h0
    go_enter Tryd.func56, Tryd.ntmps56
    go_wp2_with (first | (go_at_call 75; refine (HI.out _).mono ?_; rintro e w9 ⟨rfl, hw9⟩; obtain rfl := hw9.symm) | (go_at_call 57; refine HL.out.mono ?_; rintro e w2 ⟨rfl, hg2⟩; have HG2 := Hid.mk9 (grown_below hg2); clear hg2 HL))
    obtain ⟨a, len, cap, hH⟩ := HH.out.below HG2.out
    have HR2 := Hid.mk9 hH
    obtain ⟨c0, c1, c2⟩ := hH.box.cells
    have x0 := cell_grown (a := ⟨p, 0, none⟩) hH.box.lt c0
    have x2 := cell_grown (a := ⟨p, 2, none⟩) hH.box.lt c2
    have HW : Hid (∀ m os, Calls Tryd.prog 77 #[.slice a len cap, .int .i64 at', .int .i64 n] (Go.Sort.grow (w2.drewN m) os) fun e w' => e = .returned (.int .u64 ((val (bt l) at' n : Nat) : Int)) ∧ Grown (Go.Sort.grow (w2.drewN m) os) w') := fun m os => (word_any a len cap at' n l _ (hH.row.below (below_grow _ m os)) (by have h1 := HR.out; have h2 := hH.hl; unfold need at h2; omega) HN.out (by have h1 := hH.ok; have h2 := HR.out; omega)).mono fun e w' h => ⟨h.1, h.2 ▸ grown_refl _⟩
    clear c0 c1 c2 hH
    obtain ⟨V, hV⟩ : ∃ V, V = val (bt l) at' n := ⟨_, rfl⟩
    rw [← hV] at HW
    have HV := Hid.mk9 hV
    clear hV
    refine wp_region_QW mixed5 (by kernel_rfl) ?_
    repeat (refine QW_step (fun K hK => ?_); go_simp; first | (refine hK _ ?_; clear hK K) | (apply Exists.intro; refine ⟨fun _ => ?_, hK _ ?_⟩; (go_at_call 77; refine Calls.grown_of (HW.out _ _)); clear hK K))
    refine QW_nil ?_
    intro _ hw9
    obtain ⟨⟨nq, osq⟩, hw8⟩ := hw9
    subst hw8
    have HR3 := Hid.mk9 (HR2.out.below (below_grow w2 nq osq))
    have HB3 := Hid.mk9 (below2 HG2.out (below_grow w2 nq osq))
    clear x0 x2 HR2 HG2 HW
    generalize Go.Sort.grow (w2.drewN nq) osq = w3 at *
    obtain ⟨c0, c1, c2⟩ := HR3.out.box.cells
    obtain ⟨f0, f1, f2⟩ := HR3.out.box.frz
    obtain ⟨b, hb⟩ : ∃ b, b = at' + n := ⟨_, rfl⟩
    have e3 : (at' : Int) + (n : Int) = (b : Int) := by omega
    have hw : IntKind.i64.wrap (b : Int) = (b : Int) := by have := HR3.out.ok; have := HR.out; simp [IntKind.wrap, IntKind.bits, IntKind.signed]; omega
    have e4 : (b : Int) ≤ 1000000 := by have := HR3.out.ok; have := HR.out; omega
    have HE : Hid (MovePost p l (at' + n) (.tuple #[.int .u64 ((val (bt l) at' n : Nat) : Int), .int .i64 0]) w (.returned (.tuple #[.int .u64 (V : Int), .int .i64 0])) (w3.setCell ⟨p, 2, none⟩ (.int .i64 (b : Int)))) := by
      rw [← HV.out, ← hb]
      exact ⟨rfl, ⟨a, len, cap, HR3.out.set b (by have := HR.out; omega)⟩, (KpB.of_below HB3.out (Nat.le_of_lt HH.out.lt)).set 2 _⟩
    clear hb HR3 HB3
    go_wp2_with fail
    go_ret2
    exact HE.out
end Go.Proofs.YtcdlkdbnlomghaaDoor.Bi
