/-
  The contract of Pack: samples' data.
-/
import Derived.Test.YtcdlkdbnlomghaaDoorBkD
import Derived.Test.YtcdlkdbnlomghaaDoorFrD
import Derived.BigRegion
import Derived.Handy
import Derived.Deep.Cut
namespace Go.Proofs.YtcdlkdbnlomghaaDoor.Bk
open Go.ChangeShapes Go.WideShapes Go.ChangeAt Go.RowKit
open Go.Proofs.YtcdlkdbnlomghaaDoor.Fr
theorem check_yes {a : Option Addr} {len cap : Nat} {ls : List Sm} {w : World} (h : SmsAt w a len cap ls) (hM : MayS ls) : Calls Tryd.prog 48 #[.slice a len cap] w fun e w' => e = .returned (.int .i64 0) ∧ Below w.heap.size w w' :=
  (check_any a len cap ls w h).mono fun _ _ ⟨hb, hq⟩ => by rcases hq with ⟨he, _⟩ | ⟨_, hn⟩; exact ⟨he, hb⟩; exact absurd hM hn
theorem check_no {a : Option Addr} {len cap : Nat} {ls : List Sm} {w : World} (h : SmsAt w a len cap ls) (hM : ¬ MayS ls) : Calls Tryd.prog 48 #[.slice a len cap] w fun e w' => e = .returned (.int .i64 1) ∧ Below w.heap.size w w' :=
  (check_any a len cap ls w h).mono fun _ _ ⟨hb, hq⟩ => by rcases hq with ⟨_, hn⟩ | ⟨he, _⟩; exact absurd hn hM; exact ⟨he, hb⟩
def noD : Value := .agg #[.slice none 0 0, .slice none 0 0]
/-- behind Pack -/
def PackPost (ls : List Sm) (w : World) (e : Ending) (w' : World) : Prop :=
  Below w.heap.size w w' ∧ ((¬ MayS ls ∧ e = .returned (.tuple #[noD, .int .i64 1])) ∨ (MayS ls ∧ ∃ v, e = .returned (.tuple #[.agg #[v, .slice none 0 0], .int .i64 0]) ∧ w'.ownsRow w.heap.size 3 1 v (2 * ls.length + 1) (cellsI (numsS ls))))
/-- a block that holds data -/
def DBox (w : World) (b : Nat) (x y : Value) : Prop := w.heap[b]? = some (.cells #[x, y] 52 (0, 0))
theorem DBox.lt {w : World} {b : Nat} {x y : Value} (h : DBox w b x y) : b < w.heap.size := (Array.getElem?_eq_some_iff.1 h).1
theorem DBox.c0 {w : World} {b : Nat} {x y : Value} (h : DBox w b x y) : w.cell? ⟨b, 0, none⟩ = some x := by unfold World.cell?; rw [show w.heap[(⟨b, 0, none⟩ : Addr).block]? = _ from h]; rfl
theorem DBox.c1 {w : World} {b : Nat} {x y : Value} (h : DBox w b x y) : w.cell? ⟨b, 1, none⟩ = some y := by unfold World.cell?; rw [show w.heap[(⟨b, 1, none⟩ : Addr).block]? = _ from h]; rfl
theorem DBox.f0 {w : World} {b : Nat} {x y : Value} (h : DBox w b x y) : w.frozen? ⟨b, 0, none⟩ = false := by unfold World.frozen?; rw [show w.heap[(⟨b, 0, none⟩ : Addr).block]? = _ from h]; rfl
theorem DBox.f1 {w : World} {b : Nat} {x y : Value} (h : DBox w b x y) : w.frozen? ⟨b, 1, none⟩ = false := by unfold World.frozen?; rw [show w.heap[(⟨b, 1, none⟩ : Addr).block]? = _ from h]; rfl
theorem DBox.kept {w w' : World} {b : Nat} {x y : Value} (h : DBox w b x y) (e : w'.heap[b]? = w.heap[b]?) : DBox w' b x y := e.trans h
theorem DBox.below {w w' : World} {b : Nat} {x y : Value} (h : DBox w b x y) (hb : Below w.heap.size w w') : DBox w' b x y := h.kept (hb.block b h.lt)
theorem DBox.new (w : World) (x y : Value) : DBox (w.alloc (.cells #[x, y] 52)) w.heap.size x y := heap_alloc_new w _
theorem DBox.set {w : World} {b : Nat} {x y : Value} (h : DBox w b x y) (x' y' : Value) : DBox (set2 w b x' y') b x' y' := by
  have h1 := heap_setCell_same w b 0 _ _ x' h
  have h2 := heap_setCell_same (w.setCell ⟨b, 0, none⟩ x') b 1 _ _ y' h1
  exact h2
theorem DBox.apart {w : World} {b B s n : Nat} {e : TypeId} {x y : Value} {v : Value} {xs : List Value} (h : DBox w b x y) (ho : w.ownsRow B e s v n xs) (he : e ≠ 52) : v.ownBlock ≠ some b := by
  obtain ⟨_, ⟨rfl, _⟩ | ⟨g, cap, cur, rfl, _, hh, _⟩⟩ := ho
  · simp [Value.ownBlock]
  · intro hg
    simp [Value.ownBlock] at hg
    subst hg
    rw [h] at hh
    simp at hh
    exact he hh.2.symm
theorem ret_dbox {fn : Func} {p u : Tmp} (h : fn.results = #[.cell p 52, .tmp u]) (tmps : Array Value) (w : World) (b : Nat) (x y : Value) (hp : tmps.getD p undef = .pointer (some ⟨b, 0, none⟩))
    (hb : DBox w b x y) : (results fn tmps).run Tryd.prog w = .ok (.tuple #[.agg #[x, y], tmps.getD u undef]) w := by
  have h0 := hb.c0
  have h1 := hb.c1
  rw [results_cell_tmp h, hp]
  simp [go_sem, h0, h1]
theorem infoI : (Tryd.prog.info? 3).map (fun i => (i.zero, i.size, i.bytes)) = some (some (.int .i64 0), 1, 8) := by kernel_rfl
theorem Hid.mk9 {P : Prop} (h : P) : Hid P := h
def lastOf (f : Nat → Int) (k : Nat) : Int := if k = 0 then 0 else f (k - 1)
theorem step_last (f : Nat → Int) (k : Nat) : f k - lastOf f k = step f k := by
  unfold lastOf step; split
  · rename_i h; subst h; simp
  · rfl
/-- in the midst of Pack: so many are told -/
def PackIn (ls : List Sm) (w : World) (S k : Nat) (v : Value) (wr : World) : Prop :=
  Below w.heap.size w wr ∧ wr.ownsRow w.heap.size 3 1 v (2 * k + 1) (cellsI (numsK ls k)) ∧ DBox wr w.heap.size (.slice none 0 0) (.slice none 0 0) ∧ SmBox wr S (lastOf (tS ls) k) (lastOf (vS ls) k) ∧ SmBox wr (S + 1) (lastOf (step (tS ls)) k) (lastOf (step (vS ls)) k)
theorem numsK_zero (ls : List Sm) : cellsI (numsK ls 0) = [.int .i64 (ls.length : Int)] := rfl
set_option maxHeartbeats 2000000 in
set_option maxRecDepth 60000 in
theorem pack_any (a : Option Addr) (len cap : Nat) (ls : List Sm) (w : World) (h : SmsAt w a len cap ls) :
    Calls Tryd.prog 31 #[.slice a len cap] w fun e w' => PackPost ls w e w' := by
  have hl : ls.length = len := h.1
  have HL : Hid (SmsAt w a len cap ls) := h
  clear h
  have D0 : Hid (DBox (w.alloc (.cells #[.slice none 0 0, .slice none 0 0] 52)) w.heap.size (.slice none 0 0) (.slice none 0 0)) := DBox.new w (.slice none 0 0) (.slice none 0 0)
  by_cases hM : MayS ls
  · have h64 : len ≤ 64 := by have := hM.1; omega
    have HM : Hid (MayS ls) := hM
    clear hM
    obtain ⟨i0, hi, hz0, hz1, hz2⟩ := info_parts infoI
    obtain ⟨n9, hn9⟩ : ∃ n9 : Nat, n9 = 2 * len + 1 := ⟨_, rfl⟩
    have hn8 : Hid (2 * (len : Int) + 1 = (n9 : Int)) := Hid.mk9 (by omega)
    have hn7 : (n9 : Int) ≤ 129 := by omega
    clear hn9
    go_enter Tryd.func31, Tryd.ntmps31
    go_wp2_with (first
      | (go_at_call 48; refine (check_yes (HL.out.below (below_alloc w _)) HM.out).mono ?_; rintro e w1 ⟨rfl, hb1⟩; obtain ⟨wM, hmk, hownM, hgM⟩ := run_make_own (P := Tryd.prog) w1 w1.heap.size 49 3 i0 (.int .i64 0) 1 Tryd.underlying49 hi hz0 hz1 .i64 .i64 n9 (by rw [hz2]; omega) (by unfold maxLen; omega) (Nat.le_refl _))
      | (go_at_call 49; refine (size_any _ n9 _ (by omega) (by omega) hn8.out).mono ?_; rintro e w' ⟨rfl, hw9⟩; obtain rfl := hw9.symm)
      | (at_builtin; refine wpList_append_own _ rfl (.tmp 22) (.tmp 25) 49 rfl w1.heap.size 3 i0 (.int .i64 0) 1 8 Tryd.underlying49 hi hz0 hz1 hz2 rfl (by decide) _ 0 [] rfl (own_below hownM (below_alloc _ _)) ⟨wM.heap.size, 0, none⟩ 1 1 [.int .i64 (len : Int)] rfl rfl (cells_lit wM [.int .i64 (len : Int)] 3) (by intro u hu; simp at hu; subst hu; rfl) (by unfold maxLen; omega) (by omega) (by have := hgM.size; simp; omega) ?_))
    intro v5 w5 hown5 hg5 _
    have hs1 : w.heap.size < w1.heap.size := by have := hb1.size; simp at this; omega
    have hsM := hgM.size
    have hb5 : Below w.heap.size w w5 := by
      have b1 : Below w.heap.size w w1 := below2 (below_alloc w _) hb1
      have b2 : Below w.heap.size w wM := b1.grown hgM (by omega) (by simp)
      have b3 : Below w.heap.size w (wM.alloc (.cells #[.int .i64 (len : Int)] 3)) := b2.alloc (by omega) _
      exact b3.grown hg5 (by simp; omega) (by intro k hk; simp [Value.ownBlock] at hk; omega)
    have HD5 : Hid (DBox w5 w.heap.size (.slice none 0 0) (.slice none 0 0)) := by
      have d1 := D0.out.below hb1
      have d2 : DBox wM w.heap.size (.slice none 0 0) (.slice none 0 0) := d1.kept (hgM.block _ hs1 (by simp))
      have d3 := d2.below (below_alloc wM (.cells #[.int .i64 (len : Int)] 3))
      exact d3.kept (hg5.block _ (by simp; omega) (by simp [Value.ownBlock]; omega))
    have HO5 : Hid (w5.ownsRow w.heap.size 3 1 v5 (2 * 0 + 1) (cellsI (numsK ls 0))) := by
      rw [numsK_zero, hl]
      exact own_mono hown5 (by omega)
    clear hown5 hg5 hgM hownM hb1 hsM hs1 D0 hmk hn8 hn7 hw9
    go_wp2_with fail
    have HS0 : Hid (PackIn ls w w5.heap.size 0 v5 ((w5.alloc (.cells #[.int .i64 0, .int .i64 0] 46)).alloc (.cells #[.int .i64 0, .int .i64 0] 46))) := by
      have q1 := below2 (below_alloc w5 (.cells #[.int .i64 0, .int .i64 0] 46)) (below_alloc (w5.alloc (.cells #[.int .i64 0, .int .i64 0] 46)) (.cells #[.int .i64 0, .int .i64 0] 46))
      have s1 := SmBox.new (w5.alloc (.cells #[.int .i64 0, .int .i64 0] 46)) 0 0
      rw [show (w5.alloc (.cells #[.int .i64 0, .int .i64 0] 46)).heap.size = w5.heap.size + 1 from by simp] at s1
      exact ⟨hb5.trans (q1.mono hb5.size), own_below HO5.out q1, HD5.out.below q1, (SmBox.new w5 0 0).below (below_alloc _ _), s1⟩
    have HW9 : Hid (True ∧ w.heap.size < w5.heap.size) := Hid.mk9 ⟨trivial, HD5.out.lt⟩
    generalize hS : w5.heap.size = S at *
    clear hS HO5 HD5 hb5
    go_loopw [5, 29] (fun v i wr => ∃ k : Nat, k ≤ len ∧ i = .int .i64 k ∧ Hid (PackIn ls w S k v wr)) (fun _ i _ => len - (intOf i).toNat)
    case atStart => exact ⟨0, Nat.zero_le _, rfl, HS0⟩
    case round =>
      obtain ⟨k, hk, rfl, hP⟩ := hrel
      by_cases hlt : k < len
      · obtain ⟨hbel, hown, hD, hl6, hl7⟩ := hP.out
        clear hP
        obtain ⟨b, off, rfl, hbs, hcell⟩ := (HL.out.below hbel).some (by omega)
        obtain ⟨e0, e1⟩ := hcell k hlt
        clear hcell
        have e0' : wr.cell? ⟨b, off + k * 2, none⟩ = some (.int .i64 (tS ls k)) := e0
        have e1' : wr.cell? ⟨b, off + k * 2 + 1, none⟩ = some (.int .i64 (vS ls k)) := e1
        clear e0 e1
        have it := fun i => (show -1099511627776 ≤ tS ls i ∧ tS ls i ≤ 1099511627776 from ⟨(may_in HM.out i).1, (may_in HM.out i).2.1⟩)
        have iv := fun i => (show -1099511627776 ≤ vS ls i ∧ vS ls i ≤ 1099511627776 from ⟨(may_in HM.out i).2.2.1, (may_in HM.out i).2.2.2⟩)
        have W1 : Hid (wrap64 (tS ls k - lastOf (tS ls) k) = step (tS ls) k) := Hid.mk9 (by rw [step_last]; have := step_in it k; exact w64_id (by omega) (by omega))
        have W2 : Hid (wrap64 (vS ls k - lastOf (vS ls) k) = step (vS ls) k) := Hid.mk9 (by rw [step_last]; have := step_in iv k; exact w64_id (by omega) (by omega))
        have TT := tell_step (tS ls) k
        have TV := tell_step (vS ls) k
        have IT := tell_in it k
        have IV := tell_in iv k
        have HF : Hid (∀ v' wC, Below w.heap.size w wC → wC.ownsRow w.heap.size 3 1 v' (2 * k + 1 + 2) (cellsI (numsK ls k) ++ [.int .i64 (tell (tS ls) k), .int .i64 (tell (vS ls) k)]) → DBox wC w.heap.size (.slice none 0 0) (.slice none 0 0) → SmBox wC S (tS ls k) (vS ls k) → SmBox wC (S + 1) (step (tS ls) k) (step (vS ls) k) → PackIn ls w S (k + 1) v' wC) := by
          intro v' wC q1 q2 q3 q4 q5
          refine ⟨q1, ?_, q3, q4, q5⟩
          rw [numsK_succ, cellsI_append]
          exact q2
        have hS1 : S < wr.heap.size := hl6.lt
        have hS2 : S + 1 < wr.heap.size := hl7.lt
        have c60 := hl6.c0
        have c61 := hl6.c1
        have c70 := hl7.c0
        have c71 := hl7.c1
        have hk1 : (k : Int) < (len : Int) := by omega
        have H6 := Hid.mk9 hl6
        have H7 := Hid.mk9 hl7
        have HO := Hid.mk9 hown
        have HDD := Hid.mk9 hD
        have HB := Hid.mk9 hbel
        clear hl6 hl7 hD it iv
        obtain ⟨g, cp, rfl, hg0, hg1, -⟩ := own_form hown (by omega)
        obtain ⟨m9, hm9⟩ : ∃ m9 : Nat, Hid (2 * k + 1 = m9) := ⟨_, Hid.mk9 rfl⟩
        have hm8 : (m9 : Int) ≤ 200 := by have := hm9.out; omega
        rw [hm9.out] at HF HO ⊢
        clear hown
        by_cases hk2 : k ≤ 1
        · rw [if_pos hk2] at TT TV
          rw [TT, TV] at HF
          clear TT TV IT IV
          generalize step (tS ls) k = o1 at *
          generalize step (vS ls) k = o2 at *
          generalize lastOf (step (tS ls)) k = p1 at *
          generalize lastOf (step (vS ls)) k = p2 at *
          generalize lastOf (tS ls) k = l1 at *
          generalize lastOf (vS ls) k = l2 at *
          generalize tS ls k = x at *
          generalize vS ls k = y at *
          have hk3 : decide (1 < k) = false := by simp; omega
          have hk4 : (k : Int) ≤ 1 := by omega
          clear hk2
          go_upto_region 14 with (go_at_call 50; refine (minus_to _ _ _ _ o1 o2 _ W1.out W2.out).mono ?_; rintro e w2 ⟨rfl, hg2⟩; have B2 : Below wr.heap.size wr w2 := below2 (below_alloc wr _) (grown_below hg2); have A2 := Hid.mk9 ((SmBox.new wr x y).below (grown_below hg2)); have A6 := Hid.mk9 (H6.out.below B2); have A7 := Hid.mk9 (H7.out.below B2); have AO := Hid.mk9 (own_below HO.out B2); have AD := Hid.mk9 (HDD.out.below B2); have AB := Hid.mk9 (HB.out.trans (B2.mono HB.out.size)); have s2 : wr.heap.size < w2.heap.size := A2.out.lt; have s3 : S + 1 < w2.heap.size := A7.out.lt; have s4 : S < w2.heap.size := (by omega); have s5 : S + 1 < w2.heap.size + 1 := (by omega); have c72 := A7.out.c0; have c73 := A7.out.c1; clear hg2 B2)
          have bX := below2 (below_alloc w2 (.cells #[.int .i64 o1, .int .i64 o2] 46)) (below_alloc (w2.alloc (.cells #[.int .i64 o1, .int .i64 o2] 46)) (.cells #[.int .i64 o1, .int .i64 o2] 46))
          have AT := Hid.mk9 (SmBox.new (w2.alloc (.cells #[.int .i64 o1, .int .i64 o2] 46)) o1 o2)
          rw [show (w2.alloc (.cells #[.int .i64 o1, .int .i64 o2] 46)).heap.size = w2.heap.size + 1 from by simp] at AT
          have A9 := Hid.mk9 ((SmBox.new w2 o1 o2).below (below_alloc (w2.alloc (.cells #[.int .i64 o1, .int .i64 o2] 46)) (.cells #[.int .i64 o1, .int .i64 o2] 46)))
          have A8 := Hid.mk9 (A2.out.below bX)
          replace A6 := Hid.mk9 (A6.out.below bX)
          replace A7 := Hid.mk9 (A7.out.below bX)
          replace AO := Hid.mk9 (own_below AO.out bX)
          replace AD := Hid.mk9 (AD.out.below bX)
          replace AB := Hid.mk9 (AB.out.trans (bX.mono AB.out.size))
          have n1 : ¬ w2.heap.size = S := by omega
          have n2 : ¬ w2.heap.size = S + 1 := by omega
          have n3 : ¬ wr.heap.size = S := by omega
          have n4 : ¬ wr.heap.size = S + 1 := by omega
          have n5 : ¬ S = w2.heap.size := by omega
          have n6 : ¬ S + 1 = w2.heap.size := by omega
          have n7 : ¬ S = wr.heap.size := by omega
          have n8 : ¬ S + 1 = wr.heap.size := by omega
          clear A2 s2 s3 s4 s5 c72 c73 c60 c61 c70 c71 hS1 hS2 H6 H7 HO HDD HB bX hg1 hbs
          generalize (w2.alloc (.cells #[.int .i64 o1, .int .i64 o2] 46)).alloc (.cells #[.int .i64 o1, .int .i64 o2] 46) = w3 at *
          generalize wr.heap.size = X9 at *
          generalize w2.heap.size = X10 at *
          have r1 := A8.out.c0
          have r2 := A8.out.c1
          have r3 := A9.out.c0
          have r4 := A9.out.c1
          have r5 := AT.out.c0
          have r6 := AT.out.c1
          have u1 := A8.out.lt
          have u2 := A9.out.lt
          have u3 := AT.out.lt
          have u4 := A7.out.lt
          go_wp2_with (at_builtin; refine wpList_append_own _ rfl (.tmp 43) (.tmp 48) 49 rfl w.heap.size 3 i0 (.int .i64 0) 1 8 Tryd.underlying49 hi hz0 hz1 hz2 rfl (by decide) _ _ _ rfl (own_below AO.out (below_alloc _ _)) ⟨w3.heap.size, 0, none⟩ 2 2 [.int .i64 o1, .int .i64 o2] rfl rfl (cells_lit w3 [.int .i64 o1, .int .i64 o2] 3) (by intro u hu; simp at hu; rcases hu with rfl | rfl <;> rfl) (by unfold maxLen; omega) (by omega) (by have := AB.out.size; simp; omega) ?_)
          intro v5 w5 hown5 hg5 _
          have bA := below_alloc w3 (.cells #[.int .i64 o1, .int .i64 o2] 3)
          have AO' := own_below AO.out bA
          have q6 := Hid.mk9 ((A6.out.below bA).grown hg5 ((A6.out.below bA).apart AO' (by decide)))
          have q7 := Hid.mk9 ((A7.out.below bA).grown hg5 ((A7.out.below bA).apart AO' (by decide)))
          have q8 := Hid.mk9 ((A8.out.below bA).grown hg5 ((A8.out.below bA).apart AO' (by decide)))
          have q9 := Hid.mk9 ((A9.out.below bA).grown hg5 ((A9.out.below bA).apart AO' (by decide)))
          have qD := Hid.mk9 ((AD.out.below bA).kept (hg5.block _ (AD.out.below bA).lt fun e => (AD.out.below bA).apart AO' (by decide) e.symm))
          have qB : Hid (Below w.heap.size w w5) := Hid.mk9 ((AB.out.alloc AB.out.size _).grown hg5 (by have := AB.out.size; simp; omega) (by intro k hk; simp [Value.ownBlock] at hk; omega))
          have qO := Hid.mk9 hown5
          clear hown5 hg5 AO' bA AO AD AB A6 A7 A8 A9 AT r1 r2 r3 r4 r5 r6 u1 u2 u3 u4
          have t1 := q6.out.c0
          have t2 := q6.out.c1
          have t3 := q7.out.c0
          have t4 := q7.out.c1
          have t5 := q8.out.c0
          have t6 := q8.out.c1
          have t7 := q9.out.c0
          have t8 := q9.out.c1
          have z1 := q6.out.f0
          have z2 := q6.out.f1
          have z3 := q7.out.f0
          have z4 := q7.out.f1
          go_wp2_with fail
          go_region
          have HE : Hid (PackIn ls w S (k + 1) v5 (set2 (set2 w5 S (.int .i64 x) (.int .i64 y)) (S + 1) (.int .i64 o1) (.int .i64 o2)).drew) := by
            have bS : w.heap.size < S := HW9.out.2
            have m1 := set2_below (set2_below qB.out (b := S) (by omega) (.int .i64 x) (.int .i64 y)) (b := S + 1) (by omega) (.int .i64 o1) (.int .i64 o2)
            have m2 := own_set2 (own_set2 qO.out (q6.out.apart qO.out (by decide)) (.int .i64 x) (.int .i64 y)) (b := S + 1) (q7.out.apart qO.out (by decide)) (.int .i64 o1) (.int .i64 o2)
            have m3 : DBox (set2 (set2 w5 S (.int .i64 x) (.int .i64 y)) (S + 1) (.int .i64 o1) (.int .i64 o2)) w.heap.size (.slice none 0 0) (.slice none 0 0) := (qD.out.kept (set2_else _ _ (by omega))).kept (set2_else _ _ (by omega))
            have m4 := (q6.out.set x y).else (b := S + 1) (.int .i64 o1) (.int .i64 o2) (by omega)
            have m5 := (q7.out.else (b := S) (.int .i64 x) (.int .i64 y) (by omega)).set o1 o2
            have bd := below_drew (set2 (set2 w5 S (.int .i64 x) (.int .i64 y)) (S + 1) (.int .i64 o1) (.int .i64 o2))
            exact HF.out _ _ (m1.trans (bd.mono m1.size)) (own_below m2 bd) (m3.below bd) (m4.below bd) (m5.below bd)
          have hw5 : ((((w5.setCell ⟨S, 0, none⟩ (.int .i64 x)).setCell ⟨S, 1, none⟩ (.int .i64 y)).setCell ⟨S + 1, 0, none⟩ (.int .i64 o1)).setCell ⟨S + 1, 1, none⟩ (.int .i64 o2)).drew = (set2 (set2 w5 S (.int .i64 x) (.int .i64 y)) (S + 1) (.int .i64 o1) (.int .i64 o2)).drew := rfl
          rw [hw5]
          generalize (set2 (set2 w5 S (.int .i64 x) (.int .i64 y)) (S + 1) (.int .i64 o1) (.int .i64 o2)).drew = w6 at *
          clear hw5 t1 t2 t3 t4 t5 t6 t7 t8 z1 z2 z3 z4 q6 q7 q8 q9 qD qB qO n1 n2 n3 n4 n5 n6 n7 n8
          go_wp2_with fail
          exact ⟨⟨k + 1, by omega, by go_num, HE⟩, by simp [intOf]; omega⟩
        · rw [if_neg hk2] at TT TV
          have W3 : Hid (wrap64 (step (tS ls) k - lastOf (step (tS ls)) k) = tell (tS ls) k) := Hid.mk9 (by unfold lastOf; rw [if_neg (show ¬ k = 0 by omega), ← TT]; exact w64_id (by omega) (by omega))
          have W4 : Hid (wrap64 (step (vS ls) k - lastOf (step (vS ls)) k) = tell (vS ls) k) := Hid.mk9 (by unfold lastOf; rw [if_neg (show ¬ k = 0 by omega), ← TV]; exact w64_id (by omega) (by omega))
          clear TT TV IT IV
          generalize tell (tS ls) k = d1 at *
          generalize tell (vS ls) k = d2 at *
          generalize step (tS ls) k = o1 at *
          generalize step (vS ls) k = o2 at *
          generalize lastOf (step (tS ls)) k = p1 at *
          generalize lastOf (step (vS ls)) k = p2 at *
          generalize lastOf (tS ls) k = l1 at *
          generalize lastOf (vS ls) k = l2 at *
          generalize tS ls k = x at *
          generalize vS ls k = y at *
          have hk3 : decide (1 < k) = true := by simp; omega
          have hk4 : (1 : Int) < (k : Int) := by omega
          clear hk2
          go_upto_region 14 with (first
            | (go_at_call_of 50 l1; refine (minus_to _ _ _ _ o1 o2 _ W1.out W2.out).mono ?_; rintro e w2 ⟨rfl, hg2⟩; have B2 : Below wr.heap.size wr w2 := below2 (below_alloc wr _) (grown_below hg2); have A2 := Hid.mk9 ((SmBox.new wr x y).below (grown_below hg2)); have A6 := Hid.mk9 (H6.out.below B2); have A7 := Hid.mk9 (H7.out.below B2); have AO := Hid.mk9 (own_below HO.out B2); have AD := Hid.mk9 (HDD.out.below B2); have AB := Hid.mk9 (HB.out.trans (B2.mono HB.out.size)); have s2 : wr.heap.size < w2.heap.size := A2.out.lt; have s3 : S + 1 < w2.heap.size := A7.out.lt; have s4 : S < w2.heap.size := (by omega); have s5 : S + 1 < w2.heap.size + 1 := (by omega); have c72 := A7.out.c0; have c73 := A7.out.c1; clear hg2 B2)
            | (go_at_call_of 50 p1; refine (minus_to _ _ _ _ d1 d2 _ W3.out W4.out).mono ?_; rintro e w4 ⟨rfl, hg4⟩; have bX := below2 (below2 (below_alloc w2 (.cells #[.int .i64 o1, .int .i64 o2] 46)) (below_alloc (w2.alloc (.cells #[.int .i64 o1, .int .i64 o2] 46)) (.cells #[.int .i64 o1, .int .i64 o2] 46))) (grown_below hg4); have AT := Hid.mk9 (SmBox.new (w2.alloc (.cells #[.int .i64 o1, .int .i64 o2] 46)) o1 o2); rw [show (w2.alloc (.cells #[.int .i64 o1, .int .i64 o2] 46)).heap.size = w2.heap.size + 1 from by simp] at AT; replace AT := Hid.mk9 (AT.out.below (grown_below hg4)); have A9 := Hid.mk9 (((SmBox.new w2 o1 o2).below (below_alloc (w2.alloc (.cells #[.int .i64 o1, .int .i64 o2] 46)) (.cells #[.int .i64 o1, .int .i64 o2] 46))).below (grown_below hg4)); have a1 := AT.out.c0; have a2 := AT.out.c1; have a3 := AT.out.f0; have a4 := AT.out.f1; clear hg4))
          have A8 := Hid.mk9 (A2.out.below bX)
          replace A6 := Hid.mk9 (A6.out.below bX)
          replace A7 := Hid.mk9 (A7.out.below bX)
          replace AO := Hid.mk9 (own_below AO.out bX)
          replace AD := Hid.mk9 (AD.out.below bX)
          replace AB := Hid.mk9 (AB.out.trans (bX.mono AB.out.size))
          have n1 : ¬ w2.heap.size = S := by omega
          have n2 : ¬ w2.heap.size = S + 1 := by omega
          have n3 : ¬ wr.heap.size = S := by omega
          have n4 : ¬ wr.heap.size = S + 1 := by omega
          have n5 : ¬ S = w2.heap.size := by omega
          have n6 : ¬ S + 1 = w2.heap.size := by omega
          have n7 : ¬ S = wr.heap.size := by omega
          have n8 : ¬ S + 1 = wr.heap.size := by omega
          have s9 : w.heap.size < S := HW9.out.2
          have hT : w.heap.size ≤ w2.heap.size + 1 := by omega
          replace A8 := Hid.mk9 (A8.out.else (b := w2.heap.size + 1) (.int .i64 d1) (.int .i64 d2) (by omega))
          replace A9 := Hid.mk9 (A9.out.else (b := w2.heap.size + 1) (.int .i64 d1) (.int .i64 d2) (by omega))
          replace A6 := Hid.mk9 (A6.out.else (b := w2.heap.size + 1) (.int .i64 d1) (.int .i64 d2) (by omega))
          replace A7 := Hid.mk9 (A7.out.else (b := w2.heap.size + 1) (.int .i64 d1) (.int .i64 d2) (by omega))
          replace AO := Hid.mk9 (own_set2 AO.out (b := w2.heap.size + 1) (AT.out.apart AO.out (by decide)) (.int .i64 d1) (.int .i64 d2))
          replace AD := Hid.mk9 (AD.out.kept (set2_else (b := w2.heap.size + 1) (.int .i64 d1) (.int .i64 d2) (by omega)))
          replace AB := Hid.mk9 (set2_below AB.out (b := w2.heap.size + 1) hT (.int .i64 d1) (.int .i64 d2))
          replace AT := Hid.mk9 (AT.out.set d1 d2)
          clear A2 s2 s3 s4 s5 c72 c73 c60 c61 c70 c71 hS1 hS2 H6 H7 HO HDD HB bX hg1 hbs a1 a2 a3 a4 hT s9
          have hw3 : (w4.setCell ⟨w2.heap.size + 1, 0, none⟩ (.int .i64 d1)).setCell ⟨w2.heap.size + 1, 1, none⟩ (.int .i64 d2) = set2 w4 (w2.heap.size + 1) (.int .i64 d1) (.int .i64 d2) := rfl
          rw [hw3]
          clear hw3
          generalize set2 w4 (w2.heap.size + 1) (.int .i64 d1) (.int .i64 d2) = w3 at *
          generalize wr.heap.size = X9 at *
          generalize w2.heap.size = X10 at *
          have r1 := A8.out.c0
          have r2 := A8.out.c1
          have r3 := A9.out.c0
          have r4 := A9.out.c1
          have r5 := AT.out.c0
          have r6 := AT.out.c1
          have u1 := A8.out.lt
          have u2 := A9.out.lt
          have u3 := AT.out.lt
          have u4 := A7.out.lt
          go_wp2_with (at_builtin; refine wpList_append_own _ rfl (.tmp 43) (.tmp 48) 49 rfl w.heap.size 3 i0 (.int .i64 0) 1 8 Tryd.underlying49 hi hz0 hz1 hz2 rfl (by decide) _ _ _ rfl (own_below AO.out (below_alloc _ _)) ⟨w3.heap.size, 0, none⟩ 2 2 [.int .i64 d1, .int .i64 d2] rfl rfl (cells_lit w3 [.int .i64 d1, .int .i64 d2] 3) (by intro u hu; simp at hu; rcases hu with rfl | rfl <;> rfl) (by unfold maxLen; omega) (by omega) (by have := AB.out.size; simp; omega) ?_)
          intro v5 w5 hown5 hg5 _
          have bA := below_alloc w3 (.cells #[.int .i64 d1, .int .i64 d2] 3)
          have AO' := own_below AO.out bA
          have q6 := Hid.mk9 ((A6.out.below bA).grown hg5 ((A6.out.below bA).apart AO' (by decide)))
          have q7 := Hid.mk9 ((A7.out.below bA).grown hg5 ((A7.out.below bA).apart AO' (by decide)))
          have q8 := Hid.mk9 ((A8.out.below bA).grown hg5 ((A8.out.below bA).apart AO' (by decide)))
          have q9 := Hid.mk9 ((A9.out.below bA).grown hg5 ((A9.out.below bA).apart AO' (by decide)))
          have qD := Hid.mk9 ((AD.out.below bA).kept (hg5.block _ (AD.out.below bA).lt fun e => (AD.out.below bA).apart AO' (by decide) e.symm))
          have qB : Hid (Below w.heap.size w w5) := Hid.mk9 ((AB.out.alloc AB.out.size _).grown hg5 (by have := AB.out.size; simp; omega) (by intro k hk; simp [Value.ownBlock] at hk; omega))
          have qO := Hid.mk9 hown5
          clear hown5 hg5 AO' bA AO AD AB A6 A7 A8 A9 AT r1 r2 r3 r4 r5 r6 u1 u2 u3 u4
          have t1 := q6.out.c0
          have t2 := q6.out.c1
          have t3 := q7.out.c0
          have t4 := q7.out.c1
          have t5 := q8.out.c0
          have t6 := q8.out.c1
          have t7 := q9.out.c0
          have t8 := q9.out.c1
          have z1 := q6.out.f0
          have z2 := q6.out.f1
          have z3 := q7.out.f0
          have z4 := q7.out.f1
          go_wp2_with fail
          go_region
          have HE : Hid (PackIn ls w S (k + 1) v5 (set2 (set2 w5 S (.int .i64 x) (.int .i64 y)) (S + 1) (.int .i64 o1) (.int .i64 o2)).drew) := by
            have bS : w.heap.size < S := HW9.out.2
            have m1 := set2_below (set2_below qB.out (b := S) (by omega) (.int .i64 x) (.int .i64 y)) (b := S + 1) (by omega) (.int .i64 o1) (.int .i64 o2)
            have m2 := own_set2 (own_set2 qO.out (q6.out.apart qO.out (by decide)) (.int .i64 x) (.int .i64 y)) (b := S + 1) (q7.out.apart qO.out (by decide)) (.int .i64 o1) (.int .i64 o2)
            have m3 : DBox (set2 (set2 w5 S (.int .i64 x) (.int .i64 y)) (S + 1) (.int .i64 o1) (.int .i64 o2)) w.heap.size (.slice none 0 0) (.slice none 0 0) := (qD.out.kept (set2_else _ _ (by omega))).kept (set2_else _ _ (by omega))
            have m4 := (q6.out.set x y).else (b := S + 1) (.int .i64 o1) (.int .i64 o2) (by omega)
            have m5 := (q7.out.else (b := S) (.int .i64 x) (.int .i64 y) (by omega)).set o1 o2
            have bd := below_drew (set2 (set2 w5 S (.int .i64 x) (.int .i64 y)) (S + 1) (.int .i64 o1) (.int .i64 o2))
            exact HF.out _ _ (m1.trans (bd.mono m1.size)) (own_below m2 bd) (m3.below bd) (m4.below bd) (m5.below bd)
          have hw5 : ((((w5.setCell ⟨S, 0, none⟩ (.int .i64 x)).setCell ⟨S, 1, none⟩ (.int .i64 y)).setCell ⟨S + 1, 0, none⟩ (.int .i64 o1)).setCell ⟨S + 1, 1, none⟩ (.int .i64 o2)).drew = (set2 (set2 w5 S (.int .i64 x) (.int .i64 y)) (S + 1) (.int .i64 o1) (.int .i64 o2)).drew := rfl
          rw [hw5]
          generalize (set2 (set2 w5 S (.int .i64 x) (.int .i64 y)) (S + 1) (.int .i64 o1) (.int .i64 o2)).drew = w6 at *
          clear hw5 t1 t2 t3 t4 t5 t6 t7 t8 z1 z2 z3 z4 q6 q7 q8 q9 qD qB qO n1 n2 n3 n4 n5 n6 n7 n8
          go_wp2_with fail
          exact ⟨⟨k + 1, by omega, by go_num, HE⟩, by simp [intOf]; omega⟩
      · obtain rfl : k = len := by omega
        obtain ⟨hbel, hown, hD, -, -⟩ := hP.out
        clear hP
        obtain ⟨g, cp, rfl, hg0, hg1, -⟩ := own_form hown (by omega)
        have h0 := hD.c0
        have h1 := hD.c1
        have z0 := hD.f0
        have z1 := hD.f1
        have HO := Hid.mk9 hown
        have HDD := Hid.mk9 hD
        have HB := Hid.mk9 hbel
        have hs := hD.lt
        generalize hq : 2 * k + 1 = m9 at *
        clear hown hD hbel
        go_wp2_with fail
        refine bodyPost_ret (ret_dbox rfl _ _ w.heap.size (.slice (some ⟨g, 0, none⟩) m9 cp) (.slice none 0 0) rfl (HDD.out.set _ _)) rfl ?_
        refine ⟨set2_below HB.out (Nat.le_refl _) _ _, .inr ⟨HM.out, _, rfl, ?_⟩⟩
        have q := own_set2 HO.out (b := w.heap.size) (HDD.out.apart HO.out (by decide)) (.slice (some ⟨g, 0, none⟩) m9 cp) (.slice none 0 0)
        unfold numsS
        rw [hl, hq]
        exact q
  · have HM : Hid (¬ MayS ls) := hM
    clear hM
    go_enter Tryd.func31, Tryd.ntmps31
    go_wp2_with (go_at_call 48; refine (check_no (HL.out.below (below_alloc w _)) HM.out).mono ?_; rintro e w1 ⟨rfl, hb1⟩; have D1 := Hid.mk9 (D0.out.below hb1); have d0 := D1.out.c0; have d1 := D1.out.c1; have d2 := D1.out.f0; have d3 := D1.out.f1; have hB := Hid.mk9 (below2 (below_alloc w _) hb1))
    refine bodyPost_ret (ret_dbox rfl _ _ w.heap.size (.slice none 0 0) (.slice none 0 0) rfl (D1.out.set _ _)) rfl ?_
    exact ⟨set2_below hB.out (Nat.le_refl _) _ _, .inl ⟨HM.out, rfl⟩⟩
end Go.Proofs.YtcdlkdbnlomghaaDoor.Bk
