/-
  toldAgain, forget, remember.
  doEntry: an entry done to a shelf of one's own.
-/
import Derived.Test.YtihohcmocejijaaGreatPr30
namespace Go.Proofs.YtihohcmocejijaaGreat.Bk
open Go.ChangeShapes Go.WideShapes Go.ChangeAt Go.RowKit
def againA (d : Dn) (id : Int) : An := if d.id = id then d.an else ⟨9, false, 0⟩
set_option maxHeartbeats 1000000 in
set_option maxRecDepth 60000 in
theorem toldAgain_any (d : Dn) (id : Int) (w : World) : Calls Tryz.prog 47 #[dnV d, .int .i64 id] w fun e w' => e = .returned (anV (againA d id)) ∧ Below w.heap.size w w' := by
  obtain ⟨x1, x2, x3, x4, x5⟩ := d
  simp only [dnV]
  have b0 := below2 (below_alloc w (.cells #[.int .i64 x1, .int .i64 x2, .int .i64 x3, .bool x4, .int .i64 x5] 51)) (below_alloc _ (.cells #[.int .i64 0, .bool false, .int .i64 0] 37))
  have HX := Hid.mk9 ((Bx5.new w 51 (.int .i64 x1) (.int .i64 x2) (.int .i64 x3) (.bool x4) (.int .i64 x5)).below (below_alloc _ (.cells #[.int .i64 0, .bool false, .int .i64 0] 37)))
  have HR : Hid (Bx3 ((w.alloc (.cells #[.int .i64 x1, .int .i64 x2, .int .i64 x3, .bool x4, .int .i64 x5] 51)).alloc (.cells #[.int .i64 0, .bool false, .int .i64 0] 37)) (w.heap.size + 1) 37 (.int .i64 0) (.bool false) (.int .i64 0)) := by
    have := Bx3.new (w.alloc (.cells #[.int .i64 x1, .int .i64 x2, .int .i64 x3, .bool x4, .int .i64 x5] 51)) 37 (.int .i64 0) (.bool false) (.int .i64 0)
    rw [show (w.alloc (.cells #[.int .i64 x1, .int .i64 x2, .int .i64 x3, .bool x4, .int .i64 x5] 51)).heap.size = w.heap.size + 1 from by simp] at this
    exact this
  have HB := Hid.mk9 b0
  clear b0
  go_enter Tryz.func47, Tryz.ntmps47
  go_upto_region 1 with fail
  generalize ((w.alloc (.cells #[.int .i64 x1, .int .i64 x2, .int .i64 x3, .bool x4, .int .i64 x5] 51)).alloc (.cells #[.int .i64 0, .bool false, .int .i64 0] 37)) = wA at *
  obtain ⟨c0, c1, c2, c3, c4⟩ := HX.out.cells
  obtain ⟨r0, r1, r2⟩ := HR.out.cells
  obtain ⟨f0, f1, f2⟩ := HR.out.frz
  by_cases h : x2 = id
  · have h' : (x2 == id) = true := by simpa using h
    have HE : Hid (againA ⟨x1, x2, x3, x4, x5⟩ id = ⟨x3, x4, x5⟩) := Hid.mk9 (by unfold againA; rw [if_pos h])
    clear h
    go_wp2_with fail
    refine bodyPost_ret (retA rfl _ _ (w.heap.size + 1) (.int .i64 x3) (.bool x4) (.int .i64 x5) rfl (HR.out.set _ _ _)) rfl ?_
    rw [HE.out]
    exact ⟨rfl, put3_below HB.out (by omega) _ _ _⟩
  · have h' : (x2 == id) = false := by simpa using h
    have HE : Hid (againA ⟨x1, x2, x3, x4, x5⟩ id = ⟨9, false, 0⟩) := Hid.mk9 (by unfold againA; rw [if_neg h])
    clear h
    go_wp2_with fail
    refine bodyPost_ret (retA rfl _ _ (w.heap.size + 1) (.int .i64 9) (.bool false) (.int .i64 0) rfl (HR.out.set _ _ _)) rfl ?_
    rw [HE.out]
    exact ⟨rfl, put3_below HB.out (by omega) _ _ _⟩
def DnPost (B p : Nat) (la : Option Addr) (lc : Nat) (X : List LX) (ds : List Dn) (fl : Int) (w : World) (e : Ending) (w' : World) : Prop := e = .returned (.tuple #[]) ∧ (∃ da dc, LvA B p la lc X da dc ds fl w') ∧ Below B w w' ∧ KpS p w w'
def FgPost (B p : Nat) (la : Option Addr) (lc : Nat) (X : List LX) (da : Option Addr) (ds : List Dn) (fl : Int) (w : World) (e : Ending) (w' : World) : Prop := e = .returned (.tuple #[]) ∧ (∃ dc, LvA B p la lc X da dc ds fl w') ∧ Below B w w' ∧ KpS p w w' ∧ ∀ b, b < w.heap.size → b ≠ p → (∀ g, da = some ⟨g, 0, none⟩ → b ≠ g) → w'.heap[b]? = w.heap[b]?
theorem LvA.del1 {B p g : Nat} {la : Option Addr} {lc : Nat} {X : List LX} {dc : Nat} {ds : List Dn} {fl : Int} {w : World} (h : LvA B p la lc X (some ⟨g, 0, none⟩) dc ds fl w) (hX : ds.length ≤ 100) {k : Nat} (hk : k < ds.length) :
    Calls Tryz.prog 96 #[.slice (some ⟨g, 0, none⟩) ds.length dc, .int .i64 (k : Int), .int .i64 ((k : Int) + 1)] w fun e w' => e = .returned (.slice (some ⟨g, 0, none⟩) (ds.eraseIdx k).length dc) ∧ LvR B la lc X (some ⟨g, 0, none⟩) dc (ds.eraseIdx k) w' ∧ Bx3 w' p 25 (.slice la X.length lc) (.slice (some ⟨g, 0, none⟩) ds.length dc) (.int .i64 fl) ∧ Below B w w' ∧ KpS p w w' ∧ w.grownBy w' (some g) := by
  have hB : B ≤ w.heap.size := Nat.le_trans h.2.1 (Nat.le_of_lt h.lt)
  obtain ⟨m, hm⟩ : ∃ m, ds.length = m + 1 := ⟨ds.length - 1, by omega⟩
  have hO := h.2.2.2.2
  have hbx := h.box
  have hlen : (ds.eraseIdx k).length = m := by rw [List.length_eraseIdx]; split <;> omega
  rw [hm] at hO ⊢
  refine (delDn_any w hO k (k + 1) (by omega) rfl (by omega) (cellsD_one ds)).mono ?_
  rintro e w' ⟨rfl, hO', hg⟩
  have hg' : w.grownBy w' (Value.slice (some ⟨g, 0, none⟩) ds.length dc).ownBlock := hg
  have hcel : cellsD (ds.eraseIdx k) = (cellsD ds).take (k * 5) ++ (cellsD ds).drop ((k + 1) * 5) := by
    rw [List.eraseIdx_eq_take_drop_succ, cellsD_append, cellsD_take, cellsD_drop]
  refine ⟨by rw [hlen], h.rows.of_dones hg' (by rw [hlen, hcel]; exact hO'), ?_, below_of_grown hB h.2.2.2.2 hg', KpS.of_grown h.2.2.2.2 (.inr rfl) hg', hg⟩
  rw [← hm]
  exact hbx.kept (hg.block p h.lt (fun e => h.neD e.symm))
set_option maxHeartbeats 2000000 in
set_option maxRecDepth 60000 in
theorem forget_any {B p : Nat} {la : Option Addr} {lc : Nat} {X : List LX} {da : Option Addr} {dc : Nat} {ds : List Dn} {fl : Int} {w : World} (h : LvA B p la lc X da dc ds fl w) (hM : DnsMay ds) (h0 : 0 < ds.length) :
    Calls Tryz.prog 69 #[.pointer (some ⟨p, 0, none⟩)] w fun e w' => FgPost B p la lc X da (ds.eraseIdx (leastD ds)) fl w e w' := by
  have HB0 : Hid (B ≤ w.heap.size) := Hid.mk9 (Nat.le_trans h.2.1 (Nat.le_of_lt h.lt))
  have HBp : Hid (B ≤ p) := Hid.mk9 h.2.1
  have HA := Hid.mk9 h
  have HM := Hid.mk9 hM
  have hd8 : ds.length ≤ 8 := hM.1
  have HLT := Hid.mk9 (leastD_lt h0)
  have HC := Hid.mk9 (minD_any da ds.length dc ds w h.dns h0 (by omega))
  have c1 := h.c1
  obtain ⟨y, hy⟩ : ∃ y, ds.getD (leastD ds) dn0 = y := ⟨_, rfl⟩
  rw [hy] at HC
  have HY := Hid.mk9 hy
  obtain ⟨x1, x2, x3, x4, x5⟩ := y
  simp only [dnV] at HC
  obtain ⟨i, hi⟩ : ∃ i, leastD ds = i := ⟨_, rfl⟩
  rw [hi] at HY HLT ⊢
  clear h hM hy hi
  go_enter Tryz.func69, Tryz.ntmps69
  go_upto_region 1 with (go_at_call 94; refine HC.out.mono ?_; rintro e wA ⟨hbA, rfl⟩)
  have hb1 := below2 hbA (below_alloc wA (.cells #[.int .i64 x1, .int .i64 x2, .int .i64 x3, .bool x4, .int .i64 x5] 51))
  have HX := Hid.mk9 (Bx5.new wA 51 (.int .i64 x1) (.int .i64 x2) (.int .i64 x3) (.bool x4) (.int .i64 x5))
  clear hbA c1 HC
  generalize (wA.alloc (.cells #[.int .i64 x1, .int .i64 x2, .int .i64 x3, .bool x4, .int .i64 x5] 51)) = wB at *
  have HB := Hid.mk9 hb1
  replace HA := Hid.mk9 (HA.out.below hb1)
  have HD := Hid.mk9 (done_any HA.out HM.out x1)
  obtain ⟨y0, -, -, -, -⟩ := HX.out.cells
  clear hb1
  go_upto_region 2 with (go_at_call 46; refine HD.out.mono ?_; rintro e wC ⟨hbC, k, q, hP, hq, rfl⟩)
  have HKI : Hid (k = i) := Hid.mk9 (done_at HM.out HLT.out (by rw [HY.out]; exact hP))
  obtain rfl := HKI.out
  replace HA := Hid.mk9 (HA.out.below hbC)
  replace HB := Hid.mk9 (below2 HB.out hbC)
  obtain ⟨g, cp, eg, hgl⟩ := own_some HA.out.2.2.2.2 (by omega)
  injection eg with e1 e2 e3
  subst e1 e3
  have HE := Hid.mk9 (HA.out.del1 (by omega) HLT.out)
  have c1 := HA.out.c1
  have hk0 : (0 : Int) ≤ (k : Int) := by omega
  have hk9 : (k : Int) + 1 ≤ 9 := by have := HLT.out; omega
  clear hbC hP hq y0 HX HD HY
  generalize ds.length = N at *
  go_wp2_with (go_at_call 96; refine HE.out.mono ?_; rintro e wD ⟨rfl, hLR, hbx, hbD, hkD, hgD⟩; (have d1 := hbx.cells.2.1); (have g1 := hbx.frz.2.1); (have HGD := Hid.mk9 hgD); clear hgD)
  refine bodyPost_ret (results_none rfl _ _ _) rfl ?_
  refine ⟨rfl, ⟨_, hLR.dones hbx HBp.out⟩, ((HB.out.mono HB0.out).trans hbD).setCell (p := ⟨p, 1, none⟩) HBp.out _, ((KpS.of_below HB.out).trans hkD).trans (KpS.set_box p 1 wD _), fun b h1 h2 h3 => ?_⟩
  refine (set_heap wD p 1 _ b h2).trans ((HGD.out.block b (Nat.lt_of_lt_of_le h1 HB.out.size) (fun e => ?_)).trans (HB.out.block b h1))
  injection e with e
  exact h3 g rfl e
theorem LvA.insD {B p : Nat} {la : Option Addr} {lc : Nat} {X : List LX} {da : Option Addr} {dc : Nat} {ds : List Dn} {fl : Int} {w : World} (h : LvA B p la lc X da dc ds fl w) (hX : ds.length ≤ 100) {k : Nat} (hk : k ≤ ds.length) (d : Dn) :
    Calls Tryz.prog 70 #[.slice da ds.length dc, .int .i64 (k : Int), .slice (some ⟨w.heap.size, 0, none⟩) 1 1] (w.alloc (.cells #[.int .i64 d.cl, .int .i64 d.id, .int .i64 d.an.cd, .bool d.an.hs, .int .i64 d.an.nn] 51)) fun e w' => ∃ g c, e = .returned (.slice (some ⟨g, 0, none⟩) (ds.length + 1) c) ∧ LvR B la lc X (some ⟨g, 0, none⟩) c (ds.take k ++ d :: ds.drop k) w' ∧ Bx3 w' p 25 (.slice la X.length lc) (.slice da ds.length dc) (.int .i64 fl) ∧ Below B w w' ∧ KpS p w w' ∧ ∀ b, b < w.heap.size → (∀ g, da = some ⟨g, 0, none⟩ → b ≠ g) → w'.heap[b]? = w.heap[b]? := by
  have b1 := below_alloc w (.cells #[.int .i64 d.cl, .int .i64 d.id, .int .i64 d.an.cd, .bool d.an.hs, .int .i64 d.an.nn] 51)
  have hB : B ≤ w.heap.size := Nat.le_trans h.2.1 (Nat.le_of_lt h.lt)
  have hA := h.below b1
  have hvb : (w.alloc (.cells #[.int .i64 d.cl, .int .i64 d.id, .int .i64 d.an.cd, .bool d.an.hs, .int .i64 d.an.nn] 51)).heap[w.heap.size]? = some (.cells (dnL d).toArray 51 (0, 0)) := heap_alloc_new w _
  refine (insDn_any _ hA.2.2.2.2 (Nat.le_trans hB b1.size) k hk (by omega) (by rfl) hvb (fun e => by have := (h.2.2.2.2.lt _ e).2; omega) (fun u hu => by simp [dnL] at hu; rcases hu with rfl | rfl | rfl | rfl | rfl <;> rfl) (cellsD_one ds)).mono ?_
  rintro e w' ⟨g, c, rfl, hO, hg⟩
  have hlen : (ds.take k ++ d :: ds.drop k).length = ds.length + 1 := by simp; omega
  have hcel : cellsD (ds.take k ++ d :: ds.drop k) = (cellsD ds).take (k * 5) ++ (dnL d ++ (cellsD ds).drop (k * 5)) := by
    rw [cellsD_append, show d :: ds.drop k = [d] ++ ds.drop k from rfl, cellsD_append, cellsD_take, cellsD_drop]
    simp [cellsD]
  refine ⟨g, c, rfl, hA.rows.of_dones hg (by rw [hlen, hcel]; exact hO), hA.box.kept (hg.block p hA.lt (fun e => hA.neD e.symm)), (b1.mono hB).trans (below_of_grown (Nat.le_trans hB b1.size) hA.2.2.2.2 hg), (KpS.of_below b1).trans (KpS.of_grown hA.2.2.2.2 (.inr rfl) hg), fun b hb1 hb2 => ?_⟩
  refine (hg.block b (Nat.lt_of_lt_of_le hb1 b1.size) (fun e => ?_)).trans (b1.block b hb1)
  rcases h.2.2.2.2.2 with ⟨e', _⟩ | ⟨g', cap', cur, e', _⟩
  · rw [e'] at e; cases e
  · rw [e'] at e
    injection e with e
    injection e' with e1 _ _
    exact hb2 g' e1 e
theorem findD_erase {ds : List Dn} {c : Int} (i : Nat) (h : findD ds c = none) : findD (ds.eraseIdx i) c = none := by
  unfold findD at *
  rw [List.find?_eq_none] at *
  exact fun x hx => h x ((List.eraseIdx_sublist ds i).subset hx)
set_option maxHeartbeats 4000000 in
set_option maxRecDepth 60000 in
theorem remember_any {B p : Nat} {la : Option Addr} {lc : Nat} {X : List LX} {da : Option Addr} {dc : Nat} {ds : List Dn} {fl : Int} {w : World} (h : LvA B p la lc X da dc ds fl w) (hM : DnsMay ds) (d : Dn) :
    Calls Tryz.prog 48 #[.pointer (some ⟨p, 0, none⟩), dnV d] w fun e w' => DnPost B p la lc X (noteD ds d) fl w e w' := by
  have HB0 : Hid (B ≤ w.heap.size) := Hid.mk9 (Nat.le_trans h.2.1 (Nat.le_of_lt h.lt))
  have HBp : Hid (B ≤ p) := Hid.mk9 h.2.1
  have HPL : Hid (p < w.heap.size) := Hid.mk9 h.lt
  have HGL : Hid (∀ g, da = some ⟨g, 0, none⟩ → g < w.heap.size) := Hid.mk9 (fun g e => by subst e; exact (h.2.2.2.2.lt g rfl).2)
  have HM := Hid.mk9 hM
  have hd8 : ds.length ≤ 8 := hM.1
  have HND := Hid.mk9 (noteD_eq ds d)
  obtain ⟨dd, hdd⟩ : ∃ dd, dd = d := ⟨_, rfl⟩
  rw [← hdd] at HND
  have HDD := Hid.mk9 hdd
  obtain ⟨cl, id, cd, hs, nn⟩ := d
  simp only [dnV]
  rw [← hdd]
  have b0 := below_alloc w (.cells #[.int .i64 cl, .int .i64 id, .int .i64 cd, .bool hs, .int .i64 nn] 51)
  have HX := Hid.mk9 (Bx5.new w 51 (.int .i64 cl) (.int .i64 id) (.int .i64 cd) (.bool hs) (.int .i64 nn))
  have HA := Hid.mk9 (h.below b0)
  have HB := Hid.mk9 b0
  clear h b0 hM hdd
  go_enter Tryz.func48, Tryz.ntmps48
  go_upto_region 1 with fail
  generalize (w.alloc (.cells #[.int .i64 cl, .int .i64 id, .int .i64 cd, .bool hs, .int .i64 nn] 51)) = wA at *
  have HC := Hid.mk9 (done_any HA.out HM.out cl)
  obtain ⟨x0, -, -, -, -⟩ := HX.out.cells
  go_upto_region 2 with (go_at_call 46; refine HC.out.mono ?_; rintro e wB ⟨hbB, k, q, hP, hq, rfl⟩)
  replace HA := Hid.mk9 (HA.out.below hbB)
  replace HX := Hid.mk9 (HX.out.below hbB)
  replace HB := Hid.mk9 (below2 HB.out hbB)
  clear hbB HC x0
  cases q with
  | true =>
    obtain ⟨hk, he⟩ := hq.1 rfl
    obtain ⟨g, cp, eg, hgl⟩ := own_some HA.out.2.2.2.2 (by omega)
    injection eg with e1 e2 e3
    subst e1 e3
    have hO := HA.out.2.2.2.2
    have hL9 := (HA.out.below (below_drew wB)).putD hk dd
    have hK9 := (HA.out.below (below_drew wB)).putD_kp (i := k) dd
    have HN : Hid (noteD ds dd = ds.set k dd) := Hid.mk9 (by
      rw [HND.out, HDD.out, show roomD ds cl = ds from by unfold roomD; rw [findD_yes HM.out hk he]; rfl]
      exact putD_set HM.out hk he)
    have hq5 := cellsD_at ds k hk
    have k0 := (hO.cellAt (k * 5) (by omega)).trans (hq5 0 (by omega))
    have k1 := (hO.cellAt (k * 5 + 1) (by omega)).trans (hq5 1 (by omega))
    have k2 := (hO.cellAt (k * 5 + 2) (by omega)).trans (hq5 2 (by omega))
    have k3 := (hO.cellAt (k * 5 + 3) (by omega)).trans (hq5 3 (by omega))
    have k4 := (hO.cellAt (k * 5 + 4) (by omega)).trans (hq5 4 (by omega))
    have hk0 : (0 : Int) ≤ (k : Int) := by omega
    have hk1 : (k : Int) < (ds.length : Int) := by omega
    have c1 := HA.out.c1
    have HO := Hid.mk9 hO
    have hb9 := (below2 HB.out (below_drew wB)).mono HB0.out
    have hk9 := KpS.of_below (p := p) (below2 HB.out (below_drew wB))
    have HF9 : Hid (DnPost B p la lc X (noteD ds dd) fl w (.returned (.tuple #[])) (setD5 wB.drew g (k * 5) dd)) := Hid.mk9 (by
      rw [HN.out]
      exact ⟨rfl, ⟨some ⟨g, 0, none⟩, dc, hL9⟩, hb9.trans hK9.2, hk9.trans hK9.1⟩)
    clear hP hq he hq5 hO hL9 hK9 hb9 hk9
    generalize hNN : ds.length = N at *
    go_upto_region 3 with fail
    refine re_3 _ _ _ _ _ _ _ _ _ _ _ _ _ _ _ _ _ _ _ _ _ _ _ _ _ _ _ _ _ _ _ _ _ _ _ _ _ _ _ _ _ _ _ _ p w.heap.size g k N dc cl id cd nn hs _ _ _ _ _ wB _ c1 HX.out hk0 hk1 k0 (HO.out.frozenAt _) k1 (HO.out.frozenAt _) k2 (HO.out.frozenAt _) k3 (HO.out.frozenAt _) k4 (HO.out.frozenAt _) (Hid.mk9 (fun u14 u15 u16 u17 u18 u19 u20 wC hwC => ?_))
    clear k0 k1 k2 k3 k4 c1
    go_wp2_with fail
    refine bodyPost_ret (results_none rfl _ _ _) rfl ?_
    have e9 : dd = ⟨cl, id, cd, hs, nn⟩ := HDD.out
    subst e9
    subst hwC
    exact HF9.out
  | false =>
    have hn : ¬ (k < ds.length ∧ (ds.getD k dn0).cl = cl) := fun h => absurd (hq.2 h) (by decide)
    have HFN := Hid.mk9 (findD_no hP HM.out hn)
    have c1 := HA.out.c1
    have hkN : k ≤ ds.length := hP.1
    by_cases h8 : 8 ≤ ds.length
    · have HC := Hid.mk9 (forget_any HA.out HM.out (by omega))
      have HR : Hid (roomD ds cl = ds.eraseIdx (leastD ds)) := Hid.mk9 (by unfold roomD; rw [HFN.out, if_pos h8]; rfl)
      have HEM := Hid.mk9 (erase_may HM.out (leastD ds))
      have HFE := Hid.mk9 (findD_erase (leastD ds) HFN.out)
      have h8' : (8 : Int) ≤ (ds.length : Int) := by omega
      clear hP hq hn
      generalize ds.eraseIdx (leastD ds) = es at *
      generalize ds.length = N at *
      go_upto_region 6 with (go_at_call 69; refine HC.out.mono ?_; rintro e wC ⟨rfl, ⟨dc2, hL⟩, hbC, hkC, hkeep⟩)
      have HXC : Hid (Bx5 wC w.heap.size 51 (.int .i64 cl) (.int .i64 id) (.int .i64 cd) (.bool hs) (.int .i64 nn)) := Hid.mk9 (HX.out.kept (hkeep w.heap.size HX.out.lt (by have := HPL.out; omega) (fun g e => by have := HGL.out g e; omega)))
      have HLC := Hid.mk9 hL
      have HBC := Hid.mk9 hbC
      have HKC := Hid.mk9 hkC
      clear hL hbC hkC hkeep HX HC c1
      have HD := Hid.mk9 (done_any HLC.out HEM.out cl)
      obtain ⟨x0, -, -, -, -⟩ := HXC.out.cells
      go_upto_region 7 with (go_at_call 46; refine HD.out.mono ?_; rintro e wD ⟨hbD, k2, q2, hP, hq, rfl⟩)
      replace HLC := Hid.mk9 (HLC.out.below hbD)
      replace HXC := Hid.mk9 (HXC.out.below hbD)
      replace HBC := Hid.mk9 (HBC.out.trans (hbD.mono (Nat.le_trans (Nat.le_trans HB0.out HB.out.size) HBC.out.size)))
      replace HKC := Hid.mk9 (HKC.out.trans (KpS.of_below hbD))
      have hn2 : ¬ (k2 < es.length ∧ (es.getD k2 dn0).cl = cl) := fun h => by
        have h1 := findD_yes HEM.out h.1 h.2
        have h2 := HFE.out
        rw [h1] at h2
        cases h2
      have HN : Hid (noteD ds dd = es.take k2 ++ dd :: es.drop k2) := Hid.mk9 (by
        rw [HND.out, HDD.out]
        simp only
        rw [HR.out]
        exact putD_ins HEM.out hP hn2)
      have hk2 : k2 ≤ es.length := hP.1
      have hes : es.length ≤ 8 := HEM.out.1
      clear hP hq hn2 hbD x0 HD
      have HI : Hid (Calls Tryz.prog 70 #[.slice da es.length dc2, .int .i64 (k2 : Int), .slice (some ⟨wD.heap.size, 0, none⟩) 1 1] (wD.drew.alloc (.cells #[.int .i64 cl, .int .i64 id, .int .i64 cd, .bool hs, .int .i64 nn] 51)) fun e w' => ∃ g c, e = .returned (.slice (some ⟨g, 0, none⟩) (es.length + 1) c) ∧ (LvR B la lc X (some ⟨g, 0, none⟩) c (es.take k2 ++ dd :: es.drop k2) w' ∧ Bx3 w' p 25 (.slice la X.length lc) (.slice da es.length dc2) (.int .i64 fl) ∧ Below B wD w' ∧ KpS p wD w') ∧ (w'.cell? ⟨p, 1, none⟩ = some (.slice da es.length dc2) ∧ w'.frozen? ⟨p, 1, none⟩ = false ∧ Bx5 w' w.heap.size 51 (.int .i64 cl) (.int .i64 id) (.int .i64 cd) (.bool hs) (.int .i64 nn))) := Hid.mk9 (by
        have hi := (HLC.out.below (below_drew wD)).insD (by omega) (hk2) dd
        rw [HDD.out] at hi ⊢
        refine hi.mono ?_
        rintro e w' ⟨g, c, rfl, h1, h2, h3, h4, h5⟩
        exact ⟨g, c, rfl, ⟨h1, h2, ⟨h3.os, h3.tape, h3.output, h3.size, h3.block⟩, h4⟩, h2.cells.2.1, h2.frz.2.1, HXC.out.kept (h5 w.heap.size HXC.out.lt (fun g e => by have := HGL.out g e; omega))⟩)
      have c1 := HLC.out.c1
      have f1 := HLC.out.f1
      go_upto_region 7 with fail
      refine re_7 _ _ _ _ _ _ _ _ _ _ _ _ _ _ _ _ _ _ _ _ _ _ _ _ _ _ _ _ _ _ _ _ _ _ _ _ _ _ _ _ _ _ _ _ p w.heap.size k2 es.length dc2 da cl id cd nn hs _ wD _ c1 f1 HXC.out HI (Hid.mk9 (fun u36 u37 u38 u39 u40 u41 u42 u43 u44 u45 u46 g c w2 wC9 hR hwC => ?_))
      obtain ⟨h1, h2, h3, h4⟩ := hR
      have hlen : (es.take k2 ++ dd :: es.drop k2).length = es.length + 1 := by simp; omega
      have hL := h1.dones h2 HBp.out
      rw [hlen, ← hwC] at hL
      have HL := Hid.mk9 hL
      have HBZ : Hid (Below B w wC9) := Hid.mk9 (by rw [hwC]; exact (((HB.out.mono HB0.out).trans HBC.out).trans h3).setCell (p := ⟨p, 1, none⟩) HBp.out _)
      have HKZ : Hid (KpS p w wC9) := Hid.mk9 (by rw [hwC]; exact (((KpS.of_below (p := p) HB.out).trans HKC.out).trans h4).trans (KpS.set_box p 1 w2 _))
      clear h1 h2 h3 h4 hL hwC hlen HI c1 f1
      go_wp2_with fail
      refine bodyPost_ret (results_none rfl _ _ _) rfl ?_
      rw [HN.out]
      exact ⟨rfl, ⟨_, _, HL.out⟩, HBZ.out, HKZ.out⟩
    · have HR : Hid (roomD ds cl = ds) := Hid.mk9 (by unfold roomD; rw [HFN.out]; simp [h8])
      have HN : Hid (noteD ds dd = ds.take k ++ dd :: ds.drop k) := Hid.mk9 (by
        rw [HND.out, HDD.out]
        simp only
        rw [HR.out]
        exact putD_ins HM.out hP hn)
      have h8' : ¬ (8 : Int) ≤ (ds.length : Int) := by omega
      clear hP hq hn HFN
      have HI : Hid (Calls Tryz.prog 70 #[.slice da ds.length dc, .int .i64 (k : Int), .slice (some ⟨wB.heap.size, 0, none⟩) 1 1] (wB.drew.alloc (.cells #[.int .i64 cl, .int .i64 id, .int .i64 cd, .bool hs, .int .i64 nn] 51)) fun e w' => ∃ g c, e = .returned (.slice (some ⟨g, 0, none⟩) (ds.length + 1) c) ∧ (LvR B la lc X (some ⟨g, 0, none⟩) c (ds.take k ++ dd :: ds.drop k) w' ∧ Bx3 w' p 25 (.slice la X.length lc) (.slice da ds.length dc) (.int .i64 fl) ∧ Below B wB w' ∧ KpS p wB w') ∧ (w'.cell? ⟨p, 1, none⟩ = some (.slice da ds.length dc) ∧ w'.frozen? ⟨p, 1, none⟩ = false ∧ Bx5 w' w.heap.size 51 (.int .i64 cl) (.int .i64 id) (.int .i64 cd) (.bool hs) (.int .i64 nn))) := Hid.mk9 (by
        have hi := (HA.out.below (below_drew wB)).insD (by omega) (hkN) dd
        rw [HDD.out] at hi ⊢
        refine hi.mono ?_
        rintro e w' ⟨g, c, rfl, h1, h2, h3, h4, h5⟩
        exact ⟨g, c, rfl, ⟨h1, h2, ⟨h3.os, h3.tape, h3.output, h3.size, h3.block⟩, h4⟩, h2.cells.2.1, h2.frz.2.1, HX.out.kept (h5 w.heap.size HX.out.lt (fun g e => by have := HGL.out g e; omega))⟩)
      have c1 := HA.out.c1
      have f1 := HA.out.f1
      go_upto_region 7 with fail
      refine re_7 _ _ _ _ _ _ _ _ _ _ _ _ _ _ _ _ _ _ _ _ _ _ _ _ _ _ _ _ _ _ _ _ _ _ _ _ _ _ _ _ _ _ _ _ p w.heap.size k ds.length dc da cl id cd nn hs _ wB _ c1 f1 HX.out HI (Hid.mk9 (fun u36 u37 u38 u39 u40 u41 u42 u43 u44 u45 u46 g c w2 wC9 hR hwC => ?_))
      obtain ⟨h1, h2, h3, h4⟩ := hR
      have hlen : (ds.take k ++ dd :: ds.drop k).length = ds.length + 1 := by simp; omega
      have hL := h1.dones h2 HBp.out
      rw [hlen, ← hwC] at hL
      have HL := Hid.mk9 hL
      have HBZ : Hid (Below B w wC9) := Hid.mk9 (by rw [hwC]; exact ((HB.out.mono HB0.out).trans h3).setCell (p := ⟨p, 1, none⟩) HBp.out _)
      have HKZ : Hid (KpS p w wC9) := Hid.mk9 (by rw [hwC]; exact ((KpS.of_below (p := p) HB.out).trans h4).trans (KpS.set_box p 1 w2 _))
      clear h1 h2 h3 h4 hL hwC hlen HI c1 f1
      go_wp2_with fail
      refine bodyPost_ret (results_none rfl _ _ _) rfl ?_
      rw [HN.out]
      exact ⟨rfl, ⟨_, _, HL.out⟩, HBZ.out, HKZ.out⟩
end Go.Proofs.YtihohcmocejijaaGreat.Bk
namespace Go.Proofs.YtihohcmocejijaaGreat.Bk
open Go.ChangeShapes Go.WideShapes Go.ChangeAt Go.RowKit
set_option maxHeartbeats 4000000 in
set_option maxRecDepth 60000 in
theorem en_4t (t1 t2 t4 t7 t8 t9 t10 t11 t12 t13 t14 t15 t16 t17 t18 t19 t20 t21 t22 t23 t24 t25 t26 t27 t28 t29 t30 t31 t32 t33 t34 t35 t36 t37 t38 t39 t40 t41 t42 t43 t44 t45 t46 t47 t48 t49 t50 t51 t52 t53 t54 t55 t56 t57 t58 : Value) (p eb g k N dc : Nat) (did : Int) (ep cl id ok ot ov of ou om : Int) (os : ByteArray) (w1 : World) (Q : Exit → Act → World → Prop)
    (h0 : w1.cell? ⟨p, 1, none⟩ = some (.slice (some ⟨g, 0, none⟩) N dc)) (hbx : Bx10 w1 eb 31 (.int .i64 ep) (.int .i64 cl) (.int .i64 id) (.int .i64 ok) (.string os) (.int .i64 ot) (.int .i64 ov) (.int .i64 of) (.int .i64 ou) (.int .i64 om)) (h1 : w1.cell? ⟨g, k * 5 + 1, none⟩ = some (.int .i64 did)) (hk0 : (0 : Int) ≤ (k : Int)) (hkN : (k : Int) < (N : Int))
    (hQ : Hid (∀ (u22 u23 u24 u25 u26 u27 u28 u29 u30 u31 u32 u33 u34 : Value) (wC : World), Below w1.heap.size w1 wC → Q .normal ⟨#[.pointer (some ⟨p, 0, none⟩), t1, t2, .pointer (some ⟨eb, 0, none⟩), t4, .int .i64 (k : Int), .bool true, t7, t8, t9, t10, t11, t12, t13, t14, t15, t16, t17, t18, t19, t20, t21, u22, u23, u24, u25, u26, u27, u28, u29, u30, u31, u32, u33, u34, .bool (decide (id ≤ did)), t36, t37, t38, t39, t40, t41, t42, t43, t44, t45, t46, t47, t48, t49, t50, t51, t52, t53, t54, t55, t56, t57, t58], []⟩ wC)) :
    Code.wp Tryz.prog ((Tryz.f27.body.bind (regionOf 4)).getD .skip) Q ⟨#[.pointer (some ⟨p, 0, none⟩), t1, t2, .pointer (some ⟨eb, 0, none⟩), t4, .int .i64 (k : Int), .bool true, t7, t8, t9, t10, t11, t12, t13, t14, t15, t16, t17, t18, t19, t20, t21, t22, t23, t24, t25, t26, t27, t28, t29, t30, t31, t32, t33, t34, t35, t36, t37, t38, t39, t40, t41, t42, t43, t44, t45, t46, t47, t48, t49, t50, t51, t52, t53, t54, t55, t56, t57, t58], []⟩ w1 := by
  have hS : (fun w' => Below w1.heap.size w1 w' ∧ w'.cell? ⟨p, 1, none⟩ = some (.slice (some ⟨g, 0, none⟩) N dc) ∧ Bx10 w' eb 31 (.int .i64 ep) (.int .i64 cl) (.int .i64 id) (.int .i64 ok) (.string os) (.int .i64 ot) (.int .i64 ov) (.int .i64 of) (.int .i64 ou) (.int .i64 om) ∧ w'.cell? ⟨g, k * 5 + 1, none⟩ = some (.int .i64 did)) w1.drew := ⟨below_drew _, h0, hbx, h1⟩
  conv => arg 2; whnf
  refine held_start (S := fun w' => Below w1.heap.size w1 w' ∧ w'.cell? ⟨p, 1, none⟩ = some (.slice (some ⟨g, 0, none⟩) N dc) ∧ Bx10 w' eb 31 (.int .i64 ep) (.int .i64 cl) (.int .i64 id) (.int .i64 ok) (.string os) (.int .i64 ot) (.int .i64 ov) (.int .i64 of) (.int .i64 ou) (.int .i64 om) ∧ w'.cell? ⟨g, k * 5 + 1, none⟩ = some (.int .i64 did)) mixed9 ?_
  refine held_take (i := 0) (v := .bool true) rfl (by kernel_rfl) (fun _ _ _ h => h) (.inl ⟨rfl, fun w hS => ?_⟩) hS ?_
  · obtain ⟨-, q0, q1, q2⟩ := hS
    go_simp
  try simp only [Act.put, List.setIfInBounds_toArray, List.set_cons_zero, List.set_cons_succ]
  refine held_take (i := 1) (v := .bool true) rfl (by kernel_rfl) (fun _ _ _ h => h) (.inl ⟨rfl, fun w hS => ?_⟩) hS ?_
  · obtain ⟨-, q0, q1, q2⟩ := hS
    go_simp
  try simp only [Act.put, List.setIfInBounds_toArray, List.set_cons_zero, List.set_cons_succ]
  refine held_take (i := 2) (v := .pointer (some ⟨p, 0, none⟩)) rfl (by kernel_rfl) (fun _ _ _ h => h) (.inl ⟨rfl, fun w hS => ?_⟩) hS ?_
  · obtain ⟨-, q0, q1, q2⟩ := hS
    go_simp
  try simp only [Act.put, List.setIfInBounds_toArray, List.set_cons_zero, List.set_cons_succ]
  refine held_take (i := 3) (v := .pointer (some ⟨p, 0, none⟩)) rfl (by kernel_rfl) (fun _ _ _ h => h) (.inl ⟨rfl, fun w hS => ?_⟩) hS ?_
  · obtain ⟨-, q0, q1, q2⟩ := hS
    go_simp
  try simp only [Act.put, List.setIfInBounds_toArray, List.set_cons_zero, List.set_cons_succ]
  refine held_take (i := 4) (v := .pointer (some ⟨p, 1, none⟩)) rfl (by kernel_rfl) (fun _ _ _ h => h) (.inl ⟨rfl, fun w hS => ?_⟩) hS ?_
  · obtain ⟨-, q0, q1, q2⟩ := hS
    go_simp
  try simp only [Act.put, List.setIfInBounds_toArray, List.set_cons_zero, List.set_cons_succ]
  refine held_take (i := 5) (v := .slice (some ⟨g, 0, none⟩) N dc) rfl (by kernel_rfl) (fun _ _ _ h => h) (.inl ⟨rfl, fun w hS => ?_⟩) hS ?_
  · obtain ⟨-, q0, q1, q2⟩ := hS
    go_simp
  try simp only [Act.put, List.setIfInBounds_toArray, List.set_cons_zero, List.set_cons_succ]
  refine held_take (i := 6) (v := .int .i64 (k : Int)) rfl (by kernel_rfl) (fun _ _ _ h => h) (.inl ⟨rfl, fun w hS => ?_⟩) hS ?_
  · obtain ⟨-, q0, q1, q2⟩ := hS
    go_simp
  try simp only [Act.put, List.setIfInBounds_toArray, List.set_cons_zero, List.set_cons_succ]
  refine held_take (i := 7) (v := .pointer (some ⟨g, k * 5, none⟩)) rfl (by kernel_rfl) (fun _ _ _ h => h) (.inl ⟨rfl, fun w hS => ?_⟩) hS ?_
  · obtain ⟨-, q0, q1, q2⟩ := hS
    go_simp
  try simp only [Act.put, List.setIfInBounds_toArray, List.set_cons_zero, List.set_cons_succ]
  refine held_take (i := 8) (v := .pointer (some ⟨g, k * 5 + 1, none⟩)) rfl (by kernel_rfl) (fun _ _ _ h => h) (.inl ⟨rfl, fun w hS => ?_⟩) hS ?_
  · obtain ⟨-, q0, q1, q2⟩ := hS
    go_simp
  try simp only [Act.put, List.setIfInBounds_toArray, List.set_cons_zero, List.set_cons_succ]
  refine held_take (i := 9) (v := .int .i64 did) rfl (by kernel_rfl) (fun _ _ _ h => h) (.inl ⟨rfl, fun w hS => ?_⟩) hS ?_
  · obtain ⟨-, q0, q1, q2⟩ := hS
    go_simp
  try simp only [Act.put, List.setIfInBounds_toArray, List.set_cons_zero, List.set_cons_succ]
  refine held_take (i := 10) (v := .pointer (some ⟨eb, 2, none⟩)) rfl (by kernel_rfl) (fun _ _ _ h => h) (.inl ⟨rfl, fun w hS => ?_⟩) hS ?_
  · obtain ⟨-, q0, q1, q2⟩ := hS
    go_simp
  try simp only [Act.put, List.setIfInBounds_toArray, List.set_cons_zero, List.set_cons_succ]
  refine held_take (i := 11) (v := .int .i64 id) rfl (by kernel_rfl) (fun _ _ _ h => h) (.inl ⟨rfl, fun w hS => ?_⟩) hS ?_
  · obtain ⟨-, q0, q1, q2⟩ := hS
    obtain ⟨-, -, c2, -, -, -, -, -, -, -⟩ := q1.cells
    go_simp
  try simp only [Act.put, List.setIfInBounds_toArray, List.set_cons_zero, List.set_cons_succ]
  refine held_take (i := 12) (v := .bool (decide (id ≤ did))) rfl (by kernel_rfl) (fun _ _ _ h => h) (.inl ⟨rfl, fun w hS => ?_⟩) hS ?_
  · obtain ⟨-, q0, q1, q2⟩ := hS
    go_simp
  try simp only [Act.put, List.setIfInBounds_toArray, List.set_cons_zero, List.set_cons_succ]
  refine held_take (i := 13) (v := .bool (decide (id ≤ did))) rfl (by kernel_rfl) (fun _ _ _ h => h) (.inl ⟨rfl, fun w hS => ?_⟩) hS ?_
  · obtain ⟨-, q0, q1, q2⟩ := hS
    go_simp
  try simp only [Act.put, List.setIfInBounds_toArray, List.set_cons_zero, List.set_cons_succ]
  refine wpAnyH_done (by kernel_rfl) ?_ _
  refine NoPanic.normal ?_
  exact hQ.out _ _ _ _ _ _ _ _ _ _ _ _ _ _ hS.1
set_option maxHeartbeats 4000000 in
set_option maxRecDepth 60000 in
theorem en_4f (t1 t2 t4 t7 t8 t9 t10 t11 t12 t13 t14 t15 t16 t17 t18 t19 t20 t21 t22 t23 t24 t25 t26 t27 t28 t29 t30 t31 t32 t33 t34 t35 t36 t37 t38 t39 t40 t41 t42 t43 t44 t45 t46 t47 t48 t49 t50 t51 t52 t53 t54 t55 t56 t57 t58 : Value) (p eb k : Nat) (w1 : World) (Q : Exit → Act → World → Prop)
    
    (hQ : Hid (∀ (u22 u23 u24 u25 u26 u27 u28 u29 u30 u31 u32 u33 u34 : Value) (wC : World), Below w1.heap.size w1 wC → Q .normal ⟨#[.pointer (some ⟨p, 0, none⟩), t1, t2, .pointer (some ⟨eb, 0, none⟩), t4, .int .i64 (k : Int), .bool false, t7, t8, t9, t10, t11, t12, t13, t14, t15, t16, t17, t18, t19, t20, t21, u22, u23, u24, u25, u26, u27, u28, u29, u30, u31, u32, u33, u34, .bool false, t36, t37, t38, t39, t40, t41, t42, t43, t44, t45, t46, t47, t48, t49, t50, t51, t52, t53, t54, t55, t56, t57, t58], []⟩ wC)) :
    Code.wp Tryz.prog ((Tryz.f27.body.bind (regionOf 4)).getD .skip) Q ⟨#[.pointer (some ⟨p, 0, none⟩), t1, t2, .pointer (some ⟨eb, 0, none⟩), t4, .int .i64 (k : Int), .bool false, t7, t8, t9, t10, t11, t12, t13, t14, t15, t16, t17, t18, t19, t20, t21, t22, t23, t24, t25, t26, t27, t28, t29, t30, t31, t32, t33, t34, t35, t36, t37, t38, t39, t40, t41, t42, t43, t44, t45, t46, t47, t48, t49, t50, t51, t52, t53, t54, t55, t56, t57, t58], []⟩ w1 := by
  have hS : (fun w' => Below w1.heap.size w1 w') w1.drew := below_drew _
  conv => arg 2; whnf
  refine held_start (S := fun w' => Below w1.heap.size w1 w') mixed9 ?_
  refine held_take (i := 0) (v := .bool false) rfl (by kernel_rfl) (fun _ _ _ h => h) (.inl ⟨rfl, fun w hS => ?_⟩) hS ?_
  · go_simp
  try simp only [Act.put, List.setIfInBounds_toArray, List.set_cons_zero, List.set_cons_succ]
  refine held_take (i := 1) (v := .bool false) rfl (by kernel_rfl) (fun _ _ _ h => h) (.inl ⟨rfl, fun w hS => ?_⟩) hS ?_
  · go_simp
  try simp only [Act.put, List.setIfInBounds_toArray, List.set_cons_zero, List.set_cons_succ]
  refine held_take (i := 2) (v := undef) rfl (by kernel_rfl) (fun _ _ _ h => h) (.inr ⟨rfl, rfl⟩) hS ?_
  try simp only [Act.put, List.setIfInBounds_toArray, List.set_cons_zero, List.set_cons_succ]
  refine held_take (i := 3) (v := undef) rfl (by kernel_rfl) (fun _ _ _ h => h) (.inr ⟨rfl, rfl⟩) hS ?_
  try simp only [Act.put, List.setIfInBounds_toArray, List.set_cons_zero, List.set_cons_succ]
  refine held_take (i := 4) (v := undef) rfl (by kernel_rfl) (fun _ _ _ h => h) (.inr ⟨rfl, rfl⟩) hS ?_
  try simp only [Act.put, List.setIfInBounds_toArray, List.set_cons_zero, List.set_cons_succ]
  refine held_take (i := 5) (v := undef) rfl (by kernel_rfl) (fun _ _ _ h => h) (.inr ⟨rfl, rfl⟩) hS ?_
  try simp only [Act.put, List.setIfInBounds_toArray, List.set_cons_zero, List.set_cons_succ]
  refine held_take (i := 6) (v := undef) rfl (by kernel_rfl) (fun _ _ _ h => h) (.inr ⟨rfl, rfl⟩) hS ?_
  try simp only [Act.put, List.setIfInBounds_toArray, List.set_cons_zero, List.set_cons_succ]
  refine held_take (i := 7) (v := undef) rfl (by kernel_rfl) (fun _ _ _ h => h) (.inr ⟨rfl, rfl⟩) hS ?_
  try simp only [Act.put, List.setIfInBounds_toArray, List.set_cons_zero, List.set_cons_succ]
  refine held_take (i := 8) (v := undef) rfl (by kernel_rfl) (fun _ _ _ h => h) (.inr ⟨rfl, rfl⟩) hS ?_
  try simp only [Act.put, List.setIfInBounds_toArray, List.set_cons_zero, List.set_cons_succ]
  refine held_take (i := 9) (v := undef) rfl (by kernel_rfl) (fun _ _ _ h => h) (.inr ⟨rfl, rfl⟩) hS ?_
  try simp only [Act.put, List.setIfInBounds_toArray, List.set_cons_zero, List.set_cons_succ]
  refine held_take (i := 10) (v := undef) rfl (by kernel_rfl) (fun _ _ _ h => h) (.inr ⟨rfl, rfl⟩) hS ?_
  try simp only [Act.put, List.setIfInBounds_toArray, List.set_cons_zero, List.set_cons_succ]
  refine held_take (i := 11) (v := undef) rfl (by kernel_rfl) (fun _ _ _ h => h) (.inr ⟨rfl, rfl⟩) hS ?_
  try simp only [Act.put, List.setIfInBounds_toArray, List.set_cons_zero, List.set_cons_succ]
  refine held_take (i := 12) (v := undef) rfl (by kernel_rfl) (fun _ _ _ h => h) (.inr ⟨rfl, rfl⟩) hS ?_
  try simp only [Act.put, List.setIfInBounds_toArray, List.set_cons_zero, List.set_cons_succ]
  refine held_take (i := 13) (v := .bool false) rfl (by kernel_rfl) (fun _ _ _ h => h) (.inl ⟨rfl, fun w hS => ?_⟩) hS ?_
  · go_simp
  try simp only [Act.put, List.setIfInBounds_toArray, List.set_cons_zero, List.set_cons_succ]
  refine wpAnyH_done (by kernel_rfl) ?_ _
  refine NoPanic.normal ?_
  exact hQ.out _ _ _ _ _ _ _ _ _ _ _ _ _ _ hS
set_option maxHeartbeats 4000000 in
set_option maxRecDepth 60000 in
theorem en_5 (t1 t2 t6 t7 t8 t9 t10 t11 t12 t13 t14 t15 t16 t17 t18 t19 t20 t21 t22 t23 t24 t25 t26 t27 t28 t29 t30 t31 t32 t33 t34 t35 t36 t37 t38 t39 t40 t41 t42 t43 t44 t45 t46 t47 t48 t49 t50 t51 t52 t53 t54 t55 t56 t57 t58 : Value) (p eb rb g k N dc : Nat) (d : Dn) (v0 v1 v2 : Value) (ep cl id ok ot ov of ou om : Int) (os : ByteArray) (w1 : World) (Q : Exit → Act → World → Prop)
    (h0 : w1.cell? ⟨p, 1, none⟩ = some (.slice (some ⟨g, 0, none⟩) N dc)) (hbx : Bx10 w1 eb 31 (.int .i64 ep) (.int .i64 cl) (.int .i64 id) (.int .i64 ok) (.string os) (.int .i64 ot) (.int .i64 ov) (.int .i64 of) (.int .i64 ou) (.int .i64 om)) (hd : DnCells w1 g (k * 5) d) (hrb : Bx3 w1 rb 37 v0 v1 v2) (hk0 : (0 : Int) ≤ (k : Int)) (hkN : (k : Int) < (N : Int))
    (hQ : Hid (∀ (u36 u37 u38 u39 u40 u41 u42 u43 u44 u45 : Value) (w2 wC : World), Below w1.heap.size w1 w2 → Bx3 w2 rb 37 v0 v1 v2 → wC = put3 w2 rb (.int .i64 (againA d id).cd) (.bool (againA d id).hs) (.int .i64 (againA d id).nn) → Q .normal ⟨#[.pointer (some ⟨p, 0, none⟩), t1, t2, .pointer (some ⟨eb, 0, none⟩), .pointer (some ⟨rb, 0, none⟩), .int .i64 (k : Int), t6, t7, t8, t9, t10, t11, t12, t13, t14, t15, t16, t17, t18, t19, t20, t21, t22, t23, t24, t25, t26, t27, t28, t29, t30, t31, t32, t33, t34, t35, u36, u37, u38, u39, u40, u41, u42, u43, u44, u45, t46, t47, t48, t49, t50, t51, t52, t53, t54, t55, t56, t57, t58], []⟩ wC)) :
    Code.wp Tryz.prog ((Tryz.f27.body.bind (regionOf 5)).getD .skip) Q ⟨#[.pointer (some ⟨p, 0, none⟩), t1, t2, .pointer (some ⟨eb, 0, none⟩), .pointer (some ⟨rb, 0, none⟩), .int .i64 (k : Int), t6, t7, t8, t9, t10, t11, t12, t13, t14, t15, t16, t17, t18, t19, t20, t21, t22, t23, t24, t25, t26, t27, t28, t29, t30, t31, t32, t33, t34, t35, t36, t37, t38, t39, t40, t41, t42, t43, t44, t45, t46, t47, t48, t49, t50, t51, t52, t53, t54, t55, t56, t57, t58], []⟩ w1 := by
  have hS : (fun w' => w'.cell? ⟨p, 1, none⟩ = some (.slice (some ⟨g, 0, none⟩) N dc) ∧ Bx10 w' eb 31 (.int .i64 ep) (.int .i64 cl) (.int .i64 id) (.int .i64 ok) (.string os) (.int .i64 ot) (.int .i64 ov) (.int .i64 of) (.int .i64 ou) (.int .i64 om) ∧ DnCells w' g (k * 5) d) w1.drew := ⟨h0, hbx, hd⟩
  conv => arg 2; whnf
  refine wp_region_but (S := fun w' => w'.cell? ⟨p, 1, none⟩ = some (.slice (some ⟨g, 0, none⟩) N dc) ∧ Bx10 w' eb 31 (.int .i64 ep) (.int .i64 cl) (.int .i64 id) (.int .i64 ok) (.string os) (.int .i64 ot) (.int .i64 ov) (.int .i64 of) (.int .i64 ou) (.int .i64 om) ∧ DnCells w' g (k * 5) d) (n := 10) mixed9 ?_
  refine but_take (i := 0) (v := .pointer (some ⟨p, 0, none⟩)) rfl (by kernel_rfl) (fun _ _ _ h => h) (.inl ⟨rfl, fun w hS => ?_⟩) hS ?_
  · obtain ⟨q0, q1, q2⟩ := hS
    go_simp
  try simp only [Act.put, List.setIfInBounds_toArray, List.set_cons_zero, List.set_cons_succ]
  refine but_take (i := 1) (v := .pointer (some ⟨p, 0, none⟩)) rfl (by kernel_rfl) (fun _ _ _ h => h) (.inl ⟨rfl, fun w hS => ?_⟩) hS ?_
  · obtain ⟨q0, q1, q2⟩ := hS
    go_simp
  try simp only [Act.put, List.setIfInBounds_toArray, List.set_cons_zero, List.set_cons_succ]
  refine but_take (i := 2) (v := .pointer (some ⟨p, 1, none⟩)) rfl (by kernel_rfl) (fun _ _ _ h => h) (.inl ⟨rfl, fun w hS => ?_⟩) hS ?_
  · obtain ⟨q0, q1, q2⟩ := hS
    go_simp
  try simp only [Act.put, List.setIfInBounds_toArray, List.set_cons_zero, List.set_cons_succ]
  refine but_take (i := 3) (v := .slice (some ⟨g, 0, none⟩) N dc) rfl (by kernel_rfl) (fun _ _ _ h => h) (.inl ⟨rfl, fun w hS => ?_⟩) hS ?_
  · obtain ⟨q0, q1, q2⟩ := hS
    go_simp
  try simp only [Act.put, List.setIfInBounds_toArray, List.set_cons_zero, List.set_cons_succ]
  refine but_take (i := 4) (v := .int .i64 (k : Int)) rfl (by kernel_rfl) (fun _ _ _ h => h) (.inl ⟨rfl, fun w hS => ?_⟩) hS ?_
  · obtain ⟨q0, q1, q2⟩ := hS
    go_simp
  try simp only [Act.put, List.setIfInBounds_toArray, List.set_cons_zero, List.set_cons_succ]
  refine but_take (i := 5) (v := .pointer (some ⟨g, k * 5, none⟩)) rfl (by kernel_rfl) (fun _ _ _ h => h) (.inl ⟨rfl, fun w hS => ?_⟩) hS ?_
  · obtain ⟨q0, q1, q2⟩ := hS
    go_simp
  try simp only [Act.put, List.setIfInBounds_toArray, List.set_cons_zero, List.set_cons_succ]
  refine but_take (i := 6) (v := .agg #[.int .i64 d.cl, .int .i64 d.id, .int .i64 d.an.cd, .bool d.an.hs, .int .i64 d.an.nn]) rfl (by kernel_rfl) (fun _ _ _ h => h) (.inl ⟨rfl, fun w hS => ?_⟩) hS ?_
  · obtain ⟨q0, q1, q2⟩ := hS
    obtain ⟨z0, z1, z2, z3, z4⟩ := q2
    go_simp
  try simp only [Act.put, List.setIfInBounds_toArray, List.set_cons_zero, List.set_cons_succ]
  refine but_take (i := 7) (v := .pointer (some ⟨eb, 2, none⟩)) rfl (by kernel_rfl) (fun _ _ _ h => h) (.inl ⟨rfl, fun w hS => ?_⟩) hS ?_
  · obtain ⟨q0, q1, q2⟩ := hS
    go_simp
  try simp only [Act.put, List.setIfInBounds_toArray, List.set_cons_zero, List.set_cons_succ]
  refine but_take (i := 8) (v := .int .i64 id) rfl (by kernel_rfl) (fun _ _ _ h => h) (.inl ⟨rfl, fun w hS => ?_⟩) hS ?_
  · obtain ⟨q0, q1, q2⟩ := hS
    obtain ⟨-, -, c2, -, -, -, -, -, -, -⟩ := q1.cells
    go_simp
  try simp only [Act.put, List.setIfInBounds_toArray, List.set_cons_zero, List.set_cons_succ]
  refine but_one (i := 9) (by kernel_rfl) rfl rfl ?_
  intro K hK
  go_simp
  go_at_call 47
  refine (toldAgain_any d id _).mono ?_
  rintro e w2 ⟨rfl, hb2⟩
  have hN : (fun w' => w'.cell? ⟨p, 1, none⟩ = some (.slice (some ⟨g, 0, none⟩) N dc) ∧ Bx10 w' eb 31 (.int .i64 ep) (.int .i64 cl) (.int .i64 id) (.int .i64 ok) (.string os) (.int .i64 ot) (.int .i64 ov) (.int .i64 of) (.int .i64 ou) (.int .i64 om) ∧ DnCells w' g (k * 5) d) w2 := ⟨kept3 hS.1 hb2, hS.2.1.below hb2, hS.2.2.below hb2⟩
  refine hK.out _ _ (fun _ => hN) ?_
  have hS9 := hN
  clear hK hS
  have hS := hS9
  clear hS9
  try simp only [Act.put, List.setIfInBounds_toArray, List.set_cons_zero, List.set_cons_succ]
  refine but_one (i := 10) (by kernel_rfl) rfl rfl ?_
  intro K hK
  have hr2 : Bx3 w2 rb 37 v0 v1 v2 := (show Bx3 w1.drew rb 37 v0 v1 v2 from hrb).below hb2
  obtain ⟨c0, c1, c2⟩ := hr2.cells
  obtain ⟨f0, f1, f2⟩ := hr2.frz
  unfold anV
  go_simp
  show K _ (put3 w2 rb (.int .i64 (againA d id).cd) (.bool (againA d id).hs) (.int .i64 (againA d id).nn))
  refine hK.out _ _ (fun h => absurd rfl h) ?_
  clear hK
  try simp only [Act.put, List.setIfInBounds_toArray, List.set_cons_zero, List.set_cons_succ]
  refine AnyBut.done (by kernel_rfl) ?_ _
  refine NoPanic.normal ?_
  exact hQ.out _ _ _ _ _ _ _ _ _ _ w2 _ (below2 (below_drew w1) hb2) hr2 rfl

end Go.Proofs.YtihohcmocejijaaGreat.Bk
