/-
  A shelf of one's own, step by step.
  The contract of Parse, walked.
-/
import Derived.Test.YtihohcmocejijaaGreatPr16
import Derived.Test.YtihohcmocejijaaGreatPr05
namespace Go.Proofs.YtihohcmocejijaaGreat.Bk
open Go.ChangeShapes Go.WideShapes Go.ChangeAt Go.RowKit
theorem own_noS {w : World} {B s n : Nat} {E : TypeId} {v : Value} {xs : List Value} (h : w.ownsRow B E s v n xs) (hE : E ≠ 27) {g : Nat} (hg : v.ownBlock = some g) : ∀ cs fz, w.heap[g]? ≠ some (.cells cs 27 fz) := fun cs fz e => by
  obtain ⟨c, fz', hh⟩ := Lib.ownsRow_kind h g hg
  rw [hh] at e
  injection e with e
  injection e with _ e2
  exact absurd e2 hE
theorem KS.of_grown {w w' : World} {B s n : Nat} {E : TypeId} {v : Value} {xs : List Value} (h : w.ownsRow B E s v n xs) (hE : E ≠ 27) (hg : w.grownBy w' v.ownBlock) : KS w w' := fun k cs fz hk => (hg.block k (Array.getElem?_eq_some_iff.1 hk).1 (fun e => own_noS h hE e.symm cs fz hk)).trans hk
theorem KpS.of_grown {p : Nat} {w w' : World} {B s n : Nat} {E : TypeId} {v : Value} {xs : List Value} (h : w.ownsRow B E s v n xs) (hE : E = 55 ∨ E = 51) (hg : w.grownBy w' v.ownBlock) : KpS p w w' := fun k _ hk _ h1 h2 => (hg.block k (Array.getElem?_eq_some_iff.1 hk).1 (fun e => by
  obtain ⟨c, fz, hh⟩ := Lib.ownsRow_kind h k e.symm
  rw [hk] at hh
  injection hh with hh
  rcases hE with rfl | rfl
  · exact h1 c fz hh
  · exact h2 c fz hh)).trans hk
theorem KpS.set_box (p j : Nat) (w : World) (u : Value) : KpS p w (w.setCell ⟨p, j, none⟩ u) := fun k _ hk hp _ _ => (set_heap w p j u k hp).trans hk
theorem KpS.set_row {p g j : Nat} {w : World} {cs : Array Value} {fz : Nat × Nat} {E : TypeId} (hg : w.heap[g]? = some (.cells cs E fz)) (hE : E = 55 ∨ E = 51) (u : Value) : KpS p w (w.setCell ⟨g, j, none⟩ u) := fun k o hk _ h1 h2 => (set_heap w g j u k (fun e => by
  rw [e, hg] at hk
  injection hk with hk
  rcases hE with rfl | rfl
  · exact h1 cs fz hk.symm
  · exact h2 cs fz hk.symm)).trans hk
theorem below_of_grown {B s n : Nat} {w w' : World} {E : TypeId} {v : Value} {xs : List Value} (hB : B ≤ w.heap.size) (h : w.ownsRow B E s v n xs) (hg : w.grownBy w' v.ownBlock) : Below B w w' :=
  ⟨hg.os, hg.tape, hg.output, hg.size, fun k hk => hg.block k (by omega) (fun e => by have := (h.lt k e.symm).1; omega)⟩
def LvR (B : Nat) (la : Option Addr) (lc : Nat) (X : List LX) (da : Option Addr) (dc : Nat) (ds : List Dn) (w : World) : Prop :=
  w.ownsRow B 55 2 (.slice la X.length lc) X.length (cellsX X) ∧ RowsX w X ∧ w.ownsRow B 51 5 (.slice da ds.length dc) ds.length (cellsD ds)
theorem own_box {w : World} {B s n p j : Nat} {E : TypeId} {v : Value} {xs : List Value} {cs : Array Value} {fz : Nat × Nat} {T : TypeId} (h : w.ownsRow B E s v n xs) (hp : w.heap[p]? = some (.cells cs T fz)) (hE : E ≠ T) (u : Value) : (w.setCell ⟨p, j, none⟩ u).ownsRow B E s v n xs := by
  refine ownsRow_setCell_other h (fun e => ?_) u
  obtain ⟨c, fz', hh⟩ := Lib.ownsRow_kind h p e
  rw [hp] at hh
  injection hh with hh
  injection hh with _ e2
  exact hE e2.symm
theorem KS.set {w : World} {p j : Nat} {cs : Array Value} {fz : Nat × Nat} {T : TypeId} (hp : w.heap[p]? = some (.cells cs T fz)) (hT : T ≠ 27) (u : Value) : KS w (w.setCell ⟨p, j, none⟩ u) := fun k c f hk => (set_heap w p j u k (fun e => by
  rw [e, hp] at hk
  injection hk with hk
  injection hk with _ e2
  exact hT e2)).trans hk
section
variable {B p : Nat} {la : Option Addr} {lc : Nat} {X : List LX} {da : Option Addr} {dc : Nat} {ds : List Dn} {fl : Int} {w : World}
theorem LvA.rows (h : LvA B p la lc X da dc ds fl w) : LvR B la lc X da dc ds w := h.2.2
theorem LvA.box (h : LvA B p la lc X da dc ds fl w) : Bx3 w p 25 (.slice la X.length lc) (.slice da ds.length dc) (.int .i64 fl) := h.1
theorem LvR.set_box {j : Nat} {cs : Array Value} (h : LvR B la lc X da dc ds w) (hp : w.heap[p]? = some (.cells cs 25 (0, 0))) (u : Value) : LvR B la lc X da dc ds (w.setCell ⟨p, j, none⟩ u) :=
  ⟨own_box h.1 hp (by decide) u, h.2.1.ks (KS.set hp (by decide) u), own_box h.2.2 hp (by decide) u⟩
theorem LvA.floor (h : LvA B p la lc X da dc ds fl w) (f : Int) : LvA B p la lc X da dc ds f (w.setCell ⟨p, 2, none⟩ (.int .i64 f)) :=
  ⟨heap_setCell_same w p 2 _ _ (.int .i64 f) h.1, h.2.1, h.rows.set_box h.1 _⟩
theorem LvR.lines {la0 : Option Addr} {n0 lc0 : Nat} (h : LvR B la lc X da dc ds w) (hp : Bx3 w p 25 (.slice la0 n0 lc0) (.slice da ds.length dc) (.int .i64 fl)) (hB : B ≤ p) : LvA B p la lc X da dc ds fl (w.setCell ⟨p, 0, none⟩ (.slice la X.length lc)) :=
  ⟨heap_setCell_same w p 0 _ _ (.slice la X.length lc) hp, hB, h.set_box hp _⟩
theorem LvR.dones {da0 : Option Addr} {n0 dc0 : Nat} (h : LvR B la lc X da dc ds w) (hp : Bx3 w p 25 (.slice la X.length lc) (.slice da0 n0 dc0) (.int .i64 fl)) (hB : B ≤ p) : LvA B p la lc X da dc ds fl (w.setCell ⟨p, 1, none⟩ (.slice da ds.length dc)) :=
  ⟨heap_setCell_same w p 1 _ _ (.slice da ds.length dc) hp, hB, h.set_box hp _⟩
theorem apart_ty {w : World} {B s n B' s' n' : Nat} {E E' : TypeId} {v v' : Value} {xs xs' : List Value} (h : w.ownsRow B E s v n xs) (h' : w.ownsRow B' E' s' v' n' xs') (hE : E ≠ E') : v.ownBlock = none ∨ v.ownBlock ≠ v'.ownBlock := by
  cases hb : v.ownBlock with
  | none => exact .inl rfl
  | some k =>
    refine .inr fun e => ?_
    obtain ⟨c, fz, hh⟩ := Lib.ownsRow_kind h k hb
    obtain ⟨c', fz', hh'⟩ := Lib.ownsRow_kind h' k e.symm
    rw [hh] at hh'
    injection hh' with hh'
    injection hh' with _ e2
    exact hE e2
theorem LvR.of_lines {w' : World} {la' : Option Addr} {lc' : Nat} {X' : List LX} (h : LvR B la lc X da dc ds w) (hg : w.grownBy w' (Value.slice la X.length lc).ownBlock) (hO : w'.ownsRow B 55 2 (.slice la' X'.length lc') X'.length (cellsX X')) (hx : RowsX w X') : LvR B la' lc' X' da dc ds w' :=
  ⟨hO, hx.ks (KS.of_grown h.1 (by decide) hg), h.2.2.kept hg (apart_ty h.2.2 h.1 (by decide))⟩
theorem LvR.of_dones {w' : World} {da' : Option Addr} {dc' : Nat} {ds' : List Dn} (h : LvR B la lc X da dc ds w) (hg : w.grownBy w' (Value.slice da ds.length dc).ownBlock) (hO : w'.ownsRow B 51 5 (.slice da' ds'.length dc') ds'.length (cellsD ds')) : LvR B la lc X da' dc' ds' w' :=
  ⟨h.1.kept hg (apart_ty h.1 h.2.2 (by decide)), h.2.1.ks (KS.of_grown h.2.2 (by decide) hg), hO⟩
theorem cellsX_set1 (X : List LX) (i : Nat) (u : Value) (L : List Sm) (h : i < X.length) : (cellsX X).set (i * 2 + 1) u = cellsX (X.set i ((X.getD i lx0).1, u, L)) := by
  induction X generalizing i with
  | nil => simp at h
  | cons a l ih =>
    cases i with
    | zero => simp [cellsX]
    | succ i =>
      have e := ih i (by simpa using h)
      rw [show (i + 1) * 2 + 1 = (i * 2 + 1) + 1 + 1 from by omega]
      simp only [cellsX, List.flatMap_cons, List.set_cons_succ, List.cons_append, List.nil_append, List.getD_cons_succ] at e ⊢
      rw [e]
theorem rowsX_set {X : List LX} {i : Nat} {x : LX} (h : RowsX w X) (hx : RowX w x) : RowsX w (X.set i x) := fun y hy => by
  rcases List.mem_or_eq_of_mem_set hy with h1 | rfl
  · exact h y h1
  · exact hx
theorem LvA.samples {g i : Nat} {a' : Option Addr} {n' c' : Nat} {L' : List Sm} (h : LvA B p (some ⟨g, 0, none⟩) lc X da dc ds fl w) (hi : i < X.length) (hs : SmsAt w a' n' c' L') (ht : TyS w a') : LvA B p (some ⟨g, 0, none⟩) lc (X.set i ((X.getD i lx0).1, .slice a' n' c', L')) da dc ds fl (w.setCell ⟨g, i * 2 + 1, none⟩ (.slice a' n' c')) := by
  obtain ⟨c, fz, hh⟩ := Lib.ownsRow_kind h.2.2.1 g rfl
  have hgp : p ≠ g := fun e => h.neL (by rw [e]; rfl)
  have hK := KS.set (j := i * 2 + 1) hh (by decide) (.slice a' n' c')
  refine ⟨?_, h.2.1, ?_, ?_, own_box h.2.2.2.2 hh (by decide) _⟩
  · rw [List.length_set]
    exact (set_heap w g _ _ p hgp).trans h.1
  · rw [List.length_set, ← cellsX_set1 X i _ L' hi]
    exact (h.2.2.1.stored (i * 2 + 1) (.slice a' n' c')).1
  · exact (rowsX_set (x := ((X.getD i lx0).1, .slice a' n' c', L')) h.2.2.2.1 ⟨a', n', c', rfl, hs, ht⟩).ks hK
theorem lnsX_set {X : List LX} {i : Nat} {u : Value} {L : List Sm} : lnsX (X.set i ((X.getD i lx0).1, u, L)) = (lnsX X).set i ((X.getD i lx0).1, L) := by simp [lnsX, List.map_set]
theorem cellsD_set (D : List Dn) (i : Nat) (d : Dn) (h : i < D.length) : (((((cellsD D).set (i * 5) (.int .i64 d.cl)).set (i * 5 + 1) (.int .i64 d.id)).set (i * 5 + 2) (.int .i64 d.an.cd)).set (i * 5 + 3) (.bool d.an.hs)).set (i * 5 + 4) (.int .i64 d.an.nn) = cellsD (D.set i d) := by
  induction D generalizing i with
  | nil => simp at h
  | cons a l ih =>
    cases i with
    | zero => simp [cellsD, dnL]
    | succ i =>
      have e := ih i (by simpa using h)
      rw [show (i + 1) * 5 = i * 5 + 1 + 1 + 1 + 1 + 1 from by omega, show i * 5 + 1 + 1 + 1 + 1 + 1 + 1 = (i * 5 + 1) + 1 + 1 + 1 + 1 + 1 from by omega, show i * 5 + 1 + 1 + 1 + 1 + 1 + 2 = (i * 5 + 2) + 1 + 1 + 1 + 1 + 1 from by omega, show i * 5 + 1 + 1 + 1 + 1 + 1 + 3 = (i * 5 + 3) + 1 + 1 + 1 + 1 + 1 from by omega, show i * 5 + 1 + 1 + 1 + 1 + 1 + 4 = (i * 5 + 4) + 1 + 1 + 1 + 1 + 1 from by omega]
      simp only [cellsD, dnL, List.flatMap_cons, List.set_cons_succ, List.cons_append, List.nil_append] at e ⊢
      rw [e]
def setD5 (w : World) (g o : Nat) (d : Dn) : World := ((((w.setCell ⟨g, o, none⟩ (.int .i64 d.cl)).setCell ⟨g, o + 1, none⟩ (.int .i64 d.id)).setCell ⟨g, o + 2, none⟩ (.int .i64 d.an.cd)).setCell ⟨g, o + 3, none⟩ (.bool d.an.hs)).setCell ⟨g, o + 4, none⟩ (.int .i64 d.an.nn)
theorem setD5_heap (w : World) (g o : Nat) (d : Dn) (k : Nat) (hk : k ≠ g) : (setD5 w g o d).heap[k]? = w.heap[k]? := by
  unfold setD5
  rw [set_heap _ _ _ _ _ hk, set_heap _ _ _ _ _ hk, set_heap _ _ _ _ _ hk, set_heap _ _ _ _ _ hk, set_heap _ _ _ _ _ hk]
theorem LvA.putD {g i : Nat} (h : LvA B p la lc X (some ⟨g, 0, none⟩) dc ds fl w) (hi : i < ds.length) (d : Dn) : LvA B p la lc X (some ⟨g, 0, none⟩) dc (ds.set i d) fl (setD5 w g (i * 5) d) := by
  obtain ⟨c, fz, hh⟩ := Lib.ownsRow_kind h.2.2.2.2 g rfl
  have hgp : p ≠ g := fun e => h.neD (by rw [e]; rfl)
  have hgl : (Value.slice la X.length lc).ownBlock ≠ some g := fun e => by
    rcases h.apart with h1 | h1
    · rw [h1] at e; cases e
    · exact h1 e
  have hK : KS w (setD5 w g (i * 5) d) := fun k cs fz' hk => (setD5_heap w g _ d k (fun e => by
    rw [e, hh] at hk
    injection hk with hk
    injection hk with _ e2
    exact absurd e2 (by decide))).trans hk
  refine ⟨?_, h.2.1, ?_, h.2.2.2.1.ks hK, ?_⟩
  · rw [List.length_set]
    exact (setD5_heap w g _ d p hgp).trans h.1
  · unfold setD5
    exact ownsRow_setCell_other (ownsRow_setCell_other (ownsRow_setCell_other (ownsRow_setCell_other (ownsRow_setCell_other h.2.2.1 hgl _) hgl _) hgl _) hgl _) hgl _
  · rw [List.length_set, ← cellsD_set ds i d hi]
    exact (((((h.2.2.2.2.stored (i * 5) (.int .i64 d.cl)).1.stored (i * 5 + 1) (.int .i64 d.id)).1.stored (i * 5 + 2) (.int .i64 d.an.cd)).1.stored (i * 5 + 3) (.bool d.an.hs)).1.stored (i * 5 + 4) (.int .i64 d.an.nn)).1
theorem LvA.putD_kp {g i : Nat} (h : LvA B p la lc X (some ⟨g, 0, none⟩) dc ds fl w) (d : Dn) : KpS p w (setD5 w g (i * 5) d) ∧ Below B w (setD5 w g (i * 5) d) := by
  obtain ⟨c, fz, hh⟩ := Lib.ownsRow_kind h.2.2.2.2 g rfl
  have hB : B ≤ g := (h.2.2.2.2.lt g rfl).1
  refine ⟨fun k o hk _ h1 h2 => (setD5_heap w g _ d k (fun e => by
    rw [e, hh] at hk
    injection hk with hk
    exact h2 c fz hk.symm)).trans hk, ?_⟩
  unfold setD5
  exact (((((Below.refl B w).setCell (p := ⟨g, i * 5, none⟩) hB _).setCell (p := ⟨g, i * 5 + 1, none⟩) hB _).setCell (p := ⟨g, i * 5 + 2, none⟩) hB _).setCell (p := ⟨g, i * 5 + 3, none⟩) hB _).setCell (p := ⟨g, i * 5 + 4, none⟩) hB _
end
def TnPost (B p : Nat) (r : Shf × An) (w : World) (e : Ending) (w' : World) : Prop := e = .returned (anV r.2) ∧ LvS B p r.1 w' ∧ Below B w w' ∧ KpS p w w'
end Go.Proofs.YtihohcmocejijaaGreat.Bk
namespace Go.Proofs.YtihohcmocejijaaGreat.Lb
open Go.ChangeShapes Go.WideShapes Go.ChangeAt Go.RowKit
theorem parse_no {w w' : World} {s : ByteArray} (hb : Below w.heap.size w w') (h : ∀ nm ls, ¬ ParsesTo s nm ls) : ParsePost w s (.returned (.tuple #[noSer, .int .i64 2])) w' := ⟨hb, .inr ⟨rfl, h⟩⟩
theorem rd_sorted {B R : Nat} {p : Nat} {wd : List UInt8} {ln sn : ByteArray} {ls ls' : List Lab} {w w' : World} {lv : Value} (h : RdAt B R (p, wd, ln, sn, ls) w) (h5 : w.cell? ⟨R, 5, none⟩ = some lv) (hg : w.grownBy w' lv.ownBlock) (hl : ls'.length = ls.length) (hown : w'.ownsRow B 112 2 lv ls.length (cellsLb ls')) :
    RdAt B R (p, wd, ln, sn, ls') w' ∧ Below B w w' ∧ Kp R w w' := by
  obtain ⟨cs, hb, c0, c3, c4, lv', c5, hownL⟩ := h
  have hh := hb.2.2.2.1
  have hlv : lv' = lv := by
    rw [Lib.cell_of_heap hh, c5] at h5
    exact Option.some.inj h5
  subst hlv
  obtain ⟨hP, hB, hBw, _, hp, v, hv, hownF, hnv, hnil⟩ := hb
  have hRlt : R < w.heap.size := (Array.getElem?_eq_some_iff.1 hh).1
  have hkind := own_kind hownL
  have hRne : some R ≠ lv'.ownBlock := fun e => by
    obtain ⟨c, hc⟩ := hkind R e.symm
    rw [hh] at hc
    cases hc
  have hsg := hg.size
  have hF3 : w'.ownsRowF B 5 1 v wd.length (Lib.byteCells wd) := by
    by_cases hn : v.ownBlock = none
    · exact Go.World.ownsRowF.kept hownF hg (.inl hn)
    · refine Go.World.ownsRowF.kept hownF hg (.inr fun e => ?_)
      cases hvb : v.ownBlock with
      | none => exact hn hvb
      | some g =>
        obtain ⟨c, fz, hc⟩ := Lib.ownsRowF_kind hownF g hvb
        obtain ⟨c', hc'⟩ := hkind g (by rw [← e, hvb])
        rw [hc] at hc'
        cases hc'
  refine ⟨⟨cs, ⟨hP, hB, by omega, (hg.block R hRlt hRne).trans hh, hp, v, hv, hF3, hnv, hnil⟩, c0, c3, c4, lv', c5, by show w'.ownsRow B 112 2 lv' ls'.length (cellsLb ls'); rw [hl]; exact hown⟩, ?_, ?_⟩
  · exact (Below.refl B w).grown hg hBw (fun k hk => (hownL.lt k hk).1)
  · intro k o hk hr h5' h46
    have hlt : k < w.heap.size := (Array.getElem?_eq_some_iff.1 hk).1
    rw [hg.block k hlt (fun e => by
      obtain ⟨c, hc⟩ := hkind k e.symm
      rw [hk] at hc
      exact h46 _ _ (Option.some.inj hc))]
    exact hk
theorem own_form {w : World} {B : Nat} {v : Value} {n : Nat} {xs : List Value} (h : w.ownsRow B 112 2 v n xs) : ∃ a cap, v = .slice a n cap := by
  rcases h.2 with ⟨rfl, h0⟩ | ⟨g, cap, cur, rfl, _⟩
  · exact ⟨none, 0, by rw [h0]⟩
  · exact ⟨_, _, rfl⟩
theorem rd_place {B R : Nat} {p : Nat} {wd : List UInt8} {r : ByteArray × ByteArray × List Lab} {w : World} (h : RdAt B R (p, wd, r) w) (q : Nat) : RPost B R (q, wd, r) w (w.setCell ⟨R, 0, none⟩ (.int .i64 ((q : Nat) : Int))) := by
  obtain ⟨cs, hb, c0, c3, c4, lv, c5, hown⟩ := h
  have hh := hb.2.2.2.1
  have hsz : cs.size = 6 := by rcases hb.1 with ⟨h, _⟩ | ⟨_, h, _⟩
                               · cases h
                               · exact h
  exact ⟨⟨_, hb.other 0 _ (by decide) (by decide), by rw [Array.getElem?_setIfInBounds, if_pos rfl, if_pos (by omega)], by simpa using c3, by simpa using c4, lv, by simpa using c5, own_set hh hown _ _⟩, (Below.refl B w).setCell (p := ⟨R, 0, none⟩) hb.2.1 _, Kp.setCell _ _ _ _⟩
theorem ser_set {w : World} {v : Value} {nm : ByteArray} {ls : List Lab} {a : Option Addr} {len cap : Nat} (h : SerAt w v nm ls) (hv : v = .agg #[.string nm, .slice a len cap]) {b : Nat} (hne : ∀ x, a = some x → x.block ≠ b) (i j : Nat) (x y : Value) :
    SerAt ((w.setCell ⟨b, i, none⟩ x).setCell ⟨b, j, none⟩ y) v nm ls := by
  obtain ⟨a', len', cap', rfl, h1, h2, h3⟩ := h
  injection hv with hv
  have e2 : Value.slice a' len' cap' = .slice a len cap := by
    have := congrArg (fun z => z[1]?) hv
    simpa using this
  injection e2 with e2 _ _
  subst e2
  refine ⟨a', len', cap', rfl, ⟨h1.1, h1.2.1, h1.2.2.1, ?_⟩, h2, h3⟩
  rcases h1.2.2.2 with h0 | ⟨b', off, e, hc⟩
  · exact .inl h0
  · refine .inr ⟨b', off, e, fun k hk => ?_⟩
    have hb := hne _ e
    obtain ⟨g0, g1⟩ := hc k hk
    constructor
    · rw [World.cell?_setCell_other _ _ _ _ (by intro hh; exact hb (congrArg Addr.block hh).symm), World.cell?_setCell_other _ _ _ _ (by intro hh; exact hb (congrArg Addr.block hh).symm)]; exact g0
    · rw [World.cell?_setCell_other _ _ _ _ (by intro hh; exact hb (congrArg Addr.block hh).symm), World.cell?_setCell_other _ _ _ _ (by intro hh; exact hb (congrArg Addr.block hh).symm)]; exact g1
set_option maxHeartbeats 8000000 in
set_option maxRecDepth 20000 in
theorem parse_any (s : ByteArray) (w : World) :
    Calls Tryz.prog 71 #[.string s] w fun e w' => ParsePost w s e w' := by
  go_enter Tryz.func71, Tryz.ntmps71
  go_wp2
  generalize hw1 : w.alloc (.cells #[.string ⟨#[]⟩, .slice none 0 0] 86) = w1 at *
  have B1 : Below w.heap.size w w1 := by rw [← hw1]; exact below_alloc _ _
  have hc0 : w1.cell? ⟨w.heap.size, 0, none⟩ = some (.string ⟨#[]⟩) := by rw [← hw1]; simp
  have hc1 : w1.cell? ⟨w.heap.size, 1, none⟩ = some (.slice none 0 0) := by rw [← hw1]; simp
  have hf0 : w1.frozen? ⟨w.heap.size, 0, none⟩ = false := by rw [← hw1]; simp
  have hf1 : w1.frozen? ⟨w.heap.size, 1, none⟩ = false := by rw [← hw1]; simp
  have hs1 : w.heap.size < w1.heap.size := by rw [← hw1]; simp
  have hs1' : w1.heap.size = w.heap.size + 1 := by rw [← hw1]; simp
  clear hw1
  generalize hRR : w.heap.size + 1 = R at *
  have RD0 : RdAt R R st0 (w1.alloc (.cells #[.int .i64 0, .pointer none, .slice none 0 0, .string ⟨#[]⟩, .string ⟨#[]⟩, .slice none 0 0] 137)) := by
    refine ⟨_, ⟨.inr ⟨rfl, rfl, rfl⟩, Nat.le_refl _, by simp; omega, by rw [← hs1']; exact heap_alloc_new _ _, .inl rfl, .slice none 0 0, rfl, World.ownsRowF_nil _ _ _ _, by simp [Value.ownBlock], fun _ => rfl⟩, rfl, rfl, rfl, .slice none 0 0, rfl, World.ownsRow_nil _ _ _ _⟩
  have B2 : Below R w1 (w1.alloc (.cells #[.int .i64 0, .pointer none, .slice none 0 0, .string ⟨#[]⟩, .string ⟨#[]⟩, .slice none 0 0] 137)) := (Below.refl _ _).alloc (by omega) _
  have hs2 : (w1.alloc (.cells #[.int .i64 0, .pointer none, .slice none 0 0, .string ⟨#[]⟩, .string ⟨#[]⟩, .slice none 0 0] 137)).heap.size = R + 1 := by simp; omega
  generalize w1.alloc (.cells #[.int .i64 0, .pointer none, .slice none 0 0, .string ⟨#[]⟩, .string ⟨#[]⟩, .slice none 0 0] 137) = w2 at *
  have KB : Hid (∀ wr, Below R w1 wr → (wr.cell? ⟨w.heap.size, 0, none⟩ = some (.string ⟨#[]⟩) ∧ wr.cell? ⟨w.heap.size, 1, none⟩ = some (.slice none 0 0)) ∧ (wr.frozen? ⟨w.heap.size, 0, none⟩ = false ∧ wr.frozen? ⟨w.heap.size, 1, none⟩ = false) ∧ Below w.heap.size w wr) := fun wr hb => by
    have h0 : w.heap.size < R := by omega
    exact ⟨⟨(hb.cell (p := ⟨w.heap.size, 0, none⟩) h0).trans hc0, (hb.cell (p := ⟨w.heap.size, 1, none⟩) h0).trans hc1⟩, ⟨(hb.frozen (p := ⟨w.heap.size, 0, none⟩) h0).trans hf0, (hb.frozen (p := ⟨w.heap.size, 1, none⟩) h0).trans hf1⟩, B1.trans (hb.mono (by omega))⟩
  have hit0 : (w2.iter s 0).heap[R + 1]? = some (.stringIter s 0) := by
    have := World.iter_heap w2 s 0
    rw [hs2] at this
    exact this
  have RD1 : RdAt R R st0 (w2.iter s 0) := RD0.alloc (.stringIter s 0)
  have B3 : Below R w1 (w2.iter s 0) := B2.alloc (by omega) (.stringIter s 0)
  generalize w2.iter s 0 = w3 at *
  clear hc0 hc1 hf0 hf1 RD0 B2
  go_loopw [] (fun wr => ∃ (pos f p : Nat) (wd : List UInt8) (ln sn : ByteArray) (ls : List Lab), wr.heap[R + 1]? = some (.stringIter s pos) ∧ Below R w1 wr ∧ RdAt R R (p, wd, ln, sn, ls) wr ∧ Hid ((p ≤ 6 ∧ ls.length ≤ 4) ∧ ShortSt (p, wd, ln, sn, ls) ∧ runS s f pos (p, wd, ln, sn, ls) = runS s s.size 0 st0 ∧ s.size ≤ pos + f)) (fun wr => s.size - wr.iterPos (R + 1))
  case atStart => exact ⟨0, s.size, 0, [], ⟨#[]⟩, ⟨#[]⟩, [], hit0, B3, RD1, ⟨by decide, by decide⟩, ⟨by simp, by decide, by decide, by simp⟩, rfl, by omega⟩
  case round =>
    obtain ⟨pos, f, p, wd, ln, sn, ls, hit, hbel, hrd, hT⟩ := hrel
    by_cases hp : pos < s.size
    · have hnx : ∀ ty, (Instr.next (.pointer (some ⟨R + 1, 0, none⟩)) true ty).run Tryz.prog wr = _ := fun ty => Lib.run_next_any_at wr (R + 1) s pos ty hit hp
      have hwd := width_pos s pos hp
      have hd1 := decode_le s pos
      have hrd2 := hrd.iterAt hit (pos + (Utf8.decode s pos).2)
      have hit2 := Lib.iterAt_heap wr (R + 1) s pos (pos + (Utf8.decode s pos).2) hit
      have hbel2 := Lib.below_iterAt hbel (k := R + 1) (by omega) s (pos + (Utf8.decode s pos).2)
      have hmp : wr.iterPos (R + 1) = pos := by simp only [World.iterPos, hit]
      have HRUN : Hid (∃ f', f = f' + 1 ∧ runS s f pos (p, wd, ln, sn, ls) = (stepS (p, wd, ln, sn, ls) ((Utf8.decode s pos).1 : Int)).bind (runS s f' (pos + (Utf8.decode s pos).2))) := by
        have := hT.out.2.2.2
        refine ⟨f - 1, by omega, ?_⟩
        obtain ⟨f', rfl⟩ : ∃ f', f = f' + 1 := ⟨f - 1, by omega⟩
        simp [runS, hp]
      generalize wr.iterAt (R + 1) s (pos + (Utf8.decode s pos).2) = wx at *
      generalize (Utf8.decode s pos).2 = wid at *
      generalize (Utf8.decode s pos).1 = rn at *
      clear hrd hbel hit
      go_wp2_with fail
      refine (take_any _ hrd2 hT.out.1.1 hT.out.1.2 (rn : Int) (by omega) (by omega)).mono ?_
      rintro e w4 ⟨hb4, hk4, ⟨ho, rfl⟩ | ⟨st, ho, rfl, hrd4⟩⟩
      · have HNO : Hid (∀ nm ls, ¬ ParsesTo s nm ls) := fun nm ls' ⟨st, hst, _⟩ => by
          obtain ⟨f', _, hr⟩ := HRUN.out
          rw [ho] at hr
          rw [← hT.out.2.2.1, hr] at hst
          cases hst
        obtain ⟨⟨c0, c1⟩, ⟨f0, f1⟩, hbw⟩ := KB.out w4 (hbel2.trans hb4)
        clear hrd2 hk4 HRUN hT ho hb4
        go_wp2
        try simp only [Exit.inBlock, Exit.then]
        refine bodyPost_ret (ret_pair rfl _ _ w.heap.size _ _ rfl (two_set c0 c1 _ _).1 (two_set c0 c1 _ _).2) rfl ?_
        exact parse_no ((hbw.setCell (Nat.le_refl _) _).setCell (Nat.le_refl _) _) HNO.out
      · obtain ⟨p4, wd4, ln4, sn4, ls4⟩ := st
        have hit4 : w4.heap[R + 1]? = some (.stringIter s (pos + wid)) := hk4 _ _ hit2 (by omega) (by intro c fz h; cases h) (by intro c fz h; cases h)
        have HT4 : Hid (∃ f', (p4 ≤ 6 ∧ ls4.length ≤ 4) ∧ ShortSt (p4, wd4, ln4, sn4, ls4) ∧ runS s f' (pos + wid) (p4, wd4, ln4, sn4, ls4) = runS s s.size 0 st0 ∧ s.size ≤ pos + wid + f') := by
          obtain ⟨f', hf', hr⟩ := HRUN.out
          refine ⟨f', stepS_ok hT.out.1.1 hT.out.1.2 ho, stepS_short hT.out.2.1 ho, ?_, ?_⟩
          · rw [← hT.out.2.2.1, hr, ho]; rfl
          · have := hT.out.2.2.2; omega
        have hb04 := hbel2.trans hb4
        clear hrd2 hk4 HRUN hT ho hb4 hit2 hbel2
        go_wp2
        obtain ⟨f', h4⟩ := HT4.out
        refine ⟨⟨pos + wid, f', p4, wd4, ln4, sn4, ls4, hit4, hb04, hrd4, h4⟩, ?_⟩
        rw [hmp]
        simp only [World.iterPos, hit4]
        omega
    · have hnx : ∀ ty, (Instr.next (.pointer (some ⟨R + 1, 0, none⟩)) true ty).run Tryz.prog wr = _ := fun ty => Lib.run_next_end_at wr (R + 1) s pos ty hit hp
      have HR : Hid (runS s s.size 0 st0 = some (p, wd, ln, sn, ls)) := by
        show _ = _
        rw [← hT.out.2.2.1, runS_end _ _ _ _ hp]
      have HSH := hT.out.2.1
      have hl4 := hT.out.1.2
      clear hT hit
      by_cases hp0 : p = 0
      · subst hp0
        have HSH' : ShortSt (6, [], ln, baL wd, ls) := ⟨by simp, HSH.2.1, by rw [baL_size]; exact HSH.1, HSH.2.2.2⟩
        obtain ⟨lv0, ⟨a0, -, -, -⟩, -, -⟩ := hrd.cells
        simp only at a0
        go_wp2_with fail
        refine (endWord_any _ hrd).mono ?_
        rintro e w4 ⟨rfl, hp4, _, _⟩
        obtain ⟨lv1, ⟨k0, k3, k4, -⟩, ⟨g0, g3, g4, -⟩, -⟩ := hp4.1.cells
        simp only at k0 k3 k4
        have hp5 := hp4.trans (RdAt.set4 hp4.1 (baL wd))
        obtain ⟨lv2, ⟨m0, -, -, -⟩, ⟨n0, -, -, -⟩, -⟩ := hp5.1.cells
        simp only at m0
        have hp6 : RPost R R (6, [], ln, baL wd, ls) wr ((w4.setCell ⟨R, 4, none⟩ (.string (baL wd))).setCell ⟨R, 0, none⟩ (.int .i64 6)) := hp5.trans (rd_place hp5.1 6)
        have hb6 := hbel.trans hp6.2.1
        have hrd6 := hp6.1
        obtain ⟨lv, ⟨c0, -, c4, c5⟩, -, hown⟩ := (hrd6).cells
        simp only at c0 c4 c5 hown
        obtain ⟨al, capl, hlv⟩ := own_form hown
        subst hlv
        go_wp2_with fail
        refine (sortLabels_any _ ls _ hown (by omega)).mono ?_
        rintro e w5 ⟨rfl, ⟨ls', hperm, hsort, hown5⟩, hg5⟩
        have hll : ls'.length = ls.length := hperm.length_eq
        obtain ⟨hrd5, hb5, _⟩ := rd_sorted (hrd6) c5 hg5 hll hown5
        obtain ⟨lv5, ⟨d0, -, d4, d5⟩, -, -⟩ := hrd5.cells
        simp only at d0 d4 d5
        have hlv5 : lv5 = .slice al ls.length capl := by
          have hx : w5.cell? ⟨R, 5, none⟩ = ((w4.setCell ⟨R, 4, none⟩ (.string (baL wd))).setCell ⟨R, 0, none⟩ (.int .i64 6)).cell? ⟨R, 5, none⟩ := by
            have hRne : some R ≠ (Value.slice al ls.length capl).ownBlock := fun e => by
              obtain ⟨c, hc⟩ := own_kind hown R e.symm
              rw [(hrd6).choose_spec.1.2.2.2.1] at hc
              cases hc
            exact World.cell?_of_block (hg5.block R ((Array.getElem?_eq_some_iff.1 (hrd6).choose_spec.1.2.2.2.1).1) hRne)
          rw [d5, c5] at hx
          exact Option.some.inj hx
        subst hlv5
        have hb05 := (hb6).trans hb5
        obtain ⟨⟨x0, x1⟩, ⟨y0, y1⟩, hbw5⟩ := KB.out w5 hb05
        have HSER : Hid (SerAt w5 (.agg #[.string (baL wd), .slice al ls.length capl]) (baL wd) ls') := by
          have hown5' : w5.ownsRow R 112 2 (.slice al ls.length capl) ls'.length (cellsLb ls') := by rw [hll]; exact hown5
          obtain ⟨a6, cap6, e6, hL6⟩ := labs_own hown5'
          injection e6 with e1 e2 e3
          subst e1 e3
          exact ⟨al, ls.length, capl, rfl, by rw [hll] at hL6; exact hL6, Nat.le_trans HSH'.2.2.1 (by unfold maxLen; decide), fun x hx => by
            have := HSH'.2.2.2 x (hperm.subset hx)
            exact ⟨Nat.le_trans this.1 (by unfold maxLen; decide), Nat.le_trans this.2 (by unfold maxLen; decide)⟩⟩
        have HLOW : Hid (∀ x, al = some x → R ≤ x.block) := fun x hx => by
          subst hx
          exact (hown5.lt x.block rfl).1
        have HPS : Hid (ls'.Perm ls ∧ SortedL ls') := ⟨hperm, hsort⟩
        have hsz5 : R < w5.heap.size := (Array.getElem?_eq_some_iff.1 hrd5.choose_spec.1.2.2.2.1).1
        clear hperm hsort hown5 hg5 hrd5 hown c0 c4 c5
        have HPT : Hid (∀ nm ls2, ParsesTo s nm ls2 ↔ nm = (baL wd) ∧ ls2.Perm ls ∧ SortedL ls2 ∧ MayS nm ls2) := fun nm ls2 => by
          constructor
          · rintro ⟨st, h1, h2, h3, h4, h5, h6⟩
            rw [HR.out] at h1
            obtain rfl := Option.some.inj h1
            exact ⟨h3, h4, h5, h6⟩
          · rintro ⟨h3, h4, h5, h6⟩
            exact ⟨_, HR.out, rfl, h3, h4, h5, h6⟩
        go_wp2_with fail
        refine (check_any _ (baL wd) ls' _ HSER.out).mono ?_
        rintro e w6 ⟨hb6, ⟨rfl, hM⟩ | ⟨rfl, hM⟩⟩
        · have z4 : w6.cell? ⟨R, 4, none⟩ = some (.string (baL wd)) := (hb6.cell (p := ⟨R, 4, none⟩) hsz5).trans d4
          have z5 : w6.cell? ⟨R, 5, none⟩ = some (.slice al ls.length capl) := (hb6.cell (p := ⟨R, 5, none⟩) hsz5).trans d5
          obtain ⟨⟨q0, q1⟩, ⟨r0, r1⟩, hbw6⟩ := KB.out w6 (hb05.trans (hb6.mono (by omega)))
          have HTO : Hid (ParsesTo s (baL wd) ls') := (HPT.out _ _).2 ⟨rfl, HPS.out.1, HPS.out.2, hM⟩
          have HS6 : Hid (SerAt w6 (.agg #[.string (baL wd), .slice al ls.length capl]) (baL wd) ls') := HSER.out.below hb6
          clear hM HPT HSER
          go_wp2
          try simp only [Exit.inBlock, Exit.then]
          refine bodyPost_ret (ret_pair rfl _ _ w.heap.size _ _ rfl (two_set q0 q1 _ _).1 (two_set q0 q1 _ _).2) rfl ?_
          refine ⟨(hbw6.setCell (Nat.le_refl _) _).setCell (Nat.le_refl _) _, .inl ⟨_, (baL wd), ls', rfl, ?_, HTO.out⟩⟩
          exact ser_set HS6.out rfl (fun x hx => by have := HLOW.out x hx; omega) _ _ _ _
        · have HNO : Hid (∀ nm ls, ¬ ParsesTo s nm ls) := fun nm ls2 hP => by
            obtain ⟨rfl, hp2, hs2, hM2⟩ := (HPT.out _ _).1 hP
            have := uniq (hp2.trans HPS.out.1.symm) (may_pair hM2) HPS.out.2.pair
            subst this
            exact hM hM2
          obtain ⟨⟨q0, q1⟩, ⟨r0, r1⟩, hbw6⟩ := KB.out w6 (hb05.trans (hb6.mono (by omega)))
          clear hM HPT HSER
          go_wp2
          try simp only [Exit.inBlock, Exit.then]
          refine bodyPost_ret (ret_pair rfl _ _ w.heap.size _ _ rfl (two_set q0 q1 _ _).1 (two_set q0 q1 _ _).2) rfl ?_
          exact parse_no ((hbw6.setCell (Nat.le_refl _) _).setCell (Nat.le_refl _) _) HNO.out
      · have HSH' := HSH
        have hp0' : ((p : Int) == 0) = false := by simp; omega
        obtain ⟨lv, ⟨c0, -, c4, c5⟩, -, hown⟩ := (hrd).cells
        simp only at c0 c4 c5 hown
        obtain ⟨al, capl, hlv⟩ := own_form hown
        subst hlv
        go_wp2_with fail
        refine (sortLabels_any _ ls _ hown (by omega)).mono ?_
        rintro e w5 ⟨rfl, ⟨ls', hperm, hsort, hown5⟩, hg5⟩
        have hll : ls'.length = ls.length := hperm.length_eq
        obtain ⟨hrd5, hb5, _⟩ := rd_sorted (hrd) c5 hg5 hll hown5
        obtain ⟨lv5, ⟨d0, -, d4, d5⟩, -, -⟩ := hrd5.cells
        simp only at d0 d4 d5
        have hlv5 : lv5 = .slice al ls.length capl := by
          have hx : w5.cell? ⟨R, 5, none⟩ = wr.cell? ⟨R, 5, none⟩ := by
            have hRne : some R ≠ (Value.slice al ls.length capl).ownBlock := fun e => by
              obtain ⟨c, hc⟩ := own_kind hown R e.symm
              rw [(hrd).choose_spec.1.2.2.2.1] at hc
              cases hc
            exact World.cell?_of_block (hg5.block R ((Array.getElem?_eq_some_iff.1 (hrd).choose_spec.1.2.2.2.1).1) hRne)
          rw [d5, c5] at hx
          exact Option.some.inj hx
        subst hlv5
        have hb05 := (hbel).trans hb5
        obtain ⟨⟨x0, x1⟩, ⟨y0, y1⟩, hbw5⟩ := KB.out w5 hb05
        have HSER : Hid (SerAt w5 (.agg #[.string sn, .slice al ls.length capl]) sn ls') := by
          have hown5' : w5.ownsRow R 112 2 (.slice al ls.length capl) ls'.length (cellsLb ls') := by rw [hll]; exact hown5
          obtain ⟨a6, cap6, e6, hL6⟩ := labs_own hown5'
          injection e6 with e1 e2 e3
          subst e1 e3
          exact ⟨al, ls.length, capl, rfl, by rw [hll] at hL6; exact hL6, Nat.le_trans HSH'.2.2.1 (by unfold maxLen; decide), fun x hx => by
            have := HSH'.2.2.2 x (hperm.subset hx)
            exact ⟨Nat.le_trans this.1 (by unfold maxLen; decide), Nat.le_trans this.2 (by unfold maxLen; decide)⟩⟩
        have HLOW : Hid (∀ x, al = some x → R ≤ x.block) := fun x hx => by
          subst hx
          exact (hown5.lt x.block rfl).1
        have HPS : Hid (ls'.Perm ls ∧ SortedL ls') := ⟨hperm, hsort⟩
        have hsz5 : R < w5.heap.size := (Array.getElem?_eq_some_iff.1 hrd5.choose_spec.1.2.2.2.1).1
        clear hperm hsort hown5 hg5 hrd5 hown c0 c4 c5
        by_cases hp6 : p = 6
        · subst hp6
          have HPT : Hid (∀ nm ls2, ParsesTo s nm ls2 ↔ nm = sn ∧ ls2.Perm ls ∧ SortedL ls2 ∧ MayS nm ls2) := fun nm ls2 => by
            constructor
            · rintro ⟨st, h1, h2, h3, h4, h5, h6⟩
              rw [HR.out] at h1
              obtain rfl := Option.some.inj h1
              exact ⟨h3, h4, h5, h6⟩
            · rintro ⟨h3, h4, h5, h6⟩
              exact ⟨_, HR.out, rfl, h3, h4, h5, h6⟩
          go_wp2_with fail
          refine (check_any _ sn ls' _ HSER.out).mono ?_
          rintro e w6 ⟨hb6, ⟨rfl, hM⟩ | ⟨rfl, hM⟩⟩
          · have z4 : w6.cell? ⟨R, 4, none⟩ = some (.string sn) := (hb6.cell (p := ⟨R, 4, none⟩) hsz5).trans d4
            have z5 : w6.cell? ⟨R, 5, none⟩ = some (.slice al ls.length capl) := (hb6.cell (p := ⟨R, 5, none⟩) hsz5).trans d5
            obtain ⟨⟨q0, q1⟩, ⟨r0, r1⟩, hbw6⟩ := KB.out w6 (hb05.trans (hb6.mono (by omega)))
            have HTO : Hid (ParsesTo s sn ls') := (HPT.out _ _).2 ⟨rfl, HPS.out.1, HPS.out.2, hM⟩
            have HS6 : Hid (SerAt w6 (.agg #[.string sn, .slice al ls.length capl]) sn ls') := HSER.out.below hb6
            clear hM HPT HSER
            go_wp2
            try simp only [Exit.inBlock, Exit.then]
            refine bodyPost_ret (ret_pair rfl _ _ w.heap.size _ _ rfl (two_set q0 q1 _ _).1 (two_set q0 q1 _ _).2) rfl ?_
            refine ⟨(hbw6.setCell (Nat.le_refl _) _).setCell (Nat.le_refl _) _, .inl ⟨_, sn, ls', rfl, ?_, HTO.out⟩⟩
            exact ser_set HS6.out rfl (fun x hx => by have := HLOW.out x hx; omega) _ _ _ _
          · have HNO : Hid (∀ nm ls, ¬ ParsesTo s nm ls) := fun nm ls2 hP => by
              obtain ⟨rfl, hp2, hs2, hM2⟩ := (HPT.out _ _).1 hP
              have := uniq (hp2.trans HPS.out.1.symm) (may_pair hM2) HPS.out.2.pair
              subst this
              exact hM hM2
            obtain ⟨⟨q0, q1⟩, ⟨r0, r1⟩, hbw6⟩ := KB.out w6 (hb05.trans (hb6.mono (by omega)))
            clear hM HPT HSER
            go_wp2
            try simp only [Exit.inBlock, Exit.then]
            refine bodyPost_ret (ret_pair rfl _ _ w.heap.size _ _ rfl (two_set q0 q1 _ _).1 (two_set q0 q1 _ _).2) rfl ?_
            exact parse_no ((hbw6.setCell (Nat.le_refl _) _).setCell (Nat.le_refl _) _) HNO.out
        · have hp6' : ((p : Int) != 6) = true := by simp; omega
          have HNO : Hid (∀ nm ls, ¬ ParsesTo s nm ls) := fun nm ls2 ⟨st, h1, h2, _⟩ => by
            rw [HR.out] at h1
            obtain rfl := Option.some.inj h1
            unfold endS at h2
            rw [if_neg hp0] at h2
            exact hp6 h2
          clear HSER
          go_wp2
          try simp only [Exit.inBlock, Exit.then]
          refine bodyPost_ret (ret_pair rfl _ _ w.heap.size _ _ rfl (two_set x0 x1 _ _).1 (two_set x0 x1 _ _).2) rfl ?_
          exact parse_no ((hbw5.setCell (Nat.le_refl _) _).setCell (Nat.le_refl _) _) HNO.out
end Go.Proofs.YtihohcmocejijaaGreat.Lb
