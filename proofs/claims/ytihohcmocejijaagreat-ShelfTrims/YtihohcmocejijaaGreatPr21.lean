/-
  done and line: where a client's Done is, where a series' line is.
  samplesOf, put.
-/
import Derived.Test.YtihohcmocejijaaGreatPr20
import Derived.Test.YtihohcmocejijaaGreatPr17
namespace Go.Proofs.YtihohcmocejijaaGreat.Bk
open Go.ChangeShapes Go.WideShapes Go.ChangeAt Go.RowKit
theorem dns_lt {ds : List Dn} (h : DnsMay ds) : ∀ i j, i < j → j < ds.length → (ds.getD i dn0).cl < (ds.getD j dn0).cl := by
  intro i j
  induction j with
  | zero => intro h1; omega
  | succ j ih =>
    intro h1 h2
    have h3 := (h.2 (j + 1) h2).1 (by omega)
    simp only [Nat.add_sub_cancel] at h3
    by_cases e : i = j
    · rw [e]; exact h3
    · exact Int.lt_trans (ih (by omega) (by omega)) h3
theorem dns_mono {ds : List Dn} (h : DnsMay ds) (c : Int) : ∀ i j, i ≤ j → j < ds.length → decide ((ds.getD j dn0).cl < c) = true → decide ((ds.getD i dn0).cl < c) = true := by
  intro i j h1 h2 h3
  by_cases e : i = j
  · rw [e]; exact h3
  · have := dns_lt h i j (by omega) h2
    have h4 := of_decide_eq_true h3
    exact decide_eq_true (by omega)
theorem lns_lt {ls : List Ln} {fl : Int} (h : LnsMay ls fl) : ∀ i j, i < j → j < ls.length → Lb.ltB (ls.getD i ln0).1 (ls.getD j ln0).1 = true := by
  intro i j
  induction j with
  | zero => intro h1; omega
  | succ j ih =>
    intro h1 h2
    have h3 := (h.2 (j + 1) h2).1 (by omega)
    simp only [Nat.add_sub_cancel] at h3
    by_cases e : i = j
    · rw [e]; exact h3
    · exact Lb.ltB_trans (ih (by omega) (by omega)) h3
theorem lns_mono {ls : List Ln} {fl : Int} (h : LnsMay ls fl) (c : ByteArray) : ∀ i j, i ≤ j → j < ls.length → Lb.ltB (ls.getD j ln0).1 c = true → Lb.ltB (ls.getD i ln0).1 c = true := by
  intro i j h1 h2 h3
  by_cases e : i = j
  · rw [e]; exact h3
  · exact Lb.ltB_trans (lns_lt h i j (by omega) h2) h3
section
variable {B p : Nat} {la : Option Addr} {lc : Nat} {X : List LX} {da : Option Addr} {dc : Nat} {ds : List Dn} {fl : Int} {w : World}
set_option maxRecDepth 60000 in
theorem done_any (h : LvA B p la lc X da dc ds fl w) (hM : DnsMay ds) (c : Int) : Calls Tryz.prog 46 #[.pointer (some ⟨p, 0, none⟩), .int .i64 c] w fun e w' => BsD ds c w e w' := by
  have c1 := h.c1
  have HC := Hid.mk9 (bsD_any da ds.length dc ds c w h.dns (by have := hM.1; omega) (dns_mono hM c))
  clear h hM
  go_enter Tryz.func46, Tryz.ntmps46
  go_wp2_with (go_at_call 66; refine HC.out.mono ?_; rintro e w1 ⟨hb1, k, q, hp, hq, rfl⟩; have HB := Hid.mk9 hb1; have HP := Hid.mk9 hp; have HQ := Hid.mk9 hq; clear hb1 hp hq)
  go_returns
  exact ⟨HB.out, k, q, HP.out, HQ.out, rfl⟩
set_option maxRecDepth 60000 in
theorem line_any {fl' : Int} (h : LvA B p la lc X da dc ds fl w) (hM : LnsMay (lnsX X) fl') (c : ByteArray) : Calls Tryz.prog 76 #[.pointer (some ⟨p, 0, none⟩), .string c] w fun e w' => BsL (lnsX X) c w e w' := by
  have c0 := h.c0
  have hx : (lnsX X).length = X.length := by simp [lnsX]
  have HC := Hid.mk9 (bsL_any la X.length lc (lnsX X) c w h.lns (by have := hM.1; omega) (lns_mono hM c))
  clear h hM
  go_enter Tryz.func76, Tryz.ntmps76
  go_wp2_with (go_at_call 110; refine HC.out.mono ?_; rintro e w1 ⟨hb1, k, q, hp, hq, rfl⟩; have HB := Hid.mk9 hb1; have HP := Hid.mk9 hp; have HQ := Hid.mk9 hq; clear hb1 hp hq)
  go_returns
  exact ⟨HB.out, k, q, HP.out, HQ.out, rfl⟩
end
end Go.Proofs.YtihohcmocejijaaGreat.Bk
namespace Go.Proofs.YtihohcmocejijaaGreat.Bk
open Go.ChangeShapes Go.WideShapes Go.ChangeAt Go.RowKit
theorem getDn {α : Type} {l : List α} {i : Nat} {d : α} (h : i < l.length) : l.getD i d = l[i] := by
  rw [List.getD_eq_getElem?_getD, List.getElem?_eq_getElem h]; rfl
theorem findL_yes {ls : List Ln} {fl : Int} {n : ByteArray} {k : Nat} (hM : LnsMay ls fl) (hk : k < ls.length) (e : (ls.getD k ln0).1 = n) : findL ls n = some (ls.getD k ln0).2 := by
  unfold findL
  have hu : ls.find? (fun l => decide (l.1 = n)) = some (ls.getD k ln0) := by
    rw [List.find?_eq_some_iff_append]
    refine ⟨by simpa using e, ls.take k, ls.drop (k + 1), ?_, fun x hx => ?_⟩
    · rw [getDn hk]
      simp
    · obtain ⟨i, hi, rfl⟩ := List.mem_take_iff_getElem.1 hx
      have h1 := lns_lt hM i k (by omega) hk
      rw [e, getDn (by omega)] at h1
      have : ¬ ls[i].1 = n := fun h => by rw [h, Lb.ltB_irrefl] at h1; cases h1
      simpa using this
  rw [hu]
  rfl
theorem findL_no {ls : List Ln} {n : ByteArray} {k : Nat} (hP : Pl ls.length (fun j => Lb.ltB (ls.getD j ln0).1 n) k) (hM : ∀ i j, i < j → j < ls.length → Lb.ltB (ls.getD i ln0).1 (ls.getD j ln0).1 = true) (h : ¬ (k < ls.length ∧ (ls.getD k ln0).1 = n)) : findL ls n = none := by
  unfold findL
  have hu : ls.find? (fun l => decide (l.1 = n)) = none := by
    rw [List.find?_eq_none]
    intro x hx
    obtain ⟨i, hi, rfl⟩ := List.getElem_of_mem hx
    have hne : ¬ (ls.getD i ln0).1 = n := fun e => by
      by_cases h1 : i < k
      · have := hP.2.1 i h1
        simp only [e, Lb.ltB_irrefl] at this
        cases this
      · by_cases h2 : i = k
        · subst h2; exact h ⟨hi, e⟩
        · have h3 := hM k i (by omega) hi
          have h4 := hP.2.2 k (Nat.le_refl _) (by omega)
          simp only at h4
          rw [e] at h3
          rw [h3] at h4
          cases h4
    rw [getDn hi] at hne
    simpa using hne
  rw [hu]
  rfl
section
variable {B p : Nat} {la : Option Addr} {lc : Nat} {X : List LX} {da : Option Addr} {dc : Nat} {ds : List Dn} {fl : Int} {w : World}
theorem LvA.ans {r : Nat} {v0 v1 v2 : Value} (h : LvA B p la lc X da dc ds fl w) (hb : Bx3 w r 37 v0 v1 v2) (u0 u1 u2 : Value) : LvA B p la lc X da dc ds fl (put3 w r u0 u1 u2) := by
  have hpr : p ≠ r := fun e => by
    have := h.1
    rw [e, show w.heap[r]? = _ from hb] at this
    injection this with this
    injection this with _ e2
    exact absurd e2 (by decide)
  have h0 := heap_setCell_same w r 0 _ _ u0 hb
  have h1 := heap_setCell_same _ r 1 _ _ u1 h0
  refine ⟨(put3_else u0 u1 u2 hpr).trans h.1, h.2.1, ?_, ?_, ?_⟩
  · exact own_box (own_box (own_box h.2.2.1 hb (by decide) u0) h0 (by decide) u1) h1 (by decide) u2
  · exact h.2.2.2.1.ks (((KS.set hb (by decide) u0).trans (KS.set h0 (by decide) u1)).trans (KS.set h1 (by decide) u2))
  · exact own_box (own_box (own_box h.2.2.2.2 hb (by decide) u0) h0 (by decide) u1) h1 (by decide) u2
theorem KpS.ans {w w' : World} {r : Nat} (h : KpS p w w') (hr : w.heap.size ≤ r) (u0 u1 u2 : Value) : KpS p w (put3 w' r u0 u1 u2) := fun k o hk hp h1 h2 => (put3_else u0 u1 u2 (by have := (Array.getElem?_eq_some_iff.1 hk).1; omega)).trans (h k o hk hp h1 h2)
end
section
variable {B p : Nat} {la : Option Addr} {lc : Nat} {X : List LX} {da : Option Addr} {dc : Nat} {ds : List Dn} {fl : Int} {w : World}
theorem LvA.cell (h : LvA B p la lc X da dc ds fl w) {k : Nat} (hk : k < X.length) : ∃ g a n c, la = some ⟨g, 0, none⟩ ∧ g < w.heap.size ∧ B ≤ g ∧ w.cell? ⟨g, k * 2, none⟩ = some (.string (X.getD k lx0).1) ∧ w.cell? ⟨g, k * 2 + 1, none⟩ = some (.slice a n c) ∧ (X.getD k lx0).2.1 = .slice a n c ∧ SmsAt w a n c (X.getD k lx0).2.2 ∧ TyS w a ∧ w.frozen? ⟨g, k * 2 + 1, none⟩ = false := by
  obtain ⟨g, cp, e, hl⟩ := own_some h.2.2.1 (by omega)
  injection e with e1 e2 e3
  subst e1 e3
  have hm : X.getD k lx0 ∈ X := by rw [getDn hk]; exact List.getElem_mem hk
  obtain ⟨a, n, c, e4, hs, ht⟩ := h.2.2.2.1 _ hm
  have q := cellsX_at X k hk
  refine ⟨g, a, n, c, rfl, (h.2.2.1.lt g rfl).2, (h.2.2.1.lt g rfl).1, ?_, ?_, e4, hs, ht, h.2.2.1.frozenAt _⟩
  · rw [h.2.2.1.cellAt (k * 2) (by omega)]; exact q.1
  · rw [h.2.2.1.cellAt (k * 2 + 1) (by omega), q.2, e4]
set_option maxHeartbeats 1000000 in
set_option maxRecDepth 60000 in
theorem samplesOf_any {fl' : Int} (h : LvA B p la lc X da dc ds fl w) (hM : LnsMay (lnsX X) fl') (n : ByteArray) : Calls Tryz.prog 58 #[.pointer (some ⟨p, 0, none⟩), .string n] w fun e w' => RowPost ((findL (lnsX X) n).getD []) w e w' := by
  have HA := Hid.mk9 h
  have HC := Hid.mk9 (line_any h hM n)
  have HM := Hid.mk9 hM
  have hx : (lnsX X).length = X.length := by simp [lnsX]
  clear h hM
  go_enter Tryz.func58, Tryz.ntmps58
  go_upto_region 2 with (go_at_call 76; refine HC.out.mono ?_; rintro e w1 ⟨hb1, k, q, hp, hq, rfl⟩)
  have HB := Hid.mk9 hb1
  cases q with
  | true =>
    have hk := (hq.1 rfl).1
    have HF := Hid.mk9 (findL_yes HM.out hk (hq.1 rfl).2)
    have hA := HA.out.below hb1
    have c0 := hA.c0
    obtain ⟨g, a, m, c, rfl, hgs, -, -, c1, -, hs, ht, -⟩ := hA.cell (k := k) (by omega)
    rw [lnsX_getD] at HF
    have HR : Hid (RowPost ((findL (lnsX X) n).getD []) w (.returned (.slice a m c)) w1) := Hid.mk9 (by rw [HF.out]; exact ⟨hb1, a, m, c, rfl, hs, ht⟩)
    have hk1 : (k : Int) < (X.length : Int) := by omega
    have hk0 : (0 : Int) ≤ (k : Int) := by omega
    generalize X.length = N at *
    clear hp hq hs ht hA hk hb1 HF HC
    go_wp2_with fail
    go_ret
    exact HR.out
  | false =>
    have HF := Hid.mk9 (findL_no hp (lns_lt HM.out) (fun h => absurd (hq.2 h) (by decide)))
    have HR : Hid (RowPost ((findL (lnsX X) n).getD []) w (.returned (.slice none 0 0)) w1) := Hid.mk9 (by rw [HF.out]; exact ⟨hb1, none, 0, 0, rfl, sms_nil _, fun p h => by cases h⟩)
    clear hp hq hb1 HF HC
    go_wp2_with fail
    go_ret
    exact HR.out
end
set_option maxHeartbeats 4000000 in
set_option maxRecDepth 60000 in
theorem pu_1 (t1 t2 t4 t5 t6 t7 t8 t9 t10 t11 t12 t13 t14 t15 t16 t17 t18 t19 t20 t21 t22 t23 t24 t25 t26 t27 t28 : Value) (g i bx n c : Nat) (a : Option Addr) (x y : Int) (xs : List Sm) (w1 : World) (Q : Exit → Act → World → Prop)
    (h0 : w1.cell? ⟨g, i * 2 + 1, none⟩ = some (.slice a n c)) (hbx : SmBox w1 bx x y) (hs : SmsAt w1 a n c xs) (hM : MayS xs)
    (hQ : Hid (∀ (u7 u8 u9 u10 u11 u12 u13 u14 u15 : Value) (a2 : Option Addr) (n2 c2 : Nat) (wC : World), Below w1.heap.size w1 wC → SmsAt wC a2 n2 c2 (putL xs (x, y)) → TyS wC a2 → Q .normal ⟨#[.pointer (some ⟨g, i * 2, none⟩), t1, t2, .pointer (some ⟨bx, 0, none⟩), t4, .slice a2 n2 c2, .int .i64 (putE xs (x, y)), u7, u8, u9, u10, u11, u12, u13, u14, u15, t16, t17, t18, t19, t20, t21, t22, t23, t24, t25, t26, t27, t28], []⟩ wC)) :
    Code.wp Tryz.prog ((Tryz.f77.body.bind (regionOf 1)).getD .skip) Q ⟨#[.pointer (some ⟨g, i * 2, none⟩), t1, t2, .pointer (some ⟨bx, 0, none⟩), t4, t5, t6, t7, t8, t9, t10, t11, t12, t13, t14, t15, t16, t17, t18, t19, t20, t21, t22, t23, t24, t25, t26, t27, t28], []⟩ w1 := by
  have hS : (fun w' => Below w1.heap.size w1 w' ∧ w'.cell? ⟨g, i * 2 + 1, none⟩ = some (.slice a n c) ∧ SmBox w' bx x y) w1.drew := ⟨below_drew _, h0, hbx⟩
  conv => arg 2; whnf
  refine held_start (S := fun w' => Below w1.heap.size w1 w' ∧ w'.cell? ⟨g, i * 2 + 1, none⟩ = some (.slice a n c) ∧ SmBox w' bx x y) mixed9 ?_
  refine held_take (i := 0) (v := .pointer (some ⟨g, i * 2, none⟩)) rfl (by kernel_rfl) (fun _ _ _ h => h) (.inl ⟨rfl, fun w hS => ?_⟩) hS ?_
  · obtain ⟨-, q0, q1⟩ := hS
    go_simp
  try simp only [Act.put, List.setIfInBounds_toArray, List.set_cons_zero, List.set_cons_succ]
  refine held_take (i := 1) (v := .pointer (some ⟨g, i * 2, none⟩)) rfl (by kernel_rfl) (fun _ _ _ h => h) (.inl ⟨rfl, fun w hS => ?_⟩) hS ?_
  · obtain ⟨-, q0, q1⟩ := hS
    go_simp
  try simp only [Act.put, List.setIfInBounds_toArray, List.set_cons_zero, List.set_cons_succ]
  refine held_take (i := 2) (v := .pointer (some ⟨g, i * 2 + 1, none⟩)) rfl (by kernel_rfl) (fun _ _ _ h => h) (.inl ⟨rfl, fun w hS => ?_⟩) hS ?_
  · obtain ⟨-, q0, q1⟩ := hS
    go_simp
  try simp only [Act.put, List.setIfInBounds_toArray, List.set_cons_zero, List.set_cons_succ]
  refine held_take (i := 3) (v := .slice a n c) rfl (by kernel_rfl) (fun _ _ _ h => h) (.inl ⟨rfl, fun w hS => ?_⟩) hS ?_
  · obtain ⟨-, q0, q1⟩ := hS
    go_simp
  try simp only [Act.put, List.setIfInBounds_toArray, List.set_cons_zero, List.set_cons_succ]
  refine held_take (i := 4) (v := .agg #[.int .i64 x, .int .i64 y]) rfl (by kernel_rfl) (fun _ _ _ h => h) (.inl ⟨rfl, fun w hS => ?_⟩) hS ?_
  · obtain ⟨-, q0, q1⟩ := hS
    have z0 := q1.c0
    have z1 := q1.c1
    go_simp
  try simp only [Act.put, List.setIfInBounds_toArray, List.set_cons_zero, List.set_cons_succ]
  refine held_one (i := 5) (by kernel_rfl) rfl rfl ?_
  intro K hK
  go_simp
  go_at_call 113
  refine (put_yes a n c xs x y _ (hs.below hS.1) hM).mono ?_
  rintro e w2 ⟨hb2, a2, n2, c2, rfl, hs2, ht2⟩
  have hN : (fun w' => Below w1.heap.size w1 w' ∧ w'.cell? ⟨g, i * 2 + 1, none⟩ = some (.slice a n c) ∧ SmBox w' bx x y) w2 := ⟨below2 hS.1 hb2, kept3 hS.2.1 hb2, hS.2.2.below hb2⟩
  refine hK.out _ _ (hN) ?_
  have hS9 := hN
  clear hK hS
  have hS := hS9
  clear hS9
  try simp only [Act.put, List.setIfInBounds_toArray, List.set_cons_zero, List.set_cons_succ]
  refine held_take (i := 6) (v := .tuple #[.slice a2 n2 c2, .int .i64 (putE xs (x, y))]) rfl (by kernel_rfl) (fun _ _ _ h => h) (.inl ⟨rfl, fun w hS => ?_⟩) hS ?_
  · obtain ⟨-, q0, q1⟩ := hS
    go_simp
  try simp only [Act.put, List.setIfInBounds_toArray, List.set_cons_zero, List.set_cons_succ]
  refine held_take (i := 7) (v := .slice a2 n2 c2) rfl (by kernel_rfl) (fun _ _ _ h => h) (.inl ⟨rfl, fun w hS => ?_⟩) hS ?_
  · obtain ⟨-, q0, q1⟩ := hS
    go_simp
  try simp only [Act.put, List.setIfInBounds_toArray, List.set_cons_zero, List.set_cons_succ]
  refine held_take (i := 8) (v := .int .i64 (putE xs (x, y))) rfl (by kernel_rfl) (fun _ _ _ h => h) (.inl ⟨rfl, fun w hS => ?_⟩) hS ?_
  · obtain ⟨-, q0, q1⟩ := hS
    go_simp
  try simp only [Act.put, List.setIfInBounds_toArray, List.set_cons_zero, List.set_cons_succ]
  refine held_take (i := 9) (v := .slice a2 n2 c2) rfl (by kernel_rfl) (fun _ _ _ h => h) (.inl ⟨rfl, fun w hS => ?_⟩) hS ?_
  · obtain ⟨-, q0, q1⟩ := hS
    go_simp
  try simp only [Act.put, List.setIfInBounds_toArray, List.set_cons_zero, List.set_cons_succ]
  refine held_take (i := 10) (v := .int .i64 (putE xs (x, y))) rfl (by kernel_rfl) (fun _ _ _ h => h) (.inl ⟨rfl, fun w hS => ?_⟩) hS ?_
  · obtain ⟨-, q0, q1⟩ := hS
    go_simp
  try simp only [Act.put, List.setIfInBounds_toArray, List.set_cons_zero, List.set_cons_succ]
  refine wpAnyH_done (by kernel_rfl) ?_ _
  refine NoPanic.normal ?_
  exact hQ.out _ _ _ _ _ _ _ _ _ a2 n2 c2 _ hS.1 hs2 ht2
noncomputable def putA (xs : List Sm) (x : Sm) : An := if putE xs x = 0 then ⟨0, true, 0⟩ else if putE xs x = 7 then an0 else ⟨putE xs x, false, 0⟩
def PtPost (B p : Nat) (la : Option Addr) (lc : Nat) (X : List LX) (i : Nat) (da : Option Addr) (dc : Nat) (ds : List Dn) (fl : Int) (x : Sm) (w : World) (e : Ending) (w' : World) : Prop :=
  e = .returned (anV (putA (X.getD i lx0).2.2 x)) ∧ Below B w w' ∧ KpS p w w' ∧ ((putE (X.getD i lx0).2.2 x ≠ 0 ∧ LvA B p la lc X da dc ds fl w') ∨ (putE (X.getD i lx0).2.2 x = 0 ∧ ∃ v, LvA B p la lc (X.set i ((X.getD i lx0).1, v, putL (X.getD i lx0).2.2 x)) da dc ds fl w'))
set_option maxHeartbeats 2000000 in
set_option maxRecDepth 60000 in
theorem put_any {B p g : Nat} {lc : Nat} {X : List LX} {da : Option Addr} {dc : Nat} {ds : List Dn} {fl : Int} {w : World} (h : LvA B p (some ⟨g, 0, none⟩) lc X da dc ds fl w) (i : Nat) (hi : i < X.length) (x y : Int) (hM : MayS (X.getD i lx0).2.2) :
    Calls Tryz.prog 77 #[.pointer (some ⟨g, i * 2, none⟩), .agg #[.int .i64 x, .int .i64 y]] w fun e w' => PtPost B p (some ⟨g, 0, none⟩) lc X i da dc ds fl (x, y) w e w' := by
  have HB0 : Hid (B ≤ w.heap.size) := Hid.mk9 (Nat.le_trans h.2.1 (Nat.le_of_lt h.lt))
  have b0 := below2 (below_alloc w (.cells #[.int .i64 x, .int .i64 y] 27)) (below_alloc _ (.cells #[.int .i64 0, .bool false, .int .i64 0] 37))
  have HX := Hid.mk9 ((SmBox.new w x y).below (below_alloc _ (.cells #[.int .i64 0, .bool false, .int .i64 0] 37)))
  have HR : Hid (Bx3 ((w.alloc (.cells #[.int .i64 x, .int .i64 y] 27)).alloc (.cells #[.int .i64 0, .bool false, .int .i64 0] 37)) (w.heap.size + 1) 37 (.int .i64 0) (.bool false) (.int .i64 0)) := by
    have := Bx3.new (w.alloc (.cells #[.int .i64 x, .int .i64 y] 27)) 37 (.int .i64 0) (.bool false) (.int .i64 0)
    rw [show (w.alloc (.cells #[.int .i64 x, .int .i64 y] 27)).heap.size = w.heap.size + 1 from by simp] at this
    exact this
  have HA := Hid.mk9 (h.below b0)
  have HB := Hid.mk9 b0
  have HM := Hid.mk9 hM
  have HI := Hid.mk9 hi
  have HPL : Hid (p < w.heap.size) := Hid.mk9 h.lt
  have HGL : Hid (g < w.heap.size) := Hid.mk9 (h.2.2.1.lt g rfl).2
  clear h b0 hM hi
  go_enter Tryz.func77, Tryz.ntmps77
  go_upto_region 1 with fail
  generalize (w.alloc (.cells #[.int .i64 x, .int .i64 y] 27)).alloc (.cells #[.int .i64 0, .bool false, .int .i64 0] 37) = wA at *
  obtain ⟨g', a, n, c, eg, -, hBg, -, c1, -, hs, -, -⟩ := HA.out.cell HI.out
  simp only [Option.some.injEq, Addr.mk.injEq, and_true] at eg
  subst eg
  refine pu_1 _ _ _ _ _ _ _ _ _ _ _ _ _ _ _ _ _ _ _ _ _ _ _ _ _ _ _ g i w.heap.size n c a x y (X.getD i lx0).2.2 wA _ c1 HX.out hs HM.out (Hid.mk9 (fun u7 u8 u9 u10 u11 u12 u13 u14 u15 a2 n2 c2 wC hbC hs2 ht2 => ?_))
  replace HA := Hid.mk9 (HA.out.below hbC)
  replace HR := Hid.mk9 (HR.out.below hbC)
  replace HB := Hid.mk9 (below2 HB.out hbC)
  have HBg := Hid.mk9 hBg
  have hne1 : Hid (g ≠ w.heap.size + 1) := Hid.mk9 (by have := HGL.out; omega)
  have hne2 : Hid (p ≠ w.heap.size + 1) := Hid.mk9 (by have := HPL.out; omega)
  clear hbC c1 hs hBg
  by_cases hE : putE (X.getD i lx0).2.2 (x, y) = 0
  · have HL := Hid.mk9 (HA.out.samples HI.out hs2 ht2)
    obtain ⟨g2, a9, n9, c9, eg2, -, -, -, k1, -, -, -, k2⟩ := HA.out.cell HI.out
    simp only [Option.some.injEq, Addr.mk.injEq, and_true] at eg2
    subst eg2
    obtain ⟨cc, fz, hh⟩ := Lib.ownsRow_kind HA.out.2.2.1 g rfl
    have HKp := Hid.mk9 ((KpS.of_below (p := p) HB.out).trans (KpS.set_row (p := p) (j := i * 2 + 1) hh (.inl rfl) (.slice a2 n2 c2)))
    have HBb := Hid.mk9 (((HB.out.mono HB0.out).setCell (p := ⟨g, i * 2 + 1, none⟩) HBg.out (.slice a2 n2 c2)))
    have HRr := Hid.mk9 (HR.out.kept (set_heap wC g (i * 2 + 1) (.slice a2 n2 c2) (w.heap.size + 1) (fun e => hne1.out e.symm)))
    have HAn : Hid (putA (X.getD i lx0).2.2 (x, y) = ⟨0, true, 0⟩) := Hid.mk9 (by unfold putA; rw [if_pos hE])
    have HE := Hid.mk9 hE
    rw [hE]
    clear hs2 ht2 hh hE
    go_upto_region 5 with fail
    generalize wC.setCell ⟨g, i * 2 + 1, none⟩ (.slice a2 n2 c2) = w5 at *
    obtain ⟨c0, c1, c2'⟩ := HRr.out.cells
    obtain ⟨f0, f1, f2⟩ := HRr.out.frz
    have HRs := Hid.mk9 (HRr.out.set (.int .i64 0) (.bool true) (.int .i64 0))
    have HLs := Hid.mk9 (HL.out.ans HRr.out (.int .i64 0) (.bool true) (.int .i64 0))
    have HKs := Hid.mk9 (HKp.out.ans (r := w.heap.size + 1) (by omega) (.int .i64 0) (.bool true) (.int .i64 0))
    have HBs := Hid.mk9 (put3_below HBb.out (b := w.heap.size + 1) (by have := HB0.out; omega) (.int .i64 0) (.bool true) (.int .i64 0))
    go_wp2_with fail
    refine bodyPost_ret (retA rfl _ _ (w.heap.size + 1) (.int .i64 0) (.bool true) (.int .i64 0) rfl HRs.out) rfl ?_
    refine ⟨?_, HBs.out, HKs.out, .inr ⟨HE.out, _, HLs.out⟩⟩
    rw [HAn.out]
    rfl
  · have HKp := Hid.mk9 (KpS.of_below (p := p) HB.out)
    have HBb := Hid.mk9 (HB.out.mono HB0.out)
    obtain ⟨c0, c1, c2'⟩ := HR.out.cells
    obtain ⟨f0, f1, f2⟩ := HR.out.frz
    have HE := Hid.mk9 hE
    have hE0 : (putE (X.getD i lx0).2.2 (x, y) == 0) = false := by simpa using hE
    by_cases hE7 : putE (X.getD i lx0).2.2 (x, y) = 7
    · have HAn : Hid (putA (X.getD i lx0).2.2 (x, y) = an0) := Hid.mk9 (by unfold putA; rw [if_neg hE, if_pos hE7])
      have HRs := Hid.mk9 (HR.out.set (.int .i64 0) (.bool false) (.int .i64 0))
      have HLs := Hid.mk9 (HA.out.ans HR.out (.int .i64 0) (.bool false) (.int .i64 0))
      have HKs := Hid.mk9 (HKp.out.ans (r := w.heap.size + 1) (by omega) (.int .i64 0) (.bool false) (.int .i64 0))
      have HBs := Hid.mk9 (put3_below HBb.out (b := w.heap.size + 1) (by have := HB0.out; omega) (.int .i64 0) (.bool false) (.int .i64 0))
      rw [hE7]
      clear hs2 ht2 hE hE0 hE7
      go_wp2_with fail
      refine bodyPost_ret (retA rfl _ _ (w.heap.size + 1) (.int .i64 0) (.bool false) (.int .i64 0) rfl HRs.out) rfl ?_
      refine ⟨?_, HBs.out, HKs.out, .inl ⟨HE.out, HLs.out⟩⟩
      rw [HAn.out]
      rfl
    · have HAn : Hid (putA (X.getD i lx0).2.2 (x, y) = ⟨putE (X.getD i lx0).2.2 (x, y), false, 0⟩) := Hid.mk9 (by unfold putA; rw [if_neg hE, if_neg hE7])
      have hE7' : (putE (X.getD i lx0).2.2 (x, y) == 7) = false := by simpa using hE7
      obtain ⟨er, her⟩ : ∃ er, putE (X.getD i lx0).2.2 (x, y) = er := ⟨_, rfl⟩
      rw [her] at hE0 hE7'
      rw [her]
      have HER := Hid.mk9 her
      have HRs := Hid.mk9 (HR.out.set (.int .i64 er) (.bool false) (.int .i64 0))
      have HLs := Hid.mk9 (HA.out.ans HR.out (.int .i64 er) (.bool false) (.int .i64 0))
      have HKs := Hid.mk9 (HKp.out.ans (r := w.heap.size + 1) (by omega) (.int .i64 er) (.bool false) (.int .i64 0))
      have HBs := Hid.mk9 (put3_below HBb.out (b := w.heap.size + 1) (by have := HB0.out; omega) (.int .i64 er) (.bool false) (.int .i64 0))
      clear hs2 ht2 hE hE7 her
      go_wp2_with fail
      refine bodyPost_ret (retA rfl _ _ (w.heap.size + 1) (.int .i64 er) (.bool false) (.int .i64 0) rfl HRs.out) rfl ?_
      refine ⟨?_, HBs.out, HKs.out, .inl ⟨HE.out, HLs.out⟩⟩
      rw [HAn.out, HER.out]
      rfl
end Go.Proofs.YtihohcmocejijaaGreat.Bk
