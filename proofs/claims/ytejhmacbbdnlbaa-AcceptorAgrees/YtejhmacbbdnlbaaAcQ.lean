/-
  Lists and acceptors compared.
-/
import Derived.Test.YtejhmacbbdnlbaaAcO
namespace Go.Proofs.Ytejhmacbbdnlbaa.Ac
open Go.ChangeShapes Go.WideShapes Go.ChangeAt Go.RowKit
def eqL (ls ms : List Acd) : Bool := decide (ls.length = ms.length) && (List.range ls.length).all fun i => eqA (ls.getD i acd0) (ms.getD i acd0)
theorem eqL_yes {ls ms : List Acd} (hl : ls.length = ms.length) (h : ∀ j, j < ls.length → eqA (ls.getD j acd0) (ms.getD j acd0) = true) : eqL ls ms = true := by
  unfold eqL
  rw [decide_eq_true hl, Bool.true_and, List.all_eq_true]
  intro i hi
  exact h i (by simpa using hi)
theorem eqL_no {ls ms : List Acd} {j : Nat} (hj : j < ls.length) (h : eqA (ls.getD j acd0) (ms.getD j acd0) = false) : eqL ls ms = false := by
  unfold eqL
  rw [Bool.and_eq_false_iff]
  right
  rw [List.all_eq_false]
  exact ⟨j, by simpa using hj, by rw [h]; decide⟩
theorem eqL_len {ls ms : List Acd} (h : ls.length ≠ ms.length) : eqL ls ms = false := by
  unfold eqL
  rw [decide_eq_false h]
  rfl
theorem eqL_iff (ls ms : List Acd) : eqL ls ms = true ↔ ls = ms := by
  constructor
  · intro h
    unfold eqL at h
    rw [Bool.and_eq_true, decide_eq_true_iff, List.all_eq_true] at h
    apply List.ext_getElem h.1
    intro i h1 h2
    have := (eqA_iff _ _).1 (h.2 i (by simpa using h1))
    simpa [h1, h2] using this
  · rintro rfl
    exact eqL_yes rfl fun j _ => (eqA_iff _ _).2 rfl
theorem AcsAt.cel {w : World} {a : Option Addr} {len cap : Nat} {ls : List Acd} (h : AcsAt w a len cap ls) {i : Nat} (hi : i < len) : ∃ b off, a = some ⟨b, off, none⟩ ∧ ∃ c : Cel, ls.getD i acd0 = c.x ∧ RowI w c.a c.l c.c c.x.d.ns ∧ ∀ w', Below w.heap.size w w' → CelAt w' b (off + i * 8) c := by
  obtain ⟨b, off, e, hb, c, hc, ⟨x0, x1, x2, x3, x4, x5, x6, x7⟩, hr⟩ := h.at hi
  exact ⟨b, off, e, c, hc, hr, fun w' hw => ⟨(hw.cell (p := ⟨b, off + i * 8, none⟩) hb).trans x0, (hw.cell (p := ⟨b, off + i * 8 + 1, none⟩) hb).trans x1, (hw.cell (p := ⟨b, off + i * 8 + 2, none⟩) hb).trans x2, (hw.cell (p := ⟨b, off + i * 8 + 3, none⟩) hb).trans x3, (hw.cell (p := ⟨b, off + i * 8 + 4, none⟩) hb).trans x4, (hw.cell (p := ⟨b, off + i * 8 + 5, none⟩) hb).trans x5, (hw.cell (p := ⟨b, off + i * 8 + 6, none⟩) hb).trans x6, (hw.cell (p := ⟨b, off + i * 8 + 7, none⟩) hb).trans x7⟩⟩
set_option maxHeartbeats 4000000 in
set_option maxRecDepth 60000 in
theorem list_6 (t2 t3 t4 t6 t7 t8 t9 t10 t11 t12 t13 t14 t15 t16 t17 t18 t19 t20 t21 t22 t23 t24 t25 t26 : Value) (b off b2 off2 la ca lb cb k : Nat) (c e : Cel) (q : Bool) (w1 : World) (Q : Exit → Act → World → Prop)
    (hk : (k : Int) < (la : Int)) (hk2 : (k : Int) < (lb : Int)) (HCX : Hid (∀ w', Below w1.heap.size w1 w' → CelAt w' b (off + k * 8) c)) (HEX : Hid (∀ w', Below w1.heap.size w1 w' → CelAt w' b2 (off2 + k * 8) e)) (HRC : Hid (RowI w1 c.a c.l c.c c.x.d.ns)) (HRE : Hid (RowI w1 e.a e.l e.c e.x.d.ns)) (HQ : Hid (eqA c.x e.x = q))
    (hQ : Hid (∀ (u17 u18 u19 u20 u21 u22 u23 u24 u25 : Value) (wC : World), Below w1.heap.size w1 wC → Q .normal ⟨#[.slice (some ⟨b, off, none⟩) la ca, .slice (some ⟨b2, off2, none⟩) lb cb, t2, t3, t4, .int .i64 (k : Int), t6, t7, t8, t9, t10, t11, t12, t13, t14, t15, t16, u17, u18, u19, u20, u21, u22, u23, u24, u25, .bool (!q)], []⟩ wC)) :
    Code.wp Try.prog ((Try.f16.body.bind (regionOf 6)).getD .skip) Q ⟨#[.slice (some ⟨b, off, none⟩) la ca, .slice (some ⟨b2, off2, none⟩) lb cb, t2, t3, t4, .int .i64 (k : Int), t6, t7, t8, t9, t10, t11, t12, t13, t14, t15, t16, t17, t18, t19, t20, t21, t22, t23, t24, t25, t26], []⟩ w1 := by
  have hS : (fun w' => Below w1.heap.size w1 w') w1.drew := below_drew w1
  conv => arg 2; whnf
  refine held_start (S := fun w' => Below w1.heap.size w1 w') mixed5 ?_
  refine held_take (i := 0) (v := .slice (some ⟨b, off, none⟩) la ca) rfl (by kernel_rfl) (fun _ _ _ h => h) (.inl ⟨rfl, fun w hS => ?_⟩) hS ?_
  · clear hS
    go_simp
  try simp only [Act.put, List.setIfInBounds_toArray, List.set_cons_zero, List.set_cons_succ]
  refine held_take (i := 1) (v := .int .i64 (k : Int)) rfl (by kernel_rfl) (fun _ _ _ h => h) (.inl ⟨rfl, fun w hS => ?_⟩) hS ?_
  · clear hS
    go_simp
  try simp only [Act.put, List.setIfInBounds_toArray, List.set_cons_zero, List.set_cons_succ]
  refine held_take (i := 2) (v := .pointer (some ⟨b, off + k * 8, none⟩)) rfl (by kernel_rfl) (fun _ _ _ h => h) (.inl ⟨rfl, fun w hS => ?_⟩) hS ?_
  · clear hS
    go_simp
  try simp only [Act.put, List.setIfInBounds_toArray, List.set_cons_zero, List.set_cons_succ]
  refine held_take (i := 3) (v := .agg #[.int .i64 c.x.b, .int .i64 c.x.d.k, .int .i64 c.x.d.id, .int .i64 c.x.d.zn, .int .i64 c.x.d.rk, .int .i64 c.x.d.wt, .int .i64 c.x.d.g, .slice c.a c.l c.c]) rfl (by kernel_rfl) (fun _ _ _ h => h) (.inl ⟨rfl, fun w hS => ?_⟩) hS ?_
  · obtain ⟨c0, c1, c2, c3, c4, c5, c6, c7⟩ := HCX.out w hS
    go_simp
  try simp only [Act.put, List.setIfInBounds_toArray, List.set_cons_zero, List.set_cons_succ]
  refine held_take (i := 4) (v := .slice (some ⟨b2, off2, none⟩) lb cb) rfl (by kernel_rfl) (fun _ _ _ h => h) (.inl ⟨rfl, fun w hS => ?_⟩) hS ?_
  · clear hS
    go_simp
  try simp only [Act.put, List.setIfInBounds_toArray, List.set_cons_zero, List.set_cons_succ]
  refine held_take (i := 5) (v := .int .i64 (k : Int)) rfl (by kernel_rfl) (fun _ _ _ h => h) (.inl ⟨rfl, fun w hS => ?_⟩) hS ?_
  · clear hS
    go_simp
  try simp only [Act.put, List.setIfInBounds_toArray, List.set_cons_zero, List.set_cons_succ]
  refine held_take (i := 6) (v := .pointer (some ⟨b2, off2 + k * 8, none⟩)) rfl (by kernel_rfl) (fun _ _ _ h => h) (.inl ⟨rfl, fun w hS => ?_⟩) hS ?_
  · clear hS
    go_simp
  try simp only [Act.put, List.setIfInBounds_toArray, List.set_cons_zero, List.set_cons_succ]
  refine held_take (i := 7) (v := .agg #[.int .i64 e.x.b, .int .i64 e.x.d.k, .int .i64 e.x.d.id, .int .i64 e.x.d.zn, .int .i64 e.x.d.rk, .int .i64 e.x.d.wt, .int .i64 e.x.d.g, .slice e.a e.l e.c]) rfl (by kernel_rfl) (fun _ _ _ h => h) (.inl ⟨rfl, fun w hS => ?_⟩) hS ?_
  · obtain ⟨c0, c1, c2, c3, c4, c5, c6, c7⟩ := HEX.out w hS
    go_simp
  try simp only [Act.put, List.setIfInBounds_toArray, List.set_cons_zero, List.set_cons_succ]
  refine held_one (i := 8) (by kernel_rfl) rfl rfl ?_
  intro K hK
  go_simp
  go_at_call 26
  refine (one_any c.x e.x c.a e.a c.l c.c e.l e.c _ (HRC.out.below hS) (HRE.out.below hS)).mono ?_
  rintro en w3 ⟨rfl, hb3⟩
  rw [HQ.out]
  have hN := below2 hS hb3
  refine hK.out _ _ hN ?_
  clear hK hS
  have hS := hN
  clear hN hb3
  try simp only [Act.put, List.setIfInBounds_toArray, List.set_cons_zero, List.set_cons_succ]
  refine held_take (i := 9) (v := .bool (!q)) rfl (by kernel_rfl) (fun _ _ _ h => h) (.inl ⟨rfl, fun w hS => ?_⟩) hS ?_
  · clear hS
    go_simp
  try simp only [Act.put, List.setIfInBounds_toArray, List.set_cons_zero, List.set_cons_succ]
  refine wpAnyH_done (by kernel_rfl) ?_ _
  refine NoPanic.normal ?_
  exact hQ.out _ _ _ _ _ _ _ _ _ _ hS
set_option maxHeartbeats 4000000 in
set_option maxRecDepth 60000 in
theorem list_any (a b : Option Addr) (la ca lb cb : Nat) (ls ms : List Acd) (w : World) (hl : AcsAt w a la ca ls) (hr : AcsAt w b lb cb ms) :
    Calls Try.prog 16 #[.slice a la ca, .slice b lb cb] w fun e w' => e = .returned (.bool (eqL ls ms)) ∧ Below w.heap.size w w' := by
  have hla := hl.1
  have hlb := hr.1
  have hma : la ≤ maxLen := Nat.le_trans hl.2.1 hl.2.2.1
  unfold maxLen at hma
  have HL : Hid (AcsAt w a la ca ls) := hl
  have HR : Hid (AcsAt w b lb cb ms) := hr
  clear hl hr
  by_cases hn : la = lb
  rotate_left
  · have hq0 : eqL ls ms = false := eqL_len (by rw [hla, hlb]; exact hn)
    rw [hq0]
    have hnd : (la == lb) = false := by simpa using hn
    have hnd' : ((la : Int) == (lb : Int)) = false := beq_eq_false_iff_ne.2 (by omega)
    clear hq0 hla hlb
    go_enter Try.func16, Try.ntmps16
    go_wp2_with fail
    go_ret
    exact ⟨rfl, Below.refl _ _⟩
  subst hn
  have HE : Hid ((∀ j, j < la → eqA (ls.getD j acd0) (ms.getD j acd0) = true) → eqL ls ms = true) := Hid.mk9 fun h => eqL_yes (by rw [hla, hlb]) (by rw [hla]; exact h)
  have HNE : Hid (∀ j, j < la → eqA (ls.getD j acd0) (ms.getD j acd0) = false → eqL ls ms = false) := Hid.mk9 fun j hj h => eqL_no (by rw [hla]; exact hj) h
  generalize eqL ls ms = q at *
  clear hla hlb
  go_enter Try.func16, Try.ntmps16
  go_wp2_with fail
  go_loopw [5] (fun i wr => ∃ k : Nat, k ≤ la ∧ i = .int .i64 k ∧ Hid (Below w.heap.size w wr) ∧ Hid (∀ j, j < k → eqA (ls.getD j acd0) (ms.getD j acd0) = true)) (fun i _ => la - (intOf i).toNat)
  case atStart => exact ⟨0, Nat.zero_le _, rfl, Below.refl _ _, fun j hj => absurd hj (Nat.not_lt_zero _)⟩
  case round =>
    obtain ⟨k, hk, rfl, hwr, hT⟩ := hrel
    by_cases hlt : k < la
    · have hk1 : (k : Int) < (la : Int) := by omega
      have hk0 : (0 : Int) ≤ (k : Int) := by omega
      obtain ⟨p, po, rfl, c, hc, hrc, hxc⟩ := (HL.out.below hwr.out).cel hlt
      obtain ⟨p2, po2, rfl, e, he, hre, hxe⟩ := (HR.out.below hwr.out).cel hlt
      have HNX : Hid (eqA c.x e.x = true → ∀ j, j < k + 1 → eqA (ls.getD j acd0) (ms.getD j acd0) = true) := Hid.mk9 fun h j hj => by
        by_cases e : j = k
        · rw [e, hc, he]; exact h
        · exact hT.out j (by omega)
      have HNK : Hid (eqA c.x e.x = false → q = false) := Hid.mk9 fun h => HNE.out k hlt (by rw [hc, he]; exact h)
      have HXC := Hid.mk9 hxc
      have HXE := Hid.mk9 hxe
      have HRC := Hid.mk9 hrc
      have HRE := Hid.mk9 hre
      clear hc he hxc hxe hrc hre hT
      go_upto_region 6 with fail
      cases hq : eqA c.x e.x with
      | true =>
        have HQ := Hid.mk9 hq
        have HT2 := Hid.mk9 (HNX.out hq)
        clear hq HNX HNK
        refine list_6 _ _ _ _ _ _ _ _ _ _ _ _ _ _ _ _ _ _ _ _ _ _ _ _ p po p2 po2 la ca la cb k c e true wr _ hk1 hk1 HXC HXE HRC HRE HQ (Hid.mk9 fun u17 u18 u19 u20 u21 u22 u23 u24 u25 wC hb => ?_)
        have HW := Hid.mk9 (below2 hwr.out hb)
        clear hb
        go_wp2_with fail
        exact ⟨⟨k + 1, by omega, by go_num, HW, HT2⟩, by simp [intOf]; omega⟩
      | false =>
        have HQ := Hid.mk9 hq
        have hqf := HNK.out hq
        subst hqf
        clear hq HNX HNK HE HNE
        refine list_6 _ _ _ _ _ _ _ _ _ _ _ _ _ _ _ _ _ _ _ _ _ _ _ _ p po p2 po2 la ca la cb k c e false wr _ hk1 hk1 HXC HXE HRC HRE HQ (Hid.mk9 fun u17 u18 u19 u20 u21 u22 u23 u24 u25 wC hb => ?_)
        have HW := Hid.mk9 (below2 hwr.out hb)
        clear hb
        go_wp2_with fail
        go_ret
        exact ⟨rfl, HW.out⟩
    · obtain rfl : k = la := by omega
      have hq0 : q = true := HE.out hT.out
      subst hq0
      clear HE HNE hT
      go_wp2_with fail
      go_ret
      exact ⟨rfl, hwr.out⟩
set_option maxHeartbeats 4000000 in
set_option maxRecDepth 60000 in
theorem eqFunc_any (a b : Option Addr) (la ca lb cb : Nat) (ls ms : List Acd) (w : World) (hl : AcsAt w a la ca ls) (hr : AcsAt w b lb cb ms) :
    Calls Try.prog 32 #[.slice a la ca, .slice b lb cb, .func (.func 33) #[] #[]] w fun e w' => e = .returned (.bool (eqL ls ms)) ∧ Below w.heap.size w w' := by
  have hla := hl.1
  have hlb := hr.1
  have hma : la ≤ maxLen := Nat.le_trans hl.2.1 hl.2.2.1
  unfold maxLen at hma
  have HL : Hid (AcsAt w a la ca ls) := hl
  have HR : Hid (AcsAt w b lb cb ms) := hr
  clear hl hr
  by_cases hn : la = lb
  rotate_left
  · have hq0 : eqL ls ms = false := eqL_len (by rw [hla, hlb]; exact hn)
    rw [hq0]
    have hnd : (la == lb) = false := by simpa using hn
    have hnd' : ((la : Int) == (lb : Int)) = false := beq_eq_false_iff_ne.2 (by omega)
    clear hq0 hla hlb
    go_enter Try.func32, Try.ntmps32
    go_wp2_with fail
    go_ret
    exact ⟨rfl, Below.refl _ _⟩
  subst hn
  have HE : Hid ((∀ j, j < la → eqA (ls.getD j acd0) (ms.getD j acd0) = true) → eqL ls ms = true) := Hid.mk9 fun h => eqL_yes (by rw [hla, hlb]) (by rw [hla]; exact h)
  have HNE : Hid (∀ j, j < la → eqA (ls.getD j acd0) (ms.getD j acd0) = false → eqL ls ms = false) := Hid.mk9 fun j hj h => eqL_no (by rw [hla]; exact hj) h
  generalize eqL ls ms = q at *
  clear hla hlb
  go_enter Try.func32, Try.ntmps32
  go_wp2_with fail
  go_loopw [17] (fun i wr => ∃ k : Nat, k ≤ la ∧ i = .int .i64 k ∧ Hid (Below w.heap.size w wr) ∧ Hid (∀ j, j < k → eqA (ls.getD j acd0) (ms.getD j acd0) = true)) (fun i _ => la - (intOf i).toNat)
  case atStart => exact ⟨0, Nat.zero_le _, rfl, Below.refl _ _, fun j hj => absurd hj (Nat.not_lt_zero _)⟩
  case round =>
    obtain ⟨k, hk, rfl, hwr, hT⟩ := hrel
    by_cases hlt : k < la
    · have hk1 : (k : Int) < (la : Int) := by omega
      have hk0 : (0 : Int) ≤ (k : Int) := by omega
      obtain ⟨p, po, rfl, c, hc, hrc, hxc⟩ := (HL.out.below hwr.out).cel hlt
      obtain ⟨p2, po2, rfl, e, he, hre, hxe⟩ := (HR.out.below hwr.out).cel hlt
      have HNX : Hid (eqA c.x e.x = true → ∀ j, j < k + 1 → eqA (ls.getD j acd0) (ms.getD j acd0) = true) := Hid.mk9 fun h j hj => by
        by_cases e : j = k
        · rw [e, hc, he]; exact h
        · exact hT.out j (by omega)
      have HNK : Hid (eqA c.x e.x = false → q = false) := Hid.mk9 fun h => HNE.out k hlt (by rw [hc, he]; exact h)
      have HXE := Hid.mk9 hxe
      obtain ⟨x0, x1, x2, x3, x4, x5, x6, x7⟩ := hxc wr (Below.refl _ _)
      have hba := below_alloc wr (.cells #[.int .i64 c.x.b, .int .i64 c.x.d.k, .int .i64 c.x.d.id, .int .i64 c.x.d.zn, .int .i64 c.x.d.rk, .int .i64 c.x.d.wt, .int .i64 c.x.d.g, .slice c.a c.l c.c] 49)
      obtain ⟨y0, y1, y2, y3, y4, y5, y6, y7⟩ := hxe _ hba
      have HB2 := Hid.mk9 (below2 hba (below_alloc _ (.cells #[.int .i64 e.x.b, .int .i64 e.x.d.k, .int .i64 e.x.d.id, .int .i64 e.x.d.zn, .int .i64 e.x.d.rk, .int .i64 e.x.d.wt, .int .i64 e.x.d.g, .slice e.a e.l e.c] 49)))
      have HC2 := Hid.mk9 ((B8.new wr 49 (.int .i64 c.x.b) (.int .i64 c.x.d.k) (.int .i64 c.x.d.id) (.int .i64 c.x.d.zn) (.int .i64 c.x.d.rk) (.int .i64 c.x.d.wt) (.int .i64 c.x.d.g) (.slice c.a c.l c.c)).below (below_alloc _ (.cells #[.int .i64 e.x.b, .int .i64 e.x.d.k, .int .i64 e.x.d.id, .int .i64 e.x.d.zn, .int .i64 e.x.d.rk, .int .i64 e.x.d.wt, .int .i64 e.x.d.g, .slice e.a e.l e.c] 49)))
      have HE2 : Hid (B8 ((wr.alloc (.cells #[.int .i64 c.x.b, .int .i64 c.x.d.k, .int .i64 c.x.d.id, .int .i64 c.x.d.zn, .int .i64 c.x.d.rk, .int .i64 c.x.d.wt, .int .i64 c.x.d.g, .slice c.a c.l c.c] 49)).alloc (.cells #[.int .i64 e.x.b, .int .i64 e.x.d.k, .int .i64 e.x.d.id, .int .i64 e.x.d.zn, .int .i64 e.x.d.rk, .int .i64 e.x.d.wt, .int .i64 e.x.d.g, .slice e.a e.l e.c] 49)) (wr.heap.size + 1) 49 (.int .i64 e.x.b) (.int .i64 e.x.d.k) (.int .i64 e.x.d.id) (.int .i64 e.x.d.zn) (.int .i64 e.x.d.rk) (.int .i64 e.x.d.wt) (.int .i64 e.x.d.g) (.slice e.a e.l e.c)) := by
        have := B8.new (wr.alloc (.cells #[.int .i64 c.x.b, .int .i64 c.x.d.k, .int .i64 c.x.d.id, .int .i64 c.x.d.zn, .int .i64 c.x.d.rk, .int .i64 c.x.d.wt, .int .i64 c.x.d.g, .slice c.a c.l c.c] 49)) 49 (.int .i64 e.x.b) (.int .i64 e.x.d.k) (.int .i64 e.x.d.id) (.int .i64 e.x.d.zn) (.int .i64 e.x.d.rk) (.int .i64 e.x.d.wt) (.int .i64 e.x.d.g) (.slice e.a e.l e.c)
        rw [show (wr.alloc (.cells #[.int .i64 c.x.b, .int .i64 c.x.d.k, .int .i64 c.x.d.id, .int .i64 c.x.d.zn, .int .i64 c.x.d.rk, .int .i64 c.x.d.wt, .int .i64 c.x.d.g, .slice c.a c.l c.c] 49)).heap.size = wr.heap.size + 1 from by simp] at this
        exact this
      have HRC := Hid.mk9 (hrc.below HB2.out)
      have HRE := Hid.mk9 (hre.below HB2.out)
      clear hc he hxc hxe hrc hre hT hba
      go_upto_region 7 with fail
      clear x0 x1 x2 x3 x4 x5 x6 x7 y0 y1 y2 y3 y4 y5 y6 y7
      have HW2 := Hid.mk9 (below2 hwr.out HB2.out)
      clear HB2
      generalize ((wr.alloc (.cells #[.int .i64 c.x.b, .int .i64 c.x.d.k, .int .i64 c.x.d.id, .int .i64 c.x.d.zn, .int .i64 c.x.d.rk, .int .i64 c.x.d.wt, .int .i64 c.x.d.g, .slice c.a c.l c.c] 49)).alloc (.cells #[.int .i64 e.x.b, .int .i64 e.x.d.k, .int .i64 e.x.d.id, .int .i64 e.x.d.zn, .int .i64 e.x.d.rk, .int .i64 e.x.d.wt, .int .i64 e.x.d.g, .slice e.a e.l e.c] 49)) = w2 at *
      obtain ⟨Y, hY⟩ : ∃ Y, wr.heap.size = Y := ⟨_, rfl⟩
      rw [hY] at HC2 HE2 ⊢
      clear hY
      obtain ⟨x0, x1, x2, x3, x4, x5, x6, x7⟩ := HC2.out.cells
      obtain ⟨y0, y1, y2, y3, y4, y5, y6, y7⟩ := HE2.out.cells
      cases hq : eqA c.x e.x with
      | true =>
        have HQ := Hid.mk9 hq
        have HT2 := Hid.mk9 (HNX.out hq)
        clear hq HNX HNK
        go_wp2_with (go_at_call 33; refine (sameAcc_any c.x e.x c.a e.a c.l c.c e.l e.c _ HRC.out HRE.out).mono ?_; rintro en w6 ⟨rfl, hb6⟩; rw [HQ.out]; have HW6 := Hid.mk9 (below2 HW2.out hb6); clear hb6 x0 x1 x2 x3 x4 x5 x6 x7 y0 y1 y2 y3 y4 y5 y6 y7)
        exact ⟨⟨k + 1, by omega, by go_num, HW6, HT2⟩, by simp [intOf]; omega⟩
      | false =>
        have HQ := Hid.mk9 hq
        have hqf := HNK.out hq
        subst hqf
        clear hq HNX HNK HE HNE
        go_wp2_with (go_at_call 33; refine (sameAcc_any c.x e.x c.a e.a c.l c.c e.l e.c _ HRC.out HRE.out).mono ?_; rintro en w6 ⟨rfl, hb6⟩; rw [HQ.out]; have HW6 := Hid.mk9 (below2 HW2.out hb6); clear hb6 x0 x1 x2 x3 x4 x5 x6 x7 y0 y1 y2 y3 y4 y5 y6 y7)
        go_ret
        exact ⟨rfl, HW6.out⟩
    · obtain rfl : k = la := by omega
      have hq0 : q = true := HE.out hT.out
      subst hq0
      clear HE HNE hT
      go_wp2_with fail
      go_ret
      exact ⟨rfl, hwr.out⟩
def eqS (p r : Int) (ls ms : List Acd) : Bool := decide (p = r) && eqL ls ms
theorem eqS_iff (p r : Int) (ls ms : List Acd) : eqS p r ls ms = true ↔ p = r ∧ ls = ms := by
  unfold eqS
  rw [Bool.and_eq_true, decide_eq_true_iff, eqL_iff]
set_option maxHeartbeats 4000000 in
set_option maxRecDepth 60000 in
theorem refSame_any (p r : Int) (a b : Option Addr) (la ca lb cb : Nat) (ls ms : List Acd) (w : World) (hl : AcsAt w a la ca ls) (hr : AcsAt w b lb cb ms) :
    Calls Try.prog 13 #[.agg #[.int .i64 p, .slice a la ca], .agg #[.int .i64 r, .slice b lb cb]] w fun en w' => en = .returned (.bool (eqS p r ls ms)) ∧ Below w.heap.size w w' := by
  have HBa := Hid.mk9 (below2 (below_alloc w (.cells #[.int .i64 p, .slice a la ca] 24)) (below_alloc _ (.cells #[.int .i64 r, .slice b lb cb] 24)))
  have HX0 := Hid.mk9 ((B2.new w 24 (.int .i64 p) (.slice a la ca)).below (below_alloc _ (.cells #[.int .i64 r, .slice b lb cb] 24)))
  have HY0 : Hid (B2 ((w.alloc (.cells #[.int .i64 p, .slice a la ca] 24)).alloc (.cells #[.int .i64 r, .slice b lb cb] 24)) (w.heap.size + 1) 24 (.int .i64 r) (.slice b lb cb)) := by
    have := B2.new (w.alloc (.cells #[.int .i64 p, .slice a la ca] 24)) 24 (.int .i64 r) (.slice b lb cb)
    rw [show (w.alloc (.cells #[.int .i64 p, .slice a la ca] 24)).heap.size = w.heap.size + 1 from by simp] at this
    exact this
  have HI := Hid.mk9 (list_any a b la ca lb cb ls ms _ (hl.below HBa.out) (hr.below HBa.out))
  obtain ⟨q, hq⟩ : ∃ q, q = eqS p r ls ms := ⟨_, rfl⟩
  rw [← hq]
  have HQ := Hid.mk9 hq
  clear hl hr hq
  go_enter Try.func13, Try.ntmps13
  go_upto_region 1 with fail
  generalize (w.alloc (.cells #[.int .i64 p, .slice a la ca] 24)).alloc (.cells #[.int .i64 r, .slice b lb cb] 24) = w1 at *
  obtain ⟨p0, p1⟩ := HX0.out.cells
  obtain ⟨q0, q1⟩ := HY0.out.cells
  clear HX0 HY0
  by_cases c0 : p = r
  · have hq : eqS p r ls ms = eqL ls ms := by simp [eqS, c0]
    obtain rfl := HQ.out.trans hq
    rw [c0] at p0
    clear hq c0 HQ
    go_wp2_with (go_at_call 16; refine HI.out.mono ?_; rintro en w2 ⟨rfl, hg2⟩; have HB2 := Hid.mk9 (below2 HBa.out hg2); clear hg2)
    go_ret
    exact ⟨rfl, HB2.out⟩
  · have hq : eqS p r ls ms = false := by simp [eqS, c0]
    obtain rfl := HQ.out.trans hq
    go_wp2_with fail
    go_ret
    exact ⟨rfl, HBa.out⟩
set_option maxHeartbeats 4000000 in
set_option maxRecDepth 60000 in
theorem same_any (p r : Int) (a b : Option Addr) (la ca lb cb : Nat) (ls ms : List Acd) (w : World) (hl : AcsAt w a la ca ls) (hr : AcsAt w b lb cb ms) :
    Calls Try.prog 17 #[.agg #[.int .i64 p, .slice a la ca], .agg #[.int .i64 r, .slice b lb cb]] w fun en w' => en = .returned (.bool (eqS p r ls ms)) ∧ Below w.heap.size w w' := by
  have HBa := Hid.mk9 (below2 (below_alloc w (.cells #[.int .i64 p, .slice a la ca] 24)) (below_alloc _ (.cells #[.int .i64 r, .slice b lb cb] 24)))
  have HX0 := Hid.mk9 ((B2.new w 24 (.int .i64 p) (.slice a la ca)).below (below_alloc _ (.cells #[.int .i64 r, .slice b lb cb] 24)))
  have HY0 : Hid (B2 ((w.alloc (.cells #[.int .i64 p, .slice a la ca] 24)).alloc (.cells #[.int .i64 r, .slice b lb cb] 24)) (w.heap.size + 1) 24 (.int .i64 r) (.slice b lb cb)) := by
    have := B2.new (w.alloc (.cells #[.int .i64 p, .slice a la ca] 24)) 24 (.int .i64 r) (.slice b lb cb)
    rw [show (w.alloc (.cells #[.int .i64 p, .slice a la ca] 24)).heap.size = w.heap.size + 1 from by simp] at this
    exact this
  have HI := Hid.mk9 (eqFunc_any a b la ca lb cb ls ms _ (hl.below HBa.out) (hr.below HBa.out))
  obtain ⟨q, hq⟩ : ∃ q, q = eqS p r ls ms := ⟨_, rfl⟩
  rw [← hq]
  have HQ := Hid.mk9 hq
  clear hl hr hq
  go_enter Try.func17, Try.ntmps17
  go_upto_region 1 with fail
  generalize (w.alloc (.cells #[.int .i64 p, .slice a la ca] 24)).alloc (.cells #[.int .i64 r, .slice b lb cb] 24) = w1 at *
  obtain ⟨p0, p1⟩ := HX0.out.cells
  obtain ⟨q0, q1⟩ := HY0.out.cells
  clear HX0 HY0
  by_cases c0 : p = r
  · have hq : eqS p r ls ms = eqL ls ms := by simp [eqS, c0]
    obtain rfl := HQ.out.trans hq
    rw [c0] at p0
    clear hq c0 HQ
    go_wp2_with (go_at_call 32; refine HI.out.mono ?_; rintro en w2 ⟨rfl, hg2⟩; have HB2 := Hid.mk9 (below2 HBa.out hg2); clear hg2)
    go_ret
    exact ⟨rfl, HB2.out⟩
  · have hq : eqS p r ls ms = false := by simp [eqS, c0]
    obtain rfl := HQ.out.trans hq
    go_wp2_with fail
    go_ret
    exact ⟨rfl, HBa.out⟩
end Go.Proofs.Ytejhmacbbdnlbaa.Ac
