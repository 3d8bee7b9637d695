/-
  keep: what is pending is kept where the pattern says so.
-/
import Derived.Test.YtmkmogkhkmlnkaaDmE
namespace Go.Proofs.Ytmkmogkhkmlnkaa.Dm
open Go.ChangeShapes Go.WideShapes Go.ChangeAt Go.RowKit
theorem Kd.chgK {a s k : Nat} {X : Array Value} {t : TypeId} {w w' : World} (h : Chg k X t w w') : Kd a s k w w' := fun j _ hj _ _ h2 _ => (h.ne j h2).trans hj
theorem chg_drew {g : Nat} {X : Array Value} {t : TypeId} {w w' : World} (h : Chg g X t w.drew w') : Chg g X t w w' := ⟨h.os, h.tape, h.output, h.size, h.at_, h.ne⟩
set_option maxHeartbeats 4000000 in
set_option maxRecDepth 60000 in
theorem keep_put (t1 t2 t3 t4 t6 t7 t8 t9 t10 t11 t12 t13 t14 t15 t16 t17 t18 t19 t20 t21 t22 t23 t24 t25 t26 t27 t28 t29 t30 t31 t32 t33 t34 t35 t36 t37 t38 t39 t40 t41 : Value) (B a s k n x p : Nat) (c : List UInt8) (D : Dm) (pv : Value) (w1 : World) (Q : Exit → Act → World → Prop)
    (h : DmAt B a s k n D pv w1) (hx : w1.heap[x]? = some (.cells (.int .i64 (p : Int) :: cellsB c).toArray 90 (0, 0))) (hc : c.length = 64) (hp : p < n)
    (hQ : Hid (∀ (u28 u29 u30 u31 u32 u33 u34 u35 u36 u37 : Value) (wC : World), Chg k (cellsB (splice D.kept (64 * p) c)).toArray 5 w1 wC → Q .normal ⟨#[.pointer (some ⟨a, 0, none⟩), t1, t2, t3, t4, .pointer (some ⟨x, 0, none⟩), t6, t7, t8, t9, t10, t11, t12, t13, t14, t15, t16, t17, t18, t19, t20, t21, t22, t23, t24, t25, t26, t27, u28, u29, u30, u31, u32, u33, u34, u35, u36, u37, t38, t39, t40, t41], []⟩ wC)) :
    Code.wp Try.prog ((Try.f34.body.bind (regionOf 4)).getD .skip) Q ⟨#[.pointer (some ⟨a, 0, none⟩), t1, t2, t3, t4, .pointer (some ⟨x, 0, none⟩), t6, t7, t8, t9, t10, t11, t12, t13, t14, t15, t16, t17, t18, t19, t20, t21, t22, t23, t24, t25, t26, t27, t28, t29, t30, t31, t32, t33, t34, t35, t36, t37, t38, t39, t40, t41], []⟩ w1 := by
  have hn := h.ok.n1
  have c1 : w1.drew.cell? ⟨a, 1, none⟩ = some (.slice (some ⟨k, 0, none⟩) (64 * n) (64 * n)) := h.c1
  have x0 : w1.drew.cell? ⟨x, 0, none⟩ = some (.int .i64 (p : Int)) := by rw [cell_of_heap (w := w1.drew) hx]; rfl
  have HX : Hid (∀ j v, (cellsB c)[j]? = some v → w1.drew.cell? ((⟨x, 1, none⟩ : Addr).add j) = some v) := fun j v hj => by
    rw [addr_add, cell_of_heap (w := w1.drew) hx, Nat.add_comm]
    simpa using hj
  have HK : Hid (w1.drew.heap[k]? = some (.cells (cellsB D.kept).toArray 5 (0, 0))) := h.hkept
  have HKL : Hid (D.kept.length = 64 * n) := h.ok.kept
  have HC : Hid (c.length = 64) := hc
  clear h hx hc
  conv => arg 2; whnf
  refine wp_region_but (S := fun w' => w' = w1.drew) (n := 9) mixed9 ?_
  refine but_take (i := 0) (v := .pointer (some ⟨a, 0, none⟩)) rfl (by kernel_rfl) (fun _ _ _ h => h) (.inl ⟨rfl, fun w hS => ?_⟩) rfl ?_
  · obtain rfl := hS
    go_simp
  simp only [Act.put, List.setIfInBounds_toArray, List.set_cons_zero, List.set_cons_succ]
  refine but_take (i := 1) (v := .pointer (some ⟨a, 0, none⟩)) rfl (by kernel_rfl) (fun _ _ _ h => h) (.inl ⟨rfl, fun w hS => ?_⟩) rfl ?_
  · obtain rfl := hS
    go_simp
  simp only [Act.put, List.setIfInBounds_toArray, List.set_cons_zero, List.set_cons_succ]
  refine but_take (i := 2) (v := .pointer (some ⟨a, 1, none⟩)) rfl (by kernel_rfl) (fun _ _ _ h => h) (.inl ⟨rfl, fun w hS => ?_⟩) rfl ?_
  · obtain rfl := hS
    go_simp
  simp only [Act.put, List.setIfInBounds_toArray, List.set_cons_zero, List.set_cons_succ]
  refine but_take (i := 3) (v := .slice (some ⟨k, 0, none⟩) (64 * n) (64 * n)) rfl (by kernel_rfl) (fun _ _ _ h => h) (.inl ⟨rfl, fun w hS => ?_⟩) rfl ?_
  · obtain rfl := hS
    go_simp
  simp only [Act.put, List.setIfInBounds_toArray, List.set_cons_zero, List.set_cons_succ]
  refine but_take (i := 4) (v := .pointer (some ⟨x, 0, none⟩)) rfl (by kernel_rfl) (fun _ _ _ h => h) (.inl ⟨rfl, fun w hS => ?_⟩) rfl ?_
  · obtain rfl := hS
    go_simp
  simp only [Act.put, List.setIfInBounds_toArray, List.set_cons_zero, List.set_cons_succ]
  refine but_take (i := 5) (v := .int .i64 (p : Int)) rfl (by kernel_rfl) (fun _ _ _ h => h) (.inl ⟨rfl, fun w hS => ?_⟩) rfl ?_
  · obtain rfl := hS
    go_simp
  simp only [Act.put, List.setIfInBounds_toArray, List.set_cons_zero, List.set_cons_succ]
  refine but_take (i := 7) (v := .pointer (some ⟨x, 1, none⟩)) rfl (by kernel_rfl) (fun _ _ _ h => h) (.inl ⟨rfl, fun w hS => ?_⟩) rfl ?_
  · obtain rfl := hS
    go_simp
  simp only [Act.put, List.setIfInBounds_toArray, List.set_cons_zero, List.set_cons_succ]
  refine but_take (i := 8) (v := .slice (some ⟨x, 1, none⟩) 64 64) rfl (by kernel_rfl) (fun _ _ _ h => h) (.inl ⟨rfl, fun w hS => ?_⟩) rfl ?_
  · obtain rfl := hS
    go_simp
  simp only [Act.put, List.setIfInBounds_toArray, List.set_cons_zero, List.set_cons_succ]
  refine but_one (i := 6) (by kernel_rfl) rfl rfl ?_
  intro K hK
  go_simp
  go_at_call 47
  refine (sector_any k 0 (64 * n) (64 * n) p (by omega) (Nat.le_refl _) (by omega) _).mono ?_
  rintro e w2 ⟨rfl, rfl⟩
  refine hK.out _ _ (fun _ => rfl) ?_
  clear hK
  simp only [Nat.zero_add]
  refine but_one (i := 9) (by kernel_rfl) rfl rfl ?_
  intro K hK
  refine wp_copy_chg (.tmp 34) (.tmp 36) 39 39 rfl 5 Try.underlying39 info5 k (64 * p) 64 (64 * n - 64 * p) ⟨x, 1, none⟩ 64 64 rfl rfl (cellsB D.kept) 5 HK.out (cellsB c) (by rw [cellsB_length, HC.out]; rfl) HX.out (by rw [cellsB_length, cellsB_length, HC.out, HKL.out]; omega) (cellsB_one _) ?_
  intro w3 hw3
  refine hK.out _ _ (fun h => absurd rfl h) ?_
  simp only [Act.put, List.setIfInBounds_toArray, List.set_cons_zero, List.set_cons_succ]
  refine AnyBut.done (by kernel_rfl) ?_ _
  refine NoPanic.normal ?_
  refine hQ.out _ _ _ _ _ _ _ _ _ _ _ ?_
  have := chg_drew hw3.out
  rwa [cellsB_splice] at this
def patF (l : List Bool) (i : Nat) : Bool := decide (0 < l.length) && l.getD (i % l.length) false
/-- a pattern that lies elsewhere -/
structure Pat (B a s k : Nat) (pa : Option Addr) (l : List Bool) (w : World) : Prop where
  at_ : l.length = 0 ∨ ∃ g off, pa = some ⟨g, off, none⟩ ∧ g ≠ a ∧ g ≠ s ∧ g ≠ k ∧ (g < B ∨ ∃ cs T fz, w.heap[g]? = some (.cells cs T fz) ∧ T ≠ 90) ∧ ∀ i, i < l.length → w.cell? ⟨g, off + i, none⟩ = some (.bool (l.getD i false))
theorem Pat.kd {B a s k : Nat} {pa : Option Addr} {l : List Bool} {w w' : World} (h : Pat B a s k pa l w) (hb : Below B w w') (hk : Kd a s k w w') : Pat B a s k pa l w' := by
  obtain h | ⟨g, off, e, ga, gs, gk, hg | ⟨cs, T, fz, hg, hT⟩, hc⟩ := h.at_
  · exact ⟨.inl h⟩
  · exact ⟨.inr ⟨g, off, e, ga, gs, gk, .inl hg, fun i hi => (hb.cell (p := ⟨g, off + i, none⟩) hg).trans (hc i hi)⟩⟩
  · have e' := hk g _ hg ga gs gk (by intro c' fz' e; injection e with _ e; exact hT e)
    exact ⟨.inr ⟨g, off, e, ga, gs, gk, .inr ⟨cs, T, fz, e', hT⟩, fun i hi => (World.cell?_of_block (a := ⟨g, off + i, none⟩) (e'.trans hg.symm)).trans (hc i hi)⟩⟩
def keepN (K : List UInt8) (P : List (Nat × List UInt8)) (f : Nat → Bool) : Nat → List UInt8
  | 0 => K
  | i + 1 => if f i then splice (keepN K P f i) (64 * (P.getD i (0, [])).1) (P.getD i (0, [])).2 else keepN K P f i
def keepD (D : Dm) (f : Nat → Bool) : Dm := { D with kept := keepN D.kept D.pend f D.pend.length, pend := [] }
theorem keepN_length (K : List UInt8) (P : List (Nat × List UInt8)) (f : Nat → Bool) (n : Nat) (hK : K.length = 64 * n) (hP : ∀ x ∈ P, x.1 < n ∧ x.2.length = 64) (i : Nat) (hi : i ≤ P.length) : (keepN K P f i).length = 64 * n := by
  induction i with
  | zero => exact hK
  | succ i ih =>
    have ih := ih (by omega)
    unfold keepN
    split
    · have hx := hP (P.getD i (0, [])) (by rw [List.getD_eq_getElem?_getD, List.getElem?_eq_getElem (by omega : i < P.length)]; exact List.getElem_mem _)
      rw [length_splice _ _ _ (by omega)]
      exact ih
    · exact ih
theorem cellsW_get : ∀ (P : List (Nat × List UInt8)) (_ : ∀ x ∈ P, x.2.length = 64) (j : Nat) (x : Nat × List UInt8) (_ : P[j]? = some x) (i : Nat) (v : Value) (_ : (Value.int .i64 (x.1 : Int) :: cellsB x.2)[i]? = some v), (cellsW P)[j * 65 + i]? = some v
  | [], _, _, _, hx, _, _, _ => by cases hx
  | y :: P, hP, 0, x, hx, i, v, hv => by
    obtain rfl : y = x := by simpa using hx
    have hi : i < (Value.int .i64 (y.1 : Int) :: cellsB y.2).length := (List.getElem?_eq_some_iff.1 hv).1
    show ((Value.int .i64 (y.1 : Int) :: cellsB y.2) ++ cellsW P)[0 * 65 + i]? = _
    rw [Nat.zero_mul, Nat.zero_add, List.getElem?_append_left hi]
    exact hv
  | y :: P, hP, j + 1, x, hx, i, v, hv => by
    have ih := cellsW_get P (fun z hz => hP z (List.mem_cons_of_mem _ hz)) j x (by simpa using hx) i v hv
    have hl : (Value.int .i64 (y.1 : Int) :: cellsB y.2).length = 65 := by simp [cellsB_length, hP y (List.mem_cons_self ..)]
    show ((Value.int .i64 (y.1 : Int) :: cellsB y.2) ++ cellsW P)[(j + 1) * 65 + i]? = _
    rw [List.getElem?_append_right (by omega), hl, show (j + 1) * 65 + i - 65 = j * 65 + i by omega]
    exact ih
set_option maxHeartbeats 4000000 in
set_option maxRecDepth 60000 in
theorem keep_any {B a s k n : Nat} {D : Dm} {pv : Value} (w : World) (h : DmAt B a s k n D pv w) (pa : Option Addr) (cap : Nat) (l : List Bool) (L : Nat) (hL : l.length = L) (hpat : Pat B a s k pa l w) (hl : (L : Int) ≤ 9223372036854775807) :
    Calls Try.prog 34 #[.pointer (some ⟨a, 0, none⟩), .slice pa L cap] w fun e w' => e = .returned (.tuple #[]) ∧ DPost B a s k n (keepD D (patF l)) w w' := by
  have HLL : Hid (l.length = L) := hL
  clear hL
  have c2 := h.c2
  have HI : Hid (DmAt B a s k n { D with kept := keepN D.kept D.pend (patF l) 0 } pv w ∧ Below B w w ∧ Kd a s k w w) := ⟨h, Below.refl _ _, Kd.refl _ _ _ _⟩
  have HPt : Hid (Pat B a s k pa l w) := hpat
  obtain ⟨pp, pc, rfl, hpm⟩ := own_len h.own
  have hpl : (D.pend.length : Int) ≤ 9223372036854775807 := by unfold maxLen at hpm; omega
  clear h hpat hpm
  go_enter Try.func34, Try.ntmps34
  go_wp2
  go_loopw [11] (fun i wr => ∃ j : Nat, j ≤ D.pend.length ∧ i = .int .i64 j ∧ Hid (DmAt B a s k n { D with kept := keepN D.kept D.pend (patF l) j } (.slice pp D.pend.length pc) wr ∧ Below B w wr ∧ Kd a s k w wr)) (fun i _ => D.pend.length - (intOf i).toNat)
  case atStart => exact ⟨0, Nat.zero_le _, rfl, HI⟩
  case round =>
    obtain ⟨j, hj, rfl, HJ⟩ := hrel
    by_cases hlt : j < D.pend.length
    · obtain ⟨hD, hb, hk⟩ := HJ.out
      obtain ⟨x, hx⟩ : ∃ x, D.pend[j]? = some x := ⟨_, List.getElem?_eq_getElem hlt⟩
      have hxm := hD.ok.pend x (List.mem_of_getElem? hx)
      obtain ⟨gp, rfl⟩ : ∃ gp, pp = some ⟨gp, 0, none⟩ := by
        obtain ⟨-, ⟨e, -⟩ | ⟨g, cap', cur, e, -⟩⟩ := hD.own
        · injection e with e1 e2 e3
          have e2 : D.pend.length = 0 := e2
          omega
        · injection e with e1 e2 e3
          exact ⟨g, e1⟩
      have hce : ∀ i v, (Value.int .i64 (x.1 : Int) :: cellsB x.2)[i]? = some v → wr.cell? ((⟨gp, j * 65, none⟩ : Addr).add i) = some v := fun i v hv => by
        have := hD.own.cells (g := gp) rfl (j * 65 + i) v (cellsW_get D.pend (fun y hy => (hD.ok.pend y hy).2) j x hx i v hv)
        rw [addr_add] at this ⊢
        rwa [Nat.zero_add] at this
      have HCE : Hid (∀ i v, (Value.int .i64 (x.1 : Int) :: cellsB x.2)[i]? = some v → wr.cell? ((⟨gp, j * 65, none⟩ : Addr).add i) = some v) := hce
      have HXM : Hid (x.1 < n ∧ x.2.length = 64) := hxm
      have HX : Hid (D.pend[j]? = some x) := hx
      clear hce hD hb hk hxm hx
      have HSZ : Hid ((Value.int .i64 (x.1 : Int) :: cellsB x.2).toArray.size = 65) := by
        show _ = _
        simp [cellsB_length, HXM.out.2]
      have HONE : Hid (((Value.int .i64 (x.1 : Int) :: cellsB x.2).toArray.all fun x => x.oneCell') = true) := by
        show _ = _
        rw [Array.all_eq_true_iff_forall_mem]
        intro u hu
        rcases List.mem_cons.1 (by simpa using hu : u ∈ Value.int .i64 (x.1 : Int) :: cellsB x.2) with rfl | hu
        · rfl
        · exact cellsB_one _ _ hu
      go_upto_region 3 with (first | (refine wpList_load_agg rfl (.tmp 14) 90 rfl gp (j * 65) rfl Try.isAgg90 (Value.int .i64 (x.1 : Int) :: cellsB x.2) (by intro w; rw [Try.sizeOf90 w]; simp [cellsB_length, HXM.out.2]) HCE.out ?_) | (refine wpList_alloc rfl rfl ?_; intro w3 hx3 hb3) | (refine wpList_store rfl (.tmp 5) (.tmp 15) rfl wr.heap.size rfl (Value.int .i64 (x.1 : Int) :: cellsB x.2).toArray (zeroAt 0) rfl hx3.out.1 HSZ.out rfl HONE.out ?_; intro w4 hw4))
      have hb4 : Below wr.heap.size wr w4 := hb3.out.trans (hw4.out.below (Nat.le_refl _))
      have HX4 : Hid (w4.heap[wr.heap.size]? = some (.cells (Value.int .i64 (x.1 : Int) :: cellsB x.2).toArray 90 (0, 0))) := hw4.out.at_
      have HD4 : Hid (DmAt B a s k n { D with kept := keepN D.kept D.pend (patF l) j } (.slice (some ⟨gp, 0, none⟩) D.pend.length pc) w4 ∧ Below B w w4 ∧ Kd a s k w w4) := by
        obtain ⟨hD, hb, hk⟩ := HJ.out
        exact ⟨hD.below hb4, hb.trans ⟨hb4.os, hb4.tape, hb4.output, hb4.size, fun i hi => hb4.block i (by have := hD.ba; have := hD.lt (.inl rfl); omega)⟩, hk.trans (Kd.below hb4)⟩
      have hP4 := HPt.out.kd HD4.out.2.1 HD4.out.2.2
      have HG : Hid (keepN D.kept D.pend (patF l) (j + 1) = if patF l j then splice (keepN D.kept D.pend (patF l) j) (64 * x.1) x.2 else keepN D.kept D.pend (patF l) j) := by
        show (if patF l j then splice (keepN D.kept D.pend (patF l) j) (64 * (D.pend.getD j (0, [])).1) (D.pend.getD j (0, [])).2 else keepN D.kept D.pend (patF l) j) = _
        rw [List.getD_eq_getElem?_getD, HX.out]
        rfl
      clear hx3 hb3 hw4 hb4 HSZ HONE HCE HX
      have HOFF : patF l j = false → Hid (DmAt B a s k n { D with kept := keepN D.kept D.pend (patF l) (j + 1) } (.slice (some ⟨gp, 0, none⟩) D.pend.length pc) w4 ∧ Below B w w4 ∧ Kd a s k w w4) := fun hf => by
        show _ ∧ _
        rw [HG.out, hf]
        exact HD4.out
      obtain hl0 | ⟨g, off, rfl, -, -, -, -, hc⟩ := hP4.at_
      · have HN := HOFF (by simp [patF, hl0])
        have hl0' : ¬ 0 < (L : Int) := by have := HLL.out; omega
        clear HOFF HG hl0
        go_wp2
        go_roundw
        case rel => exact ⟨j + 1, by omega, by go_num, HN⟩
        case measure => simp [intOf]; omega
      · by_cases hl0 : l.length = 0
        · have HN := HOFF (by simp [patF, hl0])
          have hl0' : ¬ 0 < (L : Int) := by have := HLL.out; omega
          clear HOFF HG hl0 hc
          go_wp2
          go_roundw
          case rel => exact ⟨j + 1, by omega, by go_num, HN⟩
          case measure => simp [intOf]; omega
        · have hm : j % l.length < l.length := Nat.mod_lt _ (by omega)
          have hcm := hc (j % l.length) hm
          have hpf : patF l j = l.getD (j % l.length) false := by simp [patF]; omega
          rw [HLL.out] at hm hcm hpf
          have hmod : (j : Int).tmod (L : Int) = ((j % L : Nat) : Int) := by
            rw [Int.tmod_eq_emod_of_nonneg (by omega)]
            exact (Int.natCast_emod j L).symm
          have hll : 0 < (L : Int) := by have := HLL.out; omega
          have hne : ¬ (L : Int) = 0 := by omega
          have hmi : ((j % L : Nat) : Int) < (L : Int) := by omega
          clear hc hl0
          generalize l.getD (j % L) false = b at hcm hpf
          generalize j % L = q at hcm hmod hmi hm
          cases b
          · have HN := HOFF hpf
            clear HOFF HG hpf
            go_wp2
            go_roundw
            case rel => exact ⟨j + 1, by omega, by go_num, HN⟩
            case measure => simp [intOf]; omega
          · have HE := HG.out
            rw [hpf] at HE
            have HE2 : Hid (keepN D.kept D.pend (patF l) (j + 1) = splice (keepN D.kept D.pend (patF l) j) (64 * x.1) x.2) := HE
            clear HOFF HG hpf HE
            go_upto_region 4 with fail
            refine keep_put _ _ _ _ _ _ _ _ _ _ _ _ _ _ _ _ _ _ _ _ _ _ _ _ _ _ _ _ _ _ _ _ _ _ _ _ _ _ _ _ B a s k n wr.heap.size x.1 x.2 _ _ w4 _ HD4.out.1 HX4.out HXM.out.2 HXM.out.1 (fun u28 u29 u30 u31 u32 u33 u34 u35 u36 u37 wC hC => ?_)
            have HN : Hid (DmAt B a s k n { D with kept := keepN D.kept D.pend (patF l) (j + 1) } (.slice (some ⟨gp, 0, none⟩) D.pend.length pc) wC ∧ Below B w wC ∧ Kd a s k w wC) := by
              show _ ∧ _
              rw [HE2.out]
              obtain ⟨hD, hb, hk⟩ := HD4.out
              exact ⟨hD.setKept _ (by rw [length_splice _ _ _ (by rw [hD.ok.kept, HXM.out.2]; have := HXM.out.1; omega)]; exact hD.ok.kept) hC.at_ hC.ne, hb.trans (hC.below hD.bk), hk.trans (Kd.chgK hC)⟩
            clear hC HE2
            go_wp2
            go_roundw
            case rel => exact ⟨j + 1, by omega, by go_num, HN⟩
            case measure => simp [intOf]; omega
    · obtain rfl : j = D.pend.length := by omega
      obtain ⟨hD, hb, hk⟩ := HJ.out
      have c2' := hD.c2
      have f2' := hD.fz 2
      have HP : Hid (DPost B a s k n (keepD D (patF l)) w (wr.setCell ⟨a, 2, none⟩ (.slice none 0 0))) := ⟨⟨_, hD.set2 (.slice none 0 0) [] (by simp) (World.ownsRow_nil _ _ _ _)⟩, hb.trans (below_setCell _ _ _ hD.ba), hk.trans (Kd.setCell _ _ _)⟩
      clear hD hb hk
      go_wp2
      first | go_end0 | refine bodyPost_ret (results_none rfl _ _ _) rfl ?_
      exact ⟨rfl, HP.out⟩
end Go.Proofs.Ytmkmogkhkmlnkaa.Dm
