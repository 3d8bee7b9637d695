/-
  Sync, Crash, Read.
-/
import Derived.Test.YtmkmogkhkmlnkaaDmF
namespace Go.Proofs.Ytmkmogkhkmlnkaa.Dm
open Go.ChangeShapes Go.WideShapes Go.ChangeAt Go.RowKit
theorem patF_yes : patF [true] = fun _ => true := by
  funext i
  simp [patF, Nat.mod_one]
def syncD (D : Dm) : Dm := if D.gone then D else keepD D fun _ => true
theorem below_low {B : Nat} {w w' : World} (h : Below w.heap.size w w') (hB : B ≤ w.heap.size) : Below B w w' := ⟨h.os, h.tape, h.output, h.size, fun j hj => h.block j (by omega)⟩
theorem DmAt.low {B a s k n : Nat} {D : Dm} {pv : Value} {w : World} (h : DmAt B a s k n D pv w) : B ≤ w.heap.size := by
  have := h.ba
  have := h.lt (.inl rfl)
  omega
set_option maxHeartbeats 2000000 in
theorem sync_any {B a s k n : Nat} {D : Dm} {pv : Value} (w : World) (h : DmAt B a s k n D pv w) :
    Calls Try.prog 27 #[.pointer (some ⟨a, 0, none⟩)] w fun e w' => e = .returned (.tuple #[]) ∧ DPost B a s k n (syncD D) w w' := by
  have c5 := h.c5
  cases hG : D.gone
  · rw [hG] at c5
    have hb := below_alloc w (.cells #[.bool true] 4)
    have hD := h.below hb
    have hla := h.lt (.inl rfl)
    have hls := h.lt (.inr (.inl rfl))
    have hlk := h.lt (.inr (.inr (.inl rfl)))
    have hpat : Pat B a s k (some ⟨w.heap.size, 0, none⟩) [true] (w.alloc (.cells #[.bool true] 4)) := ⟨.inr ⟨w.heap.size, 0, rfl, by omega, by omega, by omega, .inr ⟨_, _, _, heap_alloc_new w _, by decide⟩, fun i hi => by
      obtain rfl : i = 0 := by simpa using hi
      rw [cell_of_heap (heap_alloc_new w _)]
      rfl⟩⟩
    have HK := keep_any _ hD (some ⟨w.heap.size, 0, none⟩) 1 [true] 1 rfl hpat (by decide)
    have HE : Hid (syncD D = keepD D (patF [true])) := by
      show _ = _
      rw [patF_yes]
      simp [syncD, hG]
    have HB : Hid (Below B w (w.alloc (.cells #[.bool true] 4)) ∧ Kd a s k w (w.alloc (.cells #[.bool true] 4))) := ⟨below_low hb h.low, Kd.below hb⟩
    clear h hb hD hla hls hlk hpat hG
    go_enter Try.func27, Try.ntmps27
    go_wp2_with (go_at_call 34; refine HK.mono ?_; rintro e w1 ⟨rfl, hP⟩)
    first | go_end0 | refine bodyPost_ret (results_none rfl _ _ _) rfl ?_
    rw [HE.out]
    exact ⟨rfl, hP.1, HB.out.1.trans hP.2.1, HB.out.2.trans hP.2.2⟩
  · rw [hG] at c5
    have HE : Hid (syncD D = D) := by
      show _ = _
      simp [syncD, hG]
    have HH : Hid (DmAt B a s k n D pv w) := h
    clear h hG
    go_enter Try.func27, Try.ntmps27
    go_wp2
    first | go_end0 | refine bodyPost_ret (results_none rfl _ _ _) rfl ?_
    rw [HE.out]
    exact ⟨rfl, ⟨pv, HH.out⟩, Below.refl _ _, Kd.refl _ _ _ _⟩
theorem splice_all (A C : List UInt8) (h : A.length = C.length) : splice A 0 C = C := by simp [splice, h]
set_option maxHeartbeats 4000000 in
set_option maxRecDepth 60000 in
theorem crash_put (t1 t2 t3 t4 t5 t6 t7 t8 t9 t10 t11 t12 t13 t14 t15 t16 t17 t18 t19 t20 : Value) (B a s k n : Nat) (D : Dm) (pv : Value) (w1 : World) (Q : Exit → Act → World → Prop)
    (h : DmAt B a s k n D pv w1)
    (hQ : Hid (∀ (u9 u10 u11 u12 u13 u14 u15 u16 u17 : Value) (wC : World), Chg s (cellsB D.kept).toArray 5 w1 wC → Q .normal ⟨#[.pointer (some ⟨a, 0, none⟩), t1, t2, t3, t4, t5, t6, t7, t8, u9, u10, u11, u12, u13, u14, u15, u16, u17, t18, t19, t20], []⟩ wC)) :
    Code.wp Try.prog ((Try.f15.body.bind (regionOf 2)).getD .skip) Q ⟨#[.pointer (some ⟨a, 0, none⟩), t1, t2, t3, t4, t5, t6, t7, t8, t9, t10, t11, t12, t13, t14, t15, t16, t17, t18, t19, t20], []⟩ w1 := by
  have hn := h.ok.n1
  have c0 : w1.drew.cell? ⟨a, 0, none⟩ = some (.slice (some ⟨s, 0, none⟩) (64 * n) (64 * n)) := h.c0
  have c1 : w1.drew.cell? ⟨a, 1, none⟩ = some (.slice (some ⟨k, 0, none⟩) (64 * n) (64 * n)) := h.c1
  have HX : Hid (∀ j v, (cellsB D.kept)[j]? = some v → w1.drew.cell? ((⟨k, 0, none⟩ : Addr).add j) = some v) := fun j v hj => by
    rw [addr_add, Nat.zero_add, cell_of_heap (w := w1.drew) h.hkept]
    simpa using hj
  have HS : Hid (w1.drew.heap[s]? = some (.cells (cellsB D.seen).toArray 5 (0, 0))) := h.hseen
  have HKL : Hid (D.kept.length = 64 * n) := h.ok.kept
  have HSL : Hid (D.seen.length = 64 * n) := h.ok.seen
  clear h
  conv => arg 2; whnf
  refine wp_region_but (S := fun w' => w' = w1.drew) (n := 8) mixed9 ?_
  refine but_take (i := 0) (v := .pointer (some ⟨a, 0, none⟩)) rfl (by kernel_rfl) (fun _ _ _ h => h) (.inl ⟨rfl, fun w hS => ?_⟩) rfl ?_
  · obtain rfl := hS
    go_simp
  simp only [Act.put, List.setIfInBounds_toArray, List.set_cons_zero, List.set_cons_succ]
  refine but_take (i := 1) (v := .pointer (some ⟨a, 0, none⟩)) rfl (by kernel_rfl) (fun _ _ _ h => h) (.inl ⟨rfl, fun w hS => ?_⟩) rfl ?_
  · obtain rfl := hS
    go_simp
  simp only [Act.put, List.setIfInBounds_toArray, List.set_cons_zero, List.set_cons_succ]
  refine but_take (i := 2) (v := .pointer (some ⟨a, 0, none⟩)) rfl (by kernel_rfl) (fun _ _ _ h => h) (.inl ⟨rfl, fun w hS => ?_⟩) rfl ?_
  · obtain rfl := hS
    go_simp
  simp only [Act.put, List.setIfInBounds_toArray, List.set_cons_zero, List.set_cons_succ]
  refine but_take (i := 3) (v := .slice (some ⟨s, 0, none⟩) (64 * n) (64 * n)) rfl (by kernel_rfl) (fun _ _ _ h => h) (.inl ⟨rfl, fun w hS => ?_⟩) rfl ?_
  · obtain rfl := hS
    go_simp
  simp only [Act.put, List.setIfInBounds_toArray, List.set_cons_zero, List.set_cons_succ]
  refine but_take (i := 4) (v := .pointer (some ⟨a, 0, none⟩)) rfl (by kernel_rfl) (fun _ _ _ h => h) (.inl ⟨rfl, fun w hS => ?_⟩) rfl ?_
  · obtain rfl := hS
    go_simp
  simp only [Act.put, List.setIfInBounds_toArray, List.set_cons_zero, List.set_cons_succ]
  refine but_take (i := 5) (v := .pointer (some ⟨a, 0, none⟩)) rfl (by kernel_rfl) (fun _ _ _ h => h) (.inl ⟨rfl, fun w hS => ?_⟩) rfl ?_
  · obtain rfl := hS
    go_simp
  simp only [Act.put, List.setIfInBounds_toArray, List.set_cons_zero, List.set_cons_succ]
  refine but_take (i := 6) (v := .pointer (some ⟨a, 1, none⟩)) rfl (by kernel_rfl) (fun _ _ _ h => h) (.inl ⟨rfl, fun w hS => ?_⟩) rfl ?_
  · obtain rfl := hS
    go_simp
  simp only [Act.put, List.setIfInBounds_toArray, List.set_cons_zero, List.set_cons_succ]
  refine but_take (i := 7) (v := .slice (some ⟨k, 0, none⟩) (64 * n) (64 * n)) rfl (by kernel_rfl) (fun _ _ _ h => h) (.inl ⟨rfl, fun w hS => ?_⟩) rfl ?_
  · obtain rfl := hS
    go_simp
  simp only [Act.put, List.setIfInBounds_toArray, List.set_cons_zero, List.set_cons_succ]
  refine but_one (i := 8) (by kernel_rfl) rfl rfl ?_
  intro K hK
  refine wp_copy_chg (.tmp 12) (.tmp 16) 39 39 rfl 5 Try.underlying39 info5 s 0 (64 * n) (64 * n) ⟨k, 0, none⟩ (64 * n) (64 * n) rfl rfl (cellsB D.seen) 5 HS.out (cellsB D.kept) (by rw [cellsB_length, HKL.out]; exact (Nat.min_self _).symm) HX.out (by rw [cellsB_length, cellsB_length, HKL.out, HSL.out]; omega) (cellsB_one _) ?_
  intro w3 hw3
  refine hK.out _ _ (fun h => absurd rfl h) ?_
  simp only [Act.put, List.setIfInBounds_toArray, List.set_cons_zero, List.set_cons_succ]
  refine AnyBut.done (by kernel_rfl) ?_ _
  refine NoPanic.normal ?_
  refine hQ.out _ _ _ _ _ _ _ _ _ _ ?_
  have := chg_drew hw3.out
  rwa [cellsB_splice, splice_all _ _ (by rw [HKL.out, HSL.out])] at this
def crashD (D : Dm) (f : Nat → Bool) : Dm := { keepD D f with seen := (keepD D f).kept, gone := false }
set_option maxHeartbeats 2000000 in
theorem crash_any {B a s k n : Nat} {D : Dm} {pv : Value} (w : World) (h : DmAt B a s k n D pv w) (pa : Option Addr) (cap : Nat) (l : List Bool) (L : Nat) (hL : l.length = L) (hpat : Pat B a s k pa l w) (hl : (L : Int) ≤ 9223372036854775807) :
    Calls Try.prog 15 #[.pointer (some ⟨a, 0, none⟩), .slice pa L cap] w fun e w' => e = .returned (.tuple #[]) ∧ DPost B a s k n (crashD D (patF l)) w w' := by
  have HK := keep_any w h pa cap l L hL hpat hl
  clear h hpat hL
  go_enter Try.func15, Try.ntmps15
  go_upto_region 2 with (go_at_call 34; refine HK.mono ?_; rintro e w1 ⟨rfl, hP⟩)
  obtain ⟨⟨pv1, hD1⟩, hb1, hk1⟩ := hP
  refine crash_put _ _ _ _ _ _ _ _ _ _ _ _ _ _ _ _ _ _ _ _ B a s k n _ pv1 w1 _ hD1 (fun u9 u10 u11 u12 u13 u14 u15 u16 u17 wC hC => ?_)
  have hD2 := hD1.setSeen (keepD D (patF l)).kept hD1.ok.kept hC.at_ hC.ne
  have hb2 : Below B w wC := hb1.trans (hC.below hD1.bs)
  have hk2 : Kd a s k w wC := hk1.trans (Kd.chg hC)
  have c5 := hD2.c5
  have f5 := hD2.fz 5
  have HP : Hid (DPost B a s k n (crashD D (patF l)) w (wC.setCell ⟨a, 5, none⟩ (.bool false))) := ⟨⟨_, hD2.set5 false⟩, hb2.trans (below_setCell _ _ _ hD2.ba), hk2.trans (Kd.setCell _ _ _)⟩
  clear hD1 hb1 hk1 hC hD2 hb2 hk2
  go_wp2
  first | go_end0 | refine bodyPost_ret (results_none rfl _ _ _) rfl ?_
  exact ⟨rfl, HP.out⟩
theorem info5z : (Try.prog.info? 5).map (fun i => (i.zero, i.size, i.bytes)) = some (some (.int .u8 0), 1, 1) := by kernel_rfl
theorem makeB (n : Nat) (hn : (n : Int) ≤ 281474976710656) (w : World) : (Instr.makeSlice 39 (.int .i64 (n : Int)) (.int .i64 (n : Int))).run Try.prog w = .ok (.slice (some ⟨w.heap.size, 0, none⟩) n n) (w.alloc (.cells (cellsB (List.replicate n 0)).toArray 5)) := by
  obtain ⟨i0, hi, hz0, hz1, hz2⟩ := info_parts info5z
  have e := run_make (P := Try.prog) w 39 5 i0 (.int .u8 0) Try.underlying39 hi hz0 .i64 .i64 n n (by omega) (by omega) (by rw [hz2]; omega) (by omega)
  rw [e, hz1]
  have e2 : madeCells (Value.int .u8 0).cells ((n : Int).toNat * 1) = (cellsB (List.replicate n 0)).toArray := by
    apply Array.toList_inj.1
    rw [show (Value.int .u8 0).cells = #[Value.int .u8 0] from rfl, toList_madeCells_one]
    simp [cellsB]
  rw [e2]
  rfl
theorem wpList_make {w : World} {ops : Array Oper} {rest : List Oper} {o : Oper} {a : Act} {Q : Exit → Act → World → Prop} (hgd : o.guard = none) (l c : Operand) (ho : o.op = .makeSlice 39 l c) (n : Nat) (N : Int) (hl : a.eval l = .int .i64 N) (hc : a.eval c = .int .i64 N) (hN : N = (n : Int)) (hn : (n : Int) ≤ 281474976710656)
    (h : ∀ w', Hid (w' = w.alloc (.cells (cellsB (List.replicate n 0)).toArray 5)) → wpList Try.prog ops Q rest (a.put o.dst (.slice (some ⟨w.heap.size, 0, none⟩) n n)) w') : wpList Try.prog ops Q (o :: rest) a w := by
  subst hN
  refine wpList_plain hgd fun K hK => wp_of_run (v := .slice (some ⟨w.heap.size, 0, none⟩) n n) (w' := w.alloc (.cells (cellsB (List.replicate n 0)).toArray 5)) ?_ (hK _ _ (h _ rfl))
  have e := makeB n hn w
  simp [execOp, ho, hl, hc]
  rw [e]
  rfl
end Go.Proofs.Ytmkmogkhkmlnkaa.Dm
