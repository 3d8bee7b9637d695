/-
  Laws at an operation; writeOne: one sector is written.
-/
import Derived.Test.YtjmlklikmcaalaaDmC
import Derived.Deep.Cut
namespace Go.Proofs.Ytjmlklikmcaalaa.Dm
open Go.ChangeShapes Go.WideShapes Go.ChangeAt Go.RowKit
/-- one block has other cells, all else stands -/
structure Chg (g : Nat) (X : Array Value) (t : TypeId) (w w' : World) : Prop where
  os : w'.os = w.os
  tape : w'.tape = w.tape
  output : w'.output = w.output
  size : w'.heap.size = w.heap.size
  at_ : w'.heap[g]? = some (.cells X t (0, 0))
  ne : ∀ j, j ≠ g → w'.heap[j]? = w.heap[j]?
theorem chg_setRow {w : World} {g : Nat} {cur : Array Value} {t : TypeId} (hg : w.heap[g]? = some (.cells cur t (0, 0))) (X : Array Value) : Chg g X t w (w.setRow g X) := ⟨rfl, rfl, rfl, by simp [World.setRow], setRow_heap w g _ _ t _ hg, fun j hj => setRow_other w g j X hj⟩
theorem Chg.below {g : Nat} {X : Array Value} {t : TypeId} {w w' : World} (h : Chg g X t w w') {B : Nat} (hB : B ≤ g) : Below B w w' := ⟨h.os, h.tape, h.output, by rw [h.size]; exact Nat.le_refl _, fun j hj => h.ne j (by omega)⟩
theorem wp_copy_chg {P : Program} {w : World} {o : Oper} {a : Act} {K : Act → World → Prop} {Q : Exit → Act → World → Prop} (d s : Operand) (dT sT : TypeId)
    (ho : o.op = .call { callee := .builtin .copy, args := #[d, s], argTypes := #[dT, sT] }) (elem : TypeId) (hu : P.underlying dT = some (.slice elem)) (hsz : (P.info? elem).map (·.size) = some 1)
    (g off dLen dCap : Nat) (ad : Addr) (sLen sCap : Nat) (hd : a.eval d = .slice (some ⟨g, off, none⟩) dLen dCap) (hs : a.eval s = .slice (some ad) sLen sCap)
    (cur : List Value) (t : TypeId) (hg : w.heap[g]? = some (.cells cur.toArray t (0, 0))) (cs : List Value) (hn : cs.length = Nat.min sLen dLen)
    (hsrc : ∀ j v, cs[j]? = some v → w.cell? (ad.add j) = some v) (hfit : off + cs.length ≤ cur.length) (h1 : ∀ v ∈ cs, v.oneCell' = true)
    (h : ∀ w', Hid (Chg g (splice cur off cs).toArray t w w') → K (a.put o.dst (goInt cs.length)) w') : o.wp P a w K Q := by
  have hrun := run_copy_row (P := P) w dT sT o.type elem g off dLen dCap ad sLen sCap cur.toArray t cs hu hsz hg hn hsrc (by simpa using hfit) h1
  unfold Oper.wp
  simp [execOp, ho, resolve, invoke, builtin, hd, hs, hrun]
  refine h _ (show Chg _ _ _ _ _ from ?_)
  have := chg_setRow hg (splice cur off cs).toArray
  simpa [splice] using this
theorem wpList_copy_chg {P : Program} {w : World} {ops : Array Oper} {rest : List Oper} {o : Oper} {a : Act} {Q : Exit → Act → World → Prop} (hgd : o.guard = none) (d s : Operand) (dT sT : TypeId)
    (ho : o.op = .call { callee := .builtin .copy, args := #[d, s], argTypes := #[dT, sT] }) (elem : TypeId) (hu : P.underlying dT = some (.slice elem)) (hsz : (P.info? elem).map (·.size) = some 1)
    (g off dLen dCap : Nat) (ad : Addr) (sLen sCap : Nat) (hd : a.eval d = .slice (some ⟨g, off, none⟩) dLen dCap) (hs : a.eval s = .slice (some ad) sLen sCap)
    (cur : List Value) (t : TypeId) (hg : w.heap[g]? = some (.cells cur.toArray t (0, 0))) (cs : List Value) (hn : cs.length = Nat.min sLen dLen)
    (hsrc : ∀ j v, cs[j]? = some v → w.cell? (ad.add j) = some v) (hfit : off + cs.length ≤ cur.length) (h1 : ∀ v ∈ cs, v.oneCell' = true)
    (h : ∀ w', Hid (Chg g (splice cur off cs).toArray t w w') → wpList P ops Q rest (a.put o.dst (goInt cs.length)) w') : wpList P ops Q (o :: rest) a w :=
  wpList_plain hgd fun _ hK => wp_copy_chg d s dT sT ho elem hu hsz g off dLen dCap ad sLen sCap hd hs cur t hg cs hn hsrc hfit h1 fun w' hw => hK _ _ (h w' hw)
theorem below_alloc (w : World) (o : Obj) : Below w.heap.size w (w.alloc o) := (Below.refl _ w).alloc (Nat.le_refl _) o
theorem size_alloc (w : World) (o : Obj) : (w.alloc o).heap.size = w.heap.size + 1 := by
  show (w.heap.push o).size = _
  exact Array.size_push ..
def zeroAt (p : Int) : Array Value := (Value.int .i64 p :: zerosB).toArray
theorem zeroAt_size (p : Int) : (zeroAt p).size = 65 := rfl
theorem wpList_build {w : World} {ops : Array Oper} {rest : List Oper} {o : Oper} {a : Act} {Q : Exit → Act → World → Prop} (hgd : o.guard = none) (x : Operand) (ho : o.op = .build 50 #[(0, x)]) (p : Int) (hx : a.eval x = .int .i64 p)
    (h : wpList Try.prog ops Q rest (a.put o.dst (.agg (zeroAt p))) w) : wpList Try.prog ops Q (o :: rest) a w := by
  refine wpList_plain hgd fun K hK => wp_of_run (v := .agg (zeroAt p)) (w' := w) ?_ (hK _ _ h)
  have e := buildW p w
  simp [execOp, ho, hx]
  rw [e]
  rfl
theorem wpList_alloc {w : World} {ops : Array Oper} {rest : List Oper} {o : Oper} {a : Act} {Q : Exit → Act → World → Prop} (hgd : o.guard = none) (ho : o.op = .alloc 50)
    (h : ∀ w', Hid (w'.heap[w.heap.size]? = some (.cells (zeroAt 0) 50 (0, 0)) ∧ w'.heap.size = w.heap.size + 1) → Hid (Below w.heap.size w w') → wpList Try.prog ops Q rest (a.put o.dst (.pointer (some ⟨w.heap.size, 0, none⟩))) w') : wpList Try.prog ops Q (o :: rest) a w := by
  refine wpList_plain hgd fun K hK => wp_of_run (v := .pointer (some ⟨w.heap.size, 0, none⟩)) (w' := w.alloc (.cells (zeroAt 0) 50)) ?_ (hK _ _ (h _ ⟨heap_alloc_new w _, size_alloc w _⟩ (below_alloc w _)))
  simp [execOp, ho, Instr.alloc, zeroW, newVar, newRow, Value.cells]
  rfl
theorem infoWs : (Try.prog.info? 50).map (·.size) = some 65 := by kernel_rfl
theorem info5 : (Try.prog.info? 5).map (·.size) = some 1 := by kernel_rfl
theorem wpList_store {w : World} {ops : Array Oper} {rest : List Oper} {o : Oper} {a : Act} {Q : Exit → Act → World → Prop} (hgd : o.guard = none) (p x : Operand) (ho : o.op = .store 50 p x)
    (g : Nat) (hp : a.eval p = .pointer (some ⟨g, 0, none⟩)) (cs old : Array Value) (hx : a.eval x = .agg cs) (hg : w.heap[g]? = some (.cells old 50 (0, 0))) (hi : cs.size = 65) (ho' : old.size = 65) (h1 : (cs.all fun x => x.oneCell') = true)
    (h : ∀ w', Hid (Chg g cs 50 w w') → wpList Try.prog ops Q rest (a.put o.dst undef) w') : wpList Try.prog ops Q (o :: rest) a w :=
  wpList_store_agg hgd p x 50 50 ho g hp cs old hx hg (by rw [hi]; exact infoWs) (by omega) h1 (h _ (chg_setRow hg cs))
theorem zeroAt_one (p : Int) : ((zeroAt p).all fun x => x.oneCell') = true := by
  simp [zeroAt, zerosB, Value.oneCell']
theorem zeroAt_splice (p : Int) (c : List UInt8) (h : c.length = 64) : (splice (zeroAt p).toList 1 (cellsB c)).toArray = (Value.int .i64 p :: cellsB c).toArray := by
  simp [splice, zeroAt, zerosB, cellsB_length, h]
/-- bytes that lie elsewhere -/
structure Src (a s k g off : Nat) (c : List UInt8) (w : World) : Prop where
  ga : g ≠ a
  gs : g ≠ s
  gk : g ≠ k
  ob : ∃ cs T fz, w.heap[g]? = some (.cells cs T fz) ∧ T ≠ 50
  bs : BytesAt w g off c
theorem BytesAt.same {w w' : World} {g off : Nat} {c : List UInt8} (h : BytesAt w g off c) (e : w'.heap[g]? = w.heap[g]?) : BytesAt w' g off c := fun j v hj => by
  have := h j v hj
  rw [addr_add] at this ⊢
  exact (World.cell?_of_block (a := ⟨g, off + j, none⟩) e).trans this
theorem Src.kd {a s k g off : Nat} {c : List UInt8} {w w' : World} (h : Src a s k g off c w) (hk : Kd a s k w w') : Src a s k g off c w' := by
  obtain ⟨cs, T, fz, hg, hT⟩ := h.ob
  have e := hk g _ hg h.ga h.gs h.gk (by intro c' fz' e; injection e with _ e; exact hT e)
  exact ⟨h.ga, h.gs, h.gk, ⟨cs, T, fz, e, hT⟩, h.bs.same (e.trans hg.symm)⟩
theorem Kd.chg {a s k : Nat} {X : Array Value} {t : TypeId} {w w' : World} (h : Chg s X t w w') : Kd a s k w w' := fun j _ hj _ h2 _ _ => (h.ne j h2).trans hj
def wOneD (D : Dm) (p : Nat) (c : List UInt8) : Dm := if (spendD { D with seen := splice D.seen (64 * p) c }).gone then spendD { D with seen := splice D.seen (64 * p) c } else { spendD { D with seen := splice D.seen (64 * p) c } with pend := (spendD { D with seen := splice D.seen (64 * p) c }).pend ++ [(p, c)] }
theorem spendD_pend (D : Dm) : (spendD D).pend = D.pend := by unfold spendD; split <;> (try split) <;> rfl
theorem hold {p : Prop} (h : Hid p) : p := h.out
set_option maxHeartbeats 2000000 in
theorem writeOne_any {B a s k n : Nat} {D : Dm} {pv : Value} (w : World) (h : DmAt B a s k n D pv w) (p g off cap : Nat) (c : List UInt8) (hp : p < n) (hc : c.length = 64) (hsrc : Src a s k g off c w) (hlen : (D.pend.length : Int) ≤ 100000) :
    Calls Try.prog 20 #[.pointer (some ⟨a, 0, none⟩), .int .i64 (p : Int), .slice (some ⟨g, off, none⟩) 64 cap] w fun e w' => e = .returned (.tuple #[]) ∧ DPost B a s k n (wOneD D p c) w w' := by
  have c0 := h.c0
  have hn := h.ok.n1
  have HH : Hid (DmAt B a s k n D pv w) := h
  have HSr : Hid (Src a s k g off c w) := hsrc
  have HC : Hid (c.length = 64) := hc
  have HL : Hid ((D.pend.length : Int) ≤ 100000) := hlen
  clear h hsrc hc hlen
  go_enter Try.func20, Try.ntmps20
  go_wp2_with (first | (go_at_call 21; refine (sector_any s 0 (64 * n) (64 * n) p (by omega) (Nat.le_refl _) (by omega) _).mono ?_; rintro e w0 ⟨rfl, rfl⟩) | (refine wpList_copy_chg rfl (.tmp 12) (.tmp 13) 32 32 rfl 5 Try.underlying32 info5 s (64 * p) 64 (64 * n - 64 * p) ⟨g, off, none⟩ 64 cap rfl rfl (cellsB D.seen) 5 HH.out.hseen (cellsB c) (by rw [cellsB_length, HC.out]; rfl) HSr.out.bs (by rw [cellsB_length, cellsB_length, HC.out, HH.out.ok.seen]; omega) (cellsB_one _) ?_; intro w1 hw1))
  have hD1 : DmAt B a s k n { D with seen := splice D.seen (64 * p) c } pv w1 := HH.out.setSeen _ (by rw [length_splice _ _ _ (by rw [HC.out, HH.out.ok.seen]; omega)]; exact HH.out.ok.seen) (by rw [← cellsB_splice]; exact hw1.out.at_) hw1.out.ne
  have hk1 : Kd a s k w0 w1 := Kd.chg hw1.out
  have hb1 : Below B w0 w1 := hw1.out.below HH.out.bs
  refine (spend_any _ hD1).mono ?_
  rintro e w2 ⟨rfl, hD2, hb2, hk2⟩
  have HB : Hid (Below B w0 w2) := hb1.trans hb2
  have HK : Hid (Kd a s k w0 w2) := hk1.trans hk2
  have HW : Hid (wOneD D p c = if (spendD { D with seen := splice D.seen (64 * p) c }).gone then spendD { D with seen := splice D.seen (64 * p) c } else { spendD { D with seen := splice D.seen (64 * p) c } with pend := (spendD { D with seen := splice D.seen (64 * p) c }).pend ++ [(p, c)] }) := rfl
  have HL2 : Hid (((spendD { D with seen := splice D.seen (64 * p) c }).pend.length : Int) ≤ 100000) := by
    show _ ≤ _
    rw [spendD_pend]
    exact HL.out
  clear hw1 hD1 hk1 hb1 hb2 hk2 c0 HL
  generalize spendD { D with seen := splice D.seen (64 * p) c } = D2 at *
  have c5 := hD2.c5
  have HH2 : Hid (DmAt B a s k n D2 pv w2) := hD2
  clear hD2
  cases hG : D2.gone
  · rw [hG] at c5
    have HE : Hid (wOneD D p c = { D2 with pend := D2.pend ++ [(p, c)] }) := by
      have := HW.out
      rw [hG] at this
      exact this
    clear HW hG
    have HS2 : Hid (Src a s k g off c w2) := HSr.out.kd HK.out
    go_upto_region 4 with (first | (refine wpList_build rfl (.tmp 21) rfl (p : Int) rfl ?_) | (refine wpList_alloc rfl rfl ?_; intro w3 hx3 hb3) | (refine wpList_store rfl (.tmp 6) (.tmp 22) rfl w2.heap.size rfl (zeroAt (p : Int)) (zeroAt 0) rfl hx3.out.1 rfl rfl (zeroAt_one _) ?_; intro w4 hw4))
    have hgl : g < w2.heap.size := by
      obtain ⟨_, _, _, hh, _⟩ := HS2.out.ob
      exact (Array.getElem?_eq_some_iff.1 hh).1
    have hb4 : Below w2.heap.size w2 w4 := hb3.out.trans (hw4.out.below (Nat.le_refl _))
    have hx4 : Hid (w4.heap[w2.heap.size]? = some (.cells (zeroAt (p : Int)).toList.toArray 50 (0, 0))) := hw4.out.at_
    have HF : Hid (1 + (cellsB c).length ≤ (zeroAt (p : Int)).toList.length) := by
      show _ ≤ _
      rw [cellsB_length, HC.out]
      exact Nat.le_refl 65
    have hBS : BytesAt w4 g off c := (HS2.out.kd (Kd.below hb4)).bs
    have HB4 : Hid (Below w2.heap.size w2 w4) := hb4
    clear hx3 hb3 hw4 hb4 HS2 HSr
    go_upto_region 5 with (refine wpList_copy_chg rfl (.tmp 24) (.tmp 25) 32 32 rfl 5 Try.underlying32 info5 w2.heap.size 1 64 64 ⟨g, off, none⟩ 64 cap rfl rfl (zeroAt (p : Int)).toList 50 hx4.out (cellsB c) (by rw [cellsB_length, HC.out]; rfl) hBS HF.out (cellsB_one _) ?_; intro w5 hw5)
    have hx5 : w5.heap[w2.heap.size]? = some (.cells (Value.int .i64 (p : Int) :: cellsB c).toArray 50 (0, 0)) := by
      have := hw5.out.at_
      rw [zeroAt_splice _ _ HC.out] at this
      exact this
    have hb5 : Below w2.heap.size w2 w5 := HB4.out.trans (hw5.out.below (Nat.le_refl _))
    have hD5 := HH2.out.below hb5
    refine write_put _ _ _ _ _ _ _ _ _ _ _ _ _ _ _ _ _ _ _ _ _ _ _ _ _ _ _ _ _ _ _ _ _ _ _ B a s k n w2.heap.size p c D2 pv w5 _ hD5 hx5 HC.out (fun e => by have := (HH2.out.own.lt _ e).2; omega) hp HL2.out (by have := hD5.lt (.inl rfl); have := hD5.ba; omega) (fun u27 u28 u29 u30 u31 u32 u33 u34 u35 u36 wC hP => ?_)
    have HP : Hid (DPost B a s k n (wOneD D p c) w0 wC) := by
      show DPost _ _ _ _ _ _ _ _
      rw [HE.out]
      exact ⟨hP.1, (HB.out.trans ⟨hb5.os, hb5.tape, hb5.output, hb5.size, fun j hj => hb5.block j (by have := hD5.ba; have := HH2.out.lt (.inl rfl); omega)⟩).trans hP.2.1, (HK.out.trans (Kd.below hb5)).trans hP.2.2⟩
    clear hP hD5 hb5 hx5 hw5
    first | go_wp2 | skip
    first | go_end0 | refine bodyPost_ret (results_none rfl _ _ _) rfl ?_
    exact ⟨rfl, HP.out⟩
  · rw [hG] at c5
    have HE : Hid (wOneD D p c = D2) := by
      have := HW.out
      rw [hG] at this
      exact this
    clear HW hG
    go_wp2
    first | go_end0 | refine bodyPost_ret (results_none rfl _ _ _) rfl ?_
    rw [HE.out]
    exact ⟨rfl, ⟨_, HH2.out⟩, HB.out, HK.out⟩
end Go.Proofs.Ytjmlklikmcaalaa.Dm
