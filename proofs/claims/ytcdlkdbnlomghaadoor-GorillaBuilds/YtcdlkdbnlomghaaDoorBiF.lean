/-
  The contract of longer: a copy, with noughts behind.
-/
import Derived.Test.YtcdlkdbnlomghaaDoorBiD
import Derived.Laws.CopyRow
import Derived.Laws.IdiomCopy
import Derived.Laws.CopyOwn
import Derived.Laws.DeepNot64
namespace Go.Proofs.YtcdlkdbnlomghaaDoor.Bi
open Go.ChangeShapes Go.WideShapes Go.ChangeAt Go.RowKit
/-- one block has other cells, all else stands -/
structure Chg (g : Nat) (X : Array Value) (t : TypeId) (w w' : World) : Prop where
  os : w'.os = w.os
  tape : w'.tape = w.tape
  output : w'.output = w.output
  size : w'.heap.size = w.heap.size
  at_ : w'.heap[g]? = some (.cells X t (0, 0))
  ne : ∀ j, j ≠ g → w'.heap[j]? = w.heap[j]?
theorem chg_setRow {w : World} {g : Nat} {cur : Array Value} {t : TypeId} (hg : w.heap[g]? = some (.cells cur t (0, 0))) (X : Array Value) : Chg g X t w (w.setRow g X) := ⟨rfl, rfl, rfl, by simp [World.setRow], setRow_heap w g _ _ t _ hg, fun j hj => setRow_other w g j X hj⟩
theorem Chg.below {g : Nat} {X : Array Value} {t : TypeId} {w w' : World} (h : Chg g X t w w') {B : Nat} (hB : B ≤ g) : Below B w w' := ⟨h.os, h.tape, h.output, by rw [h.size]; exact Nat.le_refl _, fun j hj => h.ne j (by omega)⟩
theorem wp_copy_chg {P : Program} {w : World} {o : Oper} {a : Act} {K : Act → World → Prop} {Q : Exit → Act → World → Prop} (d s : Operand) (dT sT : TypeId)
    (ho : o.op = .call { callee := .builtin .copy, args := #[d, s], argTypes := #[dT, sT] }) (elem : TypeId) (hu : P.underlying dT = some (.slice elem)) (hsz : (P.info? elem).map (·.size) = some 1)
    (g off dLen dCap : Nat) (ad : Addr) (sLen sCap : Nat) (hd : a.eval d = .slice (some ⟨g, off, none⟩) dLen dCap) (hs : a.eval s = .slice (some ad) sLen sCap)
    (cur : List Value) (t : TypeId) (hg : w.heap[g]? = some (.cells cur.toArray t (0, 0))) (cs : List Value) (hn : cs.length = Nat.min sLen dLen)
    (hsrc : ∀ j v, cs[j]? = some v → w.cell? (ad.add j) = some v) (hfit : off + cs.length ≤ cur.length) (h1 : ∀ v ∈ cs, v.oneCell' = true)
    (h : ∀ w', Hid (Chg g (splice cur off cs).toArray t w w') → K (a.put o.dst (goInt cs.length)) w') : o.wp P a w K Q := by
  have hrun := run_copy_row (P := P) w dT sT o.type elem g off dLen dCap ad sLen sCap cur.toArray t cs hu hsz hg hn hsrc (by simpa using hfit) h1
  unfold Oper.wp
  simp [execOp, ho, resolve, invoke, builtin, hd, hs, hrun]
  refine h _ (show Chg _ _ _ _ _ from ?_)
  have := chg_setRow hg (splice cur off cs).toArray
  simpa [splice] using this
theorem wpList_copy_chg {P : Program} {w : World} {ops : Array Oper} {rest : List Oper} {o : Oper} {a : Act} {Q : Exit → Act → World → Prop} (hgd : o.guard = none) (d s : Operand) (dT sT : TypeId)
    (ho : o.op = .call { callee := .builtin .copy, args := #[d, s], argTypes := #[dT, sT] }) (elem : TypeId) (hu : P.underlying dT = some (.slice elem)) (hsz : (P.info? elem).map (·.size) = some 1)
    (g off dLen dCap : Nat) (ad : Addr) (sLen sCap : Nat) (hd : a.eval d = .slice (some ⟨g, off, none⟩) dLen dCap) (hs : a.eval s = .slice (some ad) sLen sCap)
    (cur : List Value) (t : TypeId) (hg : w.heap[g]? = some (.cells cur.toArray t (0, 0))) (cs : List Value) (hn : cs.length = Nat.min sLen dLen)
    (hsrc : ∀ j v, cs[j]? = some v → w.cell? (ad.add j) = some v) (hfit : off + cs.length ≤ cur.length) (h1 : ∀ v ∈ cs, v.oneCell' = true)
    (h : ∀ w', Hid (Chg g (splice cur off cs).toArray t w w') → wpList P ops Q rest (a.put o.dst (goInt cs.length)) w') : wpList P ops Q (o :: rest) a w :=
  wpList_plain hgd fun _ hK => wp_copy_chg d s dT sT ho elem hu hsz g off dLen dCap ad sLen sCap hd hs cur t hg cs hn hsrc hfit h1 fun w' hw => hK _ _ (h w' hw)
theorem ret_2 {fn : Func} {p : Tmp} (h : fn.results = #[.cell p 26]) (tmps : Array Value) (w : World) (b : Nat) (v0 v1 : Value) (hp : tmps.getD p undef = .pointer (some ⟨b, 0, none⟩))
    (hb : B2 w b 26 v0 v1) : (results fn tmps).run Tryd.prog w = .ok (.agg #[v0, v1]) w := by
  obtain ⟨h0, h1⟩ := hb.cells
  simp only [Array.getD_eq_getD_getElem?] at hp
  simp only [results, h]
  simp [go_sem, hp, h0, h1]
theorem ret_2b {fn : Func} {p q : Tmp} (h : fn.results = #[.cell p 26, .tmp q]) (tmps : Array Value) (w : World) (b : Nat) (v0 v1 u : Value) (hp : tmps.getD p undef = .pointer (some ⟨b, 0, none⟩)) (hq : tmps.getD q undef = u)
    (hb : B2 w b 26 v0 v1) : (results fn tmps).run Tryd.prog w = .ok (.tuple #[.agg #[v0, v1], u]) w := by
  obtain ⟨h0, h1⟩ := hb.cells
  simp only [Array.getD_eq_getD_getElem?] at hp hq
  simp only [results, h]
  simp [go_sem, hp, hq, h0, h1]
theorem wp_copy_none {P : Program} {w : World} {o : Oper} {a : Act} {K : Act → World → Prop} {Q : Exit → Act → World → Prop} (d s : Operand) (dT sT : TypeId)
    (ho : o.op = .call { callee := .builtin .copy, args := #[d, s], argTypes := #[dT, sT] }) (elem : TypeId) (hu : P.underlying dT = some (.slice elem)) (hsz : (P.info? elem).map (·.size) = some 1)
    (da sa : Option Addr) (dLen dCap sLen sCap : Nat) (hd : a.eval d = .slice da dLen dCap) (hs : a.eval s = .slice sa sLen sCap) (hn : Nat.min sLen dLen = 0)
    (h : K (a.put o.dst (goInt 0)) w) : o.wp P a w K Q := by
  have hrun := run_copy_none (P := P) w dT sT o.type elem da sa dLen dCap sLen sCap hu hsz hn
  unfold Oper.wp
  simp [execOp, ho, resolve, invoke, builtin, hd, hs, hrun]
  exact h
theorem infoB1 : (Tryd.prog.info? 5).map (·.size) = some 1 := by kernel_rfl
theorem infoBz : (Tryd.prog.info? 5).map (fun i => (i.zero, i.size, i.bytes)) = some (some (.int .u8 0), 1, 1) := by kernel_rfl
theorem makeB (n : Nat) (hn : (n : Int) ≤ 1000000) (w : World) : (Instr.makeSlice 24 (.int .i64 (n : Int)) (.int .i64 (n : Int))).run Tryd.prog w = .ok (.slice (some ⟨w.heap.size, 0, none⟩) n n) (w.alloc (.cells (bytV (List.replicate n 0)).toArray 5)) := by
  obtain ⟨i0, hi, hz0, hz1, hz2⟩ := info_parts infoBz
  have e := run_make (P := Tryd.prog) w 24 5 i0 (.int .u8 0) Tryd.underlying24 hi hz0 .i64 .i64 n n (by omega) (by omega) (by rw [hz2]; omega) (by omega)
  rw [e, hz1]
  have e2 : madeCells (Value.int .u8 0).cells ((n : Int).toNat * 1) = (bytV (List.replicate n 0)).toArray := by
    apply Array.toList_inj.1
    rw [show (Value.int .u8 0).cells = #[Value.int .u8 0] from rfl, toList_madeCells_one]
    simp [bytV]
  rw [e2]
  rfl
theorem bytV_one (l : List Nat) : ∀ v ∈ bytV l, v.oneCell' = true := by
  intro v hv
  obtain ⟨b, -, rfl⟩ := List.mem_map.1 hv
  rfl
theorem bytV_append (l m : List Nat) : bytV (l ++ m) = bytV l ++ bytV m := by simp [bytV]
theorem need_le {m n : Nat} (h : m ≤ n) : need m ≤ need n := by unfold need; omega
theorem KeepR.chg {g : Nat} {X : Array Value} {t : TypeId} {w w' : World} (h : Chg g X t w w') : KeepR g w w' :=
  ⟨h.size, h.ne, fun _ _ hb hg => hb.trans (h.below hg)⟩
theorem addr_add (b off j : Nat) : (⟨b, off, none⟩ : Addr).add j = ⟨b, off + j, none⟩ := by
  unfold Addr.add
  by_cases h : j = 0
  · subst h
    rfl
  · rw [if_neg h]
/-- bytes are copied over noughts of one's own -/
theorem wpList_copy_by {w : World} {ops : Array Oper} {rest : List Oper} {o : Oper} {a : Act} {Q : Exit → Act → World → Prop} (hgd : o.guard = none) (d s : Operand)
    (ho : o.op = .call { callee := .builtin .copy, args := #[d, s], argTypes := #[24, 24] }) (G M : Nat) (x : Option Addr) (len cap : Nat) (bs : List Nat)
    (hd : a.eval d = .slice (some ⟨G, 0, none⟩) M M) (hs : a.eval s = .slice x len cap) (hR : Ro w G 5 (bytV (List.replicate M 0))) (hB : ByAt w x len cap bs) (hlM : len ≤ M)
    (h : ∀ w', Hid (Ro w' G 5 (bytV (bs ++ List.replicate (M - len) 0)) ∧ KeepR G w w') → wpList Tryd.prog ops Q rest (a.put o.dst (.int .i64 len)) w') : wpList Tryd.prog ops Q (o :: rest) a w := by
  by_cases h0 : len = 0
  · subst h0
    obtain rfl : bs = [] := List.length_eq_zero_iff.1 hB.1
    refine wpList_plain hgd fun K hK => wp_copy_none d s 24 24 ho 5 Tryd.underlying24 infoB1 _ _ M M 0 cap hd hs (Nat.zero_min _) (hK _ _ (h w ⟨by simpa using hR, KeepR.refl _ _⟩))
  · obtain ⟨b, off, rfl, -, hc⟩ := hB.some (by omega)
    have hl := hB.1
    refine wpList_copy_chg hgd d s 24 24 ho 5 Tryd.underlying24 infoB1 G 0 M M ⟨b, off, none⟩ len cap hd hs (bytV (List.replicate M 0)) 5 hR (bytV bs) (by rw [bytV_len, hl]; exact (Nat.min_eq_left hlM).symm) (fun j v hv => by
      have hj : j < bs.length := by have := (List.getElem?_eq_some_iff.1 hv).1; rwa [bytV_len] at this
      have e := hc j (by omega)
      simp [bytV, hj] at hv
      rw [← hv]
      simp only [List.getD_eq_getElem?_getD, List.getElem?_eq_getElem hj, Option.getD_some] at e
      rw [addr_add]
      exact e) (by rw [bytV_len, bytV_len, List.length_replicate]; omega) (bytV_one _) fun w' hw' => ?_
    have hlen : goInt (bytV bs).length = .int .i64 len := by rw [bytV_len, hl]; rfl
    rw [hlen]
    refine h w' ⟨?_, KeepR.chg hw'.out⟩
    have e := hw'.out.at_
    unfold Ro
    rw [e]
    have e2 : splice (bytV (List.replicate M 0)) 0 (bytV bs) = bytV (bs ++ List.replicate (M - len) 0) := by
      simp [splice, bytV, hl]
    rw [e2]
/-- bits of one's own, a new row -/
def LongPost (l : List Bool) (N : Nat) (w : World) (e : Ending) (w' : World) : Prop := Below w.heap.size w w' ∧ ∃ g, w.heap.size ≤ g ∧ e = .returned (.agg #[.slice (some ⟨g, 0, none⟩) (need N) (need N), .int .i64 (N : Int)]) ∧ Ro w' g 5 (bytV (pack l (need N)))
set_option maxHeartbeats 4000000 in
set_option maxRecDepth 60000 in
theorem longer_any (a : Option Addr) (len cap n : Nat) (l : List Bool) (w : World) (h : ByAt w a len cap (pack l len)) (hl : len = need l.length) (hN : l.length ≤ 200000) (hn : n ≤ 200000) :
    Calls Tryd.prog 71 #[.agg #[.slice a len cap, .int .i64 (l.length : Int)], .int .i64 n] w fun e w' => LongPost l (l.length + n) w e w' := by
  have HL := Hid.mk9 h
  have HB := Hid.mk9 (below2 (below_alloc w (.cells #[.slice a len cap, .int .i64 (l.length : Int)] 26)) (below_alloc _ (.cells #[.slice none 0 0, .int .i64 0] 26)))
  have HX := Hid.mk9 ((B2.new w 26 (.slice a len cap) (.int .i64 (l.length : Int))).below (below_alloc _ (.cells #[.slice none 0 0, .int .i64 0] 26)))
  have HY : Hid (B2 ((w.alloc (.cells #[.slice a len cap, .int .i64 (l.length : Int)] 26)).alloc (.cells #[.slice none 0 0, .int .i64 0] 26)) (w.heap.size + 1) 26 (.slice none 0 0) (.int .i64 0)) := by
    have := B2.new (w.alloc (.cells #[.slice a len cap, .int .i64 (l.length : Int)] 26)) 26 (.slice none 0 0) (.int .i64 0)
    rw [show (w.alloc (.cells #[.slice a len cap, .int .i64 (l.length : Int)] 26)).heap.size = w.heap.size + 1 from by simp] at this
    exact this
  have HR := Hid.mk9 (h.below HB.out)
  obtain ⟨k, hk⟩ : ∃ k, l.length = k := ⟨_, rfl⟩
  rw [hk] at hl hN HX HY HB HR ⊢
  obtain ⟨M, hM⟩ : ∃ M, M = need (k + n) := ⟨_, rfl⟩
  obtain ⟨K, hK⟩ : ∃ K, K = k + n := ⟨_, rfl⟩
  have hlM : len ≤ M := by rw [hl, hM]; exact need_le (by omega)
  have HlM := Hid.mk9 hlM
  have hK1 : (k : Int) + (n : Int) = (K : Int) := by omega
  have hK2 : (K : Int) ≤ 1000000 := by omega
  have hMb : (M : Int) ≤ 1000000 := by rw [hM]; unfold need; omega
  have HC : Hid (∀ W, Calls Tryd.prog 80 #[.int .i64 (K : Int)] W fun e w' => e = .returned (.int .i64 (M : Int)) ∧ w' = W) := fun W => by rw [hM, ← hK]; exact bytesOf_any K hK2 W
  have HKK := Hid.mk9 hK
  have HNK : Hid (need K = M) := by unfold Hid; rw [hK, hM]
  have HMM := Hid.mk9 hM
  have Hk := Hid.mk9 hk
  have HLN := Hid.mk9 hl
  clear h hl hN hn hk hK hM hlM
  go_enter Tryd.func71, Tryd.ntmps71
  go_upto_region 1 with fail
  generalize ((w.alloc (.cells #[.slice a len cap, .int .i64 (k : Int)] 26)).alloc (.cells #[.slice none 0 0, .int .i64 0] 26)) = w1 at *
  obtain ⟨X, hX⟩ : ∃ X, w.heap.size = X := ⟨_, rfl⟩
  have HXw : Hid (w.heap.size = X) := Hid.mk9 hX
  rw [hX] at HX HY ⊢
  clear hX
  obtain ⟨p0, p1⟩ := HX.out.cells
  have hmk := makeB M hMb w1
  go_upto_region 2 with (go_at_call 80; refine (HC.out _).mono ?_; rintro e w9 ⟨rfl, hw9⟩; obtain rfl := hw9.symm)
  have HB2 := Hid.mk9 (below2 HB.out (below_alloc w1 (.cells (bytV (List.replicate M 0)).toArray 5)))
  have HX2 := Hid.mk9 (HX.out.below (below_alloc w1 (.cells (bytV (List.replicate M 0)).toArray 5)))
  have HY2 := Hid.mk9 (HY.out.below (below_alloc w1 (.cells (bytV (List.replicate M 0)).toArray 5)))
  have HR2 := Hid.mk9 (HR.out.below (below_alloc w1 (.cells (bytV (List.replicate M 0)).toArray 5)))
  have HG2 := Hid.mk9 (Ro.new w1 5 (bytV (List.replicate M 0)))
  have HXG : Hid (X < w1.heap.size ∧ X + 1 < w1.heap.size ∧ w.heap.size ≤ w1.heap.size) := ⟨HX.out.lt, HY.out.lt, HB.out.size⟩
  clear hmk p0 p1 HX HY HR HB
  generalize w1.alloc (.cells (bytV (List.replicate M 0)).toArray 5) = w2 at *
  generalize w1.heap.size = G at *
  obtain ⟨p0, p1⟩ := HX2.out.cells
  go_upto_region 3 with (refine wpList_copy_by rfl (.tmp 12) (.tmp 14) rfl G M a len cap _ rfl rfl HG2.out HR2.out HlM.out ?_; intro w3 hw3)
  have HB3 := Hid.mk9 (hw3.out.2.below _ _ HB2.out HXG.out.2.2)
  have HX3 := Hid.mk9 (HX2.out.kept (hw3.out.2.else_ X (by have := HXG.out.1; omega)))
  have HY3 := Hid.mk9 (HY2.out.kept (hw3.out.2.else_ (X + 1) (by have := HXG.out.2.1; omega)))
  have HG3 : Hid (Ro w3 G 5 (bytV (pack l M))) := by
    have := hw3.out.1
    rwa [← pack_grow l (M := len) (K := M - len) (by rw [Hk.out, HLN.out]; unfold need; omega), show len + (M - len) = M from by have := HlM.out; omega] at this
  clear p0 p1 hw3 HX2 HY2 HB2 HG2 HR2
  obtain ⟨p0, p1⟩ := HX3.out.cells
  obtain ⟨q0, q1⟩ := HY3.out.cells
  obtain ⟨f0, f1⟩ := HY3.out.frz
  have HZ := Hid.mk9 (HY3.out.set (.slice (some ⟨G, 0, none⟩) M M) (.int .i64 K))
  have HZb := Hid.mk9 (set2_below HB3.out (b := X + 1) (by have := HXw.out; omega) (.slice (some ⟨G, 0, none⟩) M M) (.int .i64 K))
  have HZg := Hid.mk9 (HG3.out.kept (set2_else (w := w3) (b := X + 1) (.slice (some ⟨G, 0, none⟩) M M) (.int .i64 K) (by have := HXG.out.2.1; omega)))
  clear HX3 HY3 HG3 HB3
  go_wp2_with fail
  refine bodyPost_ret (ret_2 rfl _ _ (X + 1) _ _ rfl HZ.out) rfl ?_
  rw [← HKK.out]
  exact ⟨HZb.out, G, HXG.out.2.2, by rw [HNK.out], by rw [HNK.out]; exact HZg.out⟩
end Go.Proofs.YtcdlkdbnlomghaaDoor.Bi
