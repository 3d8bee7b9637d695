/-
  A strings.Builder at some place of a block of the call's own: the contracts of its methods.
-/
import Derived.Test.YtnjbpiekbekpeaaA
import Derived.Test.YtnjbpiekbekpeaaLay
import Derived.Lib.FrozenHead2
import Derived.Lib.UnsafeStr
import Derived.Laws.Externs
namespace Go.Proofs.Ytnjbpiekbekpeaa
open Go.ChangeShapes Go.WideShapes Go.ChangeAt Go.RowKit
theorem info5 : (Try.prog.info? 5).map (fun i => (i.zero, i.size, i.bytes)) = some (some (.int .u8 0), 1, 1) := by kernel_rfl
theorem size50 : (Try.prog.info? 50).map (·.size) = some 2 := by kernel_rfl
/-- the two places at which a Builder lies: alone, and in a reader -/
def Place (T : TypeId) (n o : Nat) : Prop := (T = 50 ∧ n = 2 ∧ o = 0) ∨ (T = 60 ∧ n = 6 ∧ o = 1)
theorem Place.lies {T : TypeId} {n o : Nat} (h : Place T n o) : liesAt Try.prog Try.prog.depth T (n / Try.prog.cellsOf T) o 50 1 = true := by
  rcases h with ⟨rfl, rfl, rfl⟩ | ⟨rfl, rfl, rfl⟩
  · kernel_rfl
  · kernel_rfl
theorem Place.room {T : TypeId} {n o : Nat} (h : Place T n o) : o + 1 < n := by
  rcases h with ⟨rfl, rfl, rfl⟩ | ⟨rfl, rfl, rfl⟩ <;> decide
theorem Place.ne5 {T : TypeId} {n o : Nat} (h : Place T n o) : T ≠ 5 := by
  rcases h with ⟨rfl, rfl, rfl⟩ | ⟨rfl, rfl, rfl⟩ <;> decide
/-- a Builder in block b, from cell o on; the block's cells are cs; it holds the bytes bs -/
def Bld (T : TypeId) (o B b : Nat) (cs : Array Value) (bs : List UInt8) (w : World) : Prop :=
  Place T cs.size o ∧ B ≤ b ∧ B ≤ w.heap.size ∧ w.heap[b]? = some (.cells cs T (0, 0)) ∧ (cs[o]? = some (.pointer none) ∨ cs[o]? = some (.pointer (some ⟨b, o, none⟩))) ∧
  ∃ v, cs[o + 1]? = some v ∧ w.ownsRowF B 5 1 v bs.length (Lib.byteCells bs) ∧ v.ownBlock ≠ some b ∧ (bs = [] → v = .slice none 0 0)
/-- the block's other cells are as they were -/
def Rest (o : Nat) (cs cs' : Array Value) : Prop := cs'.size = cs.size ∧ ∀ j, j ≠ o → j ≠ o + 1 → cs'[j]? = cs[j]?
/-- behind a method: the Builder holds bs', all else stands -/
def BPost (T : TypeId) (o B b : Nat) (cs : Array Value) (bs' : List UInt8) (w w' : World) : Prop :=
  (∃ cs', Bld T o B b cs' bs' w' ∧ Rest o cs cs') ∧ Below B w w' ∧ Lib.OthersKept 5 (some b) w w'
theorem heap_set {w : World} {b : Nat} {cs : Array Value} {T : TypeId} (h : w.heap[b]? = some (.cells cs T (0, 0))) (j : Nat) (v : Value) : (w.setCell ⟨b, j, none⟩ v).heap[b]? = some (.cells (cs.setIfInBounds j v) T (0, 0)) := by
  simp [World.setCell, Array.getElem?_modify, h]
set_option maxHeartbeats 1000000 in
set_option maxRecDepth 100000 in
theorem copyCheck_any {T : TypeId} {o B b : Nat} {cs : Array Value} {bs : List UInt8} (w : World) (h : Bld T o B b cs bs w) :
    Calls Try.prog 38 #[.pointer (some ⟨b, o, none⟩)] w fun e w' => e = .returned (.tuple #[]) ∧ BPost T o B b cs bs w w' := by
  obtain ⟨hP, hB, hBw, hb, hp, v, hv, hown, hne, hnil⟩ := h
  have hroom := hP.room
  obtain ⟨j, hj, hjs⟩ := Option.map_eq_some_iff.1 size50
  have h1 : w.cell? ⟨b, o + 1, none⟩ = some v := by rw [Lib.cell_of_heap hb]; exact hv
  have hsh : w.shape? b = some (T, cs.size) := by simp [World.shape?, hb]
  have hf0 : w.frozen? ⟨b, o, none⟩ = false := Lib.frozen_of_heap hb o
  rcases hp with hp | hp
  · have h0 : w.cell? ⟨b, o, none⟩ = some (.pointer none) := by rw [Lib.cell_of_heap hb]; exact hp
    have hlies := hP.lies
    have HOT : Hid (BPost T o B b cs bs w (w.setCell ⟨b, o, none⟩ (.pointer (some ⟨b, o, none⟩)))) := by
      refine ⟨⟨cs.setIfInBounds o (.pointer (some ⟨b, o, none⟩)), ⟨by simpa using hP, hB, by simpa [World.setCell] using hBw, heap_set hb _ _, .inr (by rw [Array.getElem?_setIfInBounds, if_pos rfl, if_pos (by omega)]), v, ?_, ?_, hne, hnil⟩, by simp, fun j h1 h2 => by simp [Ne.symm h1]⟩, (Below.refl B w).setCell (p := ⟨b, o, none⟩) hB _, (Lib.OthersKept.refl _ _ w).setCell ⟨b, o, none⟩ rfl _⟩
      · simpa [Array.getElem?_setIfInBounds] using hv
      · refine hown.kept (row := some b) ⟨rfl, rfl, rfl, by simp [World.setCell], fun k _ hk => Below.heap_setCell _ _ _ _ (fun e => hk (by simp [e]))⟩ (Or.inr hne)
    clear hown hv hp hb
    go_enter Try.func38, Try.ntmps38
    go_wp2
    rw [Lib.run_to_unsafe w ⟨b, o, none⟩ Try.underlying47 Try.underlying75 hj (by rw [hjs]; decide) hsh (by show o < _; omega)]
    simp only [Result.andThen]
    rw [Oper.upon_value]
    go_wp2
    rw [run_callFunc_extern Try.func48 (by kernel_rfl) (by kernel_rfl) (by kernel_rfl) (e := Extern.AbiNoEscape.same) (by kernel_rfl)]
    rw [Lib.run_noEscape]
    simp only [Result.andThen]
    rw [Oper.upon_value]
    go_wp2
    rw [Lib.run_from_unsafe w ⟨b, o, none⟩ Try.underlying75 Try.underlying47 hj hsh hlies]
    simp only [Result.andThen]
    rw [Oper.upon_value]
    go_wp2
    go_end0
    exact ⟨rfl, HOT.out⟩
  · have h0 : w.cell? ⟨b, o, none⟩ = some (.pointer (some ⟨b, o, none⟩)) := by rw [Lib.cell_of_heap hb]; exact hp
    have HOT : Hid (BPost T o B b cs bs w w) := ⟨⟨cs, ⟨hP, hB, hBw, hb, .inr hp, v, hv, hown, hne, hnil⟩, rfl, fun _ _ _ => rfl⟩, Below.refl _ _, Lib.OthersKept.refl _ _ _⟩
    clear hown hv hp hb
    go_enter Try.func38, Try.ntmps38
    go_wp2
    rw [Lib.run_neq_ptr_same w _ Try.underlying47 hj]
    go_wp2
    go_end0
    exact ⟨rfl, HOT.out⟩
/-- a slice that is owned is a slice -/
theorem ownF_slice {w : World} {B : Nat} {v : Value} {n : Nat} {xs : List Value} (h : w.ownsRowF B 5 1 v n xs) : ∃ a cap, v = .slice a n cap := by
  rcases h.2 with ⟨hv, h0⟩ | ⟨g, cap, cur, fz, hv, _⟩
  · exact ⟨none, 0, by rw [hv, h0]⟩
  · exact ⟨_, _, hv⟩
/-- a new buffer is laid into the Builder -/
theorem Bld.put {T : TypeId} {o B b : Nat} {cs : Array Value} {w2 : World} {v' : Value} {bs' : List UInt8} (hP : Place T cs.size o) (hB : B ≤ b) (hBw : B ≤ w2.heap.size) (hb : w2.heap[b]? = some (.cells cs T (0, 0)))
    (hp : cs[o]? = some (.pointer none) ∨ cs[o]? = some (.pointer (some ⟨b, o, none⟩))) (hown : w2.ownsRowF B 5 1 v' bs'.length (Lib.byteCells bs')) (hnil : bs' = [] → v' = .slice none 0 0) :
    ∃ cs', Bld T o B b cs' bs' (w2.setCell ⟨b, o + 1, none⟩ v') ∧ Rest o cs cs' := by
  have hroom := hP.room
  have hne := Lib.ownBlock_neF hown hb hP.ne5
  refine ⟨cs.setIfInBounds (o + 1) v', ⟨by simpa using hP, hB, by simpa [World.setCell] using hBw, heap_set hb _ _, ?_, v', by rw [Array.getElem?_setIfInBounds, if_pos rfl, if_pos (by omega)], ?_, hne, hnil⟩, by simp, fun j h1 h2 => by simp [Ne.symm h2]⟩
  · simpa using hp
  · exact hown.kept (row := some b) ⟨rfl, rfl, rfl, by simp [World.setCell], fun k _ hk => Below.heap_setCell _ _ _ _ (fun e => hk (by simp [e]))⟩ (Or.inr hne)
theorem Rest.trans {o : Nat} {a b c : Array Value} (h : Rest o a b) (k : Rest o b c) : Rest o a c := ⟨k.1.trans h.1, fun j h1 h2 => (k.2 j h1 h2).trans (h.2 j h1 h2)⟩
/-- behind an append to the Builder's row, and the store -/
theorem bpost_of {T : TypeId} {o B b : Nat} {cs cs1 : Array Value} {w w1 wx w2 : World} {bs bs' : List UInt8} {v v' : Value} (h1 : BPost T o B b cs bs w w1) (hr : Rest o cs cs1) (hP : Place T cs1.size o) (hB : B ≤ b) (hBw : B ≤ w1.heap.size) (hb : w1.heap[b]? = some (.cells cs1 T (0, 0)))
    (hp : cs1[o]? = some (.pointer none) ∨ cs1[o]? = some (.pointer (some ⟨b, o, none⟩))) (hown : w1.ownsRowF B 5 1 v bs.length (Lib.byteCells bs)) (hne : v.ownBlock ≠ some b) (hx : wx = w1 ∨ ∃ ob, wx = w1.alloc ob)
    (hg : wx.grownBy w2 v.ownBlock) (hown2 : w2.ownsRowF B 5 1 v' bs'.length (Lib.byteCells bs')) (hnil : bs' = [] → v' = .slice none 0 0) : BPost T o B b cs bs' w (w2.setCell ⟨b, o + 1, none⟩ v') := by
  have hlt : b < w1.heap.size := (Array.getElem?_eq_some_iff.1 hb).1
  have X : w1.heap.size ≤ wx.heap.size ∧ wx.heap[b]? = w1.heap[b]? ∧ Below B w wx ∧ Lib.OthersKept 5 (some b) w wx ∧ wx.ownsRowF B 5 1 v bs.length (Lib.byteCells bs) := by
    rcases hx with rfl | ⟨ob, rfl⟩
    · exact ⟨Nat.le_refl _, rfl, h1.2.1, h1.2.2, hown⟩
    · exact ⟨by simp, Lib.alloc_old w1 _ b hlt, h1.2.1.alloc hBw _, h1.2.2.alloc _, hown.alloc _⟩
  obtain ⟨x1, x2, x3, x4, x5⟩ := X
  have hb2 : w2.heap[b]? = some (.cells cs1 T (0, 0)) := by
    rw [hg.block b (by omega) (fun e => hne e.symm), x2]; exact hb
  have hs := hg.size
  obtain ⟨cs', hk, hr2⟩ := Bld.put hP hB (by omega) hb2 hp hown2 hnil
  refine ⟨⟨cs', hk, hr.trans hr2⟩, ?_, ?_⟩
  · exact (x3.grown hg (by omega) (fun k hk => (hown.lt k hk).1)).setCell (p := ⟨b, o + 1, none⟩) hB _
  · exact (x4.grown hg (Lib.ownsRowF_kind x5)).setCell ⟨b, o + 1, none⟩ rfl _
set_option maxHeartbeats 1000000 in
set_option maxRecDepth 100000 in
theorem bLen_any {T : TypeId} {o B b : Nat} {cs : Array Value} {bs : List UInt8} (w : World) (h : Bld T o B b cs bs w) :
    Calls Try.prog 50 #[.pointer (some ⟨b, o, none⟩)] w fun e w' => e = .returned (.int .i64 bs.length) ∧ w' = w := by
  obtain ⟨hP, hB, hBw, hb, hp, v, hv, hown, hne, hnil⟩ := h
  obtain ⟨a, cap, rfl⟩ := ownF_slice hown
  have h1 : w.cell? ⟨b, o + 1, none⟩ = some (.slice a bs.length cap) := by rw [Lib.cell_of_heap hb]; exact hv
  clear hown hv hp hb
  go_enter Try.func50, Try.ntmps50
  go_wp2
  go_ret
  exact ⟨rfl, rfl⟩
set_option maxHeartbeats 1000000 in
set_option maxRecDepth 100000 in
theorem bReset_any {T : TypeId} {o B b : Nat} {cs : Array Value} {bs : List UInt8} (w : World) (h : Bld T o B b cs bs w) :
    Calls Try.prog 44 #[.pointer (some ⟨b, o, none⟩)] w fun e w' => e = .returned (.tuple #[]) ∧ BPost T o B b cs [] w w' := by
  obtain ⟨hP, hB, hBw, hb, hp, v, hv, hown, hne, hnil⟩ := h
  have hroom := hP.room
  obtain ⟨a, cap, rfl⟩ := ownF_slice hown
  obtain ⟨p0, hp0⟩ : ∃ p0, cs[o]? = some p0 := by rcases hp with hp | hp <;> exact ⟨_, hp⟩
  have h0 : w.cell? ⟨b, o, none⟩ = some p0 := by rw [Lib.cell_of_heap hb]; exact hp0
  have h1 : w.cell? ⟨b, o + 1, none⟩ = some (.slice a bs.length cap) := by rw [Lib.cell_of_heap hb]; exact hv
  have hf0 : w.frozen? ⟨b, o, none⟩ = false := Lib.frozen_of_heap hb o
  have hb1 := heap_set hb o (.pointer none)
  have h2 : (w.setCell ⟨b, o, none⟩ (.pointer none)).cell? ⟨b, o + 1, none⟩ = some (.slice a bs.length cap) := by rw [Lib.cell_of_heap hb1]; simpa using hv
  have hf1 : (w.setCell ⟨b, o, none⟩ (.pointer none)).frozen? ⟨b, o + 1, none⟩ = false := Lib.frozen_of_heap hb1 _
  have HOT : Hid (BPost T o B b cs [] w ((w.setCell ⟨b, o, none⟩ (.pointer none)).setCell ⟨b, o + 1, none⟩ (.slice none 0 0))) := by
    obtain ⟨cs', hk, hr⟩ := Bld.put (v' := .slice none 0 0) (bs' := []) (by simpa using hP) hB (by simpa [World.setCell] using hBw) hb1 (.inl (by rw [Array.getElem?_setIfInBounds, if_pos rfl, if_pos (by omega)])) (Go.World.ownsRowF_nil _ _ _ _) (fun _ => rfl)
    refine ⟨⟨cs', hk, Rest.trans ⟨by simp, fun j h1 h2 => by simp [Ne.symm h1]⟩ hr⟩, ?_, ?_⟩
    · exact ((Below.refl B w).setCell (p := ⟨b, o, none⟩) hB _).setCell (p := ⟨b, o + 1, none⟩) hB _
    · exact ((Lib.OthersKept.refl _ _ w).setCell ⟨b, o, none⟩ rfl _).setCell ⟨b, o + 1, none⟩ rfl _
  clear hown hv hp hb hb1 hp0
  go_enter Try.func44, Try.ntmps44
  go_wp2
  go_end0
  exact ⟨rfl, HOT.out⟩
set_option maxHeartbeats 2000000 in
set_option maxRecDepth 100000 in
theorem writeByte_any {T : TypeId} {o B b : Nat} {cs : Array Value} {bs : List UInt8} (c : UInt8) (w : World) (h : Bld T o B b cs bs w) (hlen : Hid (bs.length ≤ 100000)) :
    Calls Try.prog 29 #[.pointer (some ⟨b, o, none⟩), .int .u8 (c.toNat : Int)] w fun e w' => e = .returned .nilIface ∧ BPost T o B b cs (bs ++ [c]) w w' := by
  obtain ⟨i0, hi, hz0, hz1, hz2⟩ := info_parts info5
  go_enter Try.func29, Try.ntmps29
  go_wp2_with fail
  refine (copyCheck_any _ h).mono ?_
  rintro e w1 ⟨rfl, hP1⟩
  have HP1 : Hid (BPost T o B b cs bs w w1) := hP1
  obtain ⟨⟨cs1, ⟨hP, hB, hBw, hb, hp, v, hv, hown, hne, hnil⟩, hr⟩, _, _⟩ := hP1
  have h1 : w1.cell? ⟨b, o + 1, none⟩ = some v := by rw [Lib.cell_of_heap hb]; exact hv
  have HB : Hid (w1.heap[b]? = some (.cells cs1 T (0, 0))) := hb
  clear hb
  go_wp2_with (at_builtin; refine wpList_append_ownF _ rfl _ _ 48 rfl B 5 i0 (.int .u8 0) 1 1 Try.underlying48 hi hz0 hz1 hz2 rfl (by decide) _ _ _ rfl (hown.alloc _) ⟨w1.heap.size, 0, none⟩ 1 1 [.int .u8 (c.toNat : Int)] rfl rfl ?c1 ?c2 ?c3 ?c4 ?c5 ?_)
  case c1 =>
    intro j u hj
    match j, hj with
    | 0, hj => simp at hj; subst hj; simp [Addr.add]
  case c2 => intro u hu; simp at hu; subst hu; rfl
  case c3 => have := hlen.out; unfold maxLen; omega
  case c4 => have := hlen.out; omega
  case c5 => simp; omega
  intro v' w2 hown' hgrow _
  have hlt : b < w1.heap.size := (Array.getElem?_eq_some_iff.1 HB.out).1
  have hb2 : w2.heap[b]? = some (.cells cs1 T (0, 0)) := by
    rw [hgrow.block b (by simp; omega) (fun e => hne e.symm), Lib.alloc_old w1 _ b hlt]; exact HB.out
  have d1 : w2.cell? ⟨b, o + 1, none⟩ = some v := by rw [Lib.cell_of_heap hb2]; exact hv
  have f1 : w2.frozen? ⟨b, o + 1, none⟩ = false := Lib.frozen_of_heap hb2 _
  have HOT : Hid (BPost T o B b cs (bs ++ [c]) w (w2.setCell ⟨b, o + 1, none⟩ v')) := bpost_of HP1.out hr hP hB hBw HB.out hp hown hne (.inr ⟨_, rfl⟩) hgrow (by rw [Lib.byteCells_append]; simpa [Lib.byteCells] using hown') (fun e => by simp at e)
  obtain ⟨a, cap, rfl⟩ := ownF_slice hown'
  clear hb2 hown hown' hgrow hp hv hP HP1 HB
  go_wp2
  go_ret
  exact ⟨rfl, HOT.out⟩
set_option maxHeartbeats 2000000 in
set_option maxRecDepth 100000 in
theorem writeString_any {T : TypeId} {o B b : Nat} {cs : Array Value} {bs : List UInt8} (s : ByteArray) (w : World) (h : Bld T o B b cs bs w) (hlen : Hid (bs.length ≤ 100000)) (hs : Hid (s.size ≤ 100000)) :
    Calls Try.prog 26 #[.pointer (some ⟨b, o, none⟩), .string s] w fun e w' => e = .returned (.tuple #[.int .i64 s.size, .nilIface]) ∧ BPost T o B b cs (bs ++ sg s) w w' := by
  obtain ⟨i0, hi, hz0, hz1, hz2⟩ := info_parts info5
  go_enter Try.func26, Try.ntmps26
  go_wp2_with fail
  refine (copyCheck_any _ h).mono ?_
  rintro e w1 ⟨rfl, hP1⟩
  have HP1 : Hid (BPost T o B b cs bs w w1) := hP1
  obtain ⟨⟨cs1, ⟨hP, hB, hBw, hb, hp, v, hv, hown, hne, hnil⟩, hr⟩, _, _⟩ := hP1
  have h1 : w1.cell? ⟨b, o + 1, none⟩ = some v := by rw [Lib.cell_of_heap hb]; exact hv
  have HB : Hid (w1.heap[b]? = some (.cells cs1 T (0, 0))) := hb
  clear hb
  go_wp2_with (at_builtin; refine Lib.wpList_append_own_stringF _ rfl _ _ 48 9 rfl B 5 i0 Try.underlying48 Try.underlying9 hi hz0 hz1 hz2 _ _ _ rfl hown s rfl ?c3 ?c4 ?c5 ?_)
  case c3 => have := hlen.out; have := hs.out; unfold maxLen; omega
  case c4 => have := hlen.out; have := hs.out; omega
  case c5 => omega
  intro v' w2 hown' hgrow hnil'
  have hlt : b < w1.heap.size := (Array.getElem?_eq_some_iff.1 HB.out).1
  have hb2 : w2.heap[b]? = some (.cells cs1 T (0, 0)) := by
    rw [hgrow.block b hlt (fun e => hne e.symm)]; exact HB.out
  have d1 : w2.cell? ⟨b, o + 1, none⟩ = some v := by rw [Lib.cell_of_heap hb2]; exact hv
  have f1 : w2.frozen? ⟨b, o + 1, none⟩ = false := Lib.frozen_of_heap hb2 _
  have HOT : Hid (BPost T o B b cs (bs ++ sg s) w (w2.setCell ⟨b, o + 1, none⟩ v')) := bpost_of HP1.out hr hP hB hBw HB.out hp hown hne (.inl rfl) hgrow (by rw [Lib.byteCells_append]; simpa [Lib.byteCells, Lib.strCells, sg] using hown') (fun e => by
    have e1 := congrArg List.length e
    simp [sg_length] at e1
    exact hnil'.2 ⟨hnil (by simpa using e1.1), by have := e1.2; omega⟩)
  obtain ⟨a, cap, rfl⟩ := ownF_slice hown'
  clear hb2 hown hown' hgrow hp hv hP HP1 HB hnil' hnil
  go_wp2
  go_ret2
  exact ⟨rfl, HOT.out⟩
/-- the bytes of a rune -/
theorem appendRune_any (B : Nat) (v : Value) (n : Nat) (xs : List Value) (r : Int) (hr0 : -2147483648 ≤ r) (hr1 : r ≤ 2147483647) (w : World) (hown : w.ownsRowF B 5 1 v n xs) (hlen : n + 4 ≤ 140737488355328) (hBw : B ≤ w.heap.size) :
    Calls Try.prog 39 #[v, .int .i32 r] w fun e w' => ∃ v', e = .returned v' ∧ w'.ownsRowF B 5 1 v' (n + (Lib.runeCells r).length) (xs ++ Lib.runeCells r) ∧ ∃ o, (w.alloc o).grownBy w' v.ownBlock :=
  Any.utf8_AppendRune_own Try.lays242 Try.extra242 B v n xs r hr0 hr1 w hown hlen hBw
set_option maxHeartbeats 2000000 in
set_option maxRecDepth 100000 in
theorem writeRune_any {T : TypeId} {o B b : Nat} {cs : Array Value} {bs : List UInt8} (r : Int) (w : World) (h : Bld T o B b cs bs w) (hlen : Hid (bs.length ≤ 100000)) (hr0 : 0 ≤ r) (hr1 : r ≤ 2147483647) :
    Calls Try.prog 27 #[.pointer (some ⟨b, o, none⟩), .int .i32 r] w fun e w' => (∃ k : Int, e = .returned (.tuple #[.int .i64 k, .nilIface])) ∧ BPost T o B b cs (bs ++ Lib.encodeRune r) w w' := by
  have hr4 := Lib.runeCells_le r
  go_enter Try.func27, Try.ntmps27
  go_wp2_with fail
  refine (copyCheck_any _ h).mono ?_
  rintro e w1 ⟨rfl, hP1⟩
  have HP1 : Hid (BPost T o B b cs bs w w1) := hP1
  obtain ⟨⟨cs1, ⟨hP, hB, hBw, hb, hp, v, hv, hown, hne, hnil⟩, hr⟩, _, _⟩ := hP1
  obtain ⟨a, cap, rfl⟩ := ownF_slice hown
  have h1 : w1.cell? ⟨b, o + 1, none⟩ = some (.slice a bs.length cap) := by rw [Lib.cell_of_heap hb]; exact hv
  have HB : Hid (w1.heap[b]? = some (.cells cs1 T (0, 0))) := hb
  have HR : Hid (1 ≤ (Lib.runeCells r).length ∧ (Lib.runeCells r).length ≤ 4) := hr4
  clear hb hr4
  go_wp2_with fail
  refine (appendRune_any B _ bs.length (Lib.byteCells bs) r (by omega) hr1 _ hown (by have := hlen.out; omega) hBw).mono ?_
  rintro e w2 ⟨v', rfl, hown', ob, hgrow⟩
  have hlt : b < w1.heap.size := (Array.getElem?_eq_some_iff.1 HB.out).1
  have hb2 : w2.heap[b]? = some (.cells cs1 T (0, 0)) := by
    rw [hgrow.block b (by simp; omega) (fun e => hne e.symm), Lib.alloc_old w1 _ b hlt]; exact HB.out
  have d1 : w2.cell? ⟨b, o + 1, none⟩ = some (.slice a bs.length cap) := by rw [Lib.cell_of_heap hb2]; exact hv
  have f1 : w2.frozen? ⟨b, o + 1, none⟩ = false := Lib.frozen_of_heap hb2 _
  have HOT : Hid (BPost T o B b cs (bs ++ Lib.encodeRune r) w (w2.setCell ⟨b, o + 1, none⟩ v')) := bpost_of HP1.out hr hP hB hBw HB.out hp hown hne (.inr ⟨_, rfl⟩) hgrow (by rw [Lib.byteCells_append, Lib.byteCells_encodeRune, List.length_append, ← Lib.byteCells_length (Lib.encodeRune r), Lib.byteCells_encodeRune]; exact hown') (fun e => by
    have e1 := congrArg List.length e
    rw [List.length_append, ← Lib.byteCells_length (Lib.encodeRune r), Lib.byteCells_encodeRune] at e1
    have e2 := HR.out.1
    simp at e1
    simp [e1.2] at e2)
  obtain ⟨a', cap', rfl⟩ := ownF_slice hown'
  have d2 : (w2.setCell ⟨b, o + 1, none⟩ (.slice a' (bs.length + (Lib.runeCells r).length) cap')).cell? ⟨b, o + 1, none⟩ = some (.slice a' (bs.length + (Lib.runeCells r).length) cap') := World.cell?_setCell_same _ _ _ d1
  clear hb2 hown hown' hgrow hp hv hP HP1 HB hnil
  generalize (Lib.runeCells r).length = q at *
  have hq : ((bs.length + q : Nat) : Int) - (bs.length : Int) = (q : Int) := by omega
  go_wp2
  go_ret2
  exact ⟨⟨_, rfl⟩, HOT.out⟩
theorem own_froze {w : World} {B g n cap : Nat} {xs : List Value} (h : w.ownsRowF B 5 1 (.slice (some ⟨g, 0, none⟩) n cap) n xs) : (w.freeze ⟨g, 0, none⟩ n).ownsRowF B 5 1 (.slice (some ⟨g, 0, none⟩) n cap) n xs := by
  unfold World.freeze
  split
  · exact h
  · refine ⟨h.1, ?_⟩
    rcases h.2 with ⟨hv, _⟩ | ⟨g', cap', cur, fz, hv, hbg, hg, hfz, rest⟩
    · cases hv
    · injection hv with ha _ hcap
      injection ha with ha
      injection ha with hgg _ _
      subst hgg
      subst hcap
      obtain ⟨lo, hi⟩ := fz
      refine .inr ⟨g, _, cur, (if lo == hi then (0, 0 + n) else (min lo 0, max hi (0 + n))), rfl, hbg, ?_, ?_, rest⟩
      · simp [Array.getElem?_modify, hg]
      · simp only at hfz
        split <;> simp <;> omega
set_option maxHeartbeats 2000000 in
set_option maxRecDepth 100000 in
theorem bString_any {T : TypeId} {o B b : Nat} {cs : Array Value} {bs : List UInt8} (w : World) (h : Bld T o B b cs bs w) :
    Calls Try.prog 30 #[.pointer (some ⟨b, o, none⟩)] w fun e w' => e = .returned (.string ⟨bs.toArray⟩) ∧ BPost T o B b cs bs w w' := by
  have HBB : Hid (Bld T o B b cs bs w) := h
  obtain ⟨hP, hB, hBw, hb, hp, v, hv, hown, hne, hnil⟩ := h
  by_cases h0 : bs = []
  · obtain rfl := hnil h0
    subst h0
    have hUS : ∀ W q, (Builtin.unsafeString_ #[68, 3] 9 #[.pointer q, .int .i64 0]).run Try.prog W = .ok (.string .empty) W := fun W q => Lib.run_unsafeString_none W _ _ _ q
    have c1 : w.drew.cell? ⟨b, o + 1, none⟩ = some (.slice none 0 0) := by
      have : w.drew.heap[b]? = some (.cells cs T (0, 0)) := hb
      rw [Lib.cell_of_heap this]; exact hv
    have hSD : (Builtin.unsafeSliceData_ #[48] 68 #[.slice none 0 0]).run Try.prog w.drew = .ok (.pointer none) w.drew := rfl
    have HOT : Hid (BPost T o B b cs [] w w.drew) := ⟨⟨cs, HBB.out, rfl, fun _ _ _ => rfl⟩, Below.drew (Below.refl B w), (Lib.OthersKept.refl _ _ w).drew⟩
    clear hown hv hp hb HBB
    go_enter Try.func30, Try.ntmps30
    go_wp2
    go_region
    all_goals (go_wp2; go_ret; exact ⟨rfl, HOT.out⟩)
  · have hl0 : bs.length ≠ 0 := by simpa using h0
    obtain ⟨g, cap, cur, fz, rfl, hbg, hg, hfz, hnc, hcm, hcs, htake⟩ : ∃ g cap cur fz, v = .slice (some ⟨g, 0, none⟩) bs.length cap ∧ B ≤ g ∧ w.heap[g]? = some (.cells cur 5 fz) ∧ fz.2 ≤ bs.length * 1 ∧ bs.length ≤ cap ∧ cap ≤ maxLen ∧ cur.size = cap * 1 ∧ cur.toList.take (bs.length * 1) = Lib.byteCells bs := by
      rcases hown.2 with ⟨_, hz⟩ | ⟨g, cap, cur, fz, hv, r⟩
      · exact absurd hz hl0
      · exact ⟨g, cap, cur, fz, hv, r⟩
    have c1 : w.drew.cell? ⟨b, o + 1, none⟩ = some (.slice (some ⟨g, 0, none⟩) bs.length cap) := by
      have : w.drew.heap[b]? = some (.cells cs T (0, 0)) := hb
      rw [Lib.cell_of_heap this]; exact hv
    have hSD : (Builtin.unsafeSliceData_ #[48] 68 #[.slice (some ⟨g, 0, none⟩) bs.length cap]).run Try.prog w.drew = .ok (.pointer (some ⟨g, 0, none⟩)) w.drew :=
      Lib.run_unsafeSliceData_row _ _ _ _ _ _ (by omega)
    have hUS : (Builtin.unsafeString_ #[68, 3] 9 #[.pointer (some ⟨g, 0, none⟩), .int .i64 bs.length]).run Try.prog w.drew = .ok (.string ⟨bs.toArray⟩) (w.drew.freeze ⟨g, 0, none⟩ bs.length) := by
      refine Lib.run_unsafeString_row w.drew 68 3 9 5 Try.underlying68 (by kernel_rfl) g cur.size (by have hg' : w.drew.heap[g]? = some (.cells cur 5 fz) := hg; simp [World.shape?, hg']) bs h0 (by omega) (by unfold maxLen at hcm; omega) ?_
      intro j x hx
      have := hown.cells (g := g) rfl j (.int .u8 x.toNat) (by simp [Lib.byteCells, hx])
      exact this
    have hgb : g ≠ b := fun e => hne (by simp [Value.ownBlock, e])
    have HOT : Hid (BPost T o B b cs bs w (w.drew.freeze ⟨g, 0, none⟩ bs.length)) := by
      refine ⟨⟨cs, ⟨hP, hB, ?_, ?_, hp, _, hv, own_froze hown, hne, hnil⟩, rfl, fun _ _ _ => rfl⟩, Lib.below_freeze (Below.drew (Below.refl B w)) (p := ⟨g, 0, none⟩) hbg _, ((Lib.OthersKept.refl _ _ w).drew).freeze ⟨g, 0, none⟩ _ ⟨cur, fz, hg⟩⟩
      · unfold World.freeze
        split
        · exact hBw
        · simpa using hBw
      · unfold World.freeze
        split
        · exact hb
        · simp only [Array.getElem?_modify]
          rw [if_neg hgb]
          exact hb
    clear hown hv hp hb HBB htake hg
    go_enter Try.func30, Try.ntmps30
    go_wp2
    go_region
    all_goals (go_wp2; go_ret; exact ⟨rfl, HOT.out⟩)
end Go.Proofs.Ytnjbpiekbekpeaa
