/-
  A strings.Builder at some place of a block of the call's own: the contracts of its methods.
  Series as they lie in memory; the contracts of Check and of May: which series may be.
-/
import Derived.Test.YtihohcmocejijaaGreatPr00
import Derived.Lib.FrozenHead2
import Derived.Lib.UnsafeStr
import Derived.Laws.Externs
import Derived.Sort.Walk0
import Derived.Deep.QuietTactic
import Derived.BigQuiet
import Derived.Laws.Cover1
namespace Go.Proofs.YtihohcmocejijaaGreat.Lb
open Go.ChangeShapes Go.WideShapes Go.ChangeAt Go.RowKit
theorem info5 : (Tryz.prog.info? 5).map (fun i => (i.zero, i.size, i.bytes)) = some (some (.int .u8 0), 1, 1) := by kernel_rfl
theorem size50 : (Tryz.prog.info? 135).map (·.size) = some 2 := by kernel_rfl
def Place (T : TypeId) (n o : Nat) : Prop := (T = 135 ∧ n = 2 ∧ o = 0) ∨ (T = 137 ∧ n = 6 ∧ o = 1)
theorem Place.lies {T : TypeId} {n o : Nat} (h : Place T n o) : liesAt Tryz.prog Tryz.prog.depth T (n / Tryz.prog.cellsOf T) o 135 1 = true := by
  rcases h with ⟨rfl, rfl, rfl⟩ | ⟨rfl, rfl, rfl⟩
  · kernel_rfl
  · kernel_rfl
theorem Place.room {T : TypeId} {n o : Nat} (h : Place T n o) : o + 1 < n := by
  rcases h with ⟨rfl, rfl, rfl⟩ | ⟨rfl, rfl, rfl⟩ <;> decide
theorem Place.ne5 {T : TypeId} {n o : Nat} (h : Place T n o) : T ≠ 5 := by
  rcases h with ⟨rfl, rfl, rfl⟩ | ⟨rfl, rfl, rfl⟩ <;> decide
def Bld (T : TypeId) (o B b : Nat) (cs : Array Value) (bs : List UInt8) (w : World) : Prop :=
  Place T cs.size o ∧ B ≤ b ∧ B ≤ w.heap.size ∧ w.heap[b]? = some (.cells cs T (0, 0)) ∧ (cs[o]? = some (.pointer none) ∨ cs[o]? = some (.pointer (some ⟨b, o, none⟩))) ∧
  ∃ v, cs[o + 1]? = some v ∧ w.ownsRowF B 5 1 v bs.length (Lib.byteCells bs) ∧ v.ownBlock ≠ some b ∧ (bs = [] → v = .slice none 0 0)
def Rest (o : Nat) (cs cs' : Array Value) : Prop := cs'.size = cs.size ∧ ∀ j, j ≠ o → j ≠ o + 1 → cs'[j]? = cs[j]?
def BPost (T : TypeId) (o B b : Nat) (cs : Array Value) (bs' : List UInt8) (w w' : World) : Prop :=
  (∃ cs', Bld T o B b cs' bs' w' ∧ Rest o cs cs') ∧ Below B w w' ∧ Lib.OthersKept 5 (some b) w w'
theorem heap_set {w : World} {b : Nat} {cs : Array Value} {T : TypeId} (h : w.heap[b]? = some (.cells cs T (0, 0))) (j : Nat) (v : Value) : (w.setCell ⟨b, j, none⟩ v).heap[b]? = some (.cells (cs.setIfInBounds j v) T (0, 0)) := by
  simp [World.setCell, Array.getElem?_modify, h]
set_option maxHeartbeats 1000000 in
set_option maxRecDepth 100000 in
theorem copyCheck_any {T : TypeId} {o B b : Nat} {cs : Array Value} {bs : List UInt8} (w : World) (h : Bld T o B b cs bs w) :
    Calls Tryz.prog 128 #[.pointer (some ⟨b, o, none⟩)] w fun e w' => e = .returned (.tuple #[]) ∧ BPost T o B b cs bs w w' := by
  obtain ⟨hP, hB, hBw, hb, hp, v, hv, hown, hne, hnil⟩ := h
  have hroom := hP.room
  obtain ⟨j, hj, hjs⟩ := Option.map_eq_some_iff.1 size50
  have h1 : w.cell? ⟨b, o + 1, none⟩ = some v := by rw [Lib.cell_of_heap hb]; exact hv
  have hsh : w.shape? b = some (T, cs.size) := by simp [World.shape?, hb]
  have hf0 : w.frozen? ⟨b, o, none⟩ = false := Lib.frozen_of_heap hb o
  rcases hp with hp | hp
  · have h0 : w.cell? ⟨b, o, none⟩ = some (.pointer none) := by rw [Lib.cell_of_heap hb]; exact hp
    have hlies := hP.lies
    have HOT : Hid (BPost T o B b cs bs w (w.setCell ⟨b, o, none⟩ (.pointer (some ⟨b, o, none⟩)))) := by
      refine ⟨⟨cs.setIfInBounds o (.pointer (some ⟨b, o, none⟩)), ⟨by simpa using hP, hB, by simpa [World.setCell] using hBw, heap_set hb _ _, .inr (by rw [Array.getElem?_setIfInBounds, if_pos rfl, if_pos (by omega)]), v, ?_, ?_, hne, hnil⟩, by simp, fun j h1 h2 => by simp [Ne.symm h1]⟩, (Below.refl B w).setCell (p := ⟨b, o, none⟩) hB _, (Lib.OthersKept.refl _ _ w).setCell ⟨b, o, none⟩ rfl _⟩
      · simpa [Array.getElem?_setIfInBounds] using hv
      · refine hown.kept (row := some b) ⟨rfl, rfl, rfl, by simp [World.setCell], fun k _ hk => Below.heap_setCell _ _ _ _ (fun e => hk (by simp [e]))⟩ (Or.inr hne)
    clear hown hv hp hb
    go_enter Tryz.func128, Tryz.ntmps128
    go_wp2
    rw [Lib.run_to_unsafe w ⟨b, o, none⟩ Tryz.underlying132 Tryz.underlying167 hj (by rw [hjs]; decide) hsh (by show o < _; omega)]
    simp only [Result.andThen]
    rw [Oper.upon_value]
    go_wp2
    rw [run_callFunc_extern Tryz.func139 (by kernel_rfl) (by kernel_rfl) (by kernel_rfl) (e := Extern.AbiNoEscape.same) (by kernel_rfl)]
    rw [Lib.run_noEscape]
    simp only [Result.andThen]
    rw [Oper.upon_value]
    go_wp2
    rw [Lib.run_from_unsafe w ⟨b, o, none⟩ Tryz.underlying167 Tryz.underlying132 hj hsh hlies]
    simp only [Result.andThen]
    rw [Oper.upon_value]
    go_wp2
    go_end0
    exact ⟨rfl, HOT.out⟩
  · have h0 : w.cell? ⟨b, o, none⟩ = some (.pointer (some ⟨b, o, none⟩)) := by rw [Lib.cell_of_heap hb]; exact hp
    have HOT : Hid (BPost T o B b cs bs w w) := ⟨⟨cs, ⟨hP, hB, hBw, hb, .inr hp, v, hv, hown, hne, hnil⟩, rfl, fun _ _ _ => rfl⟩, Below.refl _ _, Lib.OthersKept.refl _ _ _⟩
    clear hown hv hp hb
    go_enter Tryz.func128, Tryz.ntmps128
    go_wp2
    rw [Lib.run_neq_ptr_same w _ Tryz.underlying132 hj]
    go_wp2
    go_end0
    exact ⟨rfl, HOT.out⟩
theorem ownF_slice {w : World} {B : Nat} {v : Value} {n : Nat} {xs : List Value} (h : w.ownsRowF B 5 1 v n xs) : ∃ a cap, v = .slice a n cap := by
  rcases h.2 with ⟨hv, h0⟩ | ⟨g, cap, cur, fz, hv, _⟩
  · exact ⟨none, 0, by rw [hv, h0]⟩
  · exact ⟨_, _, hv⟩
theorem Bld.put {T : TypeId} {o B b : Nat} {cs : Array Value} {w2 : World} {v' : Value} {bs' : List UInt8} (hP : Place T cs.size o) (hB : B ≤ b) (hBw : B ≤ w2.heap.size) (hb : w2.heap[b]? = some (.cells cs T (0, 0)))
    (hp : cs[o]? = some (.pointer none) ∨ cs[o]? = some (.pointer (some ⟨b, o, none⟩))) (hown : w2.ownsRowF B 5 1 v' bs'.length (Lib.byteCells bs')) (hnil : bs' = [] → v' = .slice none 0 0) :
    ∃ cs', Bld T o B b cs' bs' (w2.setCell ⟨b, o + 1, none⟩ v') ∧ Rest o cs cs' := by
  have hroom := hP.room
  have hne := Lib.ownBlock_neF hown hb hP.ne5
  refine ⟨cs.setIfInBounds (o + 1) v', ⟨by simpa using hP, hB, by simpa [World.setCell] using hBw, heap_set hb _ _, ?_, v', by rw [Array.getElem?_setIfInBounds, if_pos rfl, if_pos (by omega)], ?_, hne, hnil⟩, by simp, fun j h1 h2 => by simp [Ne.symm h2]⟩
  · simpa using hp
  · exact hown.kept (row := some b) ⟨rfl, rfl, rfl, by simp [World.setCell], fun k _ hk => Below.heap_setCell _ _ _ _ (fun e => hk (by simp [e]))⟩ (Or.inr hne)
theorem Rest.trans {o : Nat} {a b c : Array Value} (h : Rest o a b) (k : Rest o b c) : Rest o a c := ⟨k.1.trans h.1, fun j h1 h2 => (k.2 j h1 h2).trans (h.2 j h1 h2)⟩
theorem bpost_of {T : TypeId} {o B b : Nat} {cs cs1 : Array Value} {w w1 wx w2 : World} {bs bs' : List UInt8} {v v' : Value} (h1 : BPost T o B b cs bs w w1) (hr : Rest o cs cs1) (hP : Place T cs1.size o) (hB : B ≤ b) (hBw : B ≤ w1.heap.size) (hb : w1.heap[b]? = some (.cells cs1 T (0, 0)))
    (hp : cs1[o]? = some (.pointer none) ∨ cs1[o]? = some (.pointer (some ⟨b, o, none⟩))) (hown : w1.ownsRowF B 5 1 v bs.length (Lib.byteCells bs)) (hne : v.ownBlock ≠ some b) (hx : wx = w1 ∨ ∃ ob, wx = w1.alloc ob)
    (hg : wx.grownBy w2 v.ownBlock) (hown2 : w2.ownsRowF B 5 1 v' bs'.length (Lib.byteCells bs')) (hnil : bs' = [] → v' = .slice none 0 0) : BPost T o B b cs bs' w (w2.setCell ⟨b, o + 1, none⟩ v') := by
  have hlt : b < w1.heap.size := (Array.getElem?_eq_some_iff.1 hb).1
  have X : w1.heap.size ≤ wx.heap.size ∧ wx.heap[b]? = w1.heap[b]? ∧ Below B w wx ∧ Lib.OthersKept 5 (some b) w wx ∧ wx.ownsRowF B 5 1 v bs.length (Lib.byteCells bs) := by
    rcases hx with rfl | ⟨ob, rfl⟩
    · exact ⟨Nat.le_refl _, rfl, h1.2.1, h1.2.2, hown⟩
    · exact ⟨by simp, Lib.alloc_old w1 _ b hlt, h1.2.1.alloc hBw _, h1.2.2.alloc _, hown.alloc _⟩
  obtain ⟨x1, x2, x3, x4, x5⟩ := X
  have hb2 : w2.heap[b]? = some (.cells cs1 T (0, 0)) := by
    rw [hg.block b (by omega) (fun e => hne e.symm), x2]; exact hb
  have hs := hg.size
  obtain ⟨cs', hk, hr2⟩ := Bld.put hP hB (by omega) hb2 hp hown2 hnil
  refine ⟨⟨cs', hk, hr.trans hr2⟩, ?_, ?_⟩
  · exact (x3.grown hg (by omega) (fun k hk => (hown.lt k hk).1)).setCell (p := ⟨b, o + 1, none⟩) hB _
  · exact (x4.grown hg (Lib.ownsRowF_kind x5)).setCell ⟨b, o + 1, none⟩ rfl _
set_option maxHeartbeats 1000000 in
set_option maxRecDepth 100000 in
theorem bLen_any {T : TypeId} {o B b : Nat} {cs : Array Value} {bs : List UInt8} (w : World) (h : Bld T o B b cs bs w) :
    Calls Tryz.prog 135 #[.pointer (some ⟨b, o, none⟩)] w fun e w' => e = .returned (.int .i64 bs.length) ∧ w' = w := by
  obtain ⟨hP, hB, hBw, hb, hp, v, hv, hown, hne, hnil⟩ := h
  obtain ⟨a, cap, rfl⟩ := ownF_slice hown
  have h1 : w.cell? ⟨b, o + 1, none⟩ = some (.slice a bs.length cap) := by rw [Lib.cell_of_heap hb]; exact hv
  clear hown hv hp hb
  go_enter Tryz.func135, Tryz.ntmps135
  go_wp2
  go_ret
  exact ⟨rfl, rfl⟩
set_option maxHeartbeats 1000000 in
set_option maxRecDepth 100000 in
theorem bReset_any {T : TypeId} {o B b : Nat} {cs : Array Value} {bs : List UInt8} (w : World) (h : Bld T o B b cs bs w) :
    Calls Tryz.prog 123 #[.pointer (some ⟨b, o, none⟩)] w fun e w' => e = .returned (.tuple #[]) ∧ BPost T o B b cs [] w w' := by
  obtain ⟨hP, hB, hBw, hb, hp, v, hv, hown, hne, hnil⟩ := h
  have hroom := hP.room
  obtain ⟨a, cap, rfl⟩ := ownF_slice hown
  obtain ⟨p0, hp0⟩ : ∃ p0, cs[o]? = some p0 := by rcases hp with hp | hp <;> exact ⟨_, hp⟩
  have h0 : w.cell? ⟨b, o, none⟩ = some p0 := by rw [Lib.cell_of_heap hb]; exact hp0
  have h1 : w.cell? ⟨b, o + 1, none⟩ = some (.slice a bs.length cap) := by rw [Lib.cell_of_heap hb]; exact hv
  have hf0 : w.frozen? ⟨b, o, none⟩ = false := Lib.frozen_of_heap hb o
  have hb1 := heap_set hb o (.pointer none)
  have h2 : (w.setCell ⟨b, o, none⟩ (.pointer none)).cell? ⟨b, o + 1, none⟩ = some (.slice a bs.length cap) := by rw [Lib.cell_of_heap hb1]; simpa using hv
  have hf1 : (w.setCell ⟨b, o, none⟩ (.pointer none)).frozen? ⟨b, o + 1, none⟩ = false := Lib.frozen_of_heap hb1 _
  have HOT : Hid (BPost T o B b cs [] w ((w.setCell ⟨b, o, none⟩ (.pointer none)).setCell ⟨b, o + 1, none⟩ (.slice none 0 0))) := by
    obtain ⟨cs', hk, hr⟩ := Bld.put (v' := .slice none 0 0) (bs' := []) (by simpa using hP) hB (by simpa [World.setCell] using hBw) hb1 (.inl (by rw [Array.getElem?_setIfInBounds, if_pos rfl, if_pos (by omega)])) (Go.World.ownsRowF_nil _ _ _ _) (fun _ => rfl)
    refine ⟨⟨cs', hk, Rest.trans ⟨by simp, fun j h1 h2 => by simp [Ne.symm h1]⟩ hr⟩, ?_, ?_⟩
    · exact ((Below.refl B w).setCell (p := ⟨b, o, none⟩) hB _).setCell (p := ⟨b, o + 1, none⟩) hB _
    · exact ((Lib.OthersKept.refl _ _ w).setCell ⟨b, o, none⟩ rfl _).setCell ⟨b, o + 1, none⟩ rfl _
  clear hown hv hp hb hb1 hp0
  go_enter Tryz.func123, Tryz.ntmps123
  go_wp2
  go_end0
  exact ⟨rfl, HOT.out⟩
set_option maxHeartbeats 2000000 in
set_option maxRecDepth 100000 in
theorem writeByte_any {T : TypeId} {o B b : Nat} {cs : Array Value} {bs : List UInt8} (c : UInt8) (w : World) (h : Bld T o B b cs bs w) (hlen : Hid (bs.length ≤ 100000)) :
    Calls Tryz.prog 106 #[.pointer (some ⟨b, o, none⟩), .int .u8 (c.toNat : Int)] w fun e w' => e = .returned .nilIface ∧ BPost T o B b cs (bs ++ [c]) w w' := by
  obtain ⟨i0, hi, hz0, hz1, hz2⟩ := info_parts info5
  go_enter Tryz.func106, Tryz.ntmps106
  go_wp2_with fail
  refine (copyCheck_any _ h).mono ?_
  rintro e w1 ⟨rfl, hP1⟩
  have HP1 : Hid (BPost T o B b cs bs w w1) := hP1
  obtain ⟨⟨cs1, ⟨hP, hB, hBw, hb, hp, v, hv, hown, hne, hnil⟩, hr⟩, _, _⟩ := hP1
  have h1 : w1.cell? ⟨b, o + 1, none⟩ = some v := by rw [Lib.cell_of_heap hb]; exact hv
  have HB : Hid (w1.heap[b]? = some (.cells cs1 T (0, 0))) := hb
  clear hb
  go_wp2_with (at_builtin; refine wpList_append_ownF _ rfl _ _ 133 rfl B 5 i0 (.int .u8 0) 1 1 Tryz.underlying133 hi hz0 hz1 hz2 rfl (by decide) _ _ _ rfl (hown.alloc _) ⟨w1.heap.size, 0, none⟩ 1 1 [.int .u8 (c.toNat : Int)] rfl rfl ?c1 ?c2 ?c3 ?c4 ?c5 ?_)
  case c1 =>
    intro j u hj
    match j, hj with
    | 0, hj => simp at hj; subst hj; simp [Addr.add]
  case c2 => intro u hu; simp at hu; subst hu; rfl
  case c3 => have := hlen.out; unfold maxLen; omega
  case c4 => have := hlen.out; omega
  case c5 => simp; omega
  intro v' w2 hown' hgrow _
  have hlt : b < w1.heap.size := (Array.getElem?_eq_some_iff.1 HB.out).1
  have hb2 : w2.heap[b]? = some (.cells cs1 T (0, 0)) := by
    rw [hgrow.block b (by simp; omega) (fun e => hne e.symm), Lib.alloc_old w1 _ b hlt]; exact HB.out
  have d1 : w2.cell? ⟨b, o + 1, none⟩ = some v := by rw [Lib.cell_of_heap hb2]; exact hv
  have f1 : w2.frozen? ⟨b, o + 1, none⟩ = false := Lib.frozen_of_heap hb2 _
  have HOT : Hid (BPost T o B b cs (bs ++ [c]) w (w2.setCell ⟨b, o + 1, none⟩ v')) := bpost_of HP1.out hr hP hB hBw HB.out hp hown hne (.inr ⟨_, rfl⟩) hgrow (by rw [Lib.byteCells_append]; simpa [Lib.byteCells] using hown') (fun e => by simp at e)
  obtain ⟨a, cap, rfl⟩ := ownF_slice hown'
  clear hb2 hown hown' hgrow hp hv hP HP1 HB
  go_wp2
  go_ret
  exact ⟨rfl, HOT.out⟩
set_option maxHeartbeats 2000000 in
set_option maxRecDepth 100000 in
theorem writeString_any {T : TypeId} {o B b : Nat} {cs : Array Value} {bs : List UInt8} (s : ByteArray) (w : World) (h : Bld T o B b cs bs w) (hlen : Hid (bs.length ≤ 100000)) (hs : Hid (s.size ≤ 100000)) :
    Calls Tryz.prog 103 #[.pointer (some ⟨b, o, none⟩), .string s] w fun e w' => e = .returned (.tuple #[.int .i64 s.size, .nilIface]) ∧ BPost T o B b cs (bs ++ sg s) w w' := by
  obtain ⟨i0, hi, hz0, hz1, hz2⟩ := info_parts info5
  go_enter Tryz.func103, Tryz.ntmps103
  go_wp2_with fail
  refine (copyCheck_any _ h).mono ?_
  rintro e w1 ⟨rfl, hP1⟩
  have HP1 : Hid (BPost T o B b cs bs w w1) := hP1
  obtain ⟨⟨cs1, ⟨hP, hB, hBw, hb, hp, v, hv, hown, hne, hnil⟩, hr⟩, _, _⟩ := hP1
  have h1 : w1.cell? ⟨b, o + 1, none⟩ = some v := by rw [Lib.cell_of_heap hb]; exact hv
  have HB : Hid (w1.heap[b]? = some (.cells cs1 T (0, 0))) := hb
  clear hb
  go_wp2_with (at_builtin; refine Lib.wpList_append_own_stringF _ rfl _ _ 133 9 rfl B 5 i0 Tryz.underlying133 Tryz.underlying9 hi hz0 hz1 hz2 _ _ _ rfl hown s rfl ?c3 ?c4 ?c5 ?_)
  case c3 => have := hlen.out; have := hs.out; unfold maxLen; omega
  case c4 => have := hlen.out; have := hs.out; omega
  case c5 => omega
  intro v' w2 hown' hgrow hnil'
  have hlt : b < w1.heap.size := (Array.getElem?_eq_some_iff.1 HB.out).1
  have hb2 : w2.heap[b]? = some (.cells cs1 T (0, 0)) := by
    rw [hgrow.block b hlt (fun e => hne e.symm)]; exact HB.out
  have d1 : w2.cell? ⟨b, o + 1, none⟩ = some v := by rw [Lib.cell_of_heap hb2]; exact hv
  have f1 : w2.frozen? ⟨b, o + 1, none⟩ = false := Lib.frozen_of_heap hb2 _
  have HOT : Hid (BPost T o B b cs (bs ++ sg s) w (w2.setCell ⟨b, o + 1, none⟩ v')) := bpost_of HP1.out hr hP hB hBw HB.out hp hown hne (.inl rfl) hgrow (by rw [Lib.byteCells_append]; simpa [Lib.byteCells, Lib.strCells, sg] using hown') (fun e => by
    have e1 := congrArg List.length e
    simp [sg_length] at e1
    exact hnil'.2 ⟨hnil (by simpa using e1.1), by have := e1.2; omega⟩)
  obtain ⟨a, cap, rfl⟩ := ownF_slice hown'
  clear hb2 hown hown' hgrow hp hv hP HP1 HB hnil' hnil
  go_wp2
  go_ret2
  exact ⟨rfl, HOT.out⟩
theorem appendRune_any (B : Nat) (v : Value) (n : Nat) (xs : List Value) (r : Int) (hr0 : -2147483648 ≤ r) (hr1 : r ≤ 2147483647) (w : World) (hown : w.ownsRowF B 5 1 v n xs) (hlen : n + 4 ≤ 140737488355328) (hBw : B ≤ w.heap.size) :
    Calls Tryz.prog 129 #[v, .int .i32 r] w fun e w' => ∃ v', e = .returned v' ∧ w'.ownsRowF B 5 1 v' (n + (Lib.runeCells r).length) (xs ++ Lib.runeCells r) ∧ ∃ o, (w.alloc o).grownBy w' v.ownBlock :=
  Any.utf8_AppendRune_own Lay.rune Lay.extra B v n xs r hr0 hr1 w hown hlen hBw
set_option maxHeartbeats 2000000 in
set_option maxRecDepth 100000 in
theorem writeRune_any {T : TypeId} {o B b : Nat} {cs : Array Value} {bs : List UInt8} (r : Int) (w : World) (h : Bld T o B b cs bs w) (hlen : Hid (bs.length ≤ 100000)) (hr0 : 0 ≤ r) (hr1 : r ≤ 2147483647) :
    Calls Tryz.prog 104 #[.pointer (some ⟨b, o, none⟩), .int .i32 r] w fun e w' => (∃ k : Int, e = .returned (.tuple #[.int .i64 k, .nilIface])) ∧ BPost T o B b cs (bs ++ Lib.encodeRune r) w w' := by
  have hr4 := Lib.runeCells_le r
  go_enter Tryz.func104, Tryz.ntmps104
  go_wp2_with fail
  refine (copyCheck_any _ h).mono ?_
  rintro e w1 ⟨rfl, hP1⟩
  have HP1 : Hid (BPost T o B b cs bs w w1) := hP1
  obtain ⟨⟨cs1, ⟨hP, hB, hBw, hb, hp, v, hv, hown, hne, hnil⟩, hr⟩, _, _⟩ := hP1
  obtain ⟨a, cap, rfl⟩ := ownF_slice hown
  have h1 : w1.cell? ⟨b, o + 1, none⟩ = some (.slice a bs.length cap) := by rw [Lib.cell_of_heap hb]; exact hv
  have HB : Hid (w1.heap[b]? = some (.cells cs1 T (0, 0))) := hb
  have HR : Hid (1 ≤ (Lib.runeCells r).length ∧ (Lib.runeCells r).length ≤ 4) := hr4
  clear hb hr4
  go_wp2_with fail
  refine (appendRune_any B _ bs.length (Lib.byteCells bs) r (by omega) hr1 _ hown (by have := hlen.out; omega) hBw).mono ?_
  rintro e w2 ⟨v', rfl, hown', ob, hgrow⟩
  have hlt : b < w1.heap.size := (Array.getElem?_eq_some_iff.1 HB.out).1
  have hb2 : w2.heap[b]? = some (.cells cs1 T (0, 0)) := by
    rw [hgrow.block b (by simp; omega) (fun e => hne e.symm), Lib.alloc_old w1 _ b hlt]; exact HB.out
  have d1 : w2.cell? ⟨b, o + 1, none⟩ = some (.slice a bs.length cap) := by rw [Lib.cell_of_heap hb2]; exact hv
  have f1 : w2.frozen? ⟨b, o + 1, none⟩ = false := Lib.frozen_of_heap hb2 _
  have HOT : Hid (BPost T o B b cs (bs ++ Lib.encodeRune r) w (w2.setCell ⟨b, o + 1, none⟩ v')) := bpost_of HP1.out hr hP hB hBw HB.out hp hown hne (.inr ⟨_, rfl⟩) hgrow (by rw [Lib.byteCells_append, Lib.byteCells_encodeRune, List.length_append, ← Lib.byteCells_length (Lib.encodeRune r), Lib.byteCells_encodeRune]; exact hown') (fun e => by
    have e1 := congrArg List.length e
    rw [List.length_append, ← Lib.byteCells_length (Lib.encodeRune r), Lib.byteCells_encodeRune] at e1
    have e2 := HR.out.1
    simp at e1
    simp [e1.2] at e2)
  obtain ⟨a', cap', rfl⟩ := ownF_slice hown'
  have d2 : (w2.setCell ⟨b, o + 1, none⟩ (.slice a' (bs.length + (Lib.runeCells r).length) cap')).cell? ⟨b, o + 1, none⟩ = some (.slice a' (bs.length + (Lib.runeCells r).length) cap') := World.cell?_setCell_same _ _ _ d1
  clear hb2 hown hown' hgrow hp hv hP HP1 HB hnil
  generalize (Lib.runeCells r).length = q at *
  have hq : ((bs.length + q : Nat) : Int) - (bs.length : Int) = (q : Int) := by omega
  go_wp2
  go_ret2
  exact ⟨⟨_, rfl⟩, HOT.out⟩
theorem own_froze {w : World} {B g n cap : Nat} {xs : List Value} (h : w.ownsRowF B 5 1 (.slice (some ⟨g, 0, none⟩) n cap) n xs) : (w.freeze ⟨g, 0, none⟩ n).ownsRowF B 5 1 (.slice (some ⟨g, 0, none⟩) n cap) n xs := by
  unfold World.freeze
  split
  · exact h
  · refine ⟨h.1, ?_⟩
    rcases h.2 with ⟨hv, _⟩ | ⟨g', cap', cur, fz, hv, hbg, hg, hfz, rest⟩
    · cases hv
    · injection hv with ha _ hcap
      injection ha with ha
      injection ha with hgg _ _
      subst hgg
      subst hcap
      obtain ⟨lo, hi⟩ := fz
      refine .inr ⟨g, _, cur, (if lo == hi then (0, 0 + n) else (min lo 0, max hi (0 + n))), rfl, hbg, ?_, ?_, rest⟩
      · simp [Array.getElem?_modify, hg]
      · simp only at hfz
        split <;> simp <;> omega
set_option maxHeartbeats 2000000 in
set_option maxRecDepth 100000 in
theorem bString_any {T : TypeId} {o B b : Nat} {cs : Array Value} {bs : List UInt8} (w : World) (h : Bld T o B b cs bs w) :
    Calls Tryz.prog 107 #[.pointer (some ⟨b, o, none⟩)] w fun e w' => e = .returned (.string ⟨bs.toArray⟩) ∧ BPost T o B b cs bs w w' := by
  have HBB : Hid (Bld T o B b cs bs w) := h
  obtain ⟨hP, hB, hBw, hb, hp, v, hv, hown, hne, hnil⟩ := h
  by_cases h0 : bs = []
  · obtain rfl := hnil h0
    subst h0
    have hUS : ∀ W q, (Builtin.unsafeString_ #[160, 3] 9 #[.pointer q, .int .i64 0]).run Tryz.prog W = .ok (.string .empty) W := fun W q => Lib.run_unsafeString_none W _ _ _ q
    have c1 : w.drew.cell? ⟨b, o + 1, none⟩ = some (.slice none 0 0) := by
      have : w.drew.heap[b]? = some (.cells cs T (0, 0)) := hb
      rw [Lib.cell_of_heap this]; exact hv
    have hSD : (Builtin.unsafeSliceData_ #[133] 160 #[.slice none 0 0]).run Tryz.prog w.drew = .ok (.pointer none) w.drew := rfl
    have HOT : Hid (BPost T o B b cs [] w w.drew) := ⟨⟨cs, HBB.out, rfl, fun _ _ _ => rfl⟩, Below.drew (Below.refl B w), (Lib.OthersKept.refl _ _ w).drew⟩
    clear hown hv hp hb HBB
    go_enter Tryz.func107, Tryz.ntmps107
    go_wp2
    go_region
    all_goals (go_wp2; go_ret; exact ⟨rfl, HOT.out⟩)
  · have hl0 : bs.length ≠ 0 := by simpa using h0
    obtain ⟨g, cap, cur, fz, rfl, hbg, hg, hfz, hnc, hcm, hcs, htake⟩ : ∃ g cap cur fz, v = .slice (some ⟨g, 0, none⟩) bs.length cap ∧ B ≤ g ∧ w.heap[g]? = some (.cells cur 5 fz) ∧ fz.2 ≤ bs.length * 1 ∧ bs.length ≤ cap ∧ cap ≤ maxLen ∧ cur.size = cap * 1 ∧ cur.toList.take (bs.length * 1) = Lib.byteCells bs := by
      rcases hown.2 with ⟨_, hz⟩ | ⟨g, cap, cur, fz, hv, r⟩
      · exact absurd hz hl0
      · exact ⟨g, cap, cur, fz, hv, r⟩
    have c1 : w.drew.cell? ⟨b, o + 1, none⟩ = some (.slice (some ⟨g, 0, none⟩) bs.length cap) := by
      have : w.drew.heap[b]? = some (.cells cs T (0, 0)) := hb
      rw [Lib.cell_of_heap this]; exact hv
    have hSD : (Builtin.unsafeSliceData_ #[133] 160 #[.slice (some ⟨g, 0, none⟩) bs.length cap]).run Tryz.prog w.drew = .ok (.pointer (some ⟨g, 0, none⟩)) w.drew :=
      Lib.run_unsafeSliceData_row _ _ _ _ _ _ (by omega)
    have hUS : (Builtin.unsafeString_ #[160, 3] 9 #[.pointer (some ⟨g, 0, none⟩), .int .i64 bs.length]).run Tryz.prog w.drew = .ok (.string ⟨bs.toArray⟩) (w.drew.freeze ⟨g, 0, none⟩ bs.length) := by
      refine Lib.run_unsafeString_row w.drew 160 3 9 5 Tryz.underlying160 (by kernel_rfl) g cur.size (by have hg' : w.drew.heap[g]? = some (.cells cur 5 fz) := hg; simp [World.shape?, hg']) bs h0 (by omega) (by unfold maxLen at hcm; omega) ?_
      intro j x hx
      have := hown.cells (g := g) rfl j (.int .u8 x.toNat) (by simp [Lib.byteCells, hx])
      exact this
    have hgb : g ≠ b := fun e => hne (by simp [Value.ownBlock, e])
    have HOT : Hid (BPost T o B b cs bs w (w.drew.freeze ⟨g, 0, none⟩ bs.length)) := by
      refine ⟨⟨cs, ⟨hP, hB, ?_, ?_, hp, _, hv, own_froze hown, hne, hnil⟩, rfl, fun _ _ _ => rfl⟩, Lib.below_freeze (Below.drew (Below.refl B w)) (p := ⟨g, 0, none⟩) hbg _, ((Lib.OthersKept.refl _ _ w).drew).freeze ⟨g, 0, none⟩ _ ⟨cur, fz, hg⟩⟩
      · unfold World.freeze
        split
        · exact hBw
        · simpa using hBw
      · unfold World.freeze
        split
        · exact hb
        · simp only [Array.getElem?_modify]
          rw [if_neg hgb]
          exact hb
    clear hown hv hp hb HBB htake hg
    go_enter Tryz.func107, Tryz.ntmps107
    go_wp2
    go_region
    all_goals (go_wp2; go_ret; exact ⟨rfl, HOT.out⟩)
end Go.Proofs.YtihohcmocejijaaGreat.Lb
namespace Go.Proofs.YtihohcmocejijaaGreat.Lb
open Go.ChangeShapes Go.WideShapes Go.ChangeAt Go.RowKit
def ltB (x y : ByteArray) : Bool := Op.bytesLess x.toList y.toList
theorem ltB_eq (x y : ByteArray) : ltB x y = decide (sg x < sg y) := by
  unfold ltB sg
  rw [bytesLess_eq, ByteArray.toList_eq, ByteArray.toList_eq]
theorem eqB (x y : ByteArray) : (x.toList == y.toList) = decide (x = y) := by
  rw [ByteArray.toList_eq, ByteArray.toList_eq]
  by_cases h : x = y
  · subst h; simp
  · rw [decide_eq_false h]
    have : ¬ x.data.toList = y.data.toList := fun e => h (sg_ext e)
    simpa using this
theorem ltB_irrefl (x : ByteArray) : ltB x x = false := by rw [ltB_eq]; simp
theorem ltB_trans {x y z : ByteArray} (h1 : ltB x y = true) (h2 : ltB y z = true) : ltB x z = true := by
  rw [ltB_eq] at *
  simp at *
  exact List.lt_trans h1 h2
theorem ltB_asymm {x y : ByteArray} (h : ltB x y = true) : ltB y x = false := by
  cases hb : ltB y x with
  | false => rfl
  | true =>
    have := ltB_trans h hb
    rw [ltB_irrefl] at this
    cases this
theorem ltB_total {x y : ByteArray} (h1 : ltB x y = false) (h2 : ltB y x = false) : x = y := by
  rw [ltB_eq] at *
  simp at h1 h2
  exact sg_ext (List.le_antisymm h2 h1)
theorem ltB_leq (x y : ByteArray) : (Op.bytesLess x.toList y.toList || x.toList == y.toList) = !ltB y x := by
  rw [eqB]
  show (ltB x y || _) = _
  cases h1 : ltB y x with
  | true =>
    have := ltB_asymm h1
    rw [this]
    have hne : ¬ x = y := fun e => by subst e; rw [ltB_irrefl] at h1; cases h1
    simp [hne]
  | false =>
    cases h2 : ltB x y with
    | true => rfl
    | false =>
      have := ltB_total h2 h1
      simp [this]
theorem ltB_empty {x : ByteArray} (h : 1 ≤ x.size) : ltB ⟨#[]⟩ x = true := by
  rw [ltB_eq]
  have hx : sg x ≠ [] := fun e => by have := sg_nil.1 e; omega
  cases hs : sg x with
  | nil => exact absurd hs hx
  | cons a l =>
    have : sg (⟨#[]⟩ : ByteArray) = [] := rfl
    rw [this]
    simp
abbrev Lab := ByteArray × ByteArray
def lab0 : Lab := (⟨#[]⟩, ⟨#[]⟩)
def LabsAt (w : World) (a : Option Addr) (len cap : Nat) (ls : List Lab) : Prop :=
  ls.length = len ∧ len ≤ cap ∧ cap ≤ maxLen ∧ (len = 0 ∨ ∃ b off, a = some ⟨b, off, none⟩ ∧ ∀ i, i < len → w.cell? ⟨b, off + i * 2, none⟩ = some (.string (ls.getD i lab0).1) ∧ w.cell? ⟨b, off + i * 2 + 1, none⟩ = some (.string (ls.getD i lab0).2))
theorem LabsAt.below {w w' : World} {a : Option Addr} {len cap : Nat} {ls : List Lab} (h : LabsAt w a len cap ls) (hb : Below w.heap.size w w') : LabsAt w' a len cap ls := by
  refine ⟨h.1, h.2.1, h.2.2.1, ?_⟩
  rcases h.2.2.2 with h0 | ⟨b, off, e, hc⟩
  · exact .inl h0
  · refine .inr ⟨b, off, e, fun i hi => ?_⟩
    obtain ⟨c0, c1⟩ := hc i hi
    have hlt : b < w.heap.size := World.block_lt_of_cell? w ⟨b, off + i * 2, none⟩ c0
    exact ⟨(hb.cell (p := ⟨b, off + i * 2, none⟩) hlt).trans c0, (hb.cell (p := ⟨b, off + i * 2 + 1, none⟩) hlt).trans c1⟩
theorem LabsAt.some {w : World} {a : Option Addr} {len cap : Nat} {ls : List Lab} (h : LabsAt w a len cap ls) (h0 : 0 < len) :
    ∃ b off, a = Option.some ⟨b, off, none⟩ ∧ ∀ i, i < len → w.cell? ⟨b, off + i * 2, none⟩ = Option.some (.string (ls.getD i lab0).1) ∧ w.cell? ⟨b, off + i * 2 + 1, none⟩ = Option.some (.string (ls.getD i lab0).2) := by
  rcases h.2.2.2 with h | h
  · omega
  · exact h
def Fits (ls : List Lab) : Prop := ∀ x ∈ ls, x.1.size ≤ maxLen ∧ x.2.size ≤ maxLen
theorem Fits.at {ls : List Lab} (h : Fits ls) {i : Nat} (hi : i < ls.length) : (ls.getD i lab0).1.size ≤ maxLen ∧ (ls.getD i lab0).2.size ≤ maxLen := by
  have e : ls.getD i lab0 = ls[i] := by simp [hi]
  rw [e]
  exact h _ (List.getElem_mem hi)
def SerAt (w : World) (v : Value) (nm : ByteArray) (ls : List Lab) : Prop :=
  ∃ a len cap, v = .agg #[.string nm, .slice a len cap] ∧ LabsAt w a len cap ls ∧ nm.size ≤ maxLen ∧ Fits ls
theorem SerAt.below {w w' : World} {v : Value} {nm : ByteArray} {ls : List Lab} (h : SerAt w v nm ls) (hb : Below w.heap.size w w') : SerAt w' v nm ls := by
  obtain ⟨a, len, cap, rfl, h1, h2, h3⟩ := h
  exact ⟨a, len, cap, rfl, h1.below hb, h2, h3⟩
def OkAt (ls : List Lab) (i : Nat) : Prop := nameL (sg (ls.getD i lab0).1) = true ∧ valL (sg (ls.getD i lab0).2) = true ∧ (0 < i → ltB (ls.getD (i - 1) lab0).1 (ls.getD i lab0).1 = true)
def MayS (nm : ByteArray) (ls : List Lab) : Prop := nameL (sg nm) = true ∧ ls.length ≤ 4 ∧ ∀ i, i < ls.length → OkAt ls i
def BoolPost (P : Prop) (w : World) (e : Ending) (w' : World) : Prop := Below w.heap.size w w' ∧ ∃ q : Bool, e = .returned (.bool q) ∧ (q = true ↔ P)
theorem bool_yes {P : Prop} {w w' : World} (hb : Below w.heap.size w w') (h : P) : BoolPost P w (.returned (.bool true)) w' := ⟨hb, true, rfl, by simp [h]⟩
theorem bool_no {P : Prop} {w w' : World} (hb : Below w.heap.size w w') (h : ¬ P) : BoolPost P w (.returned (.bool false)) w' := ⟨hb, false, rfl, by simp [h]⟩
theorem below_drewN (w : World) (n : Nat) : Below w.heap.size w (w.drewN n) := ⟨rfl, rfl, rfl, Nat.le_refl _, fun _ _ => rfl⟩
theorem below_alloc (w : World) (o : Obj) : Below w.heap.size w (w.alloc o) := (Below.refl _ _).alloc (Nat.le_refl _) _
set_option maxHeartbeats 4000000 in
set_option maxRecDepth 20000 in
theorem refMay_any (v : Value) (nm : ByteArray) (ls : List Lab) (w : World) (h : SerAt w v nm ls) :
    Calls Tryz.prog 74 #[v] w fun e w' => BoolPost (MayS nm ls) w e w' := by
  obtain ⟨a, len, cap, rfl, hL, hnm, hF⟩ := h
  have hl : ls.length = len := hL.1
  have hm : len ≤ maxLen := Nat.le_trans hL.2.1 hL.2.2.1
  unfold maxLen at hm
  have B0 : Below w.heap.size w (w.alloc (.cells #[.string nm, .slice a len cap] 86)) := below_alloc _ _
  have HL : Hid (LabsAt w a len cap ls) := hL
  have HF : Hid (Fits ls) := hF
  have HNM : Hid (nm.size ≤ maxLen) := hnm
  clear hL hF hnm
  go_enter Tryz.func74, Tryz.ntmps74
  go_wp2
  go_loopw [3] (fun i wr => ∃ k : Nat, k ≤ len ∧ i = .int .i64 k ∧ Hid (∀ j, j < k → OkAt ls j) ∧ Below w.heap.size w wr ∧ (wr.cell? ⟨w.heap.size, 0, none⟩ = some (.string nm) ∧ wr.cell? ⟨w.heap.size, 1, none⟩ = some (.slice a len cap))) (fun i _ => len - (intOf i).toNat)
  case atStart => exact ⟨0, Nat.zero_le _, rfl, (fun j hj => absurd hj (Nat.not_lt_zero _)), B0, by simp, by simp⟩
  case round =>
    obtain ⟨k, hk, rfl, hT, hbel, hc0, hc1⟩ := hrel
    by_cases hlt : k < len
    · obtain ⟨b, off, rfl, hcell⟩ := (HL.out.below hbel).some (by omega)
      obtain ⟨e0, e1⟩ := hcell k hlt
      have hx := HF.out.at (i := k) (by omega)
      have hk1 : (k : Int) < (len : Int) := by omega
      have HPV : Hid (0 < k → wr.cell? ⟨b, off + (k - 1) * 2, none⟩ = some (.string (ls.getD (k - 1) lab0).1)) := fun h => (hcell (k - 1) (by omega)).1
      clear hcell
      have HOK : Hid (OkAt ls k ↔ nameL (sg (ls.getD k lab0).1) = true ∧ valL (sg (ls.getD k lab0).2) = true ∧ (0 < k → ltB (ls.getD (k - 1) lab0).1 (ls.getD k lab0).1 = true)) := Iff.rfl
      have HNO : Hid (¬ OkAt ls k → ¬ MayS nm ls) := fun hn hM => hn (hM.2.2 k (by omega))
      have HYES : Hid (OkAt ls k → ∀ j, j < k + 1 → OkAt ls j) := fun h j hj => by
        rcases Nat.lt_succ_iff_lt_or_eq.1 hj with h' | rfl
        · exact hT.out j h'
        · exact h
      generalize ls.getD k lab0 = x at *
      obtain ⟨x1, x2⟩ := x
      have HX : Hid (x1.size ≤ maxLen ∧ x2.size ≤ maxLen) := hx
      clear hx
      cases hn : nameL (sg x1) with
      | false =>
        have HN : Hid (¬ MayS nm ls) := HNO.out fun h => by rw [HOK.out] at h; rw [hn] at h; cases h.1
        clear HNO HOK HYES HPV
        go_wp2_with fail
        go_quiet (first | (go_at_call 108; exact Calls.quiet_of_same (hn ▸ refName_any x1 _ HX.out.1)) | fail)
        have hb : Below w.heap.size w (wr.drewN nq) := hbel.trans ((below_drewN _ _).mono hbel.size)
        go_wp2
        go_ret
        exact bool_no hb HN.out
      | true =>
        cases hv : valL (sg x2) with
        | false =>
          have HN : Hid (¬ MayS nm ls) := HNO.out fun h => by rw [HOK.out] at h; rw [hv] at h; cases h.2.1
          clear HNO HOK HYES HPV
          go_wp2_with fail
          go_quiet (first | (go_at_call 108; exact Calls.quiet_of_same (hn ▸ refName_any x1 _ HX.out.1)) | (go_at_call 109; exact Calls.quiet_of_same (hv ▸ refVal_any x2 _ HX.out.2)))
          have hb : Below w.heap.size w (wr.drewN nq) := hbel.trans ((below_drewN _ _).mono hbel.size)
          go_wp2
          go_ret
          exact bool_no hb HN.out
        | true =>
          by_cases hk0 : k = 0
          · have HY : Hid (∀ j, j < k + 1 → OkAt ls j) := HYES.out (HOK.out.2 ⟨hn, hv, fun h => absurd h (by omega)⟩)
            have hkz : decide (0 < k) = false := by simp; omega
            clear hk0
            clear HNO HOK HYES HPV
            go_wp2_with fail
            go_quiet (first | (go_at_call 108; exact Calls.quiet_of_same (hn ▸ refName_any x1 _ HX.out.1)) | (go_at_call 109; exact Calls.quiet_of_same (hv ▸ refVal_any x2 _ HX.out.2)))
            have hb : Below w.heap.size w (wr.drewN nq) := hbel.trans ((below_drewN _ _).mono hbel.size)
            have g0 : (wr.drewN nq).cell? ⟨w.heap.size, 0, none⟩ = some (.string nm) := hc0
            have g1 : (wr.drewN nq).cell? ⟨w.heap.size, 1, none⟩ = some (.slice (some ⟨b, off, none⟩) len cap) := hc1
            go_wp2
            exact ⟨⟨k + 1, by omega, by go_num, HY, hb, g0, g1⟩, by simp [intOf]; omega⟩
          · obtain ⟨m, hmk⟩ : ∃ m, k = m + 1 := ⟨k - 1, by omega⟩
            have ep : wr.cell? ⟨b, off + m * 2, none⟩ = some (.string (ls.getD m lab0).1) := by have := HPV.out (by omega); rw [hmk] at this; exact this
            have em : IntKind.i64.wrap ((k : Int) - 1) = (m : Int) := by
              rw [show (k : Int) - 1 = (m : Int) from by omega]; simp [IntKind.wrap, IntKind.bits, IntKind.signed]; omega
            have em0 : (0 : Int) ≤ (m : Int) := by omega
            have em1 : (m : Int) < (len : Int) := by omega
            have ek0 : decide (0 < k) = true := by simp; omega
            have HOK2 : Hid (OkAt ls k ↔ ltB (ls.getD m lab0).1 x1 = true) := by
              have em2 : k - 1 = m := by omega
              have := HOK.out
              rw [em2] at this
              refine ⟨fun h => (this.1 h).2.2 (by omega), fun h => this.2 ⟨hn, hv, fun _ => h⟩⟩
            clear HOK HPV hmk hk0
            generalize (ls.getD m lab0).1 = y at *
            cases hy : ltB y x1 with
            | false =>
              have hy2 : Op.bytesLess y.toList x1.toList = false := hy
              have HN : Hid (¬ MayS nm ls) := HNO.out fun h => by rw [HOK2.out] at h; rw [hy] at h; cases h
              clear HNO HOK2 HYES hy
              go_wp2_with fail
              go_quiet (first | (go_at_call 108; exact Calls.quiet_of_same (hn ▸ refName_any x1 _ HX.out.1)) | (go_at_call 109; exact Calls.quiet_of_same (hv ▸ refVal_any x2 _ HX.out.2)))
              have hb : Below w.heap.size w (wr.drewN nq) := hbel.trans ((below_drewN _ _).mono hbel.size)
              go_wp2
              go_ret
              exact bool_no hb HN.out
            | true =>
              have hy2 : Op.bytesLess y.toList x1.toList = true := hy
              have HY : Hid (∀ j, j < k + 1 → OkAt ls j) := HYES.out (HOK2.out.2 hy)
              clear HNO HOK2 HYES hy
              go_wp2_with fail
              go_quiet (first | (go_at_call 108; exact Calls.quiet_of_same (hn ▸ refName_any x1 _ HX.out.1)) | (go_at_call 109; exact Calls.quiet_of_same (hv ▸ refVal_any x2 _ HX.out.2)))
              have hb : Below w.heap.size w (wr.drewN nq) := hbel.trans ((below_drewN _ _).mono hbel.size)
              have g0 : (wr.drewN nq).cell? ⟨w.heap.size, 0, none⟩ = some (.string nm) := hc0
              have g1 : (wr.drewN nq).cell? ⟨w.heap.size, 1, none⟩ = some (.slice (some ⟨b, off, none⟩) len cap) := hc1
              go_wp2
              exact ⟨⟨k + 1, by omega, by go_num, HY, hb, g0, g1⟩, by simp [intOf]; omega⟩
    · obtain rfl : k = len := by omega
      have HM : Hid (MayS nm ls ↔ nameL (sg nm) = true ∧ ls.length ≤ 4) := ⟨fun h => ⟨h.1, h.2.1⟩, fun h => ⟨h.1, h.2, fun i hi => hT.out i (by omega)⟩⟩
      clear hT HL HF
      go_wp2_with fail
      refine (refName_any nm _ HNM.out).mono ?_
      rintro e w2 ⟨rfl, rfl⟩
      cases hn : nameL (sg nm) with
      | false =>
        go_wp2
        go_ret
        exact bool_no hbel fun h => by have := (HM.out.1 h).1; rw [hn] at this; cases this
      | true =>
        by_cases h4 : (k : Int) ≤ (4 : Int)
        · go_wp2
          go_ret
          exact bool_yes hbel (HM.out.2 ⟨hn, by omega⟩)
        · have h4' : decide ((k : Int) ≤ (4 : Int)) = false := by simp; omega
          go_wp2
          go_ret
          exact bool_no hbel fun h => by have := (HM.out.1 h).2; omega
def ErrPost (P : Prop) (w : World) (e : Ending) (w' : World) : Prop := Below w.heap.size w w' ∧ ((e = .returned (.int .i64 0) ∧ P) ∨ (e = .returned (.int .i64 1) ∧ ¬ P))
set_option maxHeartbeats 4000000 in
set_option maxRecDepth 20000 in
theorem check_any (v : Value) (nm : ByteArray) (ls : List Lab) (w : World) (h : SerAt w v nm ls) :
    Calls Tryz.prog 102 #[v] w fun e w' => ErrPost (MayS nm ls) w e w' := by
  obtain ⟨a, len, cap, rfl, hL, hnm, hF⟩ := h
  have hl : ls.length = len := hL.1
  have hm : len ≤ maxLen := Nat.le_trans hL.2.1 hL.2.2.1
  unfold maxLen at hm
  have B0 : Below w.heap.size w (w.alloc (.cells #[.string nm, .slice a len cap] 86)) := below_alloc _ _
  have HL : Hid (LabsAt w a len cap ls) := hL
  have HF : Hid (Fits ls) := hF
  have HNM : Hid (nm.size ≤ maxLen) := hnm
  clear hL hF hnm
  go_enter Tryz.func102, Tryz.ntmps102
  go_wp2_with fail
  generalize hw1 : w.alloc (.cells #[.string nm, .slice a len cap] 86) = w1 at *
  have hc0 : w1.cell? ⟨w.heap.size, 0, none⟩ = some (.string nm) := by rw [← hw1]; simp
  have hc1 : w1.cell? ⟨w.heap.size, 1, none⟩ = some (.slice a len cap) := by rw [← hw1]; simp
  have hs1 : w.heap.size < w1.heap.size := by rw [← hw1]; simp
  clear hw1
  refine (isName_any nm _ HNM.out).mono ?_
  rintro e w2 ⟨rfl, hb2⟩
  have hb02 : Below w.heap.size w w2 := B0.trans (hb2.mono (by omega))
  have g0 : w2.cell? ⟨w.heap.size, 0, none⟩ = some (.string nm) := (hb2.cell (p := ⟨w.heap.size, 0, none⟩) hs1).trans hc0
  have g1 : w2.cell? ⟨w.heap.size, 1, none⟩ = some (.slice a len cap) := (hb2.cell (p := ⟨w.heap.size, 1, none⟩) hs1).trans hc1
  cases hn : nameL (sg nm) with
  | false =>
    go_wp2
    go_ret
    exact ⟨hb02, .inr ⟨rfl, fun h => by rw [h.1] at hn; cases hn⟩⟩
  | true =>
    by_cases h4 : (4 : Int) < (len : Int)
    · go_wp2
      go_ret
      exact ⟨hb02, .inr ⟨rfl, fun h => by have := h.2.1; omega⟩⟩
    · go_wp2
      go_loopw [3, 19] (fun lst i wr => ∃ (k : Nat) (y : ByteArray), k ≤ len ∧ i = .int .i64 k ∧ lst = .string y ∧ Hid ((∀ j, j < k → OkAt ls j) ∧ (k = 0 → y = ⟨#[]⟩) ∧ (0 < k → y = (ls.getD (k - 1) lab0).1)) ∧ Below w.heap.size w wr) (fun _ i _ => len - (intOf i).toNat)
      case atStart => exact ⟨0, ⟨#[]⟩, Nat.zero_le _, rfl, rfl, ⟨fun j hj => absurd hj (Nat.not_lt_zero _), fun _ => rfl, fun h => absurd h (Nat.lt_irrefl _)⟩, hb02⟩
      case round =>
        obtain ⟨k, y, hk, rfl, rfl, hT, hbel⟩ := hrel
        by_cases hlt : k < len
        · obtain ⟨b, off, rfl, hcell⟩ := (HL.out.below hbel).some (by omega)
          obtain ⟨e0, e1⟩ := hcell k hlt
          have hx := HF.out.at (i := k) (by omega)
          have hk1 : (k : Int) < (len : Int) := by omega
          clear hcell
          have HOK : Hid (OkAt ls k ↔ nameL (sg (ls.getD k lab0).1) = true ∧ valL (sg (ls.getD k lab0).2) = true ∧ (0 < k → ltB (ls.getD (k - 1) lab0).1 (ls.getD k lab0).1 = true)) := Iff.rfl
          have HNO : Hid (¬ OkAt ls k → ¬ MayS nm ls) := fun hn hM => hn (hM.2.2 k (by omega))
          have HYES : Hid (OkAt ls k → (∀ j, j < k + 1 → OkAt ls j) ∧ (k + 1 = 0 → (ls.getD k lab0).1 = ⟨#[]⟩) ∧ (0 < k + 1 → (ls.getD k lab0).1 = (ls.getD (k + 1 - 1) lab0).1)) := fun h => by
            refine ⟨fun j hj => ?_, fun h => absurd h (by omega), fun _ => rfl⟩
            rcases Nat.lt_succ_iff_lt_or_eq.1 hj with h' | rfl
            · exact hT.out.1 j h'
            · exact h
          generalize ls.getD k lab0 = x at *
          obtain ⟨x1, x2⟩ := x
          have HX : Hid (x1.size ≤ maxLen ∧ x2.size ≤ maxLen) := hx
          clear hx
          go_wp2_with fail
          generalize hw4 : wr.alloc (.cells #[.string x1, .string x2] 112) = w4 at *
          have p0 : w4.cell? ⟨wr.heap.size, 0, none⟩ = some (.string x1) := by rw [← hw4]; simp
          have p1 : w4.cell? ⟨wr.heap.size, 1, none⟩ = some (.string x2) := by rw [← hw4]; simp
          have hs4 : wr.heap.size < w4.heap.size := by rw [← hw4]; simp
          have hb4 : Below w.heap.size w w4 := hbel.trans (by rw [← hw4]; exact (below_alloc _ _).mono hbel.size)
          clear hw4
          refine (isName_any x1 _ HX.out.1).mono ?_
          rintro e w5 ⟨rfl, hb5⟩
          have q0 : w5.cell? ⟨wr.heap.size, 0, none⟩ = some (.string x1) := (hb5.cell (p := ⟨wr.heap.size, 0, none⟩) hs4).trans p0
          have q1 : w5.cell? ⟨wr.heap.size, 1, none⟩ = some (.string x2) := (hb5.cell (p := ⟨wr.heap.size, 1, none⟩) hs4).trans p1
          have hs5 : wr.heap.size < w5.heap.size := Nat.lt_of_lt_of_le hs4 hb5.size
          have hb05 : Below w.heap.size w w5 := hb4.trans (hb5.mono hb4.size)
          cases hnx : nameL (sg x1) with
          | false =>
            have HN : Hid (¬ MayS nm ls) := HNO.out fun h => by rw [HOK.out] at h; rw [hnx] at h; cases h.1
            clear HNO HOK HYES hT
            go_wp2
            go_ret
            exact ⟨hb05, .inr ⟨rfl, HN.out⟩⟩
          | true =>
            go_wp2_with fail
            refine (isValue_any x2 _ HX.out.2).mono ?_
            rintro e w6 ⟨rfl, hb6⟩
            have r0 : w6.cell? ⟨wr.heap.size, 0, none⟩ = some (.string x1) := (hb6.cell (p := ⟨wr.heap.size, 0, none⟩) hs5).trans q0
            have hb06 : Below w.heap.size w w6 := hb05.trans (hb6.mono hb05.size)
            cases hvx : valL (sg x2) with
            | false =>
              have HN : Hid (¬ MayS nm ls) := HNO.out fun h => by rw [HOK.out] at h; rw [hvx] at h; cases h.2.1
              clear HNO HOK HYES hT
              go_wp2
              go_ret
              exact ⟨hb06, .inr ⟨rfl, HN.out⟩⟩
            | true =>
              have HO : Hid (OkAt ls k ↔ ltB y x1 = true) := by
                constructor
                · intro h
                  by_cases hk0 : k = 0
                  · have e0 := hT.out.2.1 hk0
                    rw [e0]
                    refine ltB_empty ?_
                    unfold nameL at hnx
                    simp [sg_length] at hnx
                    exact hnx.1.2
                  · rw [hT.out.2.2 (by omega)]
                    exact (HOK.out.1 h).2.2 (by omega)
                · intro h
                  refine HOK.out.2 ⟨hnx, hvx, fun hk0 => ?_⟩
                  rw [← hT.out.2.2 hk0]
                  exact h
              have hle := ltB_leq x1 y
              cases hy : ltB y x1 with
              | false =>
                rw [hy] at hle
                have HN : Hid (¬ MayS nm ls) := HNO.out fun h => by rw [HO.out] at h; rw [hy] at h; cases h
                clear HNO HOK HYES hT HO hy
                go_wp2
                go_ret
                exact ⟨hb06, .inr ⟨rfl, HN.out⟩⟩
              | true =>
                rw [hy] at hle
                have HY : Hid ((∀ j, j < k + 1 → OkAt ls j) ∧ (k + 1 = 0 → x1 = ⟨#[]⟩) ∧ (0 < k + 1 → x1 = (ls.getD (k + 1 - 1) lab0).1)) := HYES.out (HO.out.2 hy)
                clear HNO HOK HYES hT HO hy
                go_wp2
                exact ⟨⟨k + 1, x1, by omega, by go_num, rfl, HY, hb06⟩, by simp [intOf]; omega⟩
        · go_wp2
          go_ret
          obtain rfl : k = len := by omega
          exact ⟨hbel, .inl ⟨rfl, hn, by omega, fun i hi => hT.out.1 i (by omega)⟩⟩
end Go.Proofs.YtihohcmocejijaaGreat.Lb
