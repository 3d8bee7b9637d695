/-
  The text of a series; the contracts of Print and of what it calls.
  The reader of a text: its state in memory, and the contracts of its methods.
-/
import Derived.Test.YtihohcmocejijaaGreatPr01
import Derived.Deep.RegionLaw
import Derived.Deep.RegionWith
import Derived.Laws.AppendOwn
namespace Go.Proofs.YtihohcmocejijaaGreat.Lb
open Go.ChangeShapes Go.WideShapes Go.ChangeAt Go.RowKit
def markedB (b : UInt8) : Bool := b == 34 || b == 92
def escL (l : List UInt8) : List UInt8 := l.flatMap fun b => if markedB b then [92, b] else [b]
theorem escL_snoc (l : List UInt8) (b : UInt8) : escL (l ++ [b]) = escL l ++ (if markedB b then [92, b] else [b]) := by simp [escL]
theorem escL_length (l : List UInt8) : (escL l).length ≤ 2 * l.length := by
  induction l with
  | nil => simp [escL]
  | cons a l ih =>
    have : escL (a :: l) = (if markedB a then [92, a] else [a]) ++ escL l := rfl
    rw [this, List.length_append, List.length_cons]
    split <;> simp <;> omega
def labText (x : Lab) : List UInt8 := sg x.1 ++ [61, 34] ++ escL (sg x.2) ++ [34]
def bodyAt (ls : List Lab) : Nat → List UInt8
  | 0 => []
  | k + 1 => bodyAt ls k ++ [if k = 0 then 123 else 44] ++ labText (ls.getD k lab0)
def textL (nm : ByteArray) (ls : List Lab) : List UInt8 := sg nm ++ bodyAt ls ls.length ++ (if ls.length = 0 then [] else [125])
theorem Bld.iterAt {T : TypeId} {o B b : Nat} {cs : Array Value} {bs : List UInt8} {w : World} (h : Bld T o B b cs bs w) {k : Nat} {s : ByteArray} {pos : Nat} (hk : w.heap[k]? = some (.stringIter s pos)) (pos' : Nat) : Bld T o B b cs bs (w.iterAt k s pos') := by
  obtain ⟨hP, hB, hBw, hb, hp, v, hv, hown, hne, hnil⟩ := h
  have hbk : b ≠ k := fun e => by subst e; rw [hk] at hb; cases hb
  refine ⟨hP, hB, by rw [Lib.iterAt_size]; exact hBw, by rw [Lib.iterAt_other _ _ _ _ _ hbk]; exact hb, hp, v, hv, ?_, hne, hnil⟩
  refine hown.kept (row := some k) ⟨rfl, rfl, rfl, by rw [Lib.iterAt_size]; exact Nat.le_refl _, fun j _ hj => Lib.iterAt_other _ _ _ _ _ (fun e => hj (by rw [e]))⟩ (Or.inr fun e => ?_)
  obtain ⟨c, fz, hc⟩ := Lib.ownsRowF_kind hown k e
  rw [hk] at hc
  cases hc
theorem others_iterAt {b : Option Nat} {w wr : World} (h : Lib.OthersKept 5 b w wr) {k : Nat} (hk : w.heap.size ≤ k) (s : ByteArray) (pos : Nat) : Lib.OthersKept 5 b w (wr.iterAt k s pos) := by
  intro j o hj hb ho
  have hlt : j < w.heap.size := (Array.getElem?_eq_some_iff.1 hj).1
  rw [Lib.iterAt_other _ _ _ _ _ (by omega)]
  exact h j o hj hb ho
theorem Bld.alloc {T : TypeId} {o B b : Nat} {cs : Array Value} {bs : List UInt8} {w : World} (h : Bld T o B b cs bs w) (ob : Obj) : Bld T o B b cs bs (w.alloc ob) := by
  obtain ⟨hP, hB, hBw, hb, hp, v, hv, hown, hne, hnil⟩ := h
  have hlt : b < w.heap.size := (Array.getElem?_eq_some_iff.1 hb).1
  exact ⟨hP, hB, by simp; omega, (Lib.alloc_old w ob b hlt).trans hb, hp, v, hv, hown.alloc _, hne, hnil⟩
theorem sg_get (s : ByteArray) (k : Nat) (h : k < s.size) : (sg s)[k]? = some s[k] := by
  unfold sg
  rw [List.getElem?_eq_getElem (by simpa using h)]
  rfl
theorem all_get {p : UInt8 → Bool} {s : ByteArray} (h : (sg s).all p = true) (k : Nat) (hk : k < s.size) : p s[k] = true :=
  List.all_eq_true.1 h _ (List.mem_of_getElem? (sg_get s k hk))
theorem encodeRune_ascii (b : UInt8) (h : b.toNat < 128) : Lib.encodeRune (b.toNat : Int) = [b] := by
  have e := Lib.byteCells_encodeRune (b.toNat : Int)
  have e2 : Lib.runeCells (b.toNat : Int) = [.int .u8 (b.toNat : Int)] := by simp [Lib.runeCells, Lib.encodeRuneZ_one (r := (b.toNat : Int)) (by omega) (by omega)]
  rw [e2] at e
  cases hx : Lib.encodeRune (b.toNat : Int) with
  | nil => rw [hx] at e; simp [Lib.byteCells] at e
  | cons c l =>
    rw [hx] at e
    simp [Lib.byteCells] at e
    have h1 : c.toNat = b.toNat := by omega
    rw [e.2, UInt8.toNat_inj.1 h1]
set_option maxHeartbeats 1000000 in
theorem marked_any (b : UInt8) (w : World) : Calls Tryz.prog 122 #[.int .i32 (b.toNat : Int)] w fun e w' => e = .returned (.bool (markedB b)) ∧ w' = w := by
  by_cases h1 : b = 34
  · subst h1
    go_enter Tryz.func122, Tryz.ntmps122
    go_wp2
    go_ret
    exact ⟨rfl, rfl⟩
  · by_cases h2 : b = 92
    · subst h2
      go_enter Tryz.func122, Tryz.ntmps122
      go_wp2
      go_ret
      exact ⟨rfl, rfl⟩
    · have n1 : b.toNat ≠ 34 := fun e => h1 (UInt8.toNat_inj.1 e)
      have n2 : b.toNat ≠ 92 := fun e => h2 (UInt8.toNat_inj.1 e)
      have e1 : ((b.toNat : Int) == 34) = false := by simp; omega
      have e2 : ((b.toNat : Int) == 92) = false := by simp; omega
      have e3 : markedB b = false := by simp [markedB, h1, h2]
      rw [e3]
      go_enter Tryz.func122, Tryz.ntmps122
      go_wp2
      go_ret
      exact ⟨rfl, rfl⟩
set_option maxHeartbeats 4000000 in
set_option maxRecDepth 100000 in
theorem printValue_any {T : TypeId} {o B b : Nat} {cs : Array Value} {bs : List UInt8} (s : ByteArray) (w : World) (h : Bld T o B b cs bs w) (hlen : Hid (bs.length ≤ 5000)) (hs : valL (sg s) = true) :
    Calls Tryz.prog 105 #[.pointer (some ⟨b, o, none⟩), .string s] w fun e w' => e = .returned (.tuple #[]) ∧ BPost T o B b cs (bs ++ escL (sg s)) w w' := by
  have hsz : s.size ≤ 16 := by
    unfold valL at hs
    simp [sg_length] at hs
    exact hs.2
  have hall : (sg s).all valSign = true := by
    unfold valL at hs
    simp only [Bool.and_eq_true] at hs
    exact hs.1
  clear hs
  have HALL : Hid ((sg s).all valSign = true) := hall
  clear hall
  have hBw : B ≤ w.heap.size := h.2.2.1
  have hbw : b < w.heap.size := (Array.getElem?_eq_some_iff.1 h.2.2.2.1).1
  have HB : Hid (Bld T o B b cs bs w) := h
  clear h
  go_enter Tryz.func105, Tryz.ntmps105
  go_wp2
  go_loopw [] (fun wr => ∃ (pos : Nat), wr.heap[w.heap.size]? = some (.stringIter s pos) ∧ pos ≤ s.size ∧ Hid (BPost T o B b cs (bs ++ escL ((sg s).take pos)) w wr)) (fun wr => s.size - wr.iterPos w.heap.size)
  case atStart =>
    refine ⟨0, ?_, Nat.zero_le _, ⟨cs, ?_, rfl, fun _ _ _ => rfl⟩, (Below.refl _ w).alloc hBw _, (Lib.OthersKept.refl _ _ w).alloc _⟩
    · have := World.iter_heap w s 0
      simpa using this
    · have := HB.out.alloc (.stringIter s 0)
      rw [show bs ++ escL ((sg s).take 0) = bs from by simp [escL]]
      exact this
  case round =>
    obtain ⟨pos, hit, hps, hT⟩ := hrel
    obtain ⟨⟨cs1, hbl, hr⟩, hbel, hok⟩ := hT.out
    have hbel' := hbel.size
    by_cases hp : pos < s.size
    · have hv := all_get HALL.out pos hp
      have ha : s[pos].toNat < 128 := by simp [valSign] at hv; omega
      have hnx : ∀ ty, (Instr.next (.pointer (some ⟨w.heap.size, 0, none⟩)) true ty).run Tryz.prog wr = _ := fun ty => Lib.run_next_ascii_at wr w.heap.size s pos ty hit hp ha
      have hit2 := Lib.iterAt_heap wr w.heap.size s pos (pos + 1) hit
      have hbl2 := hbl.iterAt hit (pos + 1)
      have hbel2 := Lib.below_iterAt hbel (k := w.heap.size) hBw s (pos + 1)
      have hok2 := others_iterAt hok (k := w.heap.size) (Nat.le_refl _) s (pos + 1)
      have HESC : Hid (bs ++ escL ((sg s).take (pos + 1)) = (bs ++ escL ((sg s).take pos)) ++ (if markedB s[pos] then [92, s[pos]] else [s[pos]])) := by
        show _ = _
        rw [sg_take s pos hp, escL_snoc, List.append_assoc]
      have HLN : Hid ((bs ++ escL ((sg s).take pos)).length ≤ 6000) := by
        show _ ≤ _
        have h1 := escL_length ((sg s).take pos)
        have h2 := hlen.out
        have h3 : ((sg s).take pos).length ≤ 16 := by simp [sg_length]; omega
        rw [List.length_append]
        omega
      have HENC := encodeRune_ascii s[pos] ha
      have hmp : wr.iterPos w.heap.size = pos := by simp only [World.iterPos, hit]
      clear hv hbl hbel hok hT
      generalize hcx : s[pos] = c at *
      generalize hwx : wr.iterAt w.heap.size s (pos + 1) = wx at *
      generalize bs ++ escL ((sg s).take pos) = acc at *
      go_wp2_with fail
      refine (marked_any c _).mono ?_
      rintro e w4 ⟨rfl, rfl⟩
      have hlt4 : w.heap.size < w4.heap.size := (Array.getElem?_eq_some_iff.1 hit2).1
      cases hm : markedB c with
      | true =>
        go_wp2_with fail
        refine (writeByte_any 92 _ hbl2 (Nat.le_trans HLN.out (by decide))).mono ?_
        rintro e w5 ⟨rfl, ⟨cs5, hbl5, hr5⟩, hb5, hk5⟩
        go_wp2_with fail
        refine (writeRune_any (c.toNat : Int) _ hbl5 (by show _ ≤ _; have := HLN.out; simp; omega) (by omega) (by omega)).mono ?_
        rintro e w6 ⟨⟨q, rfl⟩, ⟨cs6, hbl6, hr6⟩, hb6, hk6⟩
        have hit6 := hk6.iter (hk5.iter hit2 (by omega)) (by omega)
        have HOUT : Hid (BPost T o B b cs (bs ++ escL ((sg s).take (pos + 1))) w w6) := by
          show BPost _ _ _ _ _ _ _ _
          rw [HESC.out, hm]
          rw [HENC, List.append_assoc] at hbl6
          exact ⟨⟨cs6, hbl6, (hr.trans hr5).trans hr6⟩, (hbel2.trans hb5).trans hb6, (hok2.trans hk5).trans hk6⟩
        clear hbl6 hbl5 hbl2 HESC hk5 hk6 hok2 HENC
        go_wp2
        refine ⟨⟨pos + 1, hit6, by omega, HOUT⟩, ?_⟩
        rw [hmp]
        simp only [World.iterPos, hit6]
        omega
      | false =>
        go_wp2_with fail
        refine (writeRune_any (c.toNat : Int) _ hbl2 (by show _ ≤ _; have := HLN.out; omega) (by omega) (by omega)).mono ?_
        rintro e w6 ⟨⟨q, rfl⟩, ⟨cs6, hbl6, hr6⟩, hb6, hk6⟩
        have hit6 := hk6.iter hit2 (by omega)
        have HOUT : Hid (BPost T o B b cs (bs ++ escL ((sg s).take (pos + 1))) w w6) := by
          show BPost _ _ _ _ _ _ _ _
          rw [HESC.out, hm]
          rw [HENC] at hbl6
          exact ⟨⟨cs6, hbl6, hr.trans hr6⟩, hbel2.trans hb6, hok2.trans hk6⟩
        clear hbl6 hbl2 HESC hk6 hok2 HENC
        go_wp2
        refine ⟨⟨pos + 1, hit6, by omega, HOUT⟩, ?_⟩
        rw [hmp]
        simp only [World.iterPos, hit6]
        omega
    · have hnx : ∀ ty, (Instr.next (.pointer (some ⟨w.heap.size, 0, none⟩)) true ty).run Tryz.prog wr = _ := fun ty => Lib.run_next_end_at wr w.heap.size s pos ty hit hp
      have HE : (sg s).take pos = sg s := List.take_of_length_le (by rw [sg_length]; omega)
      go_wp2
      go_end0
      have := hT.out
      rw [HE] at this
      exact ⟨rfl, this⟩
def PrintPost (w : World) (nm : ByteArray) (ls : List Lab) (e : Ending) (w' : World) : Prop := Below w.heap.size w w' ∧ ((MayS nm ls ∧ e = .returned (.tuple #[.string ⟨(textL nm ls).toArray⟩, .int .i64 0])) ∨ (¬ MayS nm ls ∧ e = .returned (.tuple #[.string ⟨#[]⟩, .int .i64 1])))
theorem nameL_size {s : ByteArray} (h : nameL (sg s) = true) : 1 ≤ s.size ∧ s.size ≤ 16 := by
  unfold nameL at h
  simp [sg_length] at h
  exact ⟨h.1.2, h.2⟩
theorem valL_size {s : ByteArray} (h : valL (sg s) = true) : s.size ≤ 16 := by
  unfold valL at h
  simp [sg_length] at h
  exact h.2
theorem labText_length {x : Lab} (h1 : nameL (sg x.1) = true) (h2 : valL (sg x.2) = true) : (labText x).length ≤ 60 := by
  have a := (nameL_size h1).2
  have b := valL_size h2
  have c := escL_length (sg x.2)
  simp [labText, sg_length] at *
  omega
theorem bodyAt_length {ls : List Lab} (h : ∀ i, i < ls.length → OkAt ls i) : ∀ k, k ≤ ls.length → (bodyAt ls k).length ≤ 61 * k := by
  intro k
  induction k with
  | zero => intro _; simp [bodyAt]
  | succ k ih =>
    intro hk
    have h1 := ih (by omega)
    have h2 := h k (by omega)
    have h3 := labText_length h2.1 h2.2.1
    simp [bodyAt] at *
    omega
set_option maxHeartbeats 8000000 in
set_option maxRecDepth 100000 in
theorem print_any (v : Value) (nm : ByteArray) (ls : List Lab) (w : World) (h : SerAt w v nm ls) :
    Calls Tryz.prog 72 #[v] w fun e w' => PrintPost w nm ls e w' := by
  have HS : Hid (SerAt w v nm ls) := h
  obtain ⟨a, len, cap, rfl, hL, hnm, hF⟩ := h
  have hl : ls.length = len := hL.1
  have HL : Hid (LabsAt w a len cap ls) := hL
  clear hL hF hnm
  have B0 : Below w.heap.size w (w.alloc (.cells #[.string nm, .slice a len cap] 86)) := below_alloc _ _
  go_enter Tryz.func72, Tryz.ntmps72
  go_wp2_with fail
  generalize hw1 : w.alloc (.cells #[.string nm, .slice a len cap] 86) = w1 at *
  have hc0 : w1.cell? ⟨w.heap.size, 0, none⟩ = some (.string nm) := by rw [← hw1]; simp
  have hc1 : w1.cell? ⟨w.heap.size, 1, none⟩ = some (.slice a len cap) := by rw [← hw1]; simp
  have hs1 : w.heap.size < w1.heap.size := by rw [← hw1]; simp
  clear hw1
  refine (check_any _ nm ls _ (HS.out.below B0)).mono ?_
  rintro e w2 ⟨hb2, ⟨rfl, hM⟩ | ⟨rfl, hM⟩⟩
  rotate_left
  · go_wp2
    go_ret2
    exact ⟨B0.trans (hb2.mono (by omega)), .inr ⟨hM, rfl⟩⟩
  have hb02 : Below w.heap.size w w2 := B0.trans (hb2.mono (by omega))
  have g0 : w2.cell? ⟨w.heap.size, 0, none⟩ = some (.string nm) := (hb2.cell (p := ⟨w.heap.size, 0, none⟩) hs1).trans hc0
  have g1 : w2.cell? ⟨w.heap.size, 1, none⟩ = some (.slice a len cap) := (hb2.cell (p := ⟨w.heap.size, 1, none⟩) hs1).trans hc1
  have hs2 : w.heap.size < w2.heap.size := Nat.lt_of_lt_of_le hs1 hb2.size
  clear hb2 hc0 hc1
  go_wp2_with fail
  have BF : Bld 135 0 w2.heap.size w2.heap.size #[.pointer none, .slice none 0 0] [] (w2.alloc (.cells #[.pointer none, .slice none 0 0] 135)) :=
    ⟨.inl ⟨rfl, rfl, rfl⟩, Nat.le_refl _, by simp, heap_alloc_new _ _, .inl rfl, .slice none 0 0, rfl, World.ownsRowF_nil _ _ _ _, by simp [Value.ownBlock], fun _ => rfl⟩
  have B3 : Below w2.heap.size w2 (w2.alloc (.cells #[.pointer none, .slice none 0 0] 135)) := below_alloc _ _
  generalize w2.alloc (.cells #[.pointer none, .slice none 0 0] 135) = w3 at *
  generalize hpp : w2.heap.size = p at *
  have hns := nameL_size hM.1
  refine (writeString_any nm _ BF (by show _ ≤ _; simp) (by show _ ≤ _; omega)).mono ?_
  rintro e w4 ⟨rfl, ⟨cs4, hbl4, _⟩, hb4, _⟩
  have hb24 : Below p w2 w4 := B3.trans hb4
  have g0' : w4.cell? ⟨w.heap.size, 0, none⟩ = some (.string nm) := (hb24.cell (p := ⟨w.heap.size, 0, none⟩) hs2).trans g0
  have g1' : w4.cell? ⟨w.heap.size, 1, none⟩ = some (.slice a len cap) := (hb24.cell (p := ⟨w.heap.size, 1, none⟩) hs2).trans g1
  have HB4 : Hid (∃ cs', Bld 135 0 p p cs' (sg nm ++ bodyAt ls 0) w4) := ⟨cs4, by simpa [bodyAt] using hbl4⟩
  have HM : Hid (MayS nm ls) := hM
  have hl4 : len ≤ 4 := by have := hM.2.1; omega
  have hs5 : w.heap.size ≤ p := by omega
  have HBL : Hid (∀ k, k ≤ ls.length → (sg nm ++ bodyAt ls k).length ≤ 300) := fun k hk => by
    have := bodyAt_length hM.2.2 k hk
    rw [List.length_append, sg_length]
    omega
  clear hM BF hbl4 B3 hb4
  go_wp2
  go_loopw [6, 20] (fun mk i wr => ∃ k : Nat, k ≤ len ∧ i = .int .i64 k ∧ mk = .int .i32 (if k = 0 then 123 else 44) ∧ Hid (∃ cs', Bld 135 0 p p cs' (sg nm ++ bodyAt ls k) wr) ∧ Below p w2 wr) (fun _ i _ => len - (intOf i).toNat)
  case atStart => exact ⟨0, Nat.zero_le _, rfl, rfl, HB4, hb24⟩
  case round =>
    obtain ⟨k, hk, rfl, rfl, hT, hbel⟩ := hrel
    have hbw : Below w.heap.size w wr := hb02.trans (hbel.mono hs5)
    by_cases hlt : k < len
    · obtain ⟨b, off, rfl, hcell⟩ := (HL.out.below hbw).some (by omega)
      obtain ⟨e0, e1⟩ := hcell k hlt
      have hk1 : (k : Int) < (len : Int) := by omega
      clear hcell
      have hok := HM.out.2.2 k (by omega)
      have HNX : Hid (nameL (sg (ls.getD k lab0).1) = true) := hok.1
      have HVX : Hid (valL (sg (ls.getD k lab0).2) = true) := hok.2.1
      have HBODY : Hid (sg nm ++ bodyAt ls (k + 1) = (sg nm ++ bodyAt ls k) ++ [if k = 0 then 123 else 44] ++ sg (ls.getD k lab0).1 ++ [61, 34] ++ escL (sg (ls.getD k lab0).2) ++ [34]) := by
        show _ = _
        simp [bodyAt, labText]
      have HLEN : Hid ((sg nm ++ bodyAt ls k).length ≤ 300) := HBL.out k (by omega)
      clear hok
      obtain ⟨cs5, hbl5⟩ := hT.out
      clear hT
      generalize ls.getD k lab0 = x at *
      obtain ⟨x1, x2⟩ := x
      generalize sg nm ++ bodyAt ls k = acc at *
      have hnx1 := nameL_size HNX.out
      have hvx2 := valL_size HVX.out
      obtain ⟨mk, hmk, hmkb⟩ : ∃ mk : UInt8, (if k = 0 then (123 : Int) else 44) = (mk.toNat : Int) ∧ mk = (if k = 0 then 123 else 44) := by
        by_cases h0 : k = 0
        · exact ⟨123, by simp [h0], by simp [h0]⟩
        · exact ⟨44, by simp [h0], by simp [h0]⟩
      have hmk128 : mk.toNat < 128 := by rw [hmkb]; split <;> decide
      rw [← hmkb] at HBODY
      rw [hmk]
      clear hmk hmkb
      have henc := encodeRune_ascii mk hmk128
      go_wp2_with fail
      have hbx : (wr.alloc (.cells #[.string x1, .string x2] 112)).heap[wr.heap.size]? = some (.cells #[.string x1, .string x2] 112 (0, 0)) := heap_alloc_new _ _
      have hbl6 := hbl5.alloc (.cells #[.string x1, .string x2] 112)
      have hbel6 : Below p w2 (wr.alloc (.cells #[.string x1, .string x2] 112)) := hbel.alloc hbl5.2.2.1 _
      have hpx : wr.heap.size ≠ p := fun e => by
        have := (Array.getElem?_eq_some_iff.1 hbl5.2.2.2.1).1
        omega
      generalize wr.alloc (.cells #[.string x1, .string x2] 112) = w6 at *
      generalize wr.heap.size = bx at *
      clear hbl5 e0 e1
      refine (writeRune_any (mk.toNat : Int) _ hbl6 (by show _ ≤ _; have := HLEN.out; omega) (by omega) (by omega)).mono ?_
      rintro e w7 ⟨⟨q7, rfl⟩, ⟨cs7, hbl7, _⟩, hb7, hk7⟩
      rw [henc] at hbl7
      have hbx7 := hk7 _ _ hbx (by simp [hpx]) (by intro c fz h; cases h)
      have d0 : w7.cell? ⟨bx, 0, none⟩ = some (.string x1) := by rw [Lib.cell_of_heap hbx7]; rfl
      clear hbl6 hk7
      go_wp2_with fail
      refine (writeString_any x1 _ hbl7 (by show _ ≤ _; have := HLEN.out; simp; omega) (by show _ ≤ _; omega)).mono ?_
      rintro e w8 ⟨rfl, ⟨cs8, hbl8, _⟩, hb8, hk8⟩
      have hbx8 := hk8 _ _ hbx7 (by simp [hpx]) (by intro c fz h; cases h)
      clear hbl7 hk8 d0
      go_wp2_with fail
      refine (writeString_any ⟨#[61, 34]⟩ _ hbl8 (by show _ ≤ _; have := HLEN.out; simp [sg_length]; omega) (by show _ ≤ _; decide)).mono ?_
      rintro e w9 ⟨rfl, ⟨cs9, hbl9, _⟩, hb9, hk9⟩
      rw [show sg ⟨#[61, 34]⟩ = [61, 34] from rfl] at hbl9
      have hbx9 := hk9 _ _ hbx8 (by simp [hpx]) (by intro c fz h; cases h)
      have d1 : w9.cell? ⟨bx, 1, none⟩ = some (.string x2) := by rw [Lib.cell_of_heap hbx9]; rfl
      clear hbl8 hk9
      go_wp2_with fail
      refine (printValue_any x2 _ hbl9 (by show _ ≤ _; have := HLEN.out; simp [sg_length]; omega) HVX.out).mono ?_
      rintro e w10 ⟨rfl, ⟨cs10, hbl10, _⟩, hb10, hk10⟩
      clear hbl9 hk10 d1
      go_wp2_with fail
      refine (writeByte_any 34 _ hbl10 (by show _ ≤ _; have := HLEN.out; have := escL_length (sg x2); simp [sg_length] at *; omega)).mono ?_
      rintro e w11 ⟨rfl, ⟨cs11, hbl11, _⟩, hb11, hk11⟩
      have HOUT : Hid (∃ cs', Bld 135 0 p p cs' (sg nm ++ bodyAt ls (k + 1)) w11) := by
        refine ⟨cs11, ?_⟩
        rw [HBODY.out]
        exact hbl11
      have hbel11 : Below p w2 w11 := ((((hbel6.trans hb7).trans hb8).trans hb9).trans hb10).trans hb11
      clear hbl10 hbl11 hk11 HBODY hbx hbx7 hbx8 hbx9
      go_wp2
      exact ⟨⟨k + 1, by omega, by go_num, rfl, HOUT, hbel11⟩, by simp [intOf]; omega⟩
    · obtain rfl : k = len := by omega
      have g0'' : wr.cell? ⟨w.heap.size, 0, none⟩ = some (.string nm) := (hbel.cell (p := ⟨w.heap.size, 0, none⟩) hs2).trans g0
      have g1'' : wr.cell? ⟨w.heap.size, 1, none⟩ = some (.slice a k cap) := (hbel.cell (p := ⟨w.heap.size, 1, none⟩) hs2).trans g1
      obtain ⟨cs5, hbl5⟩ := hT.out
      clear hT
      by_cases hz : k = 0
      · subst hz
        have HTX : Hid (textL nm ls = sg nm ++ bodyAt ls 0) := by show _ = _; simp [textL, hl]
        go_wp2_with fail
        refine (bString_any _ hbl5).mono ?_
        rintro e w6 ⟨rfl, _, hb6, _⟩
        go_wp2
        go_ret2
        refine ⟨hbw.trans (hb6.mono hs5), .inl ⟨HM.out, ?_⟩⟩
        rw [HTX.out]
        rfl
      · have hk0 : (0 : Int) < (k : Int) := by omega
        have HTX : Hid (textL nm ls = (sg nm ++ bodyAt ls k) ++ [125]) := by show _ = _; simp [textL, hl, hz]
        have HLN := HBL.out k (by omega)
        generalize sg nm ++ bodyAt ls k = acc at *
        go_wp2_with fail
        refine (writeByte_any 125 _ hbl5 (by show _ ≤ _; omega)).mono ?_
        rintro e w6 ⟨rfl, ⟨cs6, hbl6, _⟩, hb6, _⟩
        go_wp2_with fail
        refine (bString_any _ hbl6).mono ?_
        rintro e w7 ⟨rfl, _, hb7, _⟩
        go_wp2
        go_ret2
        refine ⟨(hbw.trans (hb6.mono hs5)).trans (hb7.mono hs5), .inl ⟨HM.out, ?_⟩⟩
        rw [HTX.out]
        rfl
end Go.Proofs.YtihohcmocejijaaGreat.Lb
namespace Go.Proofs.YtihohcmocejijaaGreat.Lb
open Go.ChangeShapes Go.WideShapes Go.ChangeAt Go.RowKit
abbrev St := Nat × List UInt8 × ByteArray × ByteArray × List Lab
def baL (l : List UInt8) : ByteArray := ⟨l.toArray⟩
theorem sg_baL (l : List UInt8) : sg (baL l) = l := by simp [sg, baL]
def keepS (r : Int) (st : St) : Option St := if 16 ≤ st.2.1.length then none else some (st.1, st.2.1 ++ Lib.encodeRune r, st.2.2)
def stepS (st : St) (r : Int) : Option St :=
  let (p, wd, ln, sn, ls) := st
  if p = 0 then (if r = 123 then some (1, [], ln, baL wd, ls) else keepS r st)
  else if p = 1 then (if r = 61 then some (2, [], baL wd, sn, ls) else keepS r st)
  else if p = 2 then (if r = 34 then some (3, wd, ln, sn, ls) else none)
  else if p = 3 then (if r = 92 then some (4, wd, ln, sn, ls) else if r = 34 then (if ls.length + 1 ≤ 4 then some (5, [], ln, sn, ls ++ [(ln, baL wd)]) else none) else keepS r st)
  else if p = 4 then (if r = 34 ∨ r = 92 then (keepS r st).map fun s => (3, s.2) else none)
  else if p = 5 then (if r = 44 then some (1, wd, ln, sn, ls) else if r = 125 then some (6, wd, ln, sn, ls) else none)
  else none
def cellsLb (ls : List Lab) : List Value := ls.flatMap fun x => [.string x.1, .string x.2]
theorem cellsLb_snoc (ls : List Lab) (x : Lab) : cellsLb (ls ++ [x]) = cellsLb ls ++ [.string x.1, .string x.2] := by simp [cellsLb]
theorem cellsLb_length (ls : List Lab) : (cellsLb ls).length = ls.length * 2 := by
  induction ls with
  | nil => rfl
  | cons x l ih => simp [cellsLb] at *; omega
def RdAt (B R : Nat) (st : St) (w : World) : Prop :=
  ∃ cs, Bld 137 1 B R cs st.2.1 w ∧ cs[0]? = some (.int .i64 ((st.1 : Nat) : Int)) ∧ cs[3]? = some (.string st.2.2.1) ∧ cs[4]? = some (.string st.2.2.2.1) ∧
    ∃ lv, cs[5]? = some lv ∧ w.ownsRow B 112 2 lv st.2.2.2.2.length (cellsLb st.2.2.2.2)
def Kp (R : Nat) (w w' : World) : Prop := ∀ k o, w.heap[k]? = some o → k ≠ R → (∀ c fz, o ≠ .cells c 5 fz) → (∀ c fz, o ≠ .cells c 112 fz) → w'.heap[k]? = some o
theorem Kp.refl (R : Nat) (w : World) : Kp R w w := fun _ _ h _ _ _ => h
theorem Kp.trans {R : Nat} {a b c : World} (h : Kp R a b) (k : Kp R b c) : Kp R a c := fun i o hi hr h5 h46 => k i o (h i o hi hr h5 h46) hr h5 h46
theorem Kp.of {R : Nat} {w w' : World} (h : Lib.OthersKept 5 (some R) w w') : Kp R w w' := fun i o hi hr h5 _ => h i o hi (by simpa using hr) h5
theorem Kp.alloc (R : Nat) (w : World) (ob : Obj) : Kp R w (w.alloc ob) := fun k o hk _ _ _ => by
  have hlt : k < w.heap.size := (Array.getElem?_eq_some_iff.1 hk).1
  exact (Lib.alloc_old w ob k hlt).trans hk
theorem Kp.setCell (R : Nat) (w : World) (j : Nat) (v : Value) : Kp R w (w.setCell ⟨R, j, none⟩ v) := fun k o hk hr _ _ => by
  rw [Below.heap_setCell _ _ _ _ (by simpa using hr)]; exact hk
def RPost (B R : Nat) (st : St) (w w' : World) : Prop := RdAt B R st w' ∧ Below B w w' ∧ Kp R w w'
theorem RdAt.word {B R : Nat} {p : Nat} {wd' : List UInt8} {r : ByteArray × ByteArray × List Lab} {w w' : World} {cs : Array Value} (h1 : cs[0]? = some (.int .i64 ((p : Nat) : Int))) (h2 : cs[3]? = some (.string r.1)) (h3 : cs[4]? = some (.string r.2.1)) {lv : Value} (h4 : cs[5]? = some lv) (h5 : w.ownsRow B 112 2 lv r.2.2.length (cellsLb r.2.2)) (hR : w.heap[R]? = some (.cells cs 137 (0, 0))) (h : BPost 137 1 B R cs wd' w w') : RPost B R (p, wd', r) w w' := by
  obtain ⟨⟨cs', hb, hrest⟩, hbel, hk⟩ := h
  refine ⟨⟨cs', hb, (hrest.2 0 (by decide) (by decide)).trans h1, (hrest.2 3 (by decide) (by decide)).trans h2, (hrest.2 4 (by decide) (by decide)).trans h3, lv, (hrest.2 5 (by decide) (by decide)).trans h4, ?_⟩, hbel, Kp.of hk⟩
  obtain ⟨hl, hn | ⟨g, cap, cur, rfl, hg, hh, rest⟩⟩ := h5
  · exact ⟨hl, .inl hn⟩
  · refine ⟨hl, .inr ⟨g, cap, cur, rfl, hg, hk g _ hh ?_ (by intro c fz h; cases h), rest⟩⟩
    intro e
    obtain rfl := Option.some.inj e
    rw [hR] at hh
    cases hh
theorem Bld.other {T : TypeId} {o B b : Nat} {cs : Array Value} {bs : List UInt8} {w : World} (h : Bld T o B b cs bs w) (j : Nat) (u : Value) (h1 : j ≠ o) (h2 : j ≠ o + 1) : Bld T o B b (cs.setIfInBounds j u) bs (w.setCell ⟨b, j, none⟩ u) := by
  obtain ⟨hP, hB, hBw, hb, hp, v, hv, hown, hne, hnil⟩ := h
  refine ⟨by simpa using hP, hB, by simpa [World.setCell] using hBw, heap_set hb _ _, ?_, v, ?_, ?_, hne, hnil⟩
  · simpa [h1] using hp
  · simpa [h2] using hv
  · exact hown.kept (row := some b) ⟨rfl, rfl, rfl, by simp [World.setCell], fun k _ hk => Below.heap_setCell _ _ _ _ (fun e => hk (by simp [e]))⟩ (Or.inr hne)
theorem own_set {w : World} {B R : Nat} {cs : Array Value} {lv : Value} {n : Nat} {xs : List Value} (hR : w.heap[R]? = some (.cells cs 137 (0, 0))) (h : w.ownsRow B 112 2 lv n xs) (j : Nat) (u : Value) : (w.setCell ⟨R, j, none⟩ u).ownsRow B 112 2 lv n xs := by
  obtain ⟨hl, hn | ⟨g, cap, cur, rfl, hg, hh, rest⟩⟩ := h
  · exact ⟨hl, .inl hn⟩
  · refine ⟨hl, .inr ⟨g, cap, cur, rfl, hg, ?_, rest⟩⟩
    rw [Below.heap_setCell _ _ _ _ (by
      intro e
      have e : g = R := e
      subst e
      rw [hR] at hh
      cases hh)]
    exact hh
set_option maxHeartbeats 1000000 in
theorem move_any {B R : Nat} {p : Nat} {wd : List UInt8} {r : ByteArray × ByteArray × List Lab} (w : World) (h : RdAt B R (p, wd, r) w) (q : Nat) :
    Calls Tryz.prog 119 #[.pointer (some ⟨R, 0, none⟩), .int .i64 (q : Int)] w fun e w' => e = .returned (.bool true) ∧ RPost B R (q, wd, r) w w' := by
  obtain ⟨cs, hb, c0, c3, c4, lv, c5, hown⟩ := h
  have hh := hb.2.2.2.1
  have hB := hb.2.1
  have hsz : cs.size = 6 := by rcases hb.1 with ⟨h, _⟩ | ⟨_, h, _⟩
                               · cases h
                               · exact h
  have g0 : w.cell? ⟨R, 0, none⟩ = some (.int .i64 ((p : Nat) : Int)) := by rw [Lib.cell_of_heap hh]; exact c0
  have f0 : w.frozen? ⟨R, 0, none⟩ = false := Lib.frozen_of_heap hh 0
  have HOT : Hid (RPost B R (q, wd, r) w (w.setCell ⟨R, 0, none⟩ (.int .i64 (q : Int)))) := by
    refine ⟨⟨_, hb.other 0 _ (by decide) (by decide), by rw [Array.getElem?_setIfInBounds, if_pos rfl, if_pos (by omega)], by simpa using c3, by simpa using c4, lv, by simpa using c5, own_set hh hown _ _⟩, (Below.refl B w).setCell (p := ⟨R, 0, none⟩) hB _, Kp.setCell _ _ _ _⟩
  clear hb c0 c3 c4 c5 hown hh
  go_enter Tryz.func119, Tryz.ntmps119
  go_wp2
  go_ret
  exact ⟨rfl, HOT.out⟩
set_option maxHeartbeats 1000000 in
theorem endWord_any {B R : Nat} {p : Nat} {wd : List UInt8} {r : ByteArray × ByteArray × List Lab} (w : World) (h : RdAt B R (p, wd, r) w) :
    Calls Tryz.prog 100 #[.pointer (some ⟨R, 0, none⟩)] w fun e w' => e = .returned (.string (baL wd)) ∧ RPost B R (p, [], r) w w' ∧ Lib.OthersKept 5 (some R) w w' ∧ w'.cell? ⟨R, 5, none⟩ = w.cell? ⟨R, 5, none⟩ := by
  obtain ⟨cs, hb, c0, c3, c4, lv, c5, hown⟩ := h
  have hh := hb.2.2.2.1
  go_enter Tryz.func100, Tryz.ntmps100
  go_wp2_with fail
  refine (bString_any _ hb).mono ?_
  rintro e w1 ⟨rfl, hp1⟩
  have R1 := RdAt.word (r := r) c0 c3 c4 c5 hown hh hp1
  have O1 := hp1.2.2
  have L1 : w1.cell? ⟨R, 5, none⟩ = w.cell? ⟨R, 5, none⟩ := by
    obtain ⟨⟨cs', hb', hr'⟩, _, _⟩ := hp1
    rw [Lib.cell_of_heap hb'.2.2.2.1, Lib.cell_of_heap hh, hr'.2 5 (by decide) (by decide)]
  obtain ⟨⟨cs1, hb1, d0, d3, d4, lv1, d5, hown1⟩, hbel1, hk1⟩ := R1
  have hh1 := hb1.2.2.2.1
  clear hb c0 c3 c4 c5 hown hh hp1
  go_wp2_with fail
  refine (bReset_any _ hb1).mono ?_
  rintro e w2 ⟨rfl, hp2⟩
  have R2 := RdAt.word (r := r) d0 d3 d4 d5 hown1 hh1 hp2
  have L2 : w2.cell? ⟨R, 5, none⟩ = w1.cell? ⟨R, 5, none⟩ := by
    obtain ⟨⟨cs', hb', hr'⟩, _, _⟩ := hp2
    rw [Lib.cell_of_heap hb'.2.2.2.1, Lib.cell_of_heap hh1, hr'.2 5 (by decide) (by decide)]
  have HOT : Hid (RPost B R (p, [], r) w w2 ∧ Lib.OthersKept 5 (some R) w w2 ∧ w2.cell? ⟨R, 5, none⟩ = w.cell? ⟨R, 5, none⟩) := ⟨⟨R2.1, hbel1.trans R2.2.1, hk1.trans R2.2.2⟩, O1.trans hp2.2.2, L2.trans L1⟩
  clear hb1 d0 d3 d4 d5 hown1 hh1 hp2 R2 hbel1 hk1 O1 L1 L2
  go_wp2
  go_ret
  exact ⟨rfl, HOT.out⟩
def TPost (B R : Nat) (o : Option St) (w : World) (e : Ending) (w' : World) : Prop := Below B w w' ∧ Kp R w w' ∧ ((o = none ∧ e = .returned (.bool false)) ∨ ∃ st, o = some st ∧ e = .returned (.bool true) ∧ RdAt B R st w')
set_option maxHeartbeats 1000000 in
theorem keep_any {B R : Nat} {st : St} (w : World) (h : RdAt B R st w) (r : Int) (hr0 : 0 ≤ r) (hr1 : r ≤ 2147483647) :
    Calls Tryz.prog 120 #[.pointer (some ⟨R, 0, none⟩), .int .i32 r, .int .i64 16] w fun e w' => TPost B R (keepS r st) w e w' := by
  obtain ⟨p, wd, rs⟩ := st
  obtain ⟨cs, hb, c0, c3, c4, lv, c5, hown⟩ := h
  simp only at c0 c3 c4 c5 hown hb
  have hh := hb.2.2.2.1
  by_cases hl : 16 ≤ wd.length
  · have HK : keepS r (p, wd, rs) = none := by simp [keepS, hl]
    have hl2 : (16 : Int) ≤ (wd.length : Int) := by omega
    rw [HK]
    go_enter Tryz.func120, Tryz.ntmps120
    go_wp2_with fail
    refine (bLen_any _ hb).mono ?_
    rintro e w1 ⟨rfl, rfl⟩
    go_wp2
    go_ret
    exact ⟨Below.refl _ _, Kp.refl _ _, .inl ⟨rfl, rfl⟩⟩
  · have HK : keepS r (p, wd, rs) = some (p, wd ++ Lib.encodeRune r, rs) := by simp [keepS, hl]
    have hl2 : ¬ (16 : Int) ≤ (wd.length : Int) := by omega
    have HW : Hid (wd.length ≤ 100000) := by show _ ≤ _; omega
    rw [HK]
    go_enter Tryz.func120, Tryz.ntmps120
    go_wp2_with fail
    refine (bLen_any _ hb).mono ?_
    rintro e w1 ⟨rfl, rfl⟩
    go_wp2_with fail
    refine (writeRune_any r _ hb HW hr0 hr1).mono ?_
    rintro e w2 ⟨⟨q, rfl⟩, hp2⟩
    have R2 := RdAt.word (r := rs) c0 c3 c4 c5 hown hh hp2
    have HOT : Hid (RPost B R (p, wd ++ Lib.encodeRune r, rs) w1 w2) := R2
    clear hb c0 c3 c4 c5 hown hh hp2 R2
    go_wp2
    go_ret
    exact ⟨HOT.out.2.1, HOT.out.2.2, .inr ⟨_, rfl, rfl, HOT.out.1⟩⟩
end Go.Proofs.YtihohcmocejijaaGreat.Lb
