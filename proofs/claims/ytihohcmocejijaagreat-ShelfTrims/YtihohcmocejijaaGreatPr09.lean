/-
  A sample in a box of one's own; the contracts of size, minus and plus.
  Rows of samples of one's own; regions that draw, by hand; what is used again and again.
-/
import Derived.Test.YtihohcmocejijaaGreatPr06
import Derived.Laws.Rows
import Derived.Laws.OwnMore
import Derived.Test.YtihohcmocejijaaGreatPr08
import Derived.Test.YtihohcmocejijaaGreatPr07
import Derived.BigRegion
import Derived.Handy
import Derived.Deep.Cut
import Derived.Laws.AppendOwnNone
import Derived.Lib.AppendZerosOnto
import Derived.Maps.AppendAt
import Derived.StillTail
namespace Go.Proofs.YtihohcmocejijaaGreat.Bk
open Go.ChangeShapes Go.WideShapes Go.ChangeAt Go.RowKit
theorem w64_id {x : Int} (h1 : -9223372036854775808 ≤ x) (h2 : x < 9223372036854775808) : wrap64 x = x := by
  unfold wrap64; omega
def SmBox (w : World) (b : Nat) (x y : Int) : Prop := w.heap[b]? = some (.cells #[.int .i64 x, .int .i64 y] 27 (0, 0))
theorem SmBox.lt {w : World} {b : Nat} {x y : Int} (h : SmBox w b x y) : b < w.heap.size := (Array.getElem?_eq_some_iff.1 h).1
theorem SmBox.c0 {w : World} {b : Nat} {x y : Int} (h : SmBox w b x y) : w.cell? ⟨b, 0, none⟩ = some (.int .i64 x) := by unfold World.cell?; rw [show w.heap[(⟨b, 0, none⟩ : Addr).block]? = _ from h]; rfl
theorem SmBox.c1 {w : World} {b : Nat} {x y : Int} (h : SmBox w b x y) : w.cell? ⟨b, 1, none⟩ = some (.int .i64 y) := by unfold World.cell?; rw [show w.heap[(⟨b, 1, none⟩ : Addr).block]? = _ from h]; rfl
theorem SmBox.f0 {w : World} {b : Nat} {x y : Int} (h : SmBox w b x y) : w.frozen? ⟨b, 0, none⟩ = false := by unfold World.frozen?; rw [show w.heap[(⟨b, 0, none⟩ : Addr).block]? = _ from h]; rfl
theorem SmBox.f1 {w : World} {b : Nat} {x y : Int} (h : SmBox w b x y) : w.frozen? ⟨b, 1, none⟩ = false := by unfold World.frozen?; rw [show w.heap[(⟨b, 1, none⟩ : Addr).block]? = _ from h]; rfl
theorem SmBox.kept {w w' : World} {b : Nat} {x y : Int} (h : SmBox w b x y) (e : w'.heap[b]? = w.heap[b]?) : SmBox w' b x y := e.trans h
theorem SmBox.below {w w' : World} {b : Nat} {x y : Int} (h : SmBox w b x y) (hb : Below w.heap.size w w') : SmBox w' b x y := h.kept (hb.block b h.lt)
theorem SmBox.new (w : World) (x y : Int) : SmBox (w.alloc (.cells #[.int .i64 x, .int .i64 y] 27)) w.heap.size x y := heap_alloc_new w _
def set2 (w : World) (b : Nat) (x y : Value) : World := (w.setCell ⟨b, 0, none⟩ x).setCell ⟨b, 1, none⟩ y
theorem SmBox.set {w : World} {b : Nat} {x y : Int} (h : SmBox w b x y) (x' y' : Int) : SmBox (set2 w b (.int .i64 x') (.int .i64 y')) b x' y' := by
  have h1 := heap_setCell_same w b 0 _ _ (.int .i64 x') h
  have h2 := heap_setCell_same (w.setCell ⟨b, 0, none⟩ (.int .i64 x')) b 1 _ _ (.int .i64 y') h1
  exact h2
theorem set2_else {w : World} {b k : Nat} (x y : Value) (h : k ≠ b) : (set2 w b x y).heap[k]? = w.heap[k]? :=
  (heap_setCell_other _ ⟨b, 1, none⟩ k _ h).trans (heap_setCell_other _ ⟨b, 0, none⟩ k _ h)
theorem SmBox.else {w : World} {b c : Nat} {x y : Int} (h : SmBox w c x y) (u v : Value) (hne : c ≠ b) : SmBox (set2 w b u v) c x y := h.kept (set2_else u v hne)
theorem set2_below {N : Nat} {w0 w : World} {b : Nat} (h : Below N w0 w) (hb : N ≤ b) (x y : Value) : Below N w0 (set2 w b x y) := (h.setCell (p := ⟨b, 0, none⟩) hb _).setCell (p := ⟨b, 1, none⟩) hb _
theorem addr_add2 (b off i : Nat) : (⟨b, off, none⟩ : Addr).add i = ⟨b, off + i, none⟩ := by
  by_cases h : i = 0
  · subst h; simp [Addr.add]
  · simp [Addr.add, h]
theorem ret_smbox {fn : Func} {p : Tmp} (h : fn.results = #[.cell p 27]) (tmps : Array Value) (w : World) (b : Nat) (x y : Int) (hp : tmps.getD p undef = .pointer (some ⟨b, 0, none⟩))
    (hb : SmBox w b x y) : (results fn tmps).run Tryz.prog w = .ok (.agg #[.int .i64 x, .int .i64 y]) w := by
  have h0 := hb.c0
  have h1 := hb.c1
  simp only [Array.getD_eq_getD_getElem?] at hp
  simp only [results, h]
  simp [go_sem, hp, h0, h1]
end Go.Proofs.YtihohcmocejijaaGreat.Bk
namespace Go.Proofs.YtihohcmocejijaaGreat.Bk
open Go.ChangeShapes Go.WideShapes Go.ChangeAt Go.RowKit
theorem Hid.mk9 {P : Prop} (h : P) : Hid P := h
theorem check_yes {a : Option Addr} {len cap : Nat} {ls : List Sm} {w : World} (h : SmsAt w a len cap ls) (hM : MayS ls) : Calls Tryz.prog 53 #[.slice a len cap] w fun e w' => e = .returned (.int .i64 0) ∧ Below w.heap.size w w' :=
  (check_any a len cap ls w h).mono fun _ _ ⟨hb, hq⟩ => by rcases hq with ⟨he, _⟩ | ⟨_, hn⟩; exact ⟨he, hb⟩; exact absurd hM hn
theorem check_no {a : Option Addr} {len cap : Nat} {ls : List Sm} {w : World} (h : SmsAt w a len cap ls) (hM : ¬ MayS ls) : Calls Tryz.prog 53 #[.slice a len cap] w fun e w' => e = .returned (.int .i64 1) ∧ Below w.heap.size w w' :=
  (check_any a len cap ls w h).mono fun _ _ ⟨hb, hq⟩ => by rcases hq with ⟨_, hn⟩ | ⟨he, _⟩; exact absurd hn hM; exact ⟨he, hb⟩
theorem held_one {P : Program} {ops : Array Oper} {Q : Exit → Act → World → Prop} {md : Region.Mode} {S : World → Prop} {i : Nat} {o : Oper} {fuel : Nat} {listed : Array Bool} {a : Act} {w : World} (hr : Region.ready md ops listed = [i]) (ho' : ops.toList[i]? = some o) (hg : Region.wanted o (yielded ops a.tmps) = true)
    (h : ∀ K : Act → World → Prop, Hid (∀ a' w', S w' → wpAnyH P md ops Q S fuel (listed.setIfInBounds i true) a' w' → K a' w') → o.wp P a w K Q) : wpAnyH P md ops Q S (fuel + 1) listed a w := by
  have ho : ops[i]? = some o := by simpa using ho'
  refine wpAnyH_all hr (by simp) (fun j hj => ?_)
  obtain rfl : j = i := by simpa using hj
  unfold wpOp
  simp only [ho]
  rw [if_pos hg]
  exact .inl (h _ (fun _ _ h1 h2 => ⟨h1, h2⟩))
theorem held_take {P : Program} {ops : Array Oper} {Q : Exit → Act → World → Prop} {md : Region.Mode} {S : World → Prop} {i : Nat} {oi : Oper} {v : Value} {fuel : Nat} {listed : Array Bool} {a : Act} {w : World} (hi : ops.toList[i]? = some oi)
    (hB : (Region.noSelect ops && Region.free md ops listed i && (Region.ready md ops listed).contains i) = true)
    (hQ : ∀ c a w, Q (.panic c) (a.put oi.dst v) w → Q (.panic c) a w) (hy : YieldsIf P ops S oi v a) (hS : S w)
    (h : wpAnyH P md ops Q S fuel (listed.setIfInBounds i true) (a.put oi.dst v) w) : wpAnyH P md ops Q S (fuel + 1) listed a w := by
  simp only [Bool.and_eq_true] at hB
  exact wpAnyH_take (by simpa using hi) hB.1.1 hB.1.2 hB.2 hQ hy hS h
theorem held_start {P : Program} {ops : Array Oper} {Q : Exit → Act → World → Prop} {S : World → Prop} {id : Nat} {a : Act} {w : World} (hm : P.follows .mixedOrders = true) (h : wpAnyH P .any ops (NoPanic Q) S ops.size (Array.replicate ops.size false) a w.drew) : (Code.region id ops true).wp P Q a w :=
  wp_region_noPanic (wp_region_held hm h)
def regionOf (n : Nat) : Code → Option Code
  | .region id ops d => if id = n then some (.region id ops d) else none
  | .loop c => regionOf n c
  | .seq a b => match regionOf n a with
    | some c => some c
    | none => regionOf n b
  | .block _ c => regionOf n c
  | .scope c => regionOf n c
  | .cond _ a b => match regionOf n a with
    | some c => some c
    | none => regionOf n b
  | _ => none
def cellsS (L : List Sm) : List Value := L.flatMap fun c => [.int .i64 c.1, .int .i64 c.2]
theorem cellsS_append (L M : List Sm) : cellsS (L ++ M) = cellsS L ++ cellsS M := by simp [cellsS]
theorem cellsS_length (L : List Sm) : (cellsS L).length = L.length * 2 := by
  induction L with
  | nil => rfl
  | cons c L ih => unfold cellsS at *; rw [List.flatMap_cons, List.length_append, ih]; simp; omega
theorem cellsS_at (L : List Sm) : ∀ i, i < L.length → (cellsS L)[i * 2]? = some (.int .i64 (L.getD i sm0).1) ∧ (cellsS L)[i * 2 + 1]? = some (.int .i64 (L.getD i sm0).2) := by
  induction L with
  | nil => intro i hi; exact absurd hi (Nat.not_lt_zero _)
  | cons c L ih =>
    intro i hi
    have e : cellsS (c :: L) = .int .i64 c.1 :: .int .i64 c.2 :: cellsS L := rfl
    rw [e]
    cases i with
    | zero => simp
    | succ i =>
      have := ih i (by simpa using hi)
      rw [show (i + 1) * 2 = i * 2 + 1 + 1 from by omega]
      simpa using this
theorem cellsS_one (L : List Sm) : ∀ u ∈ cellsS L, u.oneCell' = true := by
  intro u hu
  obtain ⟨c, _, hc⟩ := List.mem_flatMap.1 hu
  simp at hc
  rcases hc with rfl | rfl <;> rfl
theorem sms_cells {w : World} {b off len cap : Nat} {ls : List Sm} (h : SmsAt w (some ⟨b, off, none⟩) len cap ls) : ∀ j u, (cellsS ls)[j]? = some u → w.cell? ((⟨b, off, none⟩ : Addr).add j) = some u := by
  intro j u hj
  have hl := h.1
  have hjl : j < ls.length * 2 := by rw [← cellsS_length]; exact (List.getElem?_eq_some_iff.1 hj).1
  obtain ⟨b', off', e, _, hc⟩ := h.some (by omega)
  simp at e
  obtain ⟨rfl, rfl⟩ := e
  have hi : j / 2 < ls.length := by omega
  obtain ⟨q0, q1⟩ := hc (j / 2) (by omega)
  obtain ⟨r0, r1⟩ := cellsS_at ls (j / 2) hi
  rw [addr_add2]
  by_cases hm : j % 2 = 0
  · rw [show j = j / 2 * 2 from by omega] at hj ⊢
    rw [r0] at hj
    obtain rfl := Option.some.inj hj
    exact q0
  · rw [show j = j / 2 * 2 + 1 from by omega] at hj ⊢
    rw [r1] at hj
    obtain rfl := Option.some.inj hj
    exact q1
theorem own_sms {w : World} {B n g cp : Nat} {L : List Sm} (h : w.ownsRow B 27 2 (.slice (some ⟨g, 0, none⟩) n cp) n (cellsS L)) : SmsAt w (some ⟨g, 0, none⟩) n cp L ∧ g < w.heap.size ∧ B ≤ g := by
  have hl : L.length = n := by have := h.1; rw [cellsS_length] at this; omega
  have hc := h.cellAt
  obtain ⟨h1, ⟨e, _⟩ | ⟨g', cap, cur, e, hB, hh, h2, h3, h4, h5⟩⟩ := h
  · simp at e
  · simp at e
    obtain ⟨rfl, rfl⟩ := e
    refine ⟨⟨hl, h2, h3, .inr ⟨g, 0, rfl, fun i hi => ?_⟩⟩, (Array.getElem?_eq_some_iff.1 hh).1, hB⟩
    obtain ⟨q1, q2⟩ := cellsS_at L i (by omega)
    rw [Nat.zero_add, hc (i * 2) (by omega), hc (i * 2 + 1) (by omega)]
    exact ⟨q1, q2⟩
theorem own_sms' {w : World} {B n : Nat} {v : Value} {L : List Sm} (h : w.ownsRow B 27 2 v n (cellsS L)) : ∃ a c, v = .slice a n c ∧ SmsAt w a n c L := by
  have hl : L.length = n := by have := h.1; rw [cellsS_length] at this; omega
  obtain ⟨h1, ⟨e, h0⟩ | ⟨g, cap, cur, e, hr⟩⟩ := h
  · subst h0
    exact ⟨none, 0, e, hl, Nat.le_refl _, Nat.zero_le _, .inl rfl⟩
  · subst e
    exact ⟨_, cap, rfl, (own_sms ⟨h1, .inr ⟨g, cap, cur, rfl, hr⟩⟩).1⟩
theorem own_below {w w' : World} {base s n : Nat} {e : TypeId} {v : Value} {xs : List Value} (h : w.ownsRow base e s v n xs) (hb : Below w.heap.size w w') : w'.ownsRow base e s v n xs := by
  obtain ⟨h1, ⟨rfl, h2⟩ | ⟨g, cap, cur, rfl, h2, hh, h3⟩⟩ := h
  · exact ⟨h1, .inl ⟨rfl, h2⟩⟩
  · exact ⟨h1, .inr ⟨g, cap, cur, rfl, h2, (hb.block g (Array.getElem?_eq_some_iff.1 hh).1).trans hh, h3⟩⟩
theorem own_nothing (w : World) (B E size : Nat) : w.ownsRow B E size (.slice none 0 0) 0 [] := ⟨by simp, .inl ⟨rfl, rfl⟩⟩
theorem infoS : (Tryz.prog.info? 27).map (fun i => (i.zero, i.size, i.bytes)) = some (some (.agg #[.int .i64 0, .int .i64 0]), 2, 16) := by kernel_rfl
theorem sms_nil (w : World) : SmsAt w none 0 0 [] := ⟨rfl, Nat.le_refl _, Nat.zero_le _, .inl rfl⟩
theorem sms_lit (w : World) (x y : Int) : SmsAt (w.alloc (.cells #[.int .i64 x, .int .i64 y] 27)) (some ⟨w.heap.size, 0, none⟩) 1 1 [(x, y)] := by
  refine ⟨rfl, Nat.le_refl _, by unfold maxLen; omega, .inr ⟨w.heap.size, 0, rfl, fun i hi => ?_⟩⟩
  obtain rfl : i = 0 := by omega
  exact ⟨(SmBox.new w x y).c0, (SmBox.new w x y).c1⟩
theorem sms_drop {w : World} {a : Option Addr} {len cap : Nat} {ls : List Sm} (h : SmsAt w a len cap ls) (k : Nat) (hk : k ≤ len) : SmsAt w (if cap = k then a else Option.map (fun x => x.add (k * 2)) a) (len - k) (cap - k) (ls.drop k) := by
  obtain ⟨h1, h2, h3, h4⟩ := h
  refine ⟨by simp [h1], by omega, by omega, ?_⟩
  by_cases hlk : len - k = 0
  · exact .inl hlk
  · rcases h4 with h0 | ⟨b, off, rfl, hc⟩
    · omega
    · rw [if_neg (by omega)]
      refine .inr ⟨b, off + k * 2, by simp [addr_add2], fun i hi => ?_⟩
      have e : (ls.drop k).getD i sm0 = ls.getD (k + i) sm0 := by simp [List.getD_eq_getElem?_getD]
      rw [e, show off + k * 2 + i * 2 = off + (k + i) * 2 from by omega]
      exact hc (k + i) (by omega)
theorem sms_first {w : World} {a : Option Addr} {len cap : Nat} {ls : List Sm} (h : SmsAt w a len cap ls) (k : Nat) (hk : k ≤ len) : SmsAt w a k cap (ls.take k) := by
  obtain ⟨h1, h2, h3, h4⟩ := h
  refine ⟨by simp; omega, by omega, h3, ?_⟩
  by_cases hk0 : k = 0
  · exact .inl hk0
  · rcases h4 with h0 | ⟨b, off, rfl, hc⟩
    · omega
    · refine .inr ⟨b, off, rfl, fun i hi => ?_⟩
      have e : (ls.take k).getD i sm0 = ls.getD i sm0 := by rw [List.getD_eq_getElem?_getD, List.getElem?_take_of_lt hi, ← List.getD_eq_getElem?_getD]
      rw [e]
      exact hc i (by omega)
theorem bool_true {P : Prop} {f : Nat} {args : Array Value} {w : World} (h : Calls Tryz.prog f args w fun e w' => BoolPost P w e w') (hp : P) : Calls Tryz.prog f args w fun e w' => e = .returned (.bool true) ∧ Below w.heap.size w w' :=
  h.mono fun _ _ ⟨hb, q, he, hq⟩ => ⟨by rw [he, hq.2 hp], hb⟩
end Go.Proofs.YtihohcmocejijaaGreat.Bk
