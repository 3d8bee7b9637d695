/-
  The contracts of since, find, Get and copied.
  The contracts of copied, Get, Trim and Range.
-/
import Derived.Test.YtihohcmocejijaaGreatPr09
namespace Go.Proofs.YtihohcmocejijaaGreat.Bk
open Go.ChangeShapes Go.WideShapes Go.ChangeAt Go.RowKit
def SincePost (ls : List Sm) (t : Int) (w : World) (e : Ending) (w' : World) : Prop := Grown w w' ∧ ∃ k : Nat, e = .returned (.int .i64 k) ∧ Since ls t k
set_option maxHeartbeats 1000000 in
set_option maxRecDepth 60000 in
theorem since_any (a : Option Addr) (len cap : Nat) (ls : List Sm) (t : Int) (w : World) (h : SmsAt w a len cap ls) :
    Calls Tryz.prog 88 #[.slice a len cap, .int .i64 t] w fun e w' => SincePost ls t w e w' := by
  have hl : ls.length = len := h.1
  have hm : len ≤ maxLen := Nat.le_trans h.2.1 h.2.2.1
  unfold maxLen at hm
  have HL : Hid (SmsAt w a len cap ls) := h
  clear h
  go_enter Tryz.func88, Tryz.ntmps88
  go_wp2_with fail
  go_loopw [5] (fun i wr => ∃ k : Nat, k ≤ len ∧ i = .int .i64 k ∧ Hid (∀ j, j < k → (ls.getD j sm0).1 < t) ∧ Hid (Grown w wr)) (fun i _ => len - (intOf i).toNat)
  case atStart => exact ⟨0, Nat.zero_le _, rfl, (fun j hj => absurd hj (Nat.not_lt_zero _)), Hid.mk9 (grown_refl _)⟩
  case round =>
    obtain ⟨k, hk, rfl, hT, hbel⟩ := hrel
    by_cases hlt : k < len
    · obtain ⟨b, off, rfl, hbs, hcell⟩ := (HL.out.below (grown_below hbel.out)).some (by omega)
      obtain ⟨e0, -⟩ := hcell k hlt
      clear hcell
      have hk1 : (k : Int) < (len : Int) := by omega
      have hk0 : (0 : Int) ≤ (k : Int) := by omega
      have HY : Hid ((ls.getD k sm0).1 < t → ∀ j, j < k + 1 → (ls.getD j sm0).1 < t) := fun h j hj => by
        rcases Nat.lt_succ_iff_lt_or_eq.1 hj with h' | rfl
        · exact hT.out j h'
        · exact h
      have HN : Hid (t ≤ (ls.getD k sm0).1 → Since ls t k) := fun h => ⟨by omega, hT.out, fun _ => h⟩
      generalize (ls.getD k sm0).1 = x at *
      clear hT
      by_cases hx : x < t
      · have HY' := Hid.mk9 (HY.out hx)
        clear HY HN
        go_wp2_with fail
        exact ⟨⟨k + 1, by omega, by go_num, HY', hbel⟩, by simp [intOf]; omega⟩
      · have HN' := Hid.mk9 (HN.out (by omega))
        have hd : decide (x < t) = false := decide_eq_false hx
        clear HY HN
        go_wp2_with fail
        go_ret
        exact ⟨hbel.out, k, rfl, HN'.out⟩
    · obtain rfl : k = len := by omega
      have HN' : Hid (Since ls t k) := ⟨by omega, hT.out, fun h => absurd h (by omega)⟩
      clear hT HL
      go_wp2_with fail
      go_ret
      exact ⟨hbel.out, k, rfl, HN'.out⟩
def FindPost (o : Option Sm) (w : World) (e : Ending) (w' : World) : Prop := Below w.heap.size w w' ∧ e = .returned (.tuple #[.agg #[.int .i64 (o.getD sm0).1, .int .i64 (o.getD sm0).2], .bool o.isSome])
theorem ret_find {fn : Func} {p q : Tmp} (h : fn.results = #[.cell p 27, .tmp q]) (tmps : Array Value) (w : World) (b : Nat) (x y : Int) (f : Value) (hp : tmps.getD p undef = .pointer (some ⟨b, 0, none⟩)) (hq : tmps.getD q undef = f)
    (hb : SmBox w b x y) : (results fn tmps).run Tryz.prog w = .ok (.tuple #[.agg #[.int .i64 x, .int .i64 y], f]) w := by
  have h0 := hb.c0
  have h1 := hb.c1
  simp only [Array.getD_eq_getD_getElem?] at hp hq
  simp only [results, h]
  simp [go_sem, hp, hq, h0, h1]
theorem findP_yes {o : Option Sm} {x : Sm} {w w' : World} (h : o = some x) (hb : Below w.heap.size w w') : FindPost o w (.returned (.tuple #[.agg #[.int .i64 x.1, .int .i64 x.2], .bool true])) w' := by subst h; exact ⟨hb, rfl⟩
theorem findP_no {o : Option Sm} {w w' : World} (h : o = none) (hb : Below w.heap.size w w') : FindPost o w (.returned (.tuple #[.agg #[.int .i64 0, .int .i64 0], .bool false])) w' := by subst h; exact ⟨hb, rfl⟩
set_option maxHeartbeats 1000000 in
set_option maxRecDepth 60000 in
theorem find_any (a : Option Addr) (len cap : Nat) (ls : List Sm) (t : Int) (w : World) (h : SmsAt w a len cap ls) (hs : Sorted ls) :
    Calls Tryz.prog 90 #[.slice a len cap, .int .i64 t] w fun e w' => FindPost (findP ls t) w e w' := by
  have hl : ls.length = len := h.1
  have hm : len ≤ maxLen := Nat.le_trans h.2.1 h.2.2.1
  unfold maxLen at hm
  have HL : Hid (SmsAt w a len cap ls) := h
  have HX := Hid.mk9 (SmBox.new w 0 0)
  have b0 := below_alloc w (.cells #[.int .i64 0, .int .i64 0] 27)
  have HC := Hid.mk9 (since_any a len cap ls t _ (h.below b0))
  have HS := Hid.mk9 hs
  clear h hs
  go_enter Tryz.func90, Tryz.ntmps90
  go_upto_region 2 with (go_at_call 88; refine HC.out.mono ?_; rintro e w1 ⟨hg, k, rfl, hk⟩)
  have hb1 := grown_below hg
  have HX1 := Hid.mk9 (HX.out.below hb1)
  have HB := Hid.mk9 (below2 b0 hb1)
  have HK := Hid.mk9 hk
  have hkl : k ≤ len := by have := hk.1; omega
  clear hg hb1 hk HX HC b0
  by_cases hlt : k < len
  · obtain ⟨b, off, rfl, hbs, hcell⟩ := (HL.out.below HB.out).some (by omega)
    obtain ⟨e0, e1⟩ := hcell k hlt
    clear hcell
    have hk1 : (k : Int) < (len : Int) := by omega
    have hk0 : (0 : Int) ≤ (k : Int) := by omega
    have hk2 : ¬ (k : Int) = (len : Int) := by omega
    have HY : Hid ((ls.getD k sm0).1 = t → findP ls t = some (ls.getD k sm0)) := fun e => find_at HS.out (by omega) e
    have HN : Hid (¬ (ls.getD k sm0).1 = t → findP ls t = none) := fun e => find_not HK.out HS.out fun _ => e
    generalize ls.getD k sm0 = x at *
    obtain ⟨x1, x2⟩ := x
    have c0 := HX1.out.c0
    have c1 := HX1.out.c1
    have c2 := HX1.out.f0
    have c3 := HX1.out.f1
    by_cases hx : x1 = t
    · have HF := Hid.mk9 (HY.out hx)
      clear HY HN
      subst hx
      have HXs := Hid.mk9 (HX1.out.set x1 x2)
      have HBs := Hid.mk9 (set2_below HB.out (b := w.heap.size) (Nat.le_refl _) (.int .i64 x1) (.int .i64 x2))
      go_wp2_with fail
      refine bodyPost_ret (ret_find rfl _ _ w.heap.size x1 x2 (.bool true) rfl rfl HXs.out) rfl ?_
      exact findP_yes (x := (x1, x2)) HF.out HBs.out
    · have HF := Hid.mk9 (HN.out hx)
      clear HY HN
      have hd : (x1 != t) = true := by simp [hx]
      have HXs := Hid.mk9 (HX1.out.set 0 0)
      have HBs := Hid.mk9 (set2_below HB.out (b := w.heap.size) (Nat.le_refl _) (.int .i64 0) (.int .i64 0))
      go_wp2_with fail
      refine bodyPost_ret (ret_find rfl _ _ w.heap.size 0 0 (.bool false) rfl rfl HXs.out) rfl ?_
      exact findP_no HF.out HBs.out
  · obtain rfl : k = len := by omega
    have HF : Hid (findP ls t = none) := find_not HK.out HS.out fun h => absurd h (by omega)
    have c0 := HX1.out.c0
    have c1 := HX1.out.c1
    have c2 := HX1.out.f0
    have c3 := HX1.out.f1
    have HXs := Hid.mk9 (HX1.out.set 0 0)
    have HBs := Hid.mk9 (set2_below HB.out (b := w.heap.size) (Nat.le_refl _) (.int .i64 0) (.int .i64 0))
    go_wp2_with fail
    refine bodyPost_ret (ret_find rfl _ _ w.heap.size 0 0 (.bool false) rfl rfl HXs.out) rfl ?_
    exact findP_no HF.out HBs.out
end Go.Proofs.YtihohcmocejijaaGreat.Bk
namespace Go.Proofs.YtihohcmocejijaaGreat.Bk
open Go.ChangeShapes Go.WideShapes Go.ChangeAt Go.RowKit
theorem wpList_append_zero {P : Program} {w : World} {ops : Array Oper} {rest : List Oper} {o : Oper} {a : Act} {Q : Exit → Act → World → Prop} (hgd : o.guard = none) (s x : Operand) (t : TypeId)
    (ho : o.op = .call { callee := .builtin .append, args := #[s, x], argTypes := #[t, t] })
    (base : Nat) (e : TypeId) (i : TypeInfo) (size : Nat) (ht : P.underlying t = some (.slice e)) (hi : P.info? e = some i)
    (v : Value) (n : Nat) (xs : List Value) (hs : a.eval s = v) (hown : w.ownsRow base e size v n xs) (ad : Option Addr) (c : Nat) (hx : a.eval x = .slice ad 0 c)
    (h : wpList P ops Q rest (a.put o.dst v) w) : wpList P ops Q (o :: rest) a w := by
  refine wpList_plain hgd fun K hK => ?_
  have hl : ∀ (x : Addr), (loadCells x 0).run P w = .ok #[] w := fun x => by simpa using run_loadCells_list (P := P) w x [] (by simp)
  have hrun : (Builtin.append_ #[t, t] o.type #[v, .slice ad 0 c]).run P w = .ok v w := by
    rcases hown.2 with ⟨rfl, rfl⟩ | ⟨g, cap, cur, rfl, _, _, hnc, _⟩ <;> cases ad <;> simp [Builtin.append_, run_underlying ht, sizeOf, typeInfo, Builtin.lenOf, Builtin.firstCells, storeCells, *]
  unfold Oper.wp
  simp [execOp, ho, resolve, invoke, builtin, hs, hx, hrun]
  exact hK _ _ h
def CopyPost (L : List Sm) (w : World) (e : Ending) (w' : World) : Prop := Below w.heap.size w w' ∧ ∃ v, e = .returned v ∧ w'.ownsRow w.heap.size 27 2 v L.length (cellsS L)
set_option maxRecDepth 60000 in
theorem copied_any (a : Option Addr) (len cap : Nat) (ls : List Sm) (w : World) (h : SmsAt w a len cap ls) (hm : len ≤ 1000) :
    Calls Tryz.prog 89 #[.slice a len cap] w fun e w' => CopyPost ls w e w' := by
  obtain ⟨i0, hi, hz0, hz1, hz2⟩ := info_parts infoS
  have H0 := own_nothing w w.heap.size 27 2
  have HL := Hid.mk9 h
  have HM := Hid.mk9 hm
  have hl : ls.length = len := h.1
  clear h hm
  by_cases h0 : len = 0
  · subst h0
    obtain rfl : ls = [] := List.length_eq_zero_iff.1 hl
    go_enter Tryz.func89, Tryz.ntmps89
    go_wp2_with (at_builtin; refine wpList_append_zero rfl _ _ 53 rfl w.heap.size 27 i0 2 Tryz.underlying53 hi _ _ _ rfl H0 _ _ rfl ?_)
    go_ret
    exact ⟨Below.refl _ _, _, rfl, H0⟩
  · obtain ⟨b, off, rfl, -, -⟩ := HL.out.some (by omega)
    go_enter Tryz.func89, Tryz.ntmps89
    go_wp2_with (at_builtin; refine wpList_append_own _ rfl _ _ 53 rfl w.heap.size 27 i0 (.agg #[.int .i64 0, .int .i64 0]) 2 16 Tryz.underlying53 hi hz0 hz1 hz2 rfl (by decide) _ _ _ rfl H0 ⟨b, off, none⟩ len cap (cellsS ls) rfl (by rw [cellsS_length, hl]) (sms_cells HL.out) (cellsS_one ls) (by have := HM.out; unfold maxLen; omega) (by have := HM.out; omega) (Nat.le_refl _) ?_)
    intro v7 w7 hown7 hg7 hiff
    have HO : Hid (w7.ownsRow w.heap.size 27 2 v7 ls.length (cellsS ls)) := by unfold Hid; rw [hl]; simpa using hown7
    have hb7 : Below w.heap.size w w7 := ⟨hg7.os, hg7.tape, hg7.output, hg7.size, fun k hk => hg7.block k hk (by simp [Value.ownBlock])⟩
    clear hown7 hg7 hiff H0
    go_wp2_with fail
    go_ret
    exact ⟨hb7, v7, rfl, HO.out⟩
set_option maxHeartbeats 1000000 in
set_option maxRecDepth 60000 in
theorem get_yes (a : Option Addr) (len cap : Nat) (ls : List Sm) (t : Int) (w : World) (h : SmsAt w a len cap ls) (hM : MayS ls) :
    Calls Tryz.prog 59 #[.slice a len cap, .int .i64 t] w fun e w' => FindPost (findP ls t) w e w' := by
  have b0 := below_alloc w (.cells #[.int .i64 0, .int .i64 0] 27)
  have HX := Hid.mk9 (SmBox.new w 0 0)
  have HC := Hid.mk9 (check_yes (h.below b0) hM)
  have HF : Hid (∀ W, Below w.heap.size w W → Calls Tryz.prog 90 #[.slice a len cap, .int .i64 t] W fun e w' => FindPost (findP ls t) W e w') := fun W hb => find_any a len cap ls t W (h.below hb) ((may_iff ls).1 hM).2.2
  clear h hM
  generalize findP ls t = o at *
  obtain ⟨x, y, hxy⟩ : ∃ x y : Int, Hid (x = (o.getD sm0).1 ∧ y = (o.getD sm0).2) := ⟨_, _, Hid.mk9 ⟨rfl, rfl⟩⟩
  go_enter Tryz.func59, Tryz.ntmps59
  go_upto_region 2 with (go_at_call 53; refine HC.out.mono ?_; rintro e w1 ⟨rfl, hb1⟩; have HB1 := Hid.mk9 (below2 b0 hb1); replace HX := Hid.mk9 (HX.out.below hb1); clear hb1)
  clear HC b0
  go_wp2_with (go_at_call 90; refine (HF.out _ HB1.out).mono ?_; rintro e w2 ⟨hb2, rfl⟩; rw [← hxy.out.1, ← hxy.out.2]; replace HB1 := Hid.mk9 (below2 HB1.out hb2); replace HX := Hid.mk9 (HX.out.below hb2); have c0 := HX.out.c0; have c1 := HX.out.c1; have c2 := HX.out.f0; have c3 := HX.out.f1; have HXs := Hid.mk9 (HX.out.set x y); have HBs := Hid.mk9 (set2_below HB1.out (b := w.heap.size) (Nat.le_refl _) (.int .i64 x) (.int .i64 y)); clear hb2)
  refine bodyPost_ret (ret_find rfl _ _ w.heap.size x y (.bool o.isSome) rfl rfl HXs.out) rfl ?_
  exact ⟨HBs.out, by rw [hxy.out.1, hxy.out.2]⟩
def TyS (w : World) (a : Option Addr) : Prop := ∀ p : Addr, a = some p → ∃ cs fz, w.heap[p.block]? = some (.cells cs 27 fz)
theorem own_ty {w : World} {B n : Nat} {a : Option Addr} {len cap : Nat} {xs : List Value} (h : w.ownsRow B 27 2 (.slice a len cap) n xs) : TyS w a := by
  intro p hp
  obtain ⟨h1, ⟨e, h2⟩ | ⟨g, cp, cur, e, h2, hh, h3⟩⟩ := h
  · injection e with e1 e2 e3
    rw [e1] at hp; cases hp
  · injection e with e1 e2 e3
    rw [e1] at hp; cases hp
    exact ⟨_, _, hh⟩
def RowPost (L : List Sm) (w : World) (e : Ending) (w' : World) : Prop := Below w.heap.size w w' ∧ ∃ a len cap, e = .returned (.slice a len cap) ∧ SmsAt w' a len cap L ∧ TyS w' a
theorem row_copy {L M : List Sm} {w w0 w' : World} {v : Value} (he : M = L) (hb : Below w0.heap.size w0 w) (hb' : Below w.heap.size w w') (ho : w'.ownsRow w.heap.size 27 2 v L.length (cellsS L)) : RowPost M w0 (.returned v) w' := by
  subst he
  obtain ⟨a, c, rfl, hs⟩ := own_sms' ho
  exact ⟨below2 hb hb', a, _, c, rfl, hs, own_ty ho⟩
theorem slice_fromS (a : Option Addr) (len cap : Nat) (ls : List Sm) (k : Nat) (hk : k ≤ len) :
    ∃ a', (if cap = k then a else Option.map (fun x => x.add (k * 2)) a) = a' ∧ ∀ w, SmsAt w a len cap ls → SmsAt w a' (len - k) (cap - k) (ls.drop k) :=
  ⟨_, rfl, fun _ h => sms_drop h k hk⟩
set_option maxHeartbeats 1000000 in
set_option maxRecDepth 60000 in
theorem trim_yes (a : Option Addr) (len cap : Nat) (ls : List Sm) (t : Int) (w : World) (h : SmsAt w a len cap ls) (hM : MayS ls) :
    Calls Tryz.prog 79 #[.slice a len cap, .int .i64 t] w fun e w' => RowPost (trimP ls t) w e w' := by
  have hl : ls.length = len := h.1
  have hm : len ≤ 64 := by have := hM.1; omega
  have hc1 : len ≤ cap := h.2.1
  have hc2 : cap ≤ maxLen := h.2.2.1
  unfold maxLen at hc2
  have HL := Hid.mk9 h
  have HC := Hid.mk9 (check_yes h hM)
  have HS := Hid.mk9 ((may_iff ls).1 hM).2.2
  clear h hM
  go_enter Tryz.func79, Tryz.ntmps79
  go_upto_region 3 with (go_at_call 53; refine HC.out.mono ?_; rintro e w1 ⟨rfl, hb1⟩)
  have HCs := Hid.mk9 (since_any a len cap ls t w1 (HL.out.below hb1))
  have HB := Hid.mk9 hb1
  clear hb1 HC
  go_wp2_with (first
    | (go_at_call 88; refine HCs.out.mono ?_; rintro e w2 ⟨hg2, k, rfl, hk⟩; have HK := Hid.mk9 hk; have hkl : k ≤ len := (by have := hk.1; omega); have hkl' : (k : Int) ≤ (len : Int) := (by omega); have hkc : (k : Int) ≤ (cap : Int) := (by omega); have hlc : (len : Int) ≤ (cap : Int) := (by omega); replace HB := Hid.mk9 (below2 HB.out (grown_below hg2)); obtain ⟨a', hif, hrow⟩ := slice_fromS a len cap ls k hkl; have HRo := Hid.mk9 hrow; clear hg2 hk hrow)
    | (go_at_call 89; refine (copied_any _ _ _ (ls.drop k) _ (HRo.out _ (HL.out.below HB.out)) (by omega)).mono ?_; rintro e w3 ⟨hb3, v3, rfl, ho3⟩; have HR := Hid.mk9 (row_copy (trim_is HK.out HS.out) HB.out hb3 ho3); clear hb3 ho3))
  go_ret
  exact HR.out
set_option maxHeartbeats 1000000 in
set_option maxRecDepth 60000 in
theorem range_yes (a : Option Addr) (len cap : Nat) (ls : List Sm) (f t : Int) (w : World) (h : SmsAt w a len cap ls) (hM : MayS ls) :
    Calls Tryz.prog 57 #[.slice a len cap, .int .i64 f, .int .i64 t] w fun e w' => RowPost (rangeP ls f t) w e w' := by
  have hl : ls.length = len := h.1
  have hm : len ≤ 64 := by have := hM.1; omega
  have hc1 : len ≤ cap := h.2.1
  have hc2 : cap ≤ maxLen := h.2.2.1
  unfold maxLen at hc2
  have HL := Hid.mk9 h
  have HC := Hid.mk9 (check_yes h hM)
  have HS := Hid.mk9 ((may_iff ls).1 hM).2.2
  clear h hM
  go_enter Tryz.func57, Tryz.ntmps57
  go_upto_region 3 with (go_at_call 53; refine HC.out.mono ?_; rintro e w1 ⟨rfl, hb1⟩)
  have HCs := Hid.mk9 (since_any a len cap ls f w1 (HL.out.below hb1))
  have HB := Hid.mk9 hb1
  clear hb1 HC
  go_upto_region 4 with (go_at_call 88; refine HCs.out.mono ?_; rintro e w2 ⟨hg2, k, rfl, hk⟩)
  have HCt := Hid.mk9 (since_any a len cap ls t w2 (HL.out.below (below2 HB.out (grown_below hg2))))
  have HK := Hid.mk9 hk
  have hkl : k ≤ len := by have := hk.1; omega
  replace HB := Hid.mk9 (below2 HB.out (grown_below hg2))
  clear hg2 hk HCs
  go_wp2_with (first
    | (go_at_call 88; refine HCt.out.mono ?_; rintro e w3 ⟨hg3, m, rfl, hk⟩; have HK2 := Hid.mk9 hk; have hml : m ≤ len := (by have := hk.1; omega); replace HB := Hid.mk9 (below2 HB.out (grown_below hg3)); obtain ⟨M, hM⟩ : ∃ M : Nat, Hid (M = max k m) := ⟨_, Hid.mk9 rfl⟩; have hMx : max (k : Int) (m : Int) = (M : Int) := (by rw [hM.out]; omega); have hkM : k ≤ M := (by rw [hM.out]; omega); have hMl : M ≤ len := (by rw [hM.out]; omega); have j1 : (k : Int) ≤ (M : Int) := (by omega); have j2 : (M : Int) ≤ (cap : Int) := (by omega); have j3 : (k : Int) ≤ (cap : Int) := (by omega); obtain ⟨a', hif, hrow⟩ := slice_fromS a M cap (ls.take M) k hkM; have HRo := Hid.mk9 hrow; clear hg3 hk hrow)
    | (go_at_call 89; refine (copied_any _ _ _ ((ls.take M).drop k) _ (HRo.out _ (sms_first (HL.out.below HB.out) M hMl)) (by omega)).mono ?_; rintro e w4 ⟨hb4, v4, rfl, ho4⟩; have HR := Hid.mk9 (row_copy (M := rangeP ls f t) (by rw [hM.out]; exact range_is HK.out HK2.out HS.out) HB.out hb4 ho4); clear hb4 ho4))
  go_ret
  exact HR.out
end Go.Proofs.YtihohcmocejijaaGreat.Bk
