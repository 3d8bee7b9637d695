/-
  The answer's Prepare.
-/
import Derived.Test.YtejhmacbbdnlbaaAcN
namespace Go.Proofs.Ytejhmacbbdnlbaa.Ac
open Go.ChangeShapes Go.WideShapes Go.ChangeAt Go.RowKit
/-- a list of one's own, its lists are older -/
def OwnB (w0 w : World) (v : Value) (ls : List Acd) : Prop := ∃ L : List Cel, L.map Cel.x = ls ∧ w.ownsRow w0.heap.size 49 8 v ls.length (celsV L) ∧ ∀ c ∈ L, RowI w0 c.a c.l c.c c.x.d.ns
theorem OwnB.below {w0 w w' : World} {v : Value} {ls : List Acd} (h : OwnB w0 w v ls) (hb : Below w.heap.size w w') : OwnB w0 w' v ls := by
  obtain ⟨L, h1, h2, h3⟩ := h
  exact ⟨L, h1, own_below h2 hb, h3⟩
theorem OwnB.at {w0 w : World} {v : Value} {ls : List Acd} (h : OwnB w0 w v ls) (hb : Below w0.heap.size w0 w) : ∃ a c, v = .slice a ls.length c ∧ AcsAt w a ls.length c ls := by
  obtain ⟨L, h1, h2, h3⟩ := h
  obtain ⟨a, c, rfl⟩ := own_slice h2
  have hc := own_caps h2
  exact ⟨a, c, rfl, rfl, hc.1, hc.2.1, hc.2.2, L, h1, own_lies h2, fun c hc => (h3 c hc).below hb⟩
theorem OwnB.grown {w0 w w' : World} {v : Value} {ls : List Acd} (h : OwnB w0 w v ls) {b : Nat} {cb : Array Value} {tb : TypeId} {fz : Nat × Nat} (hg : w.grownBy w' (some b)) (hb : w.heap[b]? = some (.cells cb tb fz)) (h49 : tb ≠ 49) : OwnB w0 w' v ls := by
  obtain ⟨L, h1, h2, h4⟩ := h
  exact ⟨L, h1, own_type h2 hg hb h49, h4⟩
theorem append_acdB {w w0 : World} {ops : Array Oper} {rest : List Oper} {o : Oper} {a : Act} {Q : Exit → Act → World → Prop} (hgd : o.guard = none) (s0 x : Operand) (ho : o.op = .call { callee := .builtin .append, args := #[s0, x], argTypes := #[22, 22] })
    (v : Value) (ls : List Acd) (hs : a.eval s0 = v) (hown : OwnB w0 w v ls) (hb : Below w0.heap.size w0 w) (g : Nat) (c : Cel) (hx : a.eval x = .slice (some ⟨g, 0, none⟩) 1 1) (hc : CelAt w g 0 c) (hn : RowI w0 c.a c.l c.c c.x.d.ns) (hm : (ls.length : Int) ≤ 1000)
    (h : ∀ a' c' w', OwnB w0 w' (.slice a' (ls.length + 1) c') (ls ++ [c.x]) → Below w0.heap.size w0 w' → (∀ (k T : Nat) (cs : Array Value) (fz : Nat × Nat), w.heap[k]? = some (.cells cs T fz) → T ≠ 49 → w'.heap[k]? = w.heap[k]?) → wpList Try.prog ops Q rest (a.put o.dst (.slice a' (ls.length + 1) c')) w') : wpList Try.prog ops Q (o :: rest) a w := by
  obtain ⟨i0, hi, hz0, hz1, hz2⟩ := info_parts info49
  obtain ⟨L, h1, h2, h3⟩ := hown
  obtain ⟨x0, x1, x2, x3, x4, x5, x6, x7⟩ := hc
  refine wpList_append_own _ hgd s0 x 22 ho w0.heap.size 49 i0 _ 8 80 rfl hi hz0 hz1 hz2 rfl (by decide) v ls.length (celsV L) hs h2 ⟨g, 0, none⟩ 1 1 c.vs hx rfl ?_ (vs_one c) (by unfold maxLen; omega) (by omega) hb.size ?_
  · intro j u hj
    have hj8 : j < 8 := (List.getElem?_eq_some_iff.1 hj).1
    rw [addr_add]
    match j, hj8 with
    | 0, _ => exact x0.trans hj
    | 1, _ => exact x1.trans hj
    | 2, _ => exact x2.trans hj
    | 3, _ => exact x3.trans hj
    | 4, _ => exact x4.trans hj
    | 5, _ => exact x5.trans hj
    | 6, _ => exact x6.trans hj
    | 7, _ => exact x7.trans hj
  · intro v' w' hown' hg _
    obtain ⟨a', c', rfl⟩ := own_slice hown'
    refine h a' c' w' ⟨L ++ [c], by rw [List.map_append, h1]; rfl, ?_, ?_⟩ (hb.grown hg hb.size (fun k hk => own_lt h2 k hk)) (fun k T cs fz hk hT => kept_own hk h2 hT hg)
    · rw [celsV_append, List.length_append]
      have e : celsV [c] = c.vs := by simp [celsV]
      rw [e]
      exact hown'
    · intro y hy
      rcases List.mem_append.1 hy with hy | hy
      · exact h3 y hy
      · obtain rfl : y = c := by simpa using hy
        exact hn
theorem ownB_empty (w0 w : World) (hb : w0.heap.size ≤ w.heap.size) : OwnB w0 (w.alloc (.cells #[] 49)) (.slice (some ⟨w.heap.size, 0, none⟩) 0 0) [] := ⟨[], rfl, ⟨rfl, .inr ⟨w.heap.size, 0, #[], rfl, hb, heap_alloc_new w _, Nat.le_refl _, Nat.zero_le _, rfl, rfl⟩⟩, by simp⟩
theorem cel_new (w : World) (c : Cel) : CelAt (w.alloc (.cells #[.int .i64 c.x.b, .int .i64 c.x.d.k, .int .i64 c.x.d.id, .int .i64 c.x.d.zn, .int .i64 c.x.d.rk, .int .i64 c.x.d.wt, .int .i64 c.x.d.g, .slice c.a c.l c.c] 49)) w.heap.size 0 c := (B8.new w 49 (.int .i64 c.x.b) (.int .i64 c.x.d.k) (.int .i64 c.x.d.id) (.int .i64 c.x.d.zn) (.int .i64 c.x.d.rk) (.int .i64 c.x.d.wt) (.int .i64 c.x.d.g) (.slice c.a c.l c.c)).cells
theorem take_more {ls : List Acd} {m n : Nat} (h : m + n < ls.length) : (ls.drop m).take (n + 1) = (ls.drop m).take n ++ [ls.getD (m + n) acd0] := by
  rw [List.take_add_one, List.getElem?_drop, List.getElem?_eq_getElem h, List.getD_eq_getElem?_getD, List.getElem?_eq_getElem h]
  rfl
def rprE (p ballot fr : Int) : Int := if (inB ballot 1 2147483647 && inB fr 1 257) = true then (if ballot < p then 9 else 0) else 1
def RPrepPost (P : Int) (L T : List Acd) (E : Int) (w : World) (e : Ending) (w' : World) : Prop := Below w.heap.size w w' ∧ ∃ a l c a2 l2 c2, e = .returned (.tuple #[.agg #[.int .i64 P, .slice a l c], .slice a2 l2 c2, .int .i64 E]) ∧ AcsAt w' a l c L ∧ AcsAt w' a2 l2 c2 T
set_option maxHeartbeats 4000000 in
set_option maxRecDepth 60000 in
theorem refPrepare_any (p : Int) (a : Option Addr) (len cap : Nat) (ls : List Acd) (ballot fr : Int) (w : World) (h : AcsAt w a len cap ls) (hlen : (len : Int) ≤ 300) : Calls Try.prog 14 #[.agg #[.int .i64 p, .slice a len cap], .int .i64 ballot, .int .i64 fr] w fun e w' => RPrepPost (if rprE p ballot fr = 0 then ballot else p) ls (if rprE p ballot fr = 0 then ls.drop (fr - 1).toNat else []) (rprE p ballot fr) w e w' := by
  have HL := Hid.mk9 h.1
  have HA0 := Hid.mk9 h
  have HB := Hid.mk9 (below2 (below_alloc w (.cells #[.int .i64 p, .slice a len cap] 24)) (below_alloc _ (.cells #[.int .i64 0, .slice none 0 0] 24)))
  have HX := Hid.mk9 ((B2.new w 24 (.int .i64 p) (.slice a len cap)).below (below_alloc _ (.cells #[.int .i64 0, .slice none 0 0] 24)))
  have HR : Hid (B2 ((w.alloc (.cells #[.int .i64 p, .slice a len cap] 24)).alloc (.cells #[.int .i64 0, .slice none 0 0] 24)) (w.heap.size + 1) 24 (.int .i64 0) (.slice none 0 0)) := by
    have := B2.new (w.alloc (.cells #[.int .i64 p, .slice a len cap] 24)) 24 (.int .i64 0) (.slice none 0 0)
    rw [show (w.alloc (.cells #[.int .i64 p, .slice a len cap] 24)).heap.size = w.heap.size + 1 from by simp] at this
    exact this
  obtain ⟨EE, hEE⟩ : ∃ EE, EE = rprE p ballot fr := ⟨_, rfl⟩
  rw [← hEE]
  have HEE := Hid.mk9 hEE
  obtain ⟨PP, hPP⟩ : ∃ PP, PP = if EE = 0 then ballot else p := ⟨_, rfl⟩
  obtain ⟨TT, hTT⟩ : ∃ TT, TT = if EE = 0 then ls.drop (fr - 1).toNat else [] := ⟨_, rfl⟩
  rw [← hPP, ← hTT]
  have HPP := Hid.mk9 hPP
  have HTT := Hid.mk9 hTT
  clear h hEE hPP hTT
  go_enter Try.func14, Try.ntmps14
  go_upto_region 1 with fail
  generalize ((w.alloc (.cells #[.int .i64 p, .slice a len cap] 24)).alloc (.cells #[.int .i64 0, .slice none 0 0] 24)) = w1 at *
  obtain ⟨X, hX⟩ : ∃ X, w.heap.size = X := ⟨_, rfl⟩
  have HXw : Hid (w.heap.size = X) := Hid.mk9 hX
  rw [hX] at HX HR ⊢
  clear hX
  obtain ⟨p0, p1⟩ := HX.out.cells
  obtain ⟨q0, q1⟩ := HR.out.cells
  obtain ⟨f0, f1⟩ := HR.out.frz
  obtain ⟨g0, g1⟩ := HX.out.frz
  have HZ := Hid.mk9 (HR.out.set (.int .i64 p) (.slice a len cap))
  have HZb := Hid.mk9 (set2_below HB.out (b := X + 1) (by have := HXw.out; omega) (.int .i64 p) (.slice a len cap))
  by_cases c1 : (inB ballot 1 2147483647 && inB fr 1 257) = true
  rotate_left
  · obtain rfl : EE = 1 := by rw [HEE.out]; unfold rprE; rw [if_neg c1]
    have hpp : p = PP := by rw [HPP.out]; rfl
    subst hpp
    obtain rfl : TT = [] := by rw [HTT.out]; rfl
    clear HEE HPP HTT
    by_cases h1 : ballot < 1
    · have d1 : decide (ballot < 1) = true := decide_eq_true h1
      clear c1 h1
      go_wp2_with (fail)
      refine bodyPost_ret (ret_3 rfl _ _ (X + 1) (.int .i64 p) (.slice a len cap) (.slice none 0 0) (.int .i64 1) rfl rfl rfl HZ.out) rfl ?_
      exact ⟨HZb.out, _, _, _, _, _, _, rfl, HA0.out.below HZb.out, AcsAt.nil _⟩
    have d1 : decide (ballot < 1) = false := decide_eq_false h1
    by_cases h2 : inC ballot = true
    rotate_left
    · have HC := Hid.mk9 (Bool.eq_false_iff.2 h2)
      clear c1 h1 h2
      go_wp2_with (go_at_call 27; refine (in_any ballot _).mono ?_; rintro en w9 ⟨rfl, hw⟩; have hw := hw.symm; subst hw; rw [HC.out])
      refine bodyPost_ret (ret_3 rfl _ _ (X + 1) (.int .i64 p) (.slice a len cap) (.slice none 0 0) (.int .i64 1) rfl rfl rfl HZ.out) rfl ?_
      exact ⟨HZb.out, _, _, _, _, _, _, rfl, HA0.out.below HZb.out, AcsAt.nil _⟩
    have HC := Hid.mk9 h2
    have hb : inB ballot 1 2147483647 = true := (inB_iff _ _ _).2 ⟨by omega, ((inB_iff _ _ _).1 h2).2⟩
    by_cases h3 : fr < 1
    · have d3 : decide (fr < 1) = true := decide_eq_true h3
      clear c1 h1 h2 h3 hb
      go_wp2_with (go_at_call 27; refine (in_any ballot _).mono ?_; rintro en w9 ⟨rfl, hw⟩; have hw := hw.symm; subst hw; rw [HC.out])
      refine bodyPost_ret (ret_3 rfl _ _ (X + 1) (.int .i64 p) (.slice a len cap) (.slice none 0 0) (.int .i64 1) rfl rfl rfl HZ.out) rfl ?_
      exact ⟨HZb.out, _, _, _, _, _, _, rfl, HA0.out.below HZb.out, AcsAt.nil _⟩
    have d3 : decide (fr < 1) = false := decide_eq_false h3
    have d4 : decide (257 < fr) = true := decide_eq_true (by
      refine Classical.byContradiction fun h => c1 ?_
      rw [hb, Bool.true_and]
      exact (inB_iff _ _ _).2 ⟨by omega, by omega⟩)
    clear c1 h1 h2 h3 hb
    go_wp2_with (go_at_call 27; refine (in_any ballot _).mono ?_; rintro en w9 ⟨rfl, hw⟩; have hw := hw.symm; subst hw; rw [HC.out])
    refine bodyPost_ret (ret_3 rfl _ _ (X + 1) (.int .i64 p) (.slice a len cap) (.slice none 0 0) (.int .i64 1) rfl rfl rfl HZ.out) rfl ?_
    exact ⟨HZb.out, _, _, _, _, _, _, rfl, HA0.out.below HZb.out, AcsAt.nil _⟩
  have c1' := c1
  rw [Bool.and_eq_true, inB_iff, inB_iff] at c1
  have HC : Hid (inC ballot = true) := Hid.mk9 ((inB_iff _ _ _).2 ⟨by omega, c1.1.2⟩)
  have d1 : decide (ballot < 1) = false := decide_eq_false (by omega)
  have d3 : decide (fr < 1) = false := decide_eq_false (by omega)
  have d4 : decide (257 < fr) = false := decide_eq_false (by omega)
  obtain ⟨m, hm⟩ : ∃ m : Nat, fr = (m : Int) + 1 := ⟨(fr - 1).toNat, by omega⟩
  have hm256 : (m : Int) ≤ 256 := by omega
  have HE2 : Hid (EE = if ballot < p then 9 else 0) := Hid.mk9 (by rw [HEE.out]; unfold rprE; rw [if_pos c1'])
  clear c1 c1' HEE
  subst hm
  by_cases c2 : ballot < p
  · have d5 : decide (ballot < p) = true := decide_eq_true c2
    obtain rfl : EE = 9 := by rw [HE2.out, if_pos c2]
    have hpp : p = PP := by rw [HPP.out]; rfl
    subst hpp
    obtain rfl : TT = [] := by rw [HTT.out]; rfl
    clear c2 HE2 HPP HTT
    go_wp2_with (go_at_call 27; refine (in_any ballot _).mono ?_; rintro en w9 ⟨rfl, hw⟩; have hw := hw.symm; subst hw; rw [HC.out])
    refine bodyPost_ret (ret_3 rfl _ _ (X + 1) (.int .i64 p) (.slice a len cap) (.slice none 0 0) (.int .i64 9) rfl rfl rfl HZ.out) rfl ?_
    exact ⟨HZb.out, _, _, _, _, _, _, rfl, HA0.out.below HZb.out, AcsAt.nil _⟩
  have d5 : decide (ballot < p) = false := decide_eq_false c2
  obtain rfl : EE = 0 := by rw [HE2.out, if_neg c2]
  have hpb : ballot = PP := by rw [HPP.out, if_pos rfl]
  subst hpb
  have HT2 : Hid (TT = ls.drop m) := Hid.mk9 (by rw [HTT.out, if_pos rfl, show ((m : Int) + 1 - 1).toNat = m by omega])
  clear c2 HE2 HPP HTT HZ HZb
  have HX2 := Hid.mk9 (HX.out.put0 (.int .i64 ballot))
  have HR2 := Hid.mk9 (HR.out.else (c := X) (i := 0) (.int .i64 ballot) (by omega))
  have HB2 := Hid.mk9 (HB.out.setCell (p := ⟨X, 0, none⟩) (by show w.heap.size ≤ X; rw [HXw.out]; exact Nat.le_refl _) (.int .i64 ballot))
  go_upto_region 6 with (go_at_call 27; refine (in_any ballot _).mono ?_; rintro en w9 ⟨rfl, hw⟩; have hw := hw.symm; subst hw; rw [HC.out])
  clear p0 p1 q0 q1 f0 f1 g0 g1 HX HR HB
  generalize w1.setCell ⟨X, 0, none⟩ (.int .i64 ballot) = w2 at *
  have hba := below_alloc w2 (.cells #[] 49)
  have HX3 := Hid.mk9 (HX2.out.below hba)
  have HR3 := Hid.mk9 (HR2.out.below hba)
  have HO3 := Hid.mk9 (ownB_empty w w2 HB2.out.size)
  have HB3 := Hid.mk9 (below2 HB2.out hba)
  clear hba
  go_upto_region 7 with fail
  generalize w2.alloc (.cells #[] 49) = w3 at *
  generalize w2.heap.size = G at *
  go_wp2_with fail
  go_loopw [9, 10] (fun o i wr => ∃ (n : Nat) (a' : Option Addr) (c' : Nat), o = .slice a' n c' ∧ i = .int .i64 ((m : Int) + (n : Int)) ∧ (n = 0 ∨ m + n ≤ len) ∧ Hid (OwnB w wr (.slice a' n c') ((ls.drop m).take n) ∧ Below w.heap.size w wr ∧ B2 wr X 24 (.int .i64 ballot) (.slice a len cap) ∧ B2 wr (X + 1) 24 (.int .i64 0) (.slice none 0 0))) (fun _ i _ => len - (intOf i).toNat)
  case atStart => exact ⟨0, some ⟨G, 0, none⟩, 0, rfl, by simp, .inl rfl, by simpa using HO3.out, HB3.out, HX3.out, HR3.out⟩
  case round =>
    obtain ⟨n, a', c', rfl, rfl, hn, hh⟩ := hrel
    obtain ⟨ho, hb, hx, hr⟩ := hh.out
    have HXr := Hid.mk9 hx
    have HRr := Hid.mk9 hr
    have HBr := Hid.mk9 hb
    have HOr := Hid.mk9 ho
    obtain ⟨p0, p1⟩ := hx.cells
    clear ho hb hx hr hh
    by_cases hlt : (m : Int) + (n : Int) < (len : Int)
    · have hmn : m + n < len := by omega
      have hk0 : (0 : Int) ≤ (m : Int) + (n : Int) := by omega
      have dlt : decide ((m : Int) + (n : Int) < (len : Int)) = true := decide_eq_true hlt
      have hla : ((ls.drop m).take n).length = n := by rw [List.length_take, List.length_drop, HL.out]; omega
      have HLA := Hid.mk9 hla
      obtain ⟨q, hq⟩ : ∃ q : Nat, q = m + n := ⟨_, rfl⟩
      have hqi : (m : Int) + (n : Int) = (q : Int) := by omega
      rw [hqi] at hlt hk0 dlt ⊢
      obtain ⟨b, off, rfl, hbs, c, hc, hxc, hrc⟩ := HA0.out.at (i := q) (by omega)
      have hxr : CelAt wr b (off + q * 8) c := by
        obtain ⟨x0, x1, x2, x3, x4, x5, x6, x7⟩ := hxc
        exact ⟨(HBr.out.cell (p := ⟨b, off + q * 8, none⟩) hbs).trans x0, (HBr.out.cell (p := ⟨b, off + q * 8 + 1, none⟩) hbs).trans x1, (HBr.out.cell (p := ⟨b, off + q * 8 + 2, none⟩) hbs).trans x2, (HBr.out.cell (p := ⟨b, off + q * 8 + 3, none⟩) hbs).trans x3, (HBr.out.cell (p := ⟨b, off + q * 8 + 4, none⟩) hbs).trans x4, (HBr.out.cell (p := ⟨b, off + q * 8 + 5, none⟩) hbs).trans x5, (HBr.out.cell (p := ⟨b, off + q * 8 + 6, none⟩) hbs).trans x6, (HBr.out.cell (p := ⟨b, off + q * 8 + 7, none⟩) hbs).trans x7⟩
      obtain ⟨x0, x1, x2, x3, x4, x5, x6, x7⟩ := hxr
      have HRC := Hid.mk9 hrc
      have HC8 := Hid.mk9 hc
      have HBS := Hid.mk9 hbs
      clear hla hxc hrc hc hbs
      have hba := below_alloc wr (.cells #[.int .i64 c.x.b, .int .i64 c.x.d.k, .int .i64 c.x.d.id, .int .i64 c.x.d.zn, .int .i64 c.x.d.rk, .int .i64 c.x.d.wt, .int .i64 c.x.d.g, .slice c.a c.l c.c] 49)
      have HOz := Hid.mk9 (HOr.out.below hba)
      have HXz := Hid.mk9 (HXr.out.below hba)
      have HRz := Hid.mk9 (HRr.out.below hba)
      have HBz := Hid.mk9 (below2 HBr.out hba)
      have HCz := Hid.mk9 (cel_new wr c)
      have HQ := Hid.mk9 hq
      have HMN := Hid.mk9 hmn
      clear hba hq hqi hmn
      go_wp2_with (at_builtin; refine append_acdB (w0 := w) rfl _ _ rfl (.slice a' n c') ((ls.drop m).take n) rfl HOz.out HBz.out wr.heap.size c rfl HCz.out HRC.out (by rw [HLA.out]; omega) ?_; rw [HLA.out]; intro a8 c8 w8 ho8 hb8 hk8; have HO8 := Hid.mk9 ho8; have HB8 := Hid.mk9 hb8; have HX8 := Hid.mk9 (HXz.out.kept (hk8 _ _ _ _ HXz.out (by decide))); have HR8 := Hid.mk9 (HRz.out.kept (hk8 _ _ _ _ HRz.out (by decide))); clear ho8 hb8 hk8 p0 p1)
      refine ⟨⟨n + 1, a8, c8, rfl, by rw [show ((m : Int) + ((n + 1 : Nat) : Int)) = (q : Int) + 1 by have := HQ.out; omega], .inr (by have := HMN.out; omega), Hid.mk9 ⟨?_, HB8.out, HX8.out, HR8.out⟩⟩, by have := HQ.out; have := HMN.out; simp [intOf]; omega⟩
      have h9 := HO8.out
      rw [← HC8.out, HQ.out, ← take_more (by rw [HL.out]; exact HMN.out)] at h9
      exact h9
    · have dlt : decide ((m : Int) + (n : Int) < (len : Int)) = false := decide_eq_false hlt
      have HTN : Hid ((ls.drop m).take n = TT) := Hid.mk9 (by rw [HT2.out]; exact List.take_of_length_le (by rw [List.length_drop, HL.out]; omega))
      obtain ⟨q0, q1⟩ := HRr.out.cells
      obtain ⟨f0, f1⟩ := HRr.out.frz
      have HZ := Hid.mk9 (HRr.out.set (.int .i64 ballot) (.slice a len cap))
      have HZb := Hid.mk9 (set2_below HBr.out (b := X + 1) (by have := HXw.out; omega) (.int .i64 ballot) (.slice a len cap))
      have HZo := Hid.mk9 (HOr.out.grown (set2_grownBy wr (X + 1) (.int .i64 ballot) (.slice a len cap)) HRr.out (by decide))
      go_wp2_with fail
      refine bodyPost_ret (ret_3 rfl _ _ (X + 1) (.int .i64 ballot) (.slice a len cap) (.slice a' n c') (.int .i64 0) rfl rfl rfl HZ.out) rfl ?_
      have hz := HZo.out
      rw [HTN.out] at hz
      obtain ⟨a9, c9, ev, hat⟩ := hz.at HZb.out
      rw [ev]
      exact ⟨HZb.out, _, _, _, _, _, _, rfl, HA0.out.below HZb.out, hat⟩
end Go.Proofs.Ytejhmacbbdnlbaa.Ac
