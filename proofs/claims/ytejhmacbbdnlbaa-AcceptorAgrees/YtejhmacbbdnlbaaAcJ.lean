/-
  Copies, clone: lists of one's own.
-/
import Derived.Test.YtejhmacbbdnlbaaAcI
namespace Go.Proofs.Ytejhmacbbdnlbaa.Ac
open Go.ChangeShapes Go.WideShapes Go.ChangeAt Go.RowKit
/-- a row of one's own; the lists of the first k are one's own, the others are older -/
def PartA (w0 w : World) (B : Nat) (v : Value) (ls : List Acd) (k : Nat) : Prop := ∃ L : List Cel, L.map Cel.x = ls ∧ w.ownsRow B 49 8 v ls.length (celsV L) ∧ ∀ (i : Nat) (h : i < L.length), (i < k → w.ownsRow B 3 1 (.slice (L[i]).a (L[i]).l (L[i]).c) (L[i]).l (intCells (L[i]).x.d.ns)) ∧ (k ≤ i → RowI w0 (L[i]).a (L[i]).l (L[i]).c (L[i]).x.d.ns)
theorem PartA.below {w0 w w' : World} {B : Nat} {v : Value} {ls : List Acd} {k : Nat} (h : PartA w0 w B v ls k) (hb : Below w.heap.size w w') : PartA w0 w' B v ls k := by
  obtain ⟨L, h1, h2, h3⟩ := h
  exact ⟨L, h1, own_below h2 hb, fun i hi => ⟨fun hk => own_below ((h3 i hi).1 hk) hb, (h3 i hi).2⟩⟩
theorem PartA.done {w0 w : World} {B : Nat} {v : Value} {ls : List Acd} {k : Nat} (h : PartA w0 w B v ls k) (hk : ls.length ≤ k) : OwnA w B v ls := by
  obtain ⟨L, h1, h2, h3⟩ := h
  refine ⟨L, h1, h2, fun c hc => ?_⟩
  obtain ⟨i, hi, rfl⟩ := List.mem_iff_getElem.1 hc
  exact (h3 i hi).1 (by rw [← h1, List.length_map] at hk; omega)
theorem OwnA.part {w0 w : World} {B : Nat} {v : Value} {ls : List Acd} (h : OwnA w B v ls) : PartA w0 w B v ls ls.length := by
  obtain ⟨L, h1, h2, h3⟩ := h
  exact ⟨L, h1, h2, fun i hi => ⟨fun _ => h3 _ (List.getElem_mem hi), fun hk => by rw [← h1, List.length_map] at hk; omega⟩⟩
theorem own_whole {w : World} {B s n cap g : Nat} {E : TypeId} {xs : List Value} (h : w.ownsRow B E s (.slice (some ⟨g, 0, none⟩) n cap) n xs) : ∃ cur : Array Value, w.heap[g]? = some (.cells cur E (0, 0)) ∧ B ≤ g := by
  rcases h.2 with ⟨e, _⟩ | ⟨g', cap', cur, e, hB, hh, h1, h2, h3, h4⟩
  · cases e
  · injection e with e1 e2 e3
    injection e1 with e1
    injection e1 with e1
    subst e1 e3
    exact ⟨cur, hh, hB⟩
/-- the k-th: its cells, its list -/
theorem PartA.at {w0 w : World} {B : Nat} {ls : List Acd} {k : Nat} {v : Value} (h : PartA w0 w B v ls k) {i : Nat} (hi : i < ls.length) : ∃ g cap, v = .slice (some ⟨g, 0, none⟩) ls.length cap ∧ B ≤ g ∧ g < w.heap.size ∧ ∃ c : Cel, ls.getD i acd0 = c.x ∧ CelAt w g (i * 8) c ∧ (w.frozen? ⟨g, i * 8, none⟩ = false ∧ w.frozen? ⟨g, i * 8 + 1, none⟩ = false ∧ w.frozen? ⟨g, i * 8 + 2, none⟩ = false ∧ w.frozen? ⟨g, i * 8 + 3, none⟩ = false ∧ w.frozen? ⟨g, i * 8 + 4, none⟩ = false ∧ w.frozen? ⟨g, i * 8 + 5, none⟩ = false ∧ w.frozen? ⟨g, i * 8 + 6, none⟩ = false ∧ w.frozen? ⟨g, i * 8 + 7, none⟩ = false) ∧ (k ≤ i → RowI w0 c.a c.l c.c c.x.d.ns) ∧ (i < k → RowI w c.a c.l c.c c.x.d.ns) := by
  obtain ⟨L, h1, h2, h3⟩ := h
  have hl : L.length = ls.length := by rw [← h1, List.length_map]
  obtain ⟨a, cap, rfl⟩ := own_slice h2
  have hlies := own_lies h2
  have hs : ∃ g, a = some ⟨g, 0, none⟩ := by
    rcases h2.2 with ⟨e, h0⟩ | ⟨g', cap', cur, e, _⟩
    · omega
    · injection e with e1; exact ⟨g', e1⟩
  obtain ⟨g, rfl⟩ := hs
  obtain ⟨cur, hh, hB⟩ := own_whole h2
  rcases hlies with h0 | ⟨b, off, e, hc⟩
  · omega
  · simp at e
    obtain ⟨rfl, rfl⟩ := e
    have hx := lies_cel hc (i := i) (by omega)
    rw [Nat.zero_add] at hx
    refine ⟨g, cap, rfl, hB, (Array.getElem?_eq_some_iff.1 hh).1, L[i]'(by omega), ?_, hx, ⟨h2.frozenAt _, h2.frozenAt _, h2.frozenAt _, h2.frozenAt _, h2.frozenAt _, h2.frozenAt _, h2.frozenAt _, h2.frozenAt _⟩, (h3 i (by omega)).2, fun hk => own_rowI ((h3 i (by omega)).1 hk)⟩
    subst h1
    simp [show i < L.length by omega]
theorem PartA.step7 {w0 w : World} {B : Nat} {ls : List Acd} {k g cap n : Nat} (hl0 : ls.length = n) (h : PartA w0 w B (.slice (some ⟨g, 0, none⟩) n cap) ls k) (hk : k < n) (c : Cel) (hc : c.x = ls.getD k acd0) (hn : w.ownsRow B 3 1 (.slice c.a c.l c.c) c.l (intCells c.x.d.ns)) :
    PartA w0 ((((((((w.setCell ⟨g, k * 8 + 1, none⟩ (.int .i64 c.x.d.k)).setCell ⟨g, k * 8 + 2, none⟩ (.int .i64 c.x.d.id)).setCell ⟨g, k * 8 + 3, none⟩ (.int .i64 c.x.d.zn)).setCell ⟨g, k * 8 + 4, none⟩ (.int .i64 c.x.d.rk)).setCell ⟨g, k * 8 + 5, none⟩ (.int .i64 c.x.d.wt)).setCell ⟨g, k * 8 + 6, none⟩ (.int .i64 c.x.d.g)).setCell ⟨g, k * 8 + 7, none⟩ (.slice c.a c.l c.c))) B (.slice (some ⟨g, 0, none⟩) n cap) ls (k + 1) := by
  subst hl0
  obtain ⟨L, h1, h2, h3⟩ := h
  have hl : L.length = ls.length := by rw [← h1, List.length_map]
  have hkL : k < L.length := by omega
  have hx : (L[k]).x = ls.getD k acd0 := by subst h1; simp [hkL]
  obtain ⟨r, gb⟩ := row_store7 h2 k hkL c (by rw [hc, hx])
  obtain ⟨cur, hh, hB⟩ := own_whole h2
  refine ⟨L.set k c, ?_, r, fun i hi => ?_⟩
  · rw [List.map_set, hc, ← hx, ← h1, ← List.getElem_map Cel.x (h := by rw [List.length_map]; exact hkL), List.set_getElem_self]
  · rw [List.length_set] at hi
    by_cases e : i = k
    · subst e
      simp only [List.getElem_set_self]
      exact ⟨fun _ => own_type hn gb hh (by decide), fun h => by omega⟩
    · simp only [List.getElem_set_ne (Ne.symm e)]
      exact ⟨fun h => own_type ((h3 i hi).1 (by omega)) gb hh (by decide), fun h => (h3 i hi).2 (by omega)⟩
def CopiesPost (ls : List Acd) (w : World) (e : Ending) (w' : World) : Prop := Below w.heap.size w w' ∧ ∃ v, e = .returned v ∧ OwnA w' w.heap.size v ls
/-- what was accepted is not too long -/
def Slim (ls : List Acd) : Prop := ls.length ≤ 300 ∧ ∀ x ∈ ls, x.d.ns.length ≤ 20
set_option maxHeartbeats 4000000 in
set_option maxRecDepth 60000 in
theorem copies_any (a : Option Addr) (len cap : Nat) (ls : List Acd) (w : World) (h : AcsAt w a len cap ls) (hs : Slim ls) : Calls Try.prog 22 #[.slice a len cap] w fun e w' => CopiesPost ls w e w' := by
  obtain ⟨h1, h2, h3, h4, L, h5, h6, h7⟩ := h
  have hlL : L.length = len := by rw [← h1, ← h5, List.length_map]
  have hm : (len : Int) ≤ 1000 := by have := hs.1; omega
  have HS := Hid.mk9 hs
  have HL := Hid.mk9 h1
  have HP0 : Hid (∀ a' c' w', w'.ownsRow w.heap.size 49 8 (.slice a' len c') len (celsV L) → PartA w w' w.heap.size (.slice a' len c') ls 0) := Hid.mk9 (fun a' c' w' ho => ⟨L, h5, by rw [h1]; exact ho, fun i hi => ⟨fun h => by omega, fun _ => h7 _ (List.getElem_mem hi)⟩⟩)
  clear h1 h7 h5 hs
  go_enter Try.func22, Try.ntmps22
  go_wp2_with (at_builtin; refine append_copy rfl info49 rfl (by decide) (by decide) rfl _ _ rfl rfl a len cap (celsV L) rfl (by rw [celsV_len, hlL]) h6 h4 h2 (celsV_one _) hm ?_; intro a3 c3 w3 hown3 hb3; have HP3 := Hid.mk9 (HP0.out a3 c3 w3 hown3); have HB3 := Hid.mk9 hb3; clear hown3 hb3 HP0)
  obtain ⟨v3, hv3⟩ : ∃ v3, v3 = Value.slice a3 len c3 := ⟨_, rfl⟩
  go_loopw [9] (fun i wr => ∃ k : Nat, k ≤ len ∧ i = .int .i64 k ∧ Hid (Below w.heap.size w wr) ∧ Hid (PartA w wr w.heap.size (.slice a3 len c3) ls k)) (fun i _ => len - (intOf i).toNat)
  case atStart => exact ⟨0, Nat.zero_le _, rfl, HB3, HP3⟩
  case round =>
    obtain ⟨k, hk, rfl, hwr, hP⟩ := hrel
    by_cases hlt : k < len
    · have hk1 : (k : Int) < (len : Int) := by omega
      have hk0 : (0 : Int) ≤ (k : Int) := by omega
      obtain ⟨g, cap3, ev, hBg, hgs, c, hc, hx, ⟨f0, f1, f2, f3, f4, f5, f6, f7⟩, hr, -⟩ := hP.out.at (i := k) (by rw [HL.out]; exact hlt)
      rw [HL.out] at ev
      have ev1 := congrArg (fun v => match v with | .slice a _ _ => a | _ => none) ev
      have ev2 := congrArg (fun v => match v with | .slice _ _ c => c | _ => 0) ev
      simp only at ev1 ev2
      subst ev1
      subst ev2
      clear ev hv3 v3
      obtain ⟨x0, x1, x2, x3, x4, x5, x6, x7⟩ := hx
      have hn20 : (c.l : Int) ≤ 1000 := by
        have h1 := (hr (Nat.le_refl _)).1
        have h2 := HS.out.2 c.x (by rw [← hc, List.getD_eq_getElem?_getD, List.getElem?_eq_getElem (by rw [HL.out]; exact hlt)]; exact List.getElem_mem _)
        omega
      have HRc := Hid.mk9 ((hr (Nat.le_refl _)).below hwr.out)
      have HC := Hid.mk9 hc
      have HBg := Hid.mk9 hBg
      have HGS := Hid.mk9 hgs
      clear hr hc hBg hgs
      have HBo := Hid.mk9 (below_alloc wr (.cells #[.int .i64 c.x.b, .int .i64 c.x.d.k, .int .i64 c.x.d.id, .int .i64 c.x.d.zn, .int .i64 c.x.d.rk, .int .i64 c.x.d.wt, .int .i64 c.x.d.g, .slice c.a c.l c.c] 49))
      have HXo := Hid.mk9 (B8.new wr 49 (.int .i64 c.x.b) (.int .i64 c.x.d.k) (.int .i64 c.x.d.id) (.int .i64 c.x.d.zn) (.int .i64 c.x.d.rk) (.int .i64 c.x.d.wt) (.int .i64 c.x.d.g) (.slice c.a c.l c.c))
      have HPo := Hid.mk9 (hP.out.below HBo.out)
      have HW5 := Hid.mk9 (below2 hwr.out HBo.out)
      have HRd := Hid.mk9 (HRc.out.below HBo.out)
      go_upto_region 5 with fail
      clear x0 x1 x2 x3 x4 x5 x6 x7 f0 f1 f2 f3 f4 f5 f6 f7
      generalize wr.alloc (.cells #[.int .i64 c.x.b, .int .i64 c.x.d.k, .int .i64 c.x.d.id, .int .i64 c.x.d.zn, .int .i64 c.x.d.rk, .int .i64 c.x.d.wt, .int .i64 c.x.d.g, .slice c.a c.l c.c] 49) = w5 at *
      obtain ⟨Y, hY⟩ : ∃ Y, wr.heap.size = Y := ⟨_, rfl⟩
      rw [hY] at HXo ⊢
      clear hY HBo HRc
      obtain ⟨y0, y1, y2, y3, y4, y5, y6, y7⟩ := HXo.out.cells
      go_upto_region 6 with (go_at_call 23; refine (copyOf_any c.x.d c.a c.l c.c _ HRd.out hn20).mono ?_; rintro en w6 ⟨hb6, a6, c6, rfl, ho6⟩; have HP6 := Hid.mk9 (HPo.out.below hb6); have HW6 := Hid.mk9 (below2 HW5.out hb6); have HO6 := Hid.mk9 (own_base ho6 HW5.out.size); clear hb6 ho6 y0 y1 y2 y3 y4 y5 y6 y7; obtain ⟨g9, cap9, ev, -, hgs6, c9, hc9, ⟨x0, x1, x2, x3, x4, x5, x6, x7⟩, ⟨f0, f1, f2, f3, f4, f5, f6, f7⟩, -, -⟩ := HP6.out.at (i := k) (by rw [HL.out]; exact hlt); simp at ev; obtain ⟨e1, -⟩ := ev; subst e1; have hgs7 := Hid.mk9 hgs6; clear hgs6; have HC9 := Hid.mk9 hc9; clear hc9)
      have HP7 : Hid (PartA w (((((((w6.setCell ⟨g, k * 8 + 1, none⟩ (.int .i64 c.x.d.k)).setCell ⟨g, k * 8 + 1 + 1, none⟩ (.int .i64 c.x.d.id)).setCell ⟨g, k * 8 + 1 + 2, none⟩ (.int .i64 c.x.d.zn)).setCell ⟨g, k * 8 + 1 + 3, none⟩ (.int .i64 c.x.d.rk)).setCell ⟨g, k * 8 + 1 + 4, none⟩ (.int .i64 c.x.d.wt)).setCell ⟨g, k * 8 + 1 + 5, none⟩ (.int .i64 c.x.d.g)).setCell ⟨g, k * 8 + 1 + 6, none⟩ (.slice a6 c.x.d.ns.length c6)) w.heap.size (.slice (some ⟨g, 0, none⟩) len c3) ls (k + 1)) := Hid.mk9 (HP6.out.step7 HL.out hlt ⟨c.x, a6, c.x.d.ns.length, c6⟩ HC.out.symm HO6.out)
      have HW7 : Hid (Below w.heap.size w (((((((w6.setCell ⟨g, k * 8 + 1, none⟩ (.int .i64 c.x.d.k)).setCell ⟨g, k * 8 + 1 + 1, none⟩ (.int .i64 c.x.d.id)).setCell ⟨g, k * 8 + 1 + 2, none⟩ (.int .i64 c.x.d.zn)).setCell ⟨g, k * 8 + 1 + 3, none⟩ (.int .i64 c.x.d.rk)).setCell ⟨g, k * 8 + 1 + 4, none⟩ (.int .i64 c.x.d.wt)).setCell ⟨g, k * 8 + 1 + 5, none⟩ (.int .i64 c.x.d.g)).setCell ⟨g, k * 8 + 1 + 6, none⟩ (.slice a6 c.x.d.ns.length c6))) := Hid.mk9 ((((((((HW6.out.setCell (p := ⟨g, k * 8 + 1, none⟩) HBg.out (.int .i64 c.x.d.k)).setCell (p := ⟨g, k * 8 + 1 + 1, none⟩) HBg.out (.int .i64 c.x.d.id)).setCell (p := ⟨g, k * 8 + 1 + 2, none⟩) HBg.out (.int .i64 c.x.d.zn)).setCell (p := ⟨g, k * 8 + 1 + 3, none⟩) HBg.out (.int .i64 c.x.d.rk)).setCell (p := ⟨g, k * 8 + 1 + 4, none⟩) HBg.out (.int .i64 c.x.d.wt)).setCell (p := ⟨g, k * 8 + 1 + 5, none⟩) HBg.out (.int .i64 c.x.d.g)).setCell (p := ⟨g, k * 8 + 1 + 6, none⟩) HBg.out (.slice a6 c.x.d.ns.length c6)))
      clear x0 x1 x2 x3 x4 x5 x6 x7 f0 f1 f2 f3 f4 f5 f6 f7 hgs7 HC9
      generalize (((((((w6.setCell ⟨g, k * 8 + 1, none⟩ (.int .i64 c.x.d.k)).setCell ⟨g, k * 8 + 1 + 1, none⟩ (.int .i64 c.x.d.id)).setCell ⟨g, k * 8 + 1 + 2, none⟩ (.int .i64 c.x.d.zn)).setCell ⟨g, k * 8 + 1 + 3, none⟩ (.int .i64 c.x.d.rk)).setCell ⟨g, k * 8 + 1 + 4, none⟩ (.int .i64 c.x.d.wt)).setCell ⟨g, k * 8 + 1 + 5, none⟩ (.int .i64 c.x.d.g)).setCell ⟨g, k * 8 + 1 + 6, none⟩ (.slice a6 c.x.d.ns.length c6)) = w7 at *
      go_wp2_with fail
      exact ⟨⟨k + 1, by omega, by go_num, HW7, HP7⟩, by simp [intOf]; omega⟩
    · obtain rfl : k = len := by omega
      have HF := Hid.mk9 (hP.out.done (by rw [HL.out]; exact Nat.le_refl _))
      clear hP HP3
      go_wp2_with fail
      go_ret
      exact ⟨hwr.out, _, rfl, HF.out⟩
theorem ret_2 {fn : Func} {p : Tmp} (h : fn.results = #[.cell p 24]) (tmps : Array Value) (w : World) (b : Nat) (v0 v1 : Value) (hp : tmps.getD p undef = .pointer (some ⟨b, 0, none⟩))
    (hb : B2 w b 24 v0 v1) : (results fn tmps).run Try.prog w = .ok (.agg #[v0, v1]) w := by
  obtain ⟨h0, h1⟩ := hb.cells
  simp only [Array.getD_eq_getD_getElem?] at hp
  simp only [results, h]
  simp [go_sem, hp, h0, h1]
theorem OwnA.grown {w w' : World} {B : Nat} {v : Value} {ls : List Acd} (h : OwnA w B v ls) {b : Nat} {cb : Array Value} {tb : TypeId} {fz : Nat × Nat} (hg : w.grownBy w' (some b)) (hb : w.heap[b]? = some (.cells cb tb fz)) (h3 : tb ≠ 3) (h49 : tb ≠ 49) : OwnA w' B v ls := by
  obtain ⟨L, h1, h2, h4⟩ := h
  exact ⟨L, h1, own_type h2 hg hb h49, fun c hc => own_type (h4 c hc) hg hb h3⟩
def ClonePost (p : Int) (ls : List Acd) (w : World) (e : Ending) (w' : World) : Prop := Below w.heap.size w w' ∧ ∃ v, e = .returned (.agg #[.int .i64 p, v]) ∧ OwnA w' w.heap.size v ls
set_option maxHeartbeats 4000000 in
set_option maxRecDepth 60000 in
theorem clone_any (p : Int) (a : Option Addr) (len cap : Nat) (ls : List Acd) (w : World) (h : AcsAt w a len cap ls) (hs : Slim ls) : Calls Try.prog 20 #[.agg #[.int .i64 p, .slice a len cap]] w fun e w' => ClonePost p ls w e w' := by
  have HB := Hid.mk9 (below2 (below_alloc w (.cells #[.int .i64 p, .slice a len cap] 24)) (below_alloc _ (.cells #[.int .i64 0, .slice none 0 0] 24)))
  have HX := Hid.mk9 ((B2.new w 24 (.int .i64 p) (.slice a len cap)).below (below_alloc _ (.cells #[.int .i64 0, .slice none 0 0] 24)))
  have HY : Hid (B2 ((w.alloc (.cells #[.int .i64 p, .slice a len cap] 24)).alloc (.cells #[.int .i64 0, .slice none 0 0] 24)) (w.heap.size + 1) 24 (.int .i64 0) (.slice none 0 0)) := by
    have := B2.new (w.alloc (.cells #[.int .i64 p, .slice a len cap] 24)) 24 (.int .i64 0) (.slice none 0 0)
    rw [show (w.alloc (.cells #[.int .i64 p, .slice a len cap] 24)).heap.size = w.heap.size + 1 from by simp] at this
    exact this
  have HR := Hid.mk9 (h.below HB.out)
  have HS := Hid.mk9 hs
  clear h hs
  go_enter Try.func20, Try.ntmps20
  go_upto_region 1 with fail
  generalize ((w.alloc (.cells #[.int .i64 p, .slice a len cap] 24)).alloc (.cells #[.int .i64 0, .slice none 0 0] 24)) = w1 at *
  obtain ⟨X, hX⟩ : ∃ X, w.heap.size = X := ⟨_, rfl⟩
  have HXw : Hid (w.heap.size = X) := Hid.mk9 hX
  rw [hX] at HX HY ⊢
  clear hX
  obtain ⟨p0, p1⟩ := HX.out.cells
  go_upto_region 2 with (go_at_call 22; refine (copies_any a len cap ls _ HR.out HS.out).mono ?_; rintro en w3 ⟨hb3, v3, rfl, ho3⟩; have HO3 := Hid.mk9 ho3; have HB3 := Hid.mk9 (below2 HB.out hb3); have HX3 := Hid.mk9 (HX.out.below hb3); have HY3 := Hid.mk9 (HY.out.below hb3); clear ho3 hb3 p0 p1; obtain ⟨a3, c3, rfl, -⟩ := HO3.out.at; obtain ⟨p0, p1⟩ := HX3.out.cells; obtain ⟨f0, f1⟩ := HX3.out.frz)
  have HX4 := Hid.mk9 (HX3.out.put1 (.slice a3 ls.length c3))
  have HY4 := Hid.mk9 (HY3.out.else (c := X) (i := 1) (.slice a3 ls.length c3) (by omega))
  have HB4 := Hid.mk9 (HB3.out.setCell (p := ⟨X, 1, none⟩) (by show w.heap.size ≤ X; rw [HXw.out]; exact Nat.le_refl _) (.slice a3 ls.length c3))
  have HO4 := Hid.mk9 (HO3.out.grown (set_grownBy w3 X 1 (.slice a3 ls.length c3)) HX3.out (by decide) (by decide))
  clear p0 p1 f0 f1 HX3 HY3 HB3 HO3 HX HY
  generalize w3.setCell ⟨X, 1, none⟩ (.slice a3 ls.length c3) = w4 at *
  obtain ⟨p0, p1⟩ := HX4.out.cells
  obtain ⟨q0, q1⟩ := HY4.out.cells
  obtain ⟨f0, f1⟩ := HY4.out.frz
  have HZ := Hid.mk9 (HY4.out.set (.int .i64 p) (.slice a3 ls.length c3))
  have HZb := Hid.mk9 (set2_below HB4.out (b := X + 1) (by have := HXw.out; omega) (.int .i64 p) (.slice a3 ls.length c3))
  have HZo := Hid.mk9 ((HO4.out.grown (set2_grownBy w4 (X + 1) (.int .i64 p) (.slice a3 ls.length c3)) HY4.out (by decide) (by decide)).base HB.out.size)
  clear HX4 HY4 HO4
  go_wp2_with fail
  refine bodyPost_ret (ret_2 rfl _ _ (X + 1) _ _ rfl HZ.out) rfl ?_
  exact ⟨HZb.out, _, rfl, HZo.out⟩
end Go.Proofs.Ytejhmacbbdnlbaa.Ac
