/-
  What the law of agreement reads; proposers begun anew; votes.
-/
import Derived.Test.YtejhmacbbdnlbaaAcZ0
import Derived.Laws.IdiomCopy
namespace Go.Proofs.Ytejhmacbbdnlbaa.Ac
open Go.Maps
open Go.ChangeShapes Go.WideShapes Go.ChangeAt Go.RowKit
theorem RowF.ne {w : World} {E E' g g' m m' : Nat} {f f' : Nat → Value} (h : RowF w E g m f) (h' : RowF w E' g' m' f') (hE : E ≠ E') : g ≠ g' := by
  obtain ⟨_, h1, _⟩ := h
  obtain ⟨_, h2, _⟩ := h'
  rintro rfl
  rw [h1] at h2
  injection h2 with h2
  injection h2 with _ h2
  exact hE h2
theorem SyAt.rB {w0 w : World} {k i G B T Y M V C : Nat} {S : Sy} (h : SyAt w0 w k i ⟨G, B, T, Y, M, V, C⟩ S) {p : Nat} (hp : p < 3) : w.cell? ⟨B, p, none⟩ = some (.int .i64 (S.bal p)) ∧ w.frozen? ⟨B, p, none⟩ = false := by
  obtain ⟨f, h1, h2⟩ := h.bal
  refine ⟨?_, h1.frz p⟩
  rw [show w.cell? ⟨B, p, none⟩ = _ from h1.at hp, h2 p hp]
theorem SyAt.rG {w0 w : World} {k i G B T Y M V C : Nat} {S : Sy} (h : SyAt w0 w k i ⟨G, B, T, Y, M, V, C⟩ S) {q : Nat} (hq : q < k) : ∃ a c, w.cell? ⟨G, q * 2, none⟩ = some (.int .i64 (S.P q)) ∧ w.cell? ⟨G, q * 2 + 1, none⟩ = some (.slice a (S.L q).length c) ∧ OwnA w w0.heap.size (.slice a (S.L q).length c) (S.L q) ∧ w.frozen? ⟨G, q * 2, none⟩ = false ∧ w.frozen? ⟨G, q * 2 + 1, none⟩ = false := by
  obtain ⟨f, h1, h2⟩ := h.grp
  obtain ⟨e1, e2⟩ := h2 q hq
  have e2' := e2
  obtain ⟨a, c, e3, _⟩ := e2
  obtain ⟨a, c, e4, _⟩ := e2'.at
  rw [e4] at e2'
  refine ⟨a, c, ?_, ?_, e2', h1.frz _, h1.frz _⟩
  · rw [show w.cell? ⟨G, q * 2, none⟩ = _ from h1.at (by omega), e1]
  · rw [show w.cell? ⟨G, q * 2 + 1, none⟩ = _ from h1.at (by omega), e4]
theorem SyAt.rT {w0 w : World} {k i G B T Y M V C : Nat} {S : Sy} (h : SyAt w0 w k i ⟨G, B, T, Y, M, V, C⟩ S) {p q : Nat} (hp : p < 3) (hq : q < 5) : ∃ a c, w.cell? ⟨T, p * 5 + q, none⟩ = some (.slice a (S.told p q).length c) ∧ OwnA w w0.heap.size (.slice a (S.told p q).length c) (S.told p q) ∧ w.frozen? ⟨T, p * 5 + q, none⟩ = false := by
  obtain ⟨f, h1, h2⟩ := h.tol
  have e2 := h2 p hp q hq
  obtain ⟨a, c, e4, _⟩ := e2.at
  rw [e4] at e2
  refine ⟨a, c, ?_, e2, h1.frz _⟩
  rw [show w.cell? ⟨T, p * 5 + q, none⟩ = _ from h1.at (by omega), e4]
theorem SyAt.rY {w0 w : World} {k i G B T Y M V C : Nat} {S : Sy} (h : SyAt w0 w k i ⟨G, B, T, Y, M, V, C⟩ S) {p q : Nat} (hp : p < 3) (hq : q < 5) : w.cell? ⟨Y, p * 5 + q, none⟩ = some (.bool (S.yes p q)) ∧ w.frozen? ⟨Y, p * 5 + q, none⟩ = false := by
  obtain ⟨f, h1, h2⟩ := h.yes
  refine ⟨?_, h1.frz _⟩
  rw [show w.cell? ⟨Y, p * 5 + q, none⟩ = _ from h1.at (by omega), h2 p hp q hq]
theorem SyAt.rM {w0 w : World} {k i G B T Y M V C : Nat} {S : Sy} (h : SyAt w0 w k i ⟨G, B, T, Y, M, V, C⟩ S) {p s : Nat} (hp : p < 3) (hs : s < 4) : ∃ c : Cel, c.x = S.mine p s ∧ CelAt w M (p * 32 + s * 8) c ∧ w.ownsRow w0.heap.size 3 1 (.slice c.a c.l c.c) c.l (intCells c.x.d.ns) ∧ ∀ j, w.frozen? ⟨M, j, none⟩ = false := by
  obtain ⟨f, h1, h2⟩ := h.mine
  obtain ⟨c, e1, e2, e3⟩ := h2 p hp s hs
  exact ⟨c, e1, CelF.at h1 e2 (by omega), e3, fun j => h1.frz j⟩
theorem SyAt.rC {w0 w : World} {k i G B T Y M V C : Nat} {S : Sy} (h : SyAt w0 w k i ⟨G, B, T, Y, M, V, C⟩ S) {s : Nat} (hs : s < 4) : ∃ c : Cel, c.x = S.chosen s ∧ CelAt w C (s * 8) c ∧ w.ownsRow w0.heap.size 3 1 (.slice c.a c.l c.c) c.l (intCells c.x.d.ns) ∧ ∀ j, w.frozen? ⟨C, j, none⟩ = false := by
  obtain ⟨f, h1, h2⟩ := h.cho
  obtain ⟨c, e1, e2, e3⟩ := h2 s hs
  exact ⟨c, e1, CelF.at h1 e2 (by omega), e3, fun j => h1.frz j⟩
theorem SyAt.ne {w0 w : World} {k i G B T Y M V C : Nat} {S : Sy} (h : SyAt w0 w k i ⟨G, B, T, Y, M, V, C⟩ S) : ¬ T = Y ∧ B ≠ M ∧ ¬ B = V := by
  obtain ⟨_, b1, _⟩ := h.bal
  obtain ⟨_, t1, _⟩ := h.tol
  obtain ⟨_, y1, _⟩ := h.yes
  obtain ⟨_, m1, _⟩ := h.mine
  exact ⟨t1.ne y1 (by decide), b1.ne m1 (by decide), fun e => h.vot.not_row b1 (by show some V = some B; rw [e])⟩
theorem SyAt.rV {w0 w : World} {k i G B T Y M V C : Nat} {S : Sy} (h : SyAt w0 w k i ⟨G, B, T, Y, M, V, C⟩ S) : ∃ (n : Nat) (D : DataW Unit), n ≤ i ∧ w.ownsMap Try.prog 57 (plainElem Try.prog 3) V n D ∧ ∀ (b : Int) (s : Nat), (Lit.int .i64 b).wf = true → s < 3 → D.atKey (key2 b (s : Int)) (.lit (.int .i64 0)) = .lit (.int .i64 ((S.votes b s : Nat) : Int)) := h.vot
/-- a vote is counted -/
theorem SyAt.vote {w0 w : World} {k i G B T Y M V C : Nat} {S : Sy} (h : SyAt w0 w k i ⟨G, B, T, Y, M, V, C⟩ S) {w' : World} {n : Nat} {D : DataW Unit} {x : Int} {s : Nat} (hn : n ≤ i) (hs : s < 3) (hx : (Lit.int .i64 x).wf = true) (hM : w.ownsMap Try.prog 57 (plainElem Try.prog 3) V n D)
    (hD : ∀ (b : Int) (s : Nat), (Lit.int .i64 b).wf = true → s < 3 → D.atKey (key2 b (s : Int)) (.lit (.int .i64 0)) = .lit (.int .i64 ((S.votes b s : Nat) : Int)))
    (hM' : w'.ownsMap Try.prog 57 (plainElem Try.prog 3) V (n + 1) (D.put (key2 x (s : Int)) (.lit (.int .i64 (((S.votes x s : Nat) : Int) + 1))))) (hg : w.grownBy w' (some V)) :
    SyAt w0 w' k (i + 1) ⟨G, B, T, Y, M, V, C⟩ { S with votes := fun b' s' => if b' = x ∧ s' = s then S.votes b' s' + 1 else S.votes b' s' } := by
  have hk : Kp w w' V 57 := ⟨hg, fun cur T fz e => by
    obtain ⟨es, clock, hb, _⟩ := hM
    rw [hb] at e
    simp at e⟩
  have hw : ∀ s : Nat, s < 3 → (Lit.int .i64 (s : Int)).wf = true := fun s h => WalkArith.wf_i64 ⟨by omega, by omega⟩
  refine ⟨⟨hg.os.trans h.bel.os, hg.tape.trans h.bel.tape, hg.output.trans h.bel.output, Nat.le_trans h.bel.size hg.size, fun j hj => (hg.block j (Nat.lt_of_lt_of_le hj h.bel.size) (fun e => by have := Option.some.inj e; have g9 : w0.heap.size ≤ V := h.ge.2.2.2.2.2.1; omega)).trans (h.bel.block j hj)⟩, h.ge, h.grp.kp hk (by decide) (by decide) (by decide), h.bal.kp hk (by decide), h.tol.kp hk (by decide) (by decide) (by decide), h.yes.kp hk (by decide), h.mine.kp hk (by decide) (by decide), h.cho.kp hk (by decide) (by decide), n + 1, _, by omega, hM', fun b t hb ht => ?_⟩
  show _ = DataW.lit (.int .i64 (((if b = x ∧ t = s then S.votes b t + 1 else S.votes b t) : Nat) : Int))
  by_cases e : b = x ∧ t = s
  · obtain ⟨rfl, rfl⟩ := e
    rw [if_pos ⟨rfl, rfl⟩, Maps.atKey_put_same hM.isMap (law2.key (keyOf2 hx (hw t ht)))]
    rfl
  · rw [if_neg e, Maps.atKey_put_other (fun e2 => e (by
      obtain ⟨e3, e4⟩ := key2_inj hb (hw t ht) hx (hw s hs) e2
      exact ⟨e3, by omega⟩)), hD b t hb ht]
/-- a proposer's arrays are noughts -/
theorem wrs_eq : ∀ (vs : List Value) (w : World) (g o : Nat), wrs w g o vs = w.setCells g o vs
  | [], _, _, _ => rfl
  | v :: vs, w, g, o => wrs_eq vs (w.setCell ⟨g, o, none⟩ v) g (o + 1)
theorem SyAt.clearT {w0 w : World} {k i G B T Y M V C : Nat} {S : Sy} (h : SyAt w0 w k i ⟨G, B, T, Y, M, V, C⟩ S) {p : Nat} (hp : p < 3) : SyAt w0 (wrs w T (p * 5) [.slice none 0 0, .slice none 0 0, .slice none 0 0, .slice none 0 0, .slice none 0 0]) k i ⟨G, B, T, Y, M, V, C⟩ { S with told := upd S.told p (fun _ => []) } := by
  obtain ⟨f, h1, h2⟩ := h.tol
  have hk := h1.kpw (p * 5) [.slice none 0 0, .slice none 0 0, .slice none 0 0, .slice none 0 0, .slice none 0 0]
  refine ⟨wrs_below h.bel h.ge.2.2.1, h.ge, h.grp.kp hk (by decide) (by decide) (by decide), h.bal.kp hk (by decide), ⟨_, h1.wrs (p * 5), fun r hr s hs => ?_⟩, h.yes.kp hk (by decide), h.mine.kp hk (by decide) (by decide), h.cho.kp hk (by decide) (by decide), h.vot.kept hk.gr (h.vot.not_row h1)⟩
  show OwnA _ _ _ (upd S.told p (fun _ => []) r s)
  by_cases e : r = p
  · subst e
    rw [upd_same, fput_at (j := s) (by simpa using hs)]
    have hs' : s = 0 ∨ s = 1 ∨ s = 2 ∨ s = 3 ∨ s = 4 := by omega
    rcases hs' with rfl | rfl | rfl | rfl | rfl <;> exact OwnA.nil _ _
  · rw [fput_else (by simp; omega), upd_else _ _ e]
    exact (h2 r hr s hs).kp hk (by decide) (by decide)
theorem SyAt.clearY {w0 w : World} {k i G B T Y M V C : Nat} {S : Sy} (h : SyAt w0 w k i ⟨G, B, T, Y, M, V, C⟩ S) {p : Nat} (hp : p < 3) : SyAt w0 (wrs w Y (p * 5) [.bool false, .bool false, .bool false, .bool false, .bool false]) k i ⟨G, B, T, Y, M, V, C⟩ { S with yes := upd S.yes p (fun _ => false) } := by
  obtain ⟨f, h1, h2⟩ := h.yes
  have hk := h1.kpw (p * 5) [.bool false, .bool false, .bool false, .bool false, .bool false]
  refine ⟨wrs_below h.bel h.ge.2.2.2.1, h.ge, h.grp.kp hk (by decide) (by decide) (by decide), h.bal.kp hk (by decide), h.tol.kp hk (by decide) (by decide) (by decide), ⟨_, h1.wrs (p * 5), fun r hr s hs => ?_⟩, h.mine.kp hk (by decide) (by decide), h.cho.kp hk (by decide) (by decide), h.vot.kept hk.gr (h.vot.not_row h1)⟩
  show _ = Value.bool (upd S.yes p (fun _ => false) r s)
  by_cases e : r = p
  · subst e
    rw [upd_same, fput_at (j := s) (by simpa using hs)]
    have hs' : s = 0 ∨ s = 1 ∨ s = 2 ∨ s = 3 ∨ s = 4 := by omega
    rcases hs' with rfl | rfl | rfl | rfl | rfl <;> rfl
  · rw [fput_else (by simp; omega), upd_else _ _ e]
    exact h2 r hr s hs
theorem SyAt.clearM {w0 w : World} {k i G B T Y M V C : Nat} {S : Sy} (h : SyAt w0 w k i ⟨G, B, T, Y, M, V, C⟩ S) {p : Nat} (hp : p < 3) : SyAt w0 (wrs w M (p * 32) a32.toList) k i ⟨G, B, T, Y, M, V, C⟩ { S with mine := upd S.mine p (fun _ => acd0) } := by
  obtain ⟨f, h1, h2⟩ := h.mine
  have hk := h1.kpw (p * 32) a32.toList
  have hl : a32.toList.length = 32 := by rw [Array.length_toList]; exact size32
  refine ⟨wrs_below h.bel h.ge.2.2.2.2.1, h.ge, h.grp.kp hk (by decide) (by decide) (by decide), h.bal.kp hk (by decide), h.tol.kp hk (by decide) (by decide) (by decide), h.yes.kp hk (by decide), ⟨_, h1.wrs (p * 32), fun r hr t ht => ?_⟩, h.cho.kp hk (by decide) (by decide), h.vot.kept hk.gr (h.vot.not_row h1)⟩
  show OneAt _ _ _ _ (upd S.mine p (fun _ => acd0) r t)
  by_cases e : r = p
  · subst e
    rw [upd_same]
    refine one_zero fun j hj => ?_
    rw [show r * 32 + t * 8 + j = r * 32 + (t * 8 + j) by omega, fput_at (by omega)]
    have := a32_at ht hj
    rw [← this]
    simp [Array.getD_eq_getD_getElem?, List.getD_eq_getElem?_getD]
  · rw [upd_else _ _ e]
    obtain ⟨c, c1, c2, c3⟩ := (h2 r hr t ht).kp hk (by decide)
    refine ⟨c, c1, fun j hj => ?_, c3⟩
    rw [fput_else (by omega)]
    exact c2 j hj
theorem SyAt.stM {w0 w : World} {k i G B T Y M V C : Nat} {S : Sy} (h : SyAt w0 w k i ⟨G, B, T, Y, M, V, C⟩ S) {p : Nat} (hp : p < 3) : (storeCells ⟨M, p * 32, none⟩ a32.toList).run Try.prog w = .ok () (wrs w M (p * 32) a32.toList) := by
  obtain ⟨f, h1, h2⟩ := h.mine
  have hl : a32.toList.length = 32 := by rw [Array.length_toList]; exact size32
  rw [wrs_eq]
  exact run_storeCells_cells (P := Try.prog) M (p * 32) a32.toList 0 w (fun j hj => by rw [show w.cell? ⟨M, p * 32 + 0 + j, none⟩ = _ from h1.at (by omega)]; rfl) (fun j hj => h1.frz _) (by
    have : a32.all (·.oneCell') = true := by kernel_rfl
    intro v hv
    have h9 := Array.all_eq_true'.1 this v (by simpa using hv)
    exact h9)
def a5 : Array Value := #[.slice none 0 0, .slice none 0 0, .slice none 0 0, .slice none 0 0, .slice none 0 0]
def f5 : Array Value := #[.bool false, .bool false, .bool false, .bool false, .bool false]
theorem info44 : (Try.prog.info? 44).map (fun i => (i.zero, i.size, i.bytes)) = some (some (.agg a5), 5, 120) := by kernel_rfl
theorem info46 : (Try.prog.info? 46).map (fun i => (i.zero, i.size, i.bytes)) = some (some (.agg f5), 5, 5) := by kernel_rfl
theorem size5 : a5.size = 5 := rfl
theorem fize5 : f5.size = 5 := rfl
theorem SyAt.stT {w0 w : World} {k i G B T Y M V C : Nat} {S : Sy} (h : SyAt w0 w k i ⟨G, B, T, Y, M, V, C⟩ S) {p : Nat} (hp : p < 3) : (storeCells ⟨T, p * 5, none⟩ a5.toList).run Try.prog w = .ok () (wrs w T (p * 5) a5.toList) := by
  obtain ⟨f, h1, h2⟩ := h.tol
  have hl : a5.toList.length = 5 := rfl
  rw [wrs_eq]
  exact run_storeCells_cells (P := Try.prog) T (p * 5) a5.toList 0 w (fun j hj => by rw [show w.cell? ⟨T, p * 5 + 0 + j, none⟩ = _ from h1.at (by omega)]; rfl) (fun j hj => h1.frz _) (by
    have : a5.all (·.oneCell') = true := by kernel_rfl
    intro v hv
    have h9 := Array.all_eq_true'.1 this v (by simpa using hv)
    exact h9)
theorem SyAt.stY {w0 w : World} {k i G B T Y M V C : Nat} {S : Sy} (h : SyAt w0 w k i ⟨G, B, T, Y, M, V, C⟩ S) {p : Nat} (hp : p < 3) : (storeCells ⟨Y, p * 5, none⟩ f5.toList).run Try.prog w = .ok () (wrs w Y (p * 5) f5.toList) := by
  obtain ⟨f, h1, h2⟩ := h.yes
  have hl : f5.toList.length = 5 := rfl
  rw [wrs_eq]
  exact run_storeCells_cells (P := Try.prog) Y (p * 5) f5.toList 0 w (fun j hj => by rw [show w.cell? ⟨Y, p * 5 + 0 + j, none⟩ = _ from h1.at (by omega)]; rfl) (fun j hj => h1.frz _) (by
    have : f5.all (·.oneCell') = true := by kernel_rfl
    intro v hv
    have h9 := Array.all_eq_true'.1 this v (by simpa using hv)
    exact h9)
theorem upd_self {α : Type} (f : Nat → α) (i : Nat) : upd f i (f i) = f := by
  funext j
  by_cases e : j = i
  · subst e; exact upd_same _ _ _
  · exact upd_else _ _ e
theorem prep_is {P bal : Int} {L : List Acd} (hok : okA P L = true) (hb : inB bal 1 2147483647 = true) : (¬ bal < P ∧ prepE P L bal 1 = 0 ∧ prepP P L bal 1 = bal ∧ prepL P L = L ∧ prepT P L bal 1 = L) ∨ (bal < P ∧ prepE P L bal 1 = 9 ∧ prepP P L bal 1 = P ∧ prepL P L = L) := by
  have h1 : (inB bal 1 2147483647 && inB 1 1 257) = true := by rw [hb]; rfl
  by_cases hlt : bal < P
  · have e : prepE P L bal 1 = 9 := by unfold prepE; rw [if_pos hok, if_pos h1, if_pos hlt]
    refine .inr ⟨hlt, e, ?_, ?_⟩
    · unfold prepP; rw [if_pos hok, e, if_neg (by decide)]
    · unfold prepL; rw [if_pos hok]
  · have e : prepE P L bal 1 = 0 := by unfold prepE; rw [if_pos hok, if_pos h1, if_neg hlt]
    refine .inl ⟨hlt, e, ?_, ?_, ?_⟩
    · unfold prepP; rw [if_pos hok, e, if_pos rfl]
    · unfold prepL; rw [if_pos hok]
    · unfold prepT; rw [e, if_pos rfl]; rfl
theorem SyAt.keepG {w0 w : World} {k i G B T Y M V C : Nat} {S : Sy} (h : SyAt w0 w k i ⟨G, B, T, Y, M, V, C⟩ S) {v : Value} {ls : List Acd} (ho : OwnA w w0.heap.size v ls) (o : Nat) (vs : List Value) : OwnA (wrs w G o vs) w0.heap.size v ls := by
  obtain ⟨f, h1, _⟩ := h.grp
  exact ho.kp (h1.kpw o vs) (by decide) (by decide)
end Go.Proofs.Ytejhmacbbdnlbaa.Ac
