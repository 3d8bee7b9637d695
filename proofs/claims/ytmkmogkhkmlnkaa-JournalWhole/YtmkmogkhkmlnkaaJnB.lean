/-
  The journal in memory; its heads, rows and small methods.
-/
import Derived.Test.YtmkmogkhkmlnkaaJnA
import Derived.Test.YtmkmogkhkmlnkaaMgF
import Derived.BigQuiet
import Derived.Deep.RegionHeld3
namespace Go.Proofs.Ytmkmogkhkmlnkaa.Dm
open Go.ChangeShapes Go.WideShapes Go.ChangeAt Go.RowKit
/-- the journal, plainly -/
structure Jr where
  second : Bool
  age : Nat
  fr : List UInt8
/-- the head's sector of a half -/
def hN (n : Nat) (b : Bool) : Nat := if b then n / 2 else 0
/-- how many bytes a row has -/
def roomN (n : Nat) : Nat := (n / 2 - 1) * 64
def boxJ (a : Nat) (J : Jr) (fv : Value) : Array Value := #[.pointer (some ⟨a, 0, none⟩), .bool J.second, .int .i64 (J.age : Int), fv]
/-- the journal in block j, its drum in block a -/
structure JrAt (B j a : Nat) (J : Jr) (fv : Value) (w : World) : Prop where
  bj : B ≤ j
  box : w.heap[j]? = some (.cells (boxJ a J fv) 53 (0, 0))
  own : w.ownsRow B 5 1 fv J.fr.length (cellsB J.fr)
/-- the journal and its drum; the frames lie apart from the drum's bytes -/
structure JW (B j a s k n : Nat) (D : Dm) (pv : Value) (J : Jr) (fv : Value) (w : World) : Prop where
  d : DmAt B a s k n D pv w
  r : JrAt B j a J fv w
  ap : ∀ g, fv.ownBlock = some g → g ≠ s ∧ g ≠ k
theorem heap_T {w : World} {b : Nat} {c c' : Array Value} {T T' : TypeId} {f f' : Nat × Nat} (h : w.heap[b]? = some (.cells c T f)) (h' : w.heap[b]? = some (.cells c' T' f')) : T = T' := by
  rw [h] at h'
  injection h' with h'
  injection h' with _ h'
theorem JrAt.c0 {B j a : Nat} {J : Jr} {fv : Value} {w : World} (h : JrAt B j a J fv w) : w.cell? ⟨j, 0, none⟩ = some (.pointer (some ⟨a, 0, none⟩)) := by rw [cell_of_heap h.box]; rfl
theorem JrAt.c1 {B j a : Nat} {J : Jr} {fv : Value} {w : World} (h : JrAt B j a J fv w) : w.cell? ⟨j, 1, none⟩ = some (.bool J.second) := by rw [cell_of_heap h.box]; rfl
theorem JrAt.c2 {B j a : Nat} {J : Jr} {fv : Value} {w : World} (h : JrAt B j a J fv w) : w.cell? ⟨j, 2, none⟩ = some (.int .i64 (J.age : Int)) := by rw [cell_of_heap h.box]; rfl
theorem JrAt.c3 {B j a : Nat} {J : Jr} {fv : Value} {w : World} (h : JrAt B j a J fv w) : w.cell? ⟨j, 3, none⟩ = some fv := by rw [cell_of_heap h.box]; rfl
theorem JrAt.fz {B j a : Nat} {J : Jr} {fv : Value} {w : World} (h : JrAt B j a J fv w) (i : Nat) : w.frozen? ⟨j, i, none⟩ = false := frozen_of_heap h.box i
theorem JrAt.lt {B j a : Nat} {J : Jr} {fv : Value} {w : World} (h : JrAt B j a J fv w) : j < w.heap.size := (Array.getElem?_eq_some_iff.1 h.box).1
theorem JrAt.keep {B j a : Nat} {J : Jr} {fv : Value} {w w' : World} (h : JrAt B j a J fv w) (hj : w'.heap[j]? = w.heap[j]?) (hf : ∀ g, fv.ownBlock = some g → w'.heap[g]? = w.heap[g]?) : JrAt B j a J fv w' := ⟨h.bj, hj.trans h.box, own_of h.own hf⟩
theorem JrAt.below {B j a : Nat} {J : Jr} {fv : Value} {w w' : World} (h : JrAt B j a J fv w) (hb : Below w.heap.size w w') : JrAt B j a J fv w' := h.keep (hb.block _ h.lt) fun g hg => hb.block _ (h.own.lt g hg).2
theorem JW.below {B j a s k n : Nat} {D : Dm} {pv : Value} {J : Jr} {fv : Value} {w w' : World} (h : JW B j a s k n D pv J fv w) (hb : Below w.heap.size w w') : JW B j a s k n D pv J fv w' := ⟨h.d.below hb, h.r.below hb, h.ap⟩
theorem JW.ja {B j a s k n : Nat} {D : Dm} {pv : Value} {J : Jr} {fv : Value} {w : World} (h : JW B j a s k n D pv J fv w) : j ≠ a ∧ j ≠ s ∧ j ≠ k :=
  ⟨fun e => absurd (heap_T h.r.box (e ▸ h.d.box)) (by decide), fun e => absurd (heap_T h.r.box (e ▸ h.d.hseen)) (by decide), fun e => absurd (heap_T h.r.box (e ▸ h.d.hkept)) (by decide)⟩
theorem JW.fa {B j a s k n : Nat} {D : Dm} {pv : Value} {J : Jr} {fv : Value} {w : World} (h : JW B j a s k n D pv J fv w) {g : Nat} (hg : fv.ownBlock = some g) : g ≠ a ∧ g ≠ s ∧ g ≠ k ∧ g ≠ j := by
  obtain ⟨cur, hc⟩ := own_T h.r.own hg
  exact ⟨fun e => absurd (heap_T hc (e ▸ h.d.box)) (by decide), (h.ap g hg).1, (h.ap g hg).2, fun e => absurd (heap_T hc (e ▸ h.r.box)) (by decide)⟩
/-- the drum changes, the journal stands -/
theorem JW.kd {B j a s k n : Nat} {D D' : Dm} {pv pv' : Value} {J : Jr} {fv : Value} {w w' : World} (h : JW B j a s k n D pv J fv w) (hd : DmAt B a s k n D' pv' w') (hk : Kd a s k w w') : JW B j a s k n D' pv' J fv w' := by
  refine ⟨hd, h.r.keep ?_ fun g hg => ?_, h.ap⟩
  · exact (hk j _ h.r.box h.ja.1 h.ja.2.1 h.ja.2.2 (by intro c fz e; injection e with _ e; exact absurd e (by decide))).trans h.r.box.symm
  · obtain ⟨cur, hc⟩ := own_T h.r.own hg
    obtain ⟨h1, h2, h3, -⟩ := h.fa hg
    exact (hk g _ hc h1 h2 h3 (by intro c fz e; injection e with _ e; exact absurd e (by decide))).trans hc.symm
/-- all blocks of other types than a journal writes stand -/
def Kj (w w' : World) : Prop := ∀ (b : Nat) (c : Array Value) (T : TypeId) (fz : Nat × Nat), w.heap[b]? = some (.cells c T fz) → T ≠ 58 → T ≠ 90 → T ≠ 5 → T ≠ 53 → w'.heap[b]? = some (.cells c T fz)
theorem Kj.refl (w : World) : Kj w w := fun _ _ _ _ h _ _ _ _ => h
theorem Kj.trans {w1 w2 w3 : World} (h : Kj w1 w2) (g : Kj w2 w3) : Kj w1 w3 := fun b c T fz hb h1 h2 h3 h4 => g b c T fz (h b c T fz hb h1 h2 h3 h4) h1 h2 h3 h4
theorem Kj.below {w w' : World} (hb : Below w.heap.size w w') : Kj w w' := fun b _ _ _ h _ _ _ _ => (hb.block b (Array.getElem?_eq_some_iff.1 h).1).trans h
theorem JW.kj {B j a s k n : Nat} {D : Dm} {pv : Value} {J : Jr} {fv : Value} {w w' : World} (h : JW B j a s k n D pv J fv w) (hk : Kd a s k w w') : Kj w w' := fun b c T fz hb h1 h2 h3 _ =>
  hk b _ hb (fun e => h1 (heap_T (e ▸ hb) h.d.box)) (fun e => h3 (heap_T (e ▸ hb) h.d.hseen)) (fun e => h3 (heap_T (e ▸ hb) h.d.hkept)) (by intro c' fz' e; injection e with _ e; exact h2 e)
theorem Kj.set {w : World} {j : Nat} {c : Array Value} {f : Nat × Nat} (hj : w.heap[j]? = some (.cells c 53 f)) (i : Nat) (v : Value) : Kj w (w.setCell ⟨j, i, none⟩ v) := fun _ _ _ _ hb _ _ _ h4 => (heap_setCell_ne _ _ _ _ (fun e => h4 (heap_T (e ▸ hb) hj))).trans hb
/-- behind a call of the journal -/
def JPost (B j a s k n : Nat) (D : Dm) (J : Jr) (w w' : World) : Prop := (∃ pv fv, JW B j a s k n D pv J fv w') ∧ Below B w w' ∧ Kj w w'
theorem JPost.trans {B j a s k n : Nat} {D D' : Dm} {J J' : Jr} {w w1 w2 : World} (h : JPost B j a s k n D J w w1) (g : JPost B j a s k n D' J' w1 w2) : JPost B j a s k n D' J' w w2 := ⟨g.1, h.2.1.trans g.2.1, h.2.2.trans g.2.2⟩
theorem JW.post {B j a s k n : Nat} {D D' : Dm} {pv : Value} {J : Jr} {fv : Value} {w w' : World} (h : JW B j a s k n D pv J fv w) (hp : DPost B a s k n D' w w') : JPost B j a s k n D' J w w' := by
  obtain ⟨⟨pv', hd⟩, hb, hk⟩ := hp
  exact ⟨⟨pv', fv, h.kd hd hk⟩, hb, h.kj hk⟩
set_option maxHeartbeats 1000000 in
theorem given_any {B j a : Nat} {J : Jr} {fv : Value} (w : World) (h : JrAt B j a J fv w) :
    Calls Try.prog 23 #[.pointer (some ⟨j, 0, none⟩)] w fun e w' => e = .returned (.bool true) ∧ w' = w := by
  have c0 := h.c0
  clear h
  go_enter Try.func23, Try.ntmps23
  go_wp2
  go_ret
  exact ⟨rfl, rfl⟩
set_option maxHeartbeats 1000000 in
theorem hAt_any {B a s k n : Nat} {D : Dm} {pv : Value} (w : World) (h : DmAt B a s k n D pv w) (b : Bool) :
    Calls Try.prog 48 #[.pointer (some ⟨a, 0, none⟩), .bool b] w fun e w' => e = .returned (.int .i64 (hN n b : Nat)) ∧ w' = w := by
  have HS := sectors_any w h
  have hn := h.ok.n1
  have e2 : (n : Int).tdiv 2 = ((n / 2 : Nat) : Int) := by rw [Int.tdiv_eq_ediv_of_nonneg (by omega)]; omega
  clear h
  cases b
  · go_enter Try.func48, Try.ntmps48
    go_wp2
    go_ret
    exact ⟨rfl, rfl⟩
  · go_enter Try.func48, Try.ntmps48
    go_wp2_with (go_at_call 20; refine HS.mono ?_; rintro e w1 ⟨rfl, rfl⟩)
    go_ret
    exact ⟨rfl, rfl⟩
set_option maxHeartbeats 1000000 in
theorem rowBytes_any {B a s k n : Nat} {D : Dm} {pv : Value} (w : World) (h : DmAt B a s k n D pv w) (h8 : 8 ≤ (n : Int)) :
    Calls Try.prog 33 #[.pointer (some ⟨a, 0, none⟩)] w fun e w' => e = .returned (.int .i64 (roomN n : Nat)) ∧ w' = w := by
  have HS := sectors_any w h
  have hn := h.ok.n1
  have e2 : (n : Int).tdiv 2 = ((n / 2 : Nat) : Int) := by rw [Int.tdiv_eq_ediv_of_nonneg (by omega)]; omega
  clear h
  go_enter Try.func33, Try.ntmps33
  go_wp2_with (go_at_call 20; refine HS.mono ?_; rintro e w1 ⟨rfl, rfl⟩)
  go_ret
  refine ⟨ret_int ?_, rfl⟩
  unfold roomN
  omega
set_option maxHeartbeats 2000000 in
theorem jHeadAt_any {B j a s k n : Nat} {D : Dm} {pv : Value} {J : Jr} {fv : Value} (w : World) (h : JW B j a s k n D pv J fv w) :
    Calls Try.prog 29 #[.pointer (some ⟨j, 0, none⟩)] w fun e w' => e = .returned (.int .i64 (hN n J.second : Nat)) ∧ Below w.heap.size w w' := by
  have HC : Hid (∀ w', Below w.heap.size w w' → w'.cell? ⟨j, 0, none⟩ = some (.pointer (some ⟨a, 0, none⟩)) ∧ w'.cell? ⟨j, 1, none⟩ = some (.bool J.second)) := fun w' hb => ⟨(h.below hb).r.c0, (h.below hb).r.c1⟩
  have HH : Hid (∀ w', Below w.heap.size w w' → Calls Try.prog 48 #[.pointer (some ⟨a, 0, none⟩), .bool J.second] w' fun e w'' => e = .returned (.int .i64 (hN n J.second : Nat)) ∧ w'' = w') := fun w' hb => hAt_any w' (h.below hb).d J.second
  generalize hN n J.second = q at *
  clear h
  go_enter Try.func29, Try.ntmps29
  go_wp2_with fail
  go_region_held3 (fun w' => (w'.cell? ⟨j, 0, none⟩ = some (.pointer (some ⟨a, 0, none⟩)) ∧ w'.cell? ⟨j, 1, none⟩ = some (.bool J.second)) ∧ Below w.heap.size w w')
    (first | exact ⟨HC.out _ (below_drew _), below_drew _⟩ | assumption)
    ((first | (go_at_call 48; refine (HH.out _ (by go_split_ands; assumption)).mono ?_; rintro en w6 ⟨rfl, rfl⟩)))
  go_wp2
  go_ret
  exact ⟨rfl, below_drew _⟩
end Go.Proofs.Ytmkmogkhkmlnkaa.Dm
