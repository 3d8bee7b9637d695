/-
  Where the law of agreement stands: its memory, and its writes.
-/
import Derived.Test.YtejhmacbbdnlbaaAcY3
import Derived.Test.YtejhmacbbdnlbaaAcAg
namespace Go.Proofs.Ytejhmacbbdnlbaa.Ac
open Go.Maps
open Go.ChangeShapes Go.WideShapes Go.ChangeAt Go.RowKit
def GrpAt (w : World) (N k G : Nat) (P : Nat → Int) (L : Nat → List Acd) : Prop := ∃ f, RowF w 24 G (k * 2) f ∧ ∀ q, q < k → f (q * 2) = .int .i64 (P q) ∧ OwnA w N (f (q * 2 + 1)) (L q)
def BalAt (w : World) (B : Nat) (bal : Nat → Int) : Prop := ∃ f, RowF w 25 B 3 f ∧ ∀ p, p < 3 → f p = .int .i64 (bal p)
def TolAt (w : World) (N T : Nat) (told : Nat → Nat → List Acd) : Prop := ∃ f, RowF w 45 T 15 f ∧ ∀ p, p < 3 → ∀ q, q < 5 → OwnA w N (f (p * 5 + q)) (told p q)
def YesAt (w : World) (Y : Nat) (yes : Nat → Nat → Bool) : Prop := ∃ f, RowF w 47 Y 15 f ∧ ∀ p, p < 3 → ∀ q, q < 5 → f (p * 5 + q) = .bool (yes p q)
def MinAt (w : World) (N M : Nat) (mine : Nat → Nat → Acd) : Prop := ∃ f, RowF w 51 M 96 f ∧ ∀ p, p < 3 → ∀ s, s < 4 → OneAt w N f (p * 32 + s * 8) (mine p s)
def ChoAt (w : World) (N C : Nat) (chosen : Nat → Acd) : Prop := ∃ f, RowF w 50 C 32 f ∧ ∀ s, s < 4 → OneAt w N f (s * 8) (chosen s)
def VotAt (w : World) (V i : Nat) (votes : Int → Nat → Nat) : Prop := ∃ (n : Nat) (D : DataW Unit), n ≤ i ∧ w.ownsMap Try.prog 57 (plainElem Try.prog 3) V n D ∧ ∀ (b : Int) (s : Nat), (Lit.int .i64 b).wf = true → s < 3 → D.atKey (key2 b (s : Int)) (.lit (.int .i64 0)) = .lit (.int .i64 ((votes b s : Nat) : Int))
/-- the blocks of the law -/
structure Bk where
  G : Nat
  B : Nat
  T : Nat
  Y : Nat
  M : Nat
  V : Nat
  C : Nat
structure SyAt (w0 w : World) (k i : Nat) (b : Bk) (S : Sy) : Prop where
  bel : Below w0.heap.size w0 w
  ge : w0.heap.size ≤ b.G ∧ w0.heap.size ≤ b.B ∧ w0.heap.size ≤ b.T ∧ w0.heap.size ≤ b.Y ∧ w0.heap.size ≤ b.M ∧ w0.heap.size ≤ b.V ∧ w0.heap.size ≤ b.C
  grp : GrpAt w w0.heap.size k b.G S.P S.L
  bal : BalAt w b.B S.bal
  tol : TolAt w w0.heap.size b.T S.told
  yes : YesAt w b.Y S.yes
  mine : MinAt w w0.heap.size b.M S.mine
  cho : ChoAt w w0.heap.size b.C S.chosen
  vot : VotAt w b.V i S.votes
theorem GrpAt.below {w w' : World} {N k G : Nat} {P : Nat → Int} {L : Nat → List Acd} (h : GrpAt w N k G P L) (hb : Below w.heap.size w w') : GrpAt w' N k G P L := by
  obtain ⟨f, h1, h2⟩ := h
  exact ⟨f, h1.below hb, fun q hq => ⟨(h2 q hq).1, (h2 q hq).2.below hb⟩⟩
theorem GrpAt.kp {w w' : World} {N k G : Nat} {P : Nat → Int} {L : Nat → List Acd} (h : GrpAt w N k G P L) {g E : Nat} (hk : Kp w w' g E) (hE : E ≠ 24) (h3 : E ≠ 3) (h49 : E ≠ 49) : GrpAt w' N k G P L := by
  obtain ⟨f, h1, h2⟩ := h
  exact ⟨f, h1.kp hk hE, fun q hq => ⟨(h2 q hq).1, (h2 q hq).2.kp hk h3 h49⟩⟩
theorem BalAt.below {w w' : World} {B : Nat} {bal : Nat → Int} (h : BalAt w B bal) (hb : Below w.heap.size w w') : BalAt w' B bal := by
  obtain ⟨f, h1, h2⟩ := h
  exact ⟨f, h1.below hb, h2⟩
theorem BalAt.kp {w w' : World} {B : Nat} {bal : Nat → Int} (h : BalAt w B bal) {g E : Nat} (hk : Kp w w' g E) (hE : E ≠ 25) : BalAt w' B bal := by
  obtain ⟨f, h1, h2⟩ := h
  exact ⟨f, h1.kp hk hE, h2⟩
theorem TolAt.below {w w' : World} {N T : Nat} {told : Nat → Nat → List Acd} (h : TolAt w N T told) (hb : Below w.heap.size w w') : TolAt w' N T told := by
  obtain ⟨f, h1, h2⟩ := h
  exact ⟨f, h1.below hb, fun p hp q hq => (h2 p hp q hq).below hb⟩
theorem TolAt.kp {w w' : World} {N T : Nat} {told : Nat → Nat → List Acd} (h : TolAt w N T told) {g E : Nat} (hk : Kp w w' g E) (hE : E ≠ 45) (h3 : E ≠ 3) (h49 : E ≠ 49) : TolAt w' N T told := by
  obtain ⟨f, h1, h2⟩ := h
  exact ⟨f, h1.kp hk hE, fun p hp q hq => (h2 p hp q hq).kp hk h3 h49⟩
theorem YesAt.below {w w' : World} {Y : Nat} {yes : Nat → Nat → Bool} (h : YesAt w Y yes) (hb : Below w.heap.size w w') : YesAt w' Y yes := by
  obtain ⟨f, h1, h2⟩ := h
  exact ⟨f, h1.below hb, h2⟩
theorem YesAt.kp {w w' : World} {Y : Nat} {yes : Nat → Nat → Bool} (h : YesAt w Y yes) {g E : Nat} (hk : Kp w w' g E) (hE : E ≠ 47) : YesAt w' Y yes := by
  obtain ⟨f, h1, h2⟩ := h
  exact ⟨f, h1.kp hk hE, h2⟩
theorem MinAt.below {w w' : World} {N M : Nat} {mine : Nat → Nat → Acd} (h : MinAt w N M mine) (hb : Below w.heap.size w w') : MinAt w' N M mine := by
  obtain ⟨f, h1, h2⟩ := h
  exact ⟨f, h1.below hb, fun p hp s hs => (h2 p hp s hs).below hb⟩
theorem MinAt.kp {w w' : World} {N M : Nat} {mine : Nat → Nat → Acd} (h : MinAt w N M mine) {g E : Nat} (hk : Kp w w' g E) (hE : E ≠ 51) (h3 : E ≠ 3) : MinAt w' N M mine := by
  obtain ⟨f, h1, h2⟩ := h
  exact ⟨f, h1.kp hk hE, fun p hp s hs => (h2 p hp s hs).kp hk h3⟩
theorem ChoAt.below {w w' : World} {N C : Nat} {chosen : Nat → Acd} (h : ChoAt w N C chosen) (hb : Below w.heap.size w w') : ChoAt w' N C chosen := by
  obtain ⟨f, h1, h2⟩ := h
  exact ⟨f, h1.below hb, fun s hs => (h2 s hs).below hb⟩
theorem ChoAt.kp {w w' : World} {N C : Nat} {chosen : Nat → Acd} (h : ChoAt w N C chosen) {g E : Nat} (hk : Kp w w' g E) (hE : E ≠ 50) (h3 : E ≠ 3) : ChoAt w' N C chosen := by
  obtain ⟨f, h1, h2⟩ := h
  exact ⟨f, h1.kp hk hE, fun s hs => (h2 s hs).kp hk h3⟩
theorem VotAt.kept {w w' : World} {V i : Nat} {votes : Int → Nat → Nat} (h : VotAt w V i votes) {row : Option Nat} (hg : w.grownBy w' row) (hne : some V ≠ row) : VotAt w' V i votes := by
  obtain ⟨n, D, h1, h2, h3⟩ := h
  exact ⟨n, D, h1, h2.kept hg hne, h3⟩
theorem VotAt.more {w : World} {V i j : Nat} {votes : Int → Nat → Nat} (h : VotAt w V i votes) (hij : i ≤ j) : VotAt w V j votes := by
  obtain ⟨n, D, h1, h2, h3⟩ := h
  exact ⟨n, D, by omega, h2, h3⟩
theorem VotAt.not_row {w : World} {V i g E m : Nat} {votes : Int → Nat → Nat} {f : Nat → Value} (h : VotAt w V i votes) (hr : RowF w E g m f) : some V ≠ some g := by
  obtain ⟨n, D, h1, ⟨es, clock, hb, _⟩, h3⟩ := h
  obtain ⟨cur, hc, _⟩ := hr
  intro e
  have e' := Option.some.inj e
  subst e'
  rw [hb] at hc
  simp at hc
theorem SyAt.below {w0 w w' : World} {k i : Nat} {b : Bk} {S : Sy} (h : SyAt w0 w k i b S) (hb : Below w.heap.size w w') : SyAt w0 w' k i b S :=
  ⟨below2 h.bel hb, h.ge, h.grp.below hb, h.bal.below hb, h.tol.below hb, h.yes.below hb, h.mine.below hb, h.cho.below hb, h.vot.kept (below_grownBy hb) (by simp)⟩
theorem SyAt.more {w0 w : World} {k i j : Nat} {b : Bk} {S : Sy} (h : SyAt w0 w k i b S) (hij : i ≤ j) : SyAt w0 w k j b S := ⟨h.bel, h.ge, h.grp, h.bal, h.tol, h.yes, h.mine, h.cho, h.vot.more hij⟩
/-- an acceptor is stored -/
theorem SyAt.setG {w0 w : World} {k i : Nat} {b : Bk} {S : Sy} (h : SyAt w0 w k i b S) {q : Nat} (hq : q < k) (P' : Int) (v : Value) (L' : List Acd) (hv : OwnA w w0.heap.size v L') :
    SyAt w0 (wrs w b.G (q * 2) [.int .i64 P', v]) k i b { S with P := upd S.P q P', L := upd S.L q L' } := by
  obtain ⟨f, h1, h2⟩ := h.grp
  have hk := h1.kpw (q * 2) [.int .i64 P', v]
  refine ⟨wrs_below h.bel h.ge.1, h.ge, ⟨_, h1.wrs (q * 2), fun r hr => ?_⟩, h.bal.kp hk (by decide), h.tol.kp hk (by decide) (by decide) (by decide), h.yes.kp hk (by decide), h.mine.kp hk (by decide) (by decide), h.cho.kp hk (by decide) (by decide), h.vot.kept hk.gr (h.vot.not_row h1)⟩
  by_cases e : r = q
  · subst e
    rw [fput_at0, fput_at (j := 1) (by simp : 1 < [Value.int .i64 P', v].length)]
    show Value.int .i64 P' = Value.int .i64 (upd S.P r P' r) ∧ OwnA _ _ v (upd S.L r L' r)
    rw [upd_same, upd_same]
    exact ⟨rfl, hv.kp hk (by decide) (by decide)⟩
  · rw [fput_else (by simp; omega), fput_else (by simp; omega)]
    show f (r * 2) = Value.int .i64 (upd S.P q P' r) ∧ OwnA _ _ (f (r * 2 + 1)) (upd S.L q L' r)
    rw [upd_else _ _ e, upd_else _ _ e]
    exact ⟨(h2 r hr).1, (h2 r hr).2.kp hk (by decide) (by decide)⟩
/-- what one told is stored -/
theorem SyAt.setT {w0 w : World} {k i : Nat} {b : Bk} {S : Sy} (h : SyAt w0 w k i b S) {p q : Nat} (hp : p < 3) (hq : q < 5) (v : Value) (L' : List Acd) (hv : OwnA w w0.heap.size v L') :
    SyAt w0 (wrs w b.T (p * 5 + q) [v]) k i b { S with told := upd S.told p (upd (S.told p) q L') } := by
  obtain ⟨f, h1, h2⟩ := h.tol
  have hk := h1.kpw (p * 5 + q) [v]
  refine ⟨wrs_below h.bel h.ge.2.2.1, h.ge, h.grp.kp hk (by decide) (by decide) (by decide), h.bal.kp hk (by decide), ⟨_, h1.wrs (p * 5 + q), fun r hr s hs => ?_⟩, h.yes.kp hk (by decide), h.mine.kp hk (by decide) (by decide), h.cho.kp hk (by decide) (by decide), h.vot.kept hk.gr (h.vot.not_row h1)⟩
  show OwnA _ _ _ (upd S.told p (upd (S.told p) q L') r s)
  by_cases e : r = p
  · subst e
    rw [upd_same]
    by_cases e2 : s = q
    · subst e2
      rw [fput_at0, upd_same]
      exact hv.kp hk (by decide) (by decide)
    · rw [fput_else (by simp; omega), upd_else _ _ e2]
      exact (h2 r hr s hs).kp hk (by decide) (by decide)
  · rw [fput_else (by simp; omega), upd_else _ _ e]
    exact (h2 r hr s hs).kp hk (by decide) (by decide)
theorem SyAt.setY {w0 w : World} {k i : Nat} {b : Bk} {S : Sy} (h : SyAt w0 w k i b S) {p q : Nat} (hp : p < 3) (hq : q < 5) (x : Bool) :
    SyAt w0 (wrs w b.Y (p * 5 + q) [.bool x]) k i b { S with yes := upd S.yes p (upd (S.yes p) q x) } := by
  obtain ⟨f, h1, h2⟩ := h.yes
  have hk := h1.kpw (p * 5 + q) [.bool x]
  refine ⟨wrs_below h.bel h.ge.2.2.2.1, h.ge, h.grp.kp hk (by decide) (by decide) (by decide), h.bal.kp hk (by decide), h.tol.kp hk (by decide) (by decide) (by decide), ⟨_, h1.wrs (p * 5 + q), fun r hr s hs => ?_⟩, h.mine.kp hk (by decide) (by decide), h.cho.kp hk (by decide) (by decide), h.vot.kept hk.gr (h.vot.not_row h1)⟩
  show _ = Value.bool (upd S.yes p (upd (S.yes p) q x) r s)
  by_cases e : r = p
  · subst e
    rw [upd_same]
    by_cases e2 : s = q
    · subst e2
      rw [fput_at0, upd_same]
    · rw [fput_else (by simp; omega), upd_else _ _ e2]
      exact h2 r hr s hs
  · rw [fput_else (by simp; omega), upd_else _ _ e]
    exact h2 r hr s hs
/-- a ballot is stored -/
theorem SyAt.setB {w0 w : World} {k i : Nat} {b : Bk} {S : Sy} (h : SyAt w0 w k i b S) {p : Nat} (x : Int) :
    SyAt w0 (wrs w b.B p [.int .i64 x]) k i b { S with bal := upd S.bal p x } := by
  obtain ⟨f, h1, h2⟩ := h.bal
  have hk := h1.kpw p [.int .i64 x]
  refine ⟨wrs_below h.bel h.ge.2.1, h.ge, h.grp.kp hk (by decide) (by decide) (by decide), ⟨_, h1.wrs p, fun r hr => ?_⟩, h.tol.kp hk (by decide) (by decide) (by decide), h.yes.kp hk (by decide), h.mine.kp hk (by decide) (by decide), h.cho.kp hk (by decide) (by decide), h.vot.kept hk.gr (h.vot.not_row h1)⟩
  show _ = Value.int .i64 (upd S.bal p x r)
  by_cases e : r = p
  · subst e
    rw [fput_at0, upd_same]
  · rw [fput_else (by simp; omega), upd_else _ _ e]
    exact h2 r hr
/-- what is proposed is stored: eight cells, or its delta's seven -/
theorem SyAt.setM {w0 w : World} {k i : Nat} {b : Bk} {S : Sy} (h : SyAt w0 w k i b S) {p s : Nat} (hp : p < 3) (hs : s < 4) (c : Cel) (hn : w.ownsRow w0.heap.size 3 1 (.slice c.a c.l c.c) c.l (intCells c.x.d.ns)) :
    SyAt w0 (wrs w b.M (p * 32 + s * 8) c.vs) k i b { S with mine := upd S.mine p (upd (S.mine p) s c.x) } := by
  obtain ⟨f, h1, h2⟩ := h.mine
  have hk := h1.kpw (p * 32 + s * 8) c.vs
  have hl : c.vs.length = 8 := rfl
  refine ⟨wrs_below h.bel h.ge.2.2.2.2.1, h.ge, h.grp.kp hk (by decide) (by decide) (by decide), h.bal.kp hk (by decide), h.tol.kp hk (by decide) (by decide) (by decide), h.yes.kp hk (by decide), ⟨_, h1.wrs (p * 32 + s * 8), fun r hr t ht => ?_⟩, h.cho.kp hk (by decide) (by decide), h.vot.kept hk.gr (h.vot.not_row h1)⟩
  show OneAt _ _ _ _ (upd S.mine p (upd (S.mine p) s c.x) r t)
  by_cases e : r = p
  · subst e
    rw [upd_same]
    by_cases e2 : t = s
    · subst e2
      rw [upd_same]
      exact OneAt.new c (own_kp hn hk (by decide))
    · rw [upd_else _ _ e2]
      exact ((h2 r hr t ht).kp hk (by decide)).else (by omega) (by omega)
  · rw [upd_else _ _ e]
    exact ((h2 r hr t ht).kp hk (by decide)).else (by omega) (by omega)
theorem SyAt.setM7 {w0 w : World} {k i : Nat} {b : Bk} {S : Sy} (h : SyAt w0 w k i b S) {p s : Nat} (hp : p < 3) (hs : s < 4) (c : Cel) (hb : c.x.b = (S.mine p s).b) (hn : w.ownsRow w0.heap.size 3 1 (.slice c.a c.l c.c) c.l (intCells c.x.d.ns)) :
    SyAt w0 (wrs w b.M (p * 32 + s * 8 + 1) (c.vs.drop 1)) k i b { S with mine := upd S.mine p (upd (S.mine p) s c.x) } := by
  obtain ⟨f, h1, h2⟩ := h.mine
  have hk := h1.kpw (p * 32 + s * 8 + 1) (c.vs.drop 1)
  have hl : (c.vs.drop 1).length = 7 := rfl
  refine ⟨wrs_below h.bel h.ge.2.2.2.2.1, h.ge, h.grp.kp hk (by decide) (by decide) (by decide), h.bal.kp hk (by decide), h.tol.kp hk (by decide) (by decide) (by decide), h.yes.kp hk (by decide), ⟨_, h1.wrs (p * 32 + s * 8 + 1), fun r hr t ht => ?_⟩, h.cho.kp hk (by decide) (by decide), h.vot.kept hk.gr (h.vot.not_row h1)⟩
  show OneAt _ _ _ _ (upd S.mine p (upd (S.mine p) s c.x) r t)
  by_cases e : r = p
  · subst e
    rw [upd_same]
    by_cases e2 : t = s
    · subst e2
      rw [upd_same]
      exact ((h2 r hr t ht).kp hk (by decide)).new7 c hb (own_kp hn hk (by decide))
    · rw [upd_else _ _ e2]
      exact ((h2 r hr t ht).kp hk (by decide)).else (by omega) (by omega)
  · rw [upd_else _ _ e]
    exact ((h2 r hr t ht).kp hk (by decide)).else (by omega) (by omega)
/-- what is chosen is stored -/
theorem SyAt.setC {w0 w : World} {k i : Nat} {b : Bk} {S : Sy} (h : SyAt w0 w k i b S) {s : Nat} (hs : s < 4) (c : Cel) (hn : w.ownsRow w0.heap.size 3 1 (.slice c.a c.l c.c) c.l (intCells c.x.d.ns)) :
    SyAt w0 (wrs w b.C (s * 8) c.vs) k i b { S with chosen := upd S.chosen s c.x } := by
  obtain ⟨f, h1, h2⟩ := h.cho
  have hk := h1.kpw (s * 8) c.vs
  have hl : c.vs.length = 8 := rfl
  refine ⟨wrs_below h.bel h.ge.2.2.2.2.2.2, h.ge, h.grp.kp hk (by decide) (by decide) (by decide), h.bal.kp hk (by decide), h.tol.kp hk (by decide) (by decide) (by decide), h.yes.kp hk (by decide), h.mine.kp hk (by decide) (by decide), ⟨_, h1.wrs (s * 8), fun t ht => ?_⟩, h.vot.kept hk.gr (h.vot.not_row h1)⟩
  show OneAt _ _ _ _ (upd S.chosen s c.x t)
  by_cases e2 : t = s
  · subst e2
    rw [upd_same]
    exact OneAt.new c (own_kp hn hk (by decide))
  · rw [upd_else _ _ e2]
    exact ((h2 t ht).kp hk (by decide)).else (by omega) (by omega)
end Go.Proofs.Ytejhmacbbdnlbaa.Ac
