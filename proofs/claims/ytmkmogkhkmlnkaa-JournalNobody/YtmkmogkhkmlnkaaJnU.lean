/-
  The journal's calls, told by what is kept and what it has.
-/
import Derived.Test.YtmkmogkhkmlnkaaMgE
namespace Go.Proofs.Ytmkmogkhkmlnkaa.Dm
open Go.ChangeShapes Go.WideShapes Go.ChangeAt Go.RowKit
/-- a journal: R is kept whatever befalls, cur is what it has; q: the power is gone -/
structure JSt (n : Nat) (z : Bool) (A P : Nat) (R cur : List Fr.Dat) (q : Bool) (D : Dm) (J : Jr) (b : Bool) (g : Nat) : Prop where
  n8 : 8 ≤ n
  n40 : n ≤ 40
  fr : J.fr = flatA J.age cur
  ok : ∀ d ∈ cur, OkA J.age d
  le : J.fr.length ≤ roomN n
  quiet : Quiet n D b g R
  gone : D.gone = q
  live : q = false → Live n D J R cur
  calm : z = true → Calm D
  age : J.age ≤ A
  ga : g ≤ A
  pend : D.pend.length ≤ P
def JS (B j a s k n : Nat) (z : Bool) (A P : Nat) (R cur : List Fr.Dat) (q : Bool) (w : World) : Prop := ∃ D J pv fv b g, JW B j a s k n D pv J fv w ∧ JSt n z A P R cur q D J b g
/-- a drum on which R is kept whatever befalls -/
structure DSt (n : Nat) (z : Bool) (A P : Nat) (R : List Fr.Dat) (D : Dm) (b : Bool) (g : Nat) : Prop where
  n8 : 8 ≤ n
  n40 : n ≤ 40
  quiet : Quiet n D b g R
  calm : z = true → Calm D
  ga : g ≤ A
  pend : D.pend.length ≤ P
def DS (B a s k n : Nat) (z : Bool) (A P : Nat) (R : List Fr.Dat) (q : Bool) (w : World) : Prop := ∃ D pv b g, DmAt B a s k n D pv w ∧ DSt n z A P R D b g ∧ (q = true → On D)
theorem JS.below {B j a s k n : Nat} {z : Bool} {A P : Nat} {R cur : List Fr.Dat} {q : Bool} {w w' : World} (h : JS B j a s k n z A P R cur q w) (hb : Below w.heap.size w w') : JS B j a s k n z A P R cur q w' := by
  obtain ⟨D, J, pv, fv, b, g, h1, h2⟩ := h
  exact ⟨D, J, pv, fv, b, g, h1.below hb, h2⟩
theorem DS.below {B a s k n : Nat} {z : Bool} {A P : Nat} {R : List Fr.Dat} {q : Bool} {w w' : World} (h : DS B a s k n z A P R q w) (hb : Below w.heap.size w w') : DS B a s k n z A P R q w' := by
  obtain ⟨D, pv, b, g, h1, h2⟩ := h
  exact ⟨D, pv, b, g, h1.below hb, h2⟩
theorem JS.ds {B j a s k n : Nat} {z : Bool} {A P : Nat} {R cur : List Fr.Dat} {q : Bool} {w : World} (h : JS B j a s k n z A P R cur q w) : DS B a s k n z A P R false w := by
  obtain ⟨D, J, pv, fv, b, g, h1, h2⟩ := h
  exact ⟨D, pv, b, g, h1.d, ⟨h2.n8, h2.n40, h2.quiet, h2.calm, h2.ga, h2.pend⟩, fun h => by cases h⟩
theorem JS.low {B j a s k n : Nat} {z : Bool} {A P : Nat} {R cur : List Fr.Dat} {q : Bool} {w : World} (h : JS B j a s k n z A P R cur q w) : B ≤ w.heap.size := by
  obtain ⟨D, J, pv, fv, b, g, h1, -⟩ := h
  exact h1.d.low
theorem JS.up {B j a s k n : Nat} {z : Bool} {A A' P P' : Nat} {R cur : List Fr.Dat} {q : Bool} {w : World} (h : JS B j a s k n z A P R cur q w) (hA : A ≤ A') (hP : P ≤ P') : JS B j a s k n z A' P' R cur q w := by
  obtain ⟨D, J, pv, fv, b, g, h1, h2⟩ := h
  exact ⟨D, J, pv, fv, b, g, h1, h2.n8, h2.n40, h2.fr, h2.ok, h2.le, h2.quiet, h2.gone, h2.live, h2.calm, Nat.le_trans h2.age hA, Nat.le_trans h2.ga hA, Nat.le_trans h2.pend hP⟩
/-- what a call leaves besides -/
def Kb (B : Nat) (w w' : World) : Prop := Below B w w' ∧ Kj w w'
theorem Kb.trans {B : Nat} {w1 w2 w3 : World} (h : Kb B w1 w2) (g : Kb B w2 w3) : Kb B w1 w3 := ⟨h.1.trans g.1, h.2.trans g.2⟩
theorem Kb.below {B : Nat} {w w' : World} (hb : Below w.heap.size w w') (hB : B ≤ w.heap.size) : Kb B w w' := ⟨below_low hb hB, Kj.below hb⟩
theorem gone_js {B j a s k n : Nat} {z : Bool} {A P : Nat} {R cur : List Fr.Dat} {q : Bool} (w : World) (h : JS B j a s k n z A P R cur q w) :
    Calls Try.prog 9 #[.pointer (some ⟨a, 0, none⟩)] w fun e w' => e = .returned (.bool q) ∧ w' = w := by
  obtain ⟨D, J, pv, fv, b, g, h1, h2⟩ := h
  rw [← h2.gone]
  exact gone_any w h1.d
theorem records_js {B j a s k n : Nat} {z : Bool} {A P : Nat} {R cur : List Fr.Dat} {q : Bool} (w : World) (h : JS B j a s k n z A P R cur q w) (hA : (A : Int) ≤ 1000000) :
    Calls Try.prog 12 #[.pointer (some ⟨j, 0, none⟩)] w fun e w' => ∃ v, e = .returned v ∧ RecAt w.heap.size w' v cur ∧ Below w.heap.size w w' := by
  obtain ⟨D, J, pv, fv, b, g, h1, h2⟩ := h
  have := h2.age
  have := roomN_le (n := n) (by have := h2.n40; omega)
  have := h2.le
  exact records_any w h1 cur h2.fr h2.ok (by omega) (by omega)
/-- behind Append -/
def ApJ (B j a s k n : Nat) (z : Bool) (A P : Nat) (R cur : List Fr.Dat) (x : Fr.Dat) (w : World) (e : Ending) (w' : World) : Prop := ∃ c : Nat, e = .returned (.int .i64 (c : Int)) ∧ Hid (Kb B w w' ∧ (∃ cur' q, (z = true → q = false) ∧ (c = 0 → cur' = cur ++ [x]) ∧ JS B j a s k n z A (P + 20) R cur' q w') ∧ (c ≠ 0 → ¬ ∀ g, OkA g x ∧ (flatA g cur).length + (frA g x).length ≤ roomN n))
theorem append_js {B j a s k n : Nat} {z : Bool} {A P : Nat} {R cur : List Fr.Dat} (w : World) (h : JS B j a s k n z A P R cur false w) (hA : (A : Int) ≤ 1000000) (hP : (P : Int) ≤ 60000) (v : Value) (x : Fr.Dat) (hd : Fr.DataAt w v x.1 x.2) (hT : ((x.2.length : Nat) : Int) ≤ 100000) :
    Calls Try.prog 10 #[.pointer (some ⟨j, 0, none⟩), v] w fun e w' => ApJ B j a s k n z A P R cur x w e w' := by
  obtain ⟨D, J, pv, fv, b, g, h1, h2⟩ := h
  have a1 := h2.age
  have a2 := h2.pend
  have a3 := h2.n8
  refine (append_any w h1 (by omega) (by omega) (by omega) h2.le v x hd hT).mono ?_
  rintro e w' ⟨c, rfl, ⟨rfl, hm, ⟨pv', fv', hJ'⟩, hb, hk⟩ | ⟨hc, hno, ⟨pv', fv', hJ'⟩, hb, hk⟩⟩
  · have hl := (h2.live rfl).app a3 h1.d.ok.seen hm
    refine ⟨0, rfl, ⟨hb, hk⟩, ⟨cur ++ [x], (appD n D J x).gone, fun hz => ((h2.calm hz).row n _ _).2, fun _ => rfl, _, _, pv', fv', J.second, J.age, hJ', ⟨a3, h2.n40, hl.fr, hl.ok, hl.le, hl.q, rfl, fun _ => hl, fun hz => (h2.calm hz).row n _ _, a1, a1, ?_⟩⟩, fun h => absurd rfl h⟩
    have := app_pend h2.n40 D J x hm
    omega
  · refine ⟨c, rfl, ⟨hb, hk⟩, ⟨cur, false, fun _ => rfl, fun h => absurd h hc, D, J, pv', fv', b, g, hJ', ⟨a3, h2.n40, h2.fr, h2.ok, h2.le, h2.quiet, h2.gone, h2.live, h2.calm, a1, h2.ga, by omega⟩⟩, fun _ hall => hno ⟨(hall J.age).1, ?_⟩⟩
    rw [h2.fr]
    exact (hall J.age).2
/-- behind Sync -/
def SyJ (B j a s k n : Nat) (z : Bool) (A P : Nat) (R cur : List Fr.Dat) (w : World) (e : Ending) (w' : World) : Prop := e = .returned (.tuple #[]) ∧ Hid (Kb B w w' ∧ ((z = false ∧ JS B j a s k n z A (P + 1) R cur true w') ∨ JS B j a s k n z A (P + 1) cur cur false w'))
theorem sync_js {B j a s k n : Nat} {z : Bool} {A P : Nat} {R cur : List Fr.Dat} (w : World) (h : JS B j a s k n z A P R cur false w) (hA : (A : Int) ≤ 1000000) (hP : (P : Int) ≤ 60000) :
    Calls Try.prog 11 #[.pointer (some ⟨j, 0, none⟩)] w fun e w' => SyJ B j a s k n z A P R cur w e w' := by
  obtain ⟨D, J, pv, fv, b, g, h1, h2⟩ := h
  have a1 := h2.age
  have a2 := h2.pend
  have a3 := h2.n8
  have a4 := h2.n40
  have hr := roomN_le (n := n) (by omega)
  have hle := h2.le
  have hpn := syncJ_pend n D J
  refine (sync_j w h1 (by omega) (by omega) (by omega) (by omega)).mono ?_
  rintro e w' ⟨rfl, ⟨pv', fv', hJ'⟩, hb, hk⟩
  refine ⟨rfl, ⟨hb, hk⟩, ?_⟩
  rcases (h2.live rfl).sync a3 (by omega) h1.d.ok.seen with ⟨hg, hq⟩ | ⟨hg, hl⟩
  · refine .inl ⟨?_, _, J, pv', fv', J.second, J.age, hJ', ⟨a3, a4, h2.fr, h2.ok, hle, hq, hg, (fun h => by cases h), fun hz => (h2.calm hz).syncJ n J, a1, a1, by omega⟩⟩
    cases z
    · rfl
    · have := ((h2.calm rfl).syncJ n J).2
      rw [this] at hg
      cases hg
  · exact .inr ⟨_, J, pv', fv', J.second, J.age, hJ', ⟨a3, a4, h2.fr, h2.ok, hle, hl.q, hg, fun _ => hl, fun hz => (h2.calm hz).syncJ n J, a1, a1, by omega⟩⟩
/-- behind Anew -/
def AnJ (B j a s k n : Nat) (z : Bool) (A P : Nat) (R cur ds : List Fr.Dat) (w : World) (e : Ending) (w' : World) : Prop := ∃ c : Nat, e = .returned (.int .i64 (c : Int)) ∧ Hid (Kb B w w' ∧ ((c = 0 ∧ (JS B j a s k n z (A + 1) (P + 21) R ds true w' ∨ JS B j a s k n z (A + 1) (P + 21) ds ds false w')) ∨ (c ≠ 0 ∧ JS B j a s k n z A P R cur false w')))
theorem anew_js {B j a s k n : Nat} {z : Bool} {A P : Nat} {R cur : List Fr.Dat} (w : World) (h : JS B j a s k n z A P R cur false w) (hA : (A : Int) ≤ 1000000) (hP : (P : Int) ≤ 60000) (la : Option Addr) (len cap : Nat) (ds : List Fr.Dat) (hd : Fr.DRow w la len cap ds) (hlen : (len : Int) ≤ 300000) (hT : ∀ d ∈ ds, ((d.2.length : Nat) : Int) ≤ 100000) :
    Calls Try.prog 13 #[.pointer (some ⟨j, 0, none⟩), .slice la len cap] w fun e w' => AnJ B j a s k n z A P R cur ds w e w' := by
  obtain ⟨D, J, pv, fv, b, g, h1, h2⟩ := h
  have a1 := h2.age
  have a2 := h2.pend
  have a3 := h2.n8
  have a4 := h2.n40
  refine (anew_any w h1 (by omega) (by omega) (by omega) la len cap ds hd hlen hT).mono ?_
  rintro e w' ⟨c, rfl, ⟨rfl, hf, ⟨pv', fv', hJ'⟩, hb, hk⟩ | ⟨hc, hno, ⟨pv', fv', hJ'⟩, hb, hk⟩⟩
  · refine ⟨0, rfl, ⟨hb, hk⟩, .inl ⟨rfl, ?_⟩⟩
    have hpn := anew_pend a4 D J ds hf
    have hage : (anewJ J ds).age = J.age + 1 := rfl
    rcases (h2.live rfl).q.anew a3 (by omega) h1.d.ok.seen (h2.live rfl).on (by omega) hf with ⟨hg, hq⟩ | ⟨hg, hl⟩
    · exact .inl ⟨_, anewJ J ds, pv', fv', J.second, J.age, hJ', ⟨a3, a4, rfl, hf.1, hf.2, hq, hg, (fun h => by cases h), fun hz => (h2.calm hz).anew n J ds, by omega, by omega, by omega⟩⟩
    · exact .inr ⟨_, anewJ J ds, pv', fv', _, _, hJ', ⟨a3, a4, rfl, hf.1, hf.2, hl.q, hg, fun _ => hl, fun hz => (h2.calm hz).anew n J ds, by omega, by omega, by omega⟩⟩
  · exact ⟨c, rfl, ⟨hb, hk⟩, .inr ⟨hc, D, J, pv', fv', b, g, hJ', h2⟩⟩
theorem arm_js {B j a s k n : Nat} {A P : Nat} {R cur : List Fr.Dat} (w : World) (h : JS B j a s k n false A P R cur false w) (x : Int) (hx : x ≤ 9223372036854775807) :
    Calls Try.prog 14 #[.pointer (some ⟨a, 0, none⟩), .int .i64 x] w fun e w' => e = .returned (.tuple #[]) ∧ Hid (Kb B w w' ∧ JS B j a s k n false A P R cur false w') := by
  obtain ⟨D, J, pv, fv, b, g, h1, h2⟩ := h
  refine (arm_any w h1.d x hx).mono ?_
  rintro e w' ⟨rfl, hD, hb, hk⟩
  obtain ⟨b1, b2, b3⟩ := arm_gone D x
  exact ⟨rfl, ⟨hb, h1.kj hk⟩, _, J, pv, fv, b, g, h1.kd hD hk, ⟨h2.n8, h2.n40, h2.fr, h2.ok, h2.le, h2.quiet.arm x, b1.trans h2.gone, fun _ => (h2.live rfl).arm x, (fun h => by cases h), h2.age, h2.ga, by rw [b2]; exact h2.pend⟩⟩
end Go.Proofs.Ytmkmogkhkmlnkaa.Dm
