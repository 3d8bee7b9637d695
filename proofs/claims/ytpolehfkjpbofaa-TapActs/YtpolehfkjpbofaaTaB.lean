/-
  A tap in memory; the contracts of count, has, Put and Take.
-/
import Derived.Test.YtpolehfkjpbofaaTaA
namespace Go.Proofs.Ytpolehfkjpbofaa.Ta
open Go.ChangeShapes Go.WideShapes Go.ChangeAt Go.RowKit
open Go.Conc (G solo rcase scase)
structure Hid (p : Prop) : Prop where
  mk9 ::
  out : p
theorem ret_int {k : IntKind} {a b : Int} (h : a = b) : Ending.returned (.int k a) = .returned (.int k b) := by rw [h]
def Bx2 (w : World) (b T : Nat) (v0 v1 : Value) : Prop := w.heap[b]? = some (.cells #[v0, v1] T (0, 0))
theorem Bx2.lt {w : World} {b T : Nat} {v0 v1 : Value} (h : Bx2 w b T v0 v1) : b < w.heap.size := (Array.getElem?_eq_some_iff.1 h).1
theorem Bx2.kept {w : World} {b T : Nat} {v0 v1 : Value} {w' : World} (h : Bx2 w b T v0 v1) (e : w'.heap[b]? = w.heap[b]?) : Bx2 w' b T v0 v1 := e.trans h
theorem Bx2.c0 {w : World} {b T : Nat} {v0 v1 : Value} (h : Bx2 w b T v0 v1) : w.cell? ⟨b, 0, none⟩ = some v0 := by
  unfold World.cell?; rw [show w.heap[(⟨b, 0, none⟩ : Addr).block]? = _ from h]; rfl
theorem Bx2.c1 {w : World} {b T : Nat} {v0 v1 : Value} (h : Bx2 w b T v0 v1) : w.cell? ⟨b, 1, none⟩ = some v1 := by
  unfold World.cell?; rw [show w.heap[(⟨b, 1, none⟩ : Addr).block]? = _ from h]; rfl
theorem Bx2.f1 {w : World} {b T : Nat} {v0 v1 : Value} (h : Bx2 w b T v0 v1) : w.frozen? ⟨b, 1, none⟩ = false := by
  unfold World.frozen?; rw [show w.heap[(⟨b, 1, none⟩ : Addr).block]? = _ from h]; rfl
/-- a row of values, whole, as a block -/
def Rw (w : World) (g T : Nat) (l : List Value) : Prop := w.heap[g]? = some (.cells l.toArray T (0, 0))
theorem Rw.lt {w : World} {g T : Nat} {l : List Value} (h : Rw w g T l) : g < w.heap.size := (Array.getElem?_eq_some_iff.1 h).1
theorem Rw.cell {w : World} {g T : Nat} {l : List Value} (h : Rw w g T l) {i : Nat} {v : Value} (hi : l[i]? = some v) : w.cell? ⟨g, i, none⟩ = some v := by
  unfold World.cell?; rw [show w.heap[(⟨g, i, none⟩ : Addr).block]? = _ from h]; simpa using hi
def intsV (l : List Int) : List Value := l.map (Value.int .i64)
theorem intsV_len (l : List Int) : (intsV l).length = l.length := by simp [intsV]
/-- a channel's block -/
def Ch (w : World) (c R : Nat) (l : List Int) : Prop := ∃ s r, w.heap[c]? = some (.chan R (intsV l).toArray false s r false)
structure TapG (B : Nat) (w : World) (p : Nat) (P : List (List Int)) (R t g : Nat) (cs : List Nat) : Prop where
  bp : B ≤ p
  bg : B ≤ g
  bc : ∀ c ∈ cs, B ≤ c
  nd : ∀ (i j c : Nat), cs[i]? = some c → cs[j]? = some c → i = j
  len : cs.length = P.length
  box : Bx2 w p 53 (.slice (some ⟨g, 0, none⟩) P.length P.length) (.int .i64 t)
  row : Rw w g 55 (cs.map fun c => Value.chan (some c))
  chs : ∀ i c, cs[i]? = some c → Ch w c R (P.getD i [])
def TapAt (B : Nat) (w : World) (p : Nat) (P : List (List Int)) (R t : Nat) : Prop := ∃ g cs, TapG B w p P R t g cs
/-- kept: all but the box p and channels -/
def KpT (p : Nat) (w w' : World) : Prop := ∀ k o, w.heap[k]? = some o → k ≠ p → (∀ c b x s r t, o ≠ .chan c b x s r t) → w'.heap[k]? = some o
theorem KpT.refl (p : Nat) (w : World) : KpT p w w := fun _ _ h _ _ => h
theorem KpT.trans {p : Nat} {a b c : World} (h : KpT p a b) (k : KpT p b c) : KpT p a c := fun i o hi hp hc => k i o (h i o hi hp hc) hp hc
theorem KpT.below {p : Nat} {w w' : World} (h : Below w.heap.size w w') : KpT p w w' := fun k _ hk _ _ => (h.block k (Array.getElem?_eq_some_iff.1 hk).1).trans hk
theorem KpT.chan {p : Nat} {w : World} {c cap s r : Nat} {buf : Array Value} {cl tm : Bool} (h : w.heap[c]? = some (.chan cap buf cl s r tm)) (cap' : Nat) (buf' : Array Value) (cl' : Bool) (s' r' : Nat) (tm' : Bool) :
    KpT p w (w.setChan c cap' buf' cl' s' r' tm') := by
  intro k o hk _ hc
  by_cases e : k = c
  · subst e; rw [h] at hk; injection hk with hk; exact absurd hk.symm (hc _ _ _ _ _ _)
  · simp only [World.setChan]; rw [Array.getElem?_setIfInBounds_ne (by omega)]; exact hk
theorem KpT.set {p i : Nat} {w : World} (v : Value) : KpT p w (w.setCell ⟨p, i, none⟩ v) := fun k _ hk hp _ => (heap_setCell_other w ⟨p, i, none⟩ k v hp).trans hk
theorem TapG.chan {B : Nat} {w : World} {p : Nat} {P : List (List Int)} {R t g : Nat} {cs : List Nat} (h : TapG B w p P R t g cs) {i c s' r' : Nat} (hc : cs[i]? = some c) (l : List Int) :
    TapG B (w.setChan c R (intsV l).toArray false s' r' false) p (P.set i l) R t g cs := by
  obtain ⟨s, r, hh⟩ := h.chs i c hc
  have hlt : c < w.heap.size := (Array.getElem?_eq_some_iff.1 hh).1
  have hi : i < P.length := by rw [← h.len]; exact (List.getElem?_eq_some_iff.1 hc).1
  have oth : ∀ k, k ≠ c → (w.setChan c R (intsV l).toArray false s' r' false).heap[k]? = w.heap[k]? := fun k hk => by
    simp only [World.setChan]; rw [Array.getElem?_setIfInBounds_ne (by omega)]
  refine ⟨h.bp, h.bg, h.bc, h.nd, by simpa using h.len, ?_, ?_, ?_⟩
  · rw [List.length_set]
    exact h.box.kept (oth p fun e => by subst e; have := h.box; unfold Bx2 at this; rw [hh] at this; simp at this)
  · exact (oth g fun e => by subst e; have := h.row; unfold Rw at this; rw [hh] at this; simp at this).trans h.row
  · intro j d hd
    by_cases e : d = c
    · subst e
      have hij : j = i := h.nd j i d hd hc
      subst hij
      refine ⟨s', r', ?_⟩
      rw [Go.Conc.heap_setChan _ _ _ _ _ _ _ _ hlt]
      simp [hi]
    · have hij : i ≠ j := fun e2 => e (by subst e2; rw [hc] at hd; injection hd with hd; exact hd.symm)
      obtain ⟨s2, r2, h2⟩ := h.chs j d hd
      refine ⟨s2, r2, ?_⟩
      rw [oth d e, h2]
      simp only [List.getD_eq_getElem?_getD]
      rw [List.getElem?_set_ne hij]
theorem TapG.lt {B : Nat} {w : World} {p : Nat} {P : List (List Int)} {R t g : Nat} {cs : List Nat} (h : TapG B w p P R t g cs) {i : Nat} (hi : i < P.length) : ∃ c, cs[i]? = some c ∧ B ≤ c ∧ w.cell? ⟨g, i, none⟩ = some (.chan (some c)) := by
  have h1 : i < cs.length := by rw [h.len]; exact hi
  refine ⟨cs[i], by simp [h1], h.bc _ (List.getElem_mem h1), h.row.cell ?_⟩
  simp [h1]
theorem count_nil (w : World) : Calls Try.prog 21 #[.pointer none] w fun e w' => e = .returned (.int .i64 0) ∧ w' = w := by
  go_enter Try.func21, Try.ntmps21
  go_wp2
  go_ret
  exact ⟨rfl, rfl⟩
theorem count_tap (p k cap : Nat) (a : Option Addr) (w : World) (h : w.cell? ⟨p, 0, none⟩ = some (.slice a k cap)) : Calls Try.prog 21 #[.pointer (some ⟨p, 0, none⟩)] w fun e w' => e = .returned (.int .i64 k) ∧ w' = w := by
  go_enter Try.func21, Try.ntmps21
  go_wp2
  go_ret
  exact ⟨rfl, rfl⟩
/-- so many pipes has what v points to -/
def Cnt (w : World) (v : Value) (k : Nat) : Prop := Calls Try.prog 21 #[v] w fun e w' => e = .returned (.int .i64 k) ∧ w' = w
def hasP (pipe : Int) (k : Nat) : Bool := decide (0 ≤ pipe) && decide (pipe < k)
theorem has_any (v : Value) (pipe : Int) (k : Nat) (w : World) (h : Cnt w v k) : Calls Try.prog 19 #[v, .int .i64 pipe] w fun e w' => e = .returned (.bool (hasP pipe k)) ∧ w' = w := by
  have H : Hid (Cnt w v k) := ⟨h⟩
  have HR : Hid (hasP pipe k = (decide (0 ≤ pipe) && decide (pipe < k))) := ⟨rfl⟩
  generalize hasP pipe k = q at *
  cases h1 : decide (0 ≤ pipe) with
  | false =>
    rw [h1] at HR
    have HQ : Hid (q = false) := ⟨by rw [HR.out]; rfl⟩
    clear HR h
    go_enter Try.func19, Try.ntmps19
    go_wp2
    go_ret
    exact ⟨by rw [HQ.out]; rfl, rfl⟩
  | true =>
    rw [h1] at HR
    generalize hd : decide (pipe < k) = d at *
    have HQ : Hid (q = d) := ⟨by rw [HR.out]; simp⟩
    clear HR h
    go_enter Try.func19, Try.ntmps19
    go_wp2_with (go_at_call 21; refine H.out.mono ?_; rintro e w' ⟨rfl, rfl⟩)
    go_ret
    exact ⟨by rw [HQ.out]; rfl, rfl⟩
theorem put_arg (v : Value) (pipe n : Int) (k : Nat) (w : World) (h : Cnt w v k) (hp : hasP pipe k = false) : Calls Try.prog 9 #[v, .int .i64 pipe, .int .i64 n] w fun e w' => e = .returned (.int .i64 1) ∧ w' = w := by
  have H : Hid (Calls Try.prog 19 #[v, .int .i64 pipe] w fun e w' => e = .returned (.bool false) ∧ w' = w) := ⟨by have := has_any v pipe k w h; rwa [hp] at this⟩
  clear h hp
  go_enter Try.func9, Try.ntmps9
  go_wp2_with (go_at_call 19; refine H.out.mono ?_; rintro e w' ⟨rfl, rfl⟩)
  go_ret
  exact ⟨rfl, rfl⟩
theorem take_arg (v : Value) (pipe : Int) (k : Nat) (w : World) (h : Cnt w v k) (hp : hasP pipe k = false) : Calls Try.prog 11 #[v, .int .i64 pipe] w fun e w' => e = .returned (.tuple #[.int .i64 0, .int .i64 1]) ∧ w' = w := by
  have H : Hid (Calls Try.prog 19 #[v, .int .i64 pipe] w fun e w' => e = .returned (.bool false) ∧ w' = w) := ⟨by have := has_any v pipe k w h; rwa [hp] at this⟩
  clear h hp
  go_enter Try.func11, Try.ntmps11
  go_wp2_with (go_at_call 19; refine H.out.mono ?_; rintro e w' ⟨rfl, rfl⟩)
  go_ret2
  exact ⟨rfl, rfl⟩
end Go.Proofs.Ytpolehfkjpbofaa.Ta
